/- Disks that are written and synced alone, by mathematics; 'begins'. -/
import Derived.Test.YteklbnonikccaaaAo
import Derived.Test.YteklbnonikccaaaCuth
namespace Go.Proofs.Yteklbnonikccaaa
open Go.RowKit
set_option linter.unusedVariables false

/-- No cut is pending. -/
def NC (l : List Dm.Rw) : Prop := ∀ r ∈ l, r.cut = false

theorem one_nc (s : Nat → List Int) (r : Dm.Rw) (h : r.cut = false) (f : Nat) : Dm.one s r f = if f = r.file then s f ++ r.bytes else s f := by
  unfold Dm.one Dm.upd Dm.wth
  rw [h]
  by_cases e : f = r.file
  · rw [if_pos e, if_pos e, e]; simp
  · rw [if_neg e, if_neg e]

theorem dof_nc : ∀ (l : List Dm.Rw) (s : Nat → List Int) (f : Nat), NC l → s f <+: Dm.dof s l f
  | [], s, f, _ => List.prefix_refl _
  | r :: l, s, f, h => by
    have h1 : s f <+: Dm.one s r f := by
      rw [one_nc s r (h r (by simp)) f]
      split
      · exact List.prefix_append _ _
      · exact List.prefix_refl _
    exact h1.trans (dof_nc l (Dm.one s r) f fun q hq => h q (by simp [hq]))

theorem dof_take (l : List Dm.Rw) (s : Nat → List Int) (f k : Nat) (h : NC l) : Dm.dof s (l.take k) f <+: Dm.dof s l f := by
  have e : Dm.dof s l = Dm.dof (Dm.dof s (l.take k)) (l.drop k) := by rw [← Dm.dof_app, List.take_append_drop]
  rw [e]
  exact dof_nc _ _ _ fun r hr => h r (List.mem_of_mem_drop hr)

theorem kept_pre (st : Dm.Ds) (k t f : Nat) (h : NC st.wait) : st.sure f <+: Dm.kept st k t f ∧ Dm.kept st k t f <+: Dm.dof st.sure st.wait f := by
  have h1 : st.sure f <+: Dm.dof st.sure (st.wait.take k) f := dof_nc _ _ _ fun r hr => h r (List.mem_of_mem_take hr)
  have h2 := dof_take st.wait st.sure f k h
  unfold Dm.kept
  cases hr : st.wait[k]? with
  | none => exact ⟨h1, h2⟩
  | some r =>
    have hc := h r (List.mem_of_getElem? hr)
    simp only [hc]
    rw [if_neg (by simp), one_nc _ _ rfl]
    by_cases e : f = r.file
    · rw [if_pos e]
      refine ⟨h1.trans (List.prefix_append _ _), ?_⟩
      have h3 := dof_take st.wait st.sure f (k + 1) h
      rw [dof_next hr, one_nc _ _ hc, if_pos e] at h3
      refine List.IsPrefix.trans ?_ h3
      obtain ⟨q, hq⟩ := List.take_prefix (min t (r.bytes.length - 1)) r.bytes
      exact ⟨q, by rw [List.append_assoc, hq]⟩
    · rw [if_neg e]; exact ⟨h1, h2⟩

/-- A disk that was written and synced alone: what each file holds, what of it is durable. -/
structure PI (st : Dm.Ds) (all sure : Nat → List Int) : Prop where
  on : st.on = true
  has : st.has = false
  nc : NC st.wait
  all : ∀ f, Dm.dof st.sure st.wait f = all f
  sure : ∀ f, st.sure f = sure f

theorem pi_new : PI Dm.new (fun _ => []) (fun _ => []) := ⟨rfl, rfl, fun r hr => by simp [Dm.new] at hr, fun f => rfl, fun f => rfl⟩

theorem pi_off {st : Dm.Ds} {all sure : Nat → List Int} (h : PI st all sure) : Dm.off st = false := by simp [Dm.off, h.has]

theorem pi_push {st : Dm.Ds} {all sure : Nat → List Int} (h : PI st all sure) (file : Nat) (c : List Int) : PI (Dm.push (Dm.burn st) ⟨file, false, 0, c⟩) (Dm.upd all file (all file ++ c)) sure := by
  refine ⟨h.on, h.has, fun r hr => ?_, fun f => ?_, h.sure⟩
  · rcases List.mem_append.1 (show r ∈ st.wait ++ [⟨file, false, 0, c⟩] from hr) with hr | hr
    · exact h.nc r hr
    · simp at hr; rw [hr]
  · show Dm.dof st.sure (st.wait ++ [⟨file, false, 0, c⟩]) f = _
    rw [Dm.dof_snoc, one_nc _ _ rfl, h.all f]
    unfold Dm.upd
    by_cases e : f = file
    · rw [if_pos e, if_pos e, e]
    · rw [if_neg e, if_neg e]

theorem upd_upd (s : Nat → List Int) (f : Nat) (x y : List Int) : Dm.upd (Dm.upd s f x) f y = Dm.upd s f y := by
  funext j
  unfold Dm.upd
  split <;> rfl

theorem pi_wrt (file : Nat) : ∀ (n : Nat) (bs : List Int) (st : Dm.Ds) (all sure : Nat → List Int), bs.length ≤ n → PI st all sure → (Dm.wrt file n st bs).1 = 0 ∧ PI (Dm.wrt file n st bs).2 (Dm.upd all file (all file ++ bs)) sure
  | n, [], st, all, sure, hn, h => by
    have e : Dm.wrt file n st [] = (0, st) := by cases n <;> simp [Dm.wrt]
    have e2 : Dm.upd all file (all file ++ []) = all := by
      funext j
      unfold Dm.upd
      split
      · rename_i hj; rw [hj, List.append_nil]
      · rfl
    rw [e, e2]
    exact ⟨rfl, h⟩
  | n + 1, b :: bs, st, all, sure, hn, h => by
    rw [Dm.wrt, if_neg (by simp), if_neg (by rw [pi_off h]; simp)]
    have h1 := pi_push h file ((b :: bs).take 64)
    obtain ⟨g1, g2⟩ := pi_wrt file n ((b :: bs).drop 64) _ _ sure (by rw [List.length_drop]; simp at hn ⊢; omega) h1
    rw [upd_upd] at g2
    have e : Dm.upd all file (all file ++ (b :: bs).take 64) file ++ (b :: bs).drop 64 = all file ++ (b :: bs) := by
      rw [Dm.upd_same, List.append_assoc, List.take_append_drop]
    rw [e] at g2
    exact ⟨g1, g2⟩

theorem pi_write {st : Dm.Ds} {all sure : Nat → List Int} (h : PI st all sure) (f : Nat) (hf : f < 4) (bs : List Int) : (Dm.write st f bs).1 = 0 ∧ PI (Dm.write st f bs).2 (Dm.upd all f (all f ++ bs)) sure := by
  have hin : Dm.inF (f : Int) = true := by simp [Dm.inF]; omega
  unfold Dm.write
  rw [if_neg (by rw [h.on]; simp), if_neg (by rw [hin]; simp), Int.toNat_natCast]
  exact pi_wrt f bs.length bs st all sure (Nat.le_refl _) h

theorem pi_sync {st : Dm.Ds} {all sure : Nat → List Int} (h : PI st all sure) : (Dm.sync st).1 = 0 ∧ (Dm.sync st).2.wait.length = 0 ∧ PI (Dm.sync st).2 all all := by
  have e : Dm.sync st = (0, Dm.flush (Dm.burn st)) := by
    unfold Dm.sync
    rw [if_neg (by rw [h.on]; simp), if_neg (by rw [pi_off h]; simp)]
  rw [e]
  exact ⟨rfl, rfl, h.on, h.has, fun r hr => by simp [Dm.flush] at hr, fun f => h.all f, fun f => h.all f⟩

/-- Behind the power cut. -/
theorem pi_end {st : Dm.Ds} {all sure : Nat → List Int} (h : PI st all sure) (k t : Nat) : (Dm.pull st).1 = 0 ∧ (Dm.start (Dm.pull st).2 k t).1 = 0 ∧ (Dm.start (Dm.pull st).2 k t).2.wait.length = 0 ∧ ∀ f : Nat, f < 4 → rdE (Dm.start (Dm.pull st).2 k t).2 f = 0 ∧ rdB (Dm.start (Dm.pull st).2 k t).2 f = duB (Dm.start (Dm.pull st).2 k t).2 f ∧ duB (Dm.start (Dm.pull st).2 k t).2 f <+: all f ∧ sure f <+: duB (Dm.start (Dm.pull st).2 k t).2 f := by
  have e1 : Dm.pull st = (0, Dm.dark st) := by unfold Dm.pull; rw [if_neg (by rw [h.on]; simp)]
  have e2 : Dm.start (Dm.dark st) k t = (0, { Dm.dark st with sure := Dm.kept st k t, wait := [], has := false, on := true }) := by
    unfold Dm.start
    rw [if_neg (by simp [Dm.dark]), Int.toNat_natCast, Int.toNat_natCast]
    rfl
  rw [e1]
  simp only
  rw [e2]
  refine ⟨by first | rfl | trivial, by first | rfl | trivial, by first | rfl | trivial, fun f hf => ?_⟩
  have hin : Dm.inF (f : Int) = true := by simp [Dm.inF]; omega
  have hd : duB { Dm.dark st with sure := Dm.kept st k t, wait := [], has := false, on := true } f = Dm.kept st k t f := by simp [duB, hin]
  have hr : rdB { Dm.dark st with sure := Dm.kept st k t, wait := [], has := false, on := true } f = Dm.kept st k t f := by simp [rdB, hin, Dm.hold]
  obtain ⟨p1, p2⟩ := kept_pre st k t f h.nc
  rw [h.all f] at p2
  rw [h.sure f] at p1
  exact ⟨by simp [rdE, hin], by rw [hr, hd], by rw [hd]; exact p2, by rw [hd]; exact p1⟩

set_option maxHeartbeats 1000000 in
theorem begins_yes (va vb : Value) (xs ys : List Int) (w : World) (ha : Is .u8 w va xs) (hb : Is .u8 w vb ys) (hl : xs.length ≤ 140737488355328) (hp : ys <+: xs) :
    Calls Try.prog 32 #[va, vb] w fun E w' => E = .returned (.bool true) ∧ Below w.heap.size w w' := by
  have hle := hp.length_le
  obtain ⟨vs, hsl, isl⟩ := ha.slice_h Try.elemP Try.sizeP ys.length hle
  have e : xs.take ys.length = ys := (List.prefix_iff_eq_take.1 hp).symm
  rw [e] at isl
  have l1 := ha.len_run Try.elemP
  have l2 := hb.len_run Try.elemP
  have S := hide (same_yes vs vb ys ys w isl hb (by omega) rfl)
  have hle' : (ys.length : Int) ≤ xs.length := by omega
  simp only [goInt] at l1 l2
  clear ha hb isl e hp
  go_enter Try.func32, Try.ntmps32
  go_wp2_with fail
  refine S.out.mono ?_
  rintro E w1 ⟨rfl, b1⟩
  go_wp2
  go_ret
  exact ⟨rfl, b1⟩

end Go.Proofs.Yteklbnonikccaaa
