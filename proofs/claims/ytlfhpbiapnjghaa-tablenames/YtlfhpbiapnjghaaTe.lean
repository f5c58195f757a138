/- What the iterators of All and Live yield. -/
import Derived.Test.YtlfhpbiapnjghaaTd
import Derived.Test.YtlfhpbiapnjghaaRg
namespace Go.Proofs.Ytlfhpbiapnjghaa
open Go.RowKit Go.Maps Go.Shelf
open Bm (Ov)
set_option linter.unusedVariables false
attribute [local go_sem] Oper.semAt_some

/-- The op at a place. -/
def pt (t : List Ov) (x : Nx t.length) : Ov := t[x.1]'x.2
def pts (t : List Ov) (xs : List (Nx t.length)) : List Ov := xs.map (pt t)

theorem pts_len (t : List Ov) (xs : List (Nx t.length)) : (pts t xs).length = xs.length := by simp [pts]
theorem pts_snoc (t : List Ov) (xs : List (Nx t.length)) (x : Nx t.length) : pts t (xs ++ [x]) = pts t xs ++ [pt t x] := by simp [pts]

theorem pts_up (t : List Ov) : ∀ k, k ≤ t.length → pts t (upn t.length k) = t.take k
  | 0, _ => by simp [upn, pts]
  | k + 1, h => by
    rw [upn_next _ k (by omega), pts_snoc, pts_up t k (by omega), List.take_succ_eq_append_getElem (by omega)]
    rfl

theorem pts_all (t : List Ov) : pts t (upn t.length t.length) = t := by rw [pts_up t _ (Nat.le_refl _), List.take_length]

def ovv (o : Ov) : Value := .agg #[.bool o.p, .string o.k, .string o.v]

theorem kn_alloc {S : Nat → Prop} {w W : World} (hS : ∀ g, S g → g < w.heap.size) (h : Kn S w W) (o : Obj) : Kn S w (W.alloc o) := fun g hg => by
  have h1 := h g hg
  have h2 : g < W.heap.size := by
    have h3 := hS g hg
    rw [Array.getElem?_eq_getElem h3] at h1
    exact (Array.getElem?_eq_some_iff.1 h1).1
  exact (Below.heap_alloc W o g h2).trans h1

set_option maxRecDepth 100000 in
set_option maxHeartbeats 4000000 in
theorem vals_one (n : Nat) (hn : 1 ≤ n) (l B : Nat) (t : List Ov) (sv : Value) (S : Nat → Prop) (hSB : S B) (hSv : ∀ b, sv.ownBlock = some b → S b) (hLm : t.length ≤ 1000000) (J Jx : List (Nx t.length) → World → Prop) (W : World) (hSW : ∀ g, S g → g < W.heap.size) (hJ : AbidesFrom W.heap.size J)
    (hY : ∀ pre x W1, J pre W1 → pre.length < t.length → YieldAt Fence.wide (n - 1) Try.prog l #[ovv (pt t x)] W1 fun e W' => (e = .returned (.bool true) ∧ J (pre ++ [x]) W' ∧ Kn S W1 W') ∨ (e = .returned (.bool false) ∧ Jx (pre ++ [x]) W'))
    (hB : W.cell? ⟨B, 0, none⟩ = some sv) (his : IsO W sv t) (h0 : J [] W) :
    CallsIn Fence.wide n Try.prog 42 #[.func (.yield l) #[] #[], .pointer (some ⟨B, 0, none⟩)] W fun e W' => (∃ v, e = .returned v) ∧ ((∃ xs, xs = upn t.length t.length ∧ J xs W') ∨ (∃ pre, (∃ k, k ≤ t.length ∧ pre = upn t.length k) ∧ Jx pre W')) := by
  have hro : Fence.wide.round = none := rfl
  obtain ⟨ao, cap, hsv, hcap, hcm⟩ := his.shape
  have HFULL := hide fun (h0 : 0 < t.length) => his.full h0
  subst hsv
  have HSW := hide hSW
  have HJ0 := hide hJ
  have HY := hide hY
  clear his hSW hJ hY
  refine callsIn_of_wp Try.func42 rfl trivial ?_ hro
  simp only [Try.ntmps42, List.size_toArray, List.length_cons, List.length_nil, Nat.reduceAdd, Nat.reduceSub, Array.replicate_succ, Array.replicate_zero, List.push_toArray, List.append_toArray, List.nil_append, List.cons_append]
  gi_wp2
  gi_loopw [7] (fun iv wr => ∃ k : Nat, k ≤ t.length ∧ iv = .int .i64 k ∧ Hid (J (upn t.length k) wr) ∧ Kn S W wr) (fun iv _ => t.length - (intOf iv).toNat)
  case atStart => exact ⟨0, Nat.zero_le _, rfl, h0, fun _ _ => rfl⟩
  case round =>
    obtain ⟨k, hk, rfl, HJ, hK⟩ := hrel
    by_cases hlt : k < t.length
    · obtain ⟨b, off, cq, hvx, _, _, hb, hcell⟩ := HFULL.out (by omega)
      simp only [Value.slice.injEq, true_and] at hvx
      obtain ⟨rfl, rfl⟩ := hvx
      obtain ⟨o, ho⟩ : ∃ o, pt t ⟨k, hlt⟩ = o := ⟨_, rfl⟩
      have ho' : t[k]? = some o := by rw [List.getElem?_eq_getElem hlt, ← ho]; rfl
      obtain ⟨c0, c1, c2⟩ := hcell k o ho'
      have hkb := hK b (hSv b rfl)
      have d0 := (cell_of_blk hkb (off + k * 3)).trans c0
      have d1 := (cell_of_blk hkb (off + k * 3 + 1)).trans c1
      have d2 := (cell_of_blk hkb (off + k * 3 + 2)).trans c2
      obtain ⟨W1, hW1, sz1, bW1, B1⟩ := blk_step wr #[.bool o.p, .string o.k, .string o.v] 28
      have e0 : W1.cell? ⟨wr.heap.size, 0, none⟩ = some (.bool o.p) := blk_cell B1 0 rfl
      have e1 : W1.cell? ⟨wr.heap.size, 1, none⟩ = some (.string o.k) := blk_cell B1 1 rfl
      have e2 : W1.cell? ⟨wr.heap.size, 2, none⟩ = some (.string o.v) := blk_cell B1 2 rfl
      have HJ1 : J (upn t.length k) W1 := by
        rw [← hW1]
        exact HJ0.out _ _ _ none HJ.out (World.grownBy_alloc _ _ _) (fun r e => by cases e)
      have hK1 : Kn S W W1 := by rw [← hW1]; exact kn_alloc HSW.out hK _
      obtain ⟨fn, tmps, assign, body, hy, hR⟩ := HY.out _ ⟨k, hlt⟩ W1 HJ1 (by rw [upn_len _ k hk]; omega)
      rw [ho] at hy
      unfold ovv at hy
      have hlt' : (k : Int) < t.length := by omega
      have hk0 : (0 : Int) ≤ (k : Int) := by omega
      have HR := hide hR
      have HK := hide hK1
      clear hR hcell hSv B1 bW1 HJ1 hK hK1 c0 c1 c2 hkb ho ho'
      gi_wp2
      refine HR.out.mono ?_
      rintro e W3 (⟨rfl, hJ3, hk3⟩ | ⟨rfl, hJx3⟩)
      · have hJ4 : Hid (J (upn t.length (k + 1)) W3) := hide (by rw [upn_next _ k hlt]; exact hJ3)
        have hK4 := HK.out.trans hk3
        clear hJ3
        gi_wp2
        go_roundw
        case rel => exact ⟨k + 1, by omega, by go_num, hJ4, hK4⟩
        case measure => simp [intOf]; omega
      · have hJ4 : Hid (Jx (upn t.length (k + 1)) W3) := hide (by rw [upn_next _ k hlt]; exact hJx3)
        clear hJx3
        gi_wp2
        refine bodyPost_ret (results_none rfl _ _ _) rfl ?_
        exact ⟨⟨_, rfl⟩, .inr ⟨_, ⟨k + 1, by omega, rfl⟩, hJ4.out⟩⟩
    · have hlt' : ¬ (k : Int) < t.length := by omega
      obtain rfl : k = t.length := by omega
      gi_wp2
      go_end0
      exact ⟨⟨_, rfl⟩, .inl HJ.out⟩

/-- The blocks of an iterator. -/
def SeqTB (B : Nat) (w : World) (g : Nat) : Prop := g = B ∨ ∃ u, w.cell? ⟨B, 0, none⟩ = some u ∧ u.ownBlock = some g

theorem SeqT.lt {B base : Nat} {w : World} {t : List Ov} (h : SeqT B base w t) : ∀ g, SeqTB B w g → base ≤ g ∧ g < w.heap.size := by
  obtain ⟨hb, v, h1, h2⟩ := h
  rintro g (rfl | ⟨u, hu, hg⟩)
  · exact ⟨hb, blk_lt h1⟩
  · have c0 : w.cell? ⟨B, 0, none⟩ = some v := blk_cell h1 0 rfl
    rw [c0] at hu
    cases hu
    exact h2.block g hg

theorem vals_seq (n : Nat) (hn : 1 ≤ n) (B base : Nat) (t : List Ov) (w : World) (h : SeqT B base w t) (hLm : t.length ≤ 1000000) :
    SeqStopsK Fence.wide n Try.prog 42 #[.pointer (some ⟨B, 0, none⟩)] (fun x : Nx t.length => #[ovv (pt t x)]) (Kn (SeqTB B w)) (fun xs => xs = upn t.length t.length) (fun pre => ∃ k, k ≤ t.length ∧ pre = upn t.length k) t.length w := fun l J Jx W hW hJ hJx hY h0 => by
  have hlt := h.lt
  obtain ⟨hb, v, h1, h2⟩ := h
  have c0 := blk_cell h1 0 rfl
  refine vals_one n hn l B t v (SeqTB B w) (.inl rfl) (fun b hb => .inr ⟨v, c0, hb⟩) hLm J Jx W (fun g hg => Nat.lt_of_lt_of_le (hlt g hg).2 hW.size) hJ hY ((hW.cell (p := ⟨B, 0, none⟩) (blk_lt h1)).trans c0) (h2.is.below hW) h0

/-- How many of the first ones have a value. -/
def lvn (t : List Ov) (k : Nat) : Nat := (Tm.live (t.take k)).length

theorem live_app (a b : List Ov) : Tm.live (a ++ b) = Tm.live a ++ Tm.live b := by simp [Tm.live]

theorem lvn_all (t : List Ov) (k : Nat) (h : t.length ≤ k) : lvn t k = (Tm.live t).length := by unfold lvn; rw [List.take_of_length_le h]

theorem lvn_no {t : List Ov} {k : Nat} {o : Ov} (h : t[k]? = some o) (hp : o.p = false) : lvn t (k + 1) = lvn t k := by
  obtain ⟨h1, rfl⟩ := List.getElem?_eq_some_iff.1 h
  unfold lvn
  rw [List.take_succ_eq_append_getElem h1, live_app]
  simp [Tm.live, hp]

theorem lvn_yes {t : List Ov} {k : Nat} {o : Ov} (h : t[k]? = some o) (hp : o.p = true) : lvn t (k + 1) = lvn t k + 1 ∧ (Tm.live t)[lvn t k]? = some o := by
  obtain ⟨h1, rfl⟩ := List.getElem?_eq_some_iff.1 h
  have e1 : Tm.live [t[k]] = [t[k]] := by simp [Tm.live, hp]
  constructor
  · unfold lvn
    rw [List.take_succ_eq_append_getElem h1, live_app, List.length_append, e1]
    rfl
  · have e2 : Tm.live t = Tm.live (t.take k) ++ ([t[k]] ++ Tm.live (t.drop (k + 1))) := by
      rw [← e1, ← live_app, ← live_app]
      congr 1
      rw [List.singleton_append, ← List.drop_eq_getElem_cons h1, List.take_append_drop]
    unfold lvn
    rw [e2, List.getElem?_append_right (Nat.le_refl _), Nat.sub_self]
    rfl

theorem live_p (t : List Ov) (x : Nx (Tm.live t).length) : (pt (Tm.live t) x).p = true := by
  have : pt (Tm.live t) x ∈ Tm.live t := List.getElem_mem _
  exact (List.mem_filter.1 this).2

set_option maxRecDepth 100000 in
set_option maxHeartbeats 4000000 in
theorem lvs_one (n : Nat) (hn : 1 ≤ n) (l B : Nat) (t : List Ov) (L : Nat) (f : Nx L → Ov) (hf : ∀ (i : Nat) (h : i < L), (Tm.live t)[i]? = some (f ⟨i, h⟩)) (hL : (Tm.live t).length = L) (sv : Value) (S : Nat → Prop) (hSB : S B) (hSv : ∀ b, sv.ownBlock = some b → S b) (hLm : t.length ≤ 1000000) (J Jx : List (Nx L) → World → Prop) (W : World) (hSW : ∀ g, S g → g < W.heap.size) (hJ : AbidesFrom W.heap.size J)
    (hY : ∀ pre x W1, J pre W1 → pre.length < L → YieldAt Fence.wide (n - 1) Try.prog l #[.string (f x).k, .string (f x).v] W1 fun e W' => (e = .returned (.bool true) ∧ J (pre ++ [x]) W' ∧ Kn S W1 W') ∨ (e = .returned (.bool false) ∧ Jx (pre ++ [x]) W'))
    (hB : W.cell? ⟨B, 0, none⟩ = some sv) (his : IsO W sv t) (h0 : J [] W) :
    CallsIn Fence.wide n Try.prog 38 #[.func (.yield l) #[] #[], .pointer (some ⟨B, 0, none⟩)] W fun e W' => (∃ v, e = .returned v) ∧ ((∃ xs, xs = upn L L ∧ J xs W') ∨ (∃ pre, (∃ k, k ≤ L ∧ pre = upn L k) ∧ Jx pre W')) := by
  have hro : Fence.wide.round = none := rfl
  obtain ⟨ao, cap, hsv, hcap, hcm⟩ := his.shape
  have HFULL := hide fun (h0 : 0 < t.length) => his.full h0
  subst hsv
  have HSW := hide hSW
  have HJ0 := hide hJ
  have HY := hide hY
  have HFF := hide hf
  have HL := hide hL
  have hle : Hid (∀ k, lvn t k ≤ L) := hide fun k => by
    unfold lvn
    rw [← hL]
    exact (List.Sublist.filter Bm.Ov.p (List.take_sublist k t)).length_le
  clear his hSW hJ hY hf hL
  refine callsIn_of_wp Try.func38 rfl trivial ?_ hro
  simp only [Try.ntmps38, List.size_toArray, List.length_cons, List.length_nil, Nat.reduceAdd, Nat.reduceSub, Array.replicate_succ, Array.replicate_zero, List.push_toArray, List.append_toArray, List.nil_append, List.cons_append]
  gi_wp2
  gi_loopw [7] (fun iv wr => ∃ k : Nat, k ≤ t.length ∧ iv = .int .i64 k ∧ Hid (J (upn L (lvn t k)) wr) ∧ Kn S W wr) (fun iv _ => t.length - (intOf iv).toNat)
  case atStart => exact ⟨0, Nat.zero_le _, rfl, h0, fun _ _ => rfl⟩
  case round =>
    obtain ⟨k, hk, rfl, HJ, hK⟩ := hrel
    by_cases hlt : k < t.length
    · obtain ⟨b, off, cq, hvx, _, _, hb, hcell⟩ := HFULL.out (by omega)
      simp only [Value.slice.injEq, true_and] at hvx
      obtain ⟨rfl, rfl⟩ := hvx
      obtain ⟨o, ho⟩ : ∃ o, t[k]? = some o := ⟨t[k], List.getElem?_eq_getElem hlt⟩
      obtain ⟨c0, c1, c2⟩ := hcell k o ho
      have hkb := hK b (hSv b rfl)
      have d0 := (cell_of_blk hkb (off + k * 3)).trans c0
      have d1 := (cell_of_blk hkb (off + k * 3 + 1)).trans c1
      have d2 := (cell_of_blk hkb (off + k * 3 + 2)).trans c2
      obtain ⟨W1, hW1, sz1, bW1, B1⟩ := blk_step wr #[.bool o.p, .string o.k, .string o.v] 28
      have e0 : W1.cell? ⟨wr.heap.size, 0, none⟩ = some (.bool o.p) := blk_cell B1 0 rfl
      have e1 : W1.cell? ⟨wr.heap.size, 1, none⟩ = some (.string o.k) := blk_cell B1 1 rfl
      have e2 : W1.cell? ⟨wr.heap.size, 2, none⟩ = some (.string o.v) := blk_cell B1 2 rfl
      have HJ1 : J (upn L (lvn t k)) W1 := by
        rw [← hW1]
        exact HJ0.out _ _ _ none HJ.out (World.grownBy_alloc _ _ _) (fun r e => by cases e)
      have hK1 : Kn S W W1 := by rw [← hW1]; exact kn_alloc HSW.out hK _
      have hlt' : (k : Int) < t.length := by omega
      have hk0 : (0 : Int) ≤ (k : Int) := by omega
      have HK := hide hK1
      cases hp : o.p with
      | false =>
        have HJ2 : Hid (J (upn L (lvn t (k + 1))) W1) := hide (by rw [lvn_no ho hp]; exact HJ1)
        rw [hp] at d0 e0 hW1
        clear hcell hSv B1 bW1 HJ1 hK hK1 c0 c1 c2 hkb ho hp
        gi_wp2
        refine ⟨(fun _ e => by cases e), ?_⟩
        gi_wp2
        go_roundw
        case rel => exact ⟨k + 1, by omega, by go_num, HJ2, HK.out⟩
        case measure => simp [intOf]; omega
      | true =>
        obtain ⟨y1, y2⟩ := lvn_yes ho hp
        have hj : lvn t k < L := by
          have := hle.out (k + 1)
          omega
        have hy3 : f ⟨lvn t k, hj⟩ = o := by
          have := HFF.out _ hj
          rw [y2] at this
          exact (Option.some.inj this).symm
        obtain ⟨fn, tmps, assign, body, hy, hR⟩ := HY.out _ ⟨lvn t k, hj⟩ W1 HJ1 (by rw [upn_len _ _ (Nat.le_of_lt hj)]; exact hj)
        rw [hy3] at hy
        rw [hp] at d0 e0 hW1
        have HR := hide hR
        have HY1 := hide y1
        have HJL := hide hj
        clear hcell hSv B1 bW1 HJ1 hK hK1 c0 c1 c2 hkb ho hp hR hy3 y1 y2
        gi_wp2
        refine HR.out.mono ?_
        rintro e W3 (⟨rfl, hJ3, hk3⟩ | ⟨rfl, hJx3⟩)
        · have hJ4 : Hid (J (upn L (lvn t (k + 1))) W3) := hide (by rw [HY1.out, upn_next _ _ HJL.out]; exact hJ3)
          have hK4 := HK.out.trans hk3
          clear hJ3
          gi_wp2
          go_roundw
          case rel => exact ⟨k + 1, by omega, by go_num, hJ4, hK4⟩
          case measure => simp [intOf]; omega
        · have hJ4 : Hid (Jx (upn L (lvn t (k + 1))) W3) := hide (by rw [HY1.out, upn_next _ _ HJL.out]; exact hJx3)
          clear hJx3
          gi_wp2
          refine bodyPost_ret (results_none rfl _ _ _) rfl ?_
          exact ⟨⟨_, rfl⟩, .inr ⟨_, ⟨lvn t (k + 1), hle.out _, rfl⟩, hJ4.out⟩⟩
    · have hlt' : ¬ (k : Int) < t.length := by omega
      obtain rfl : k = t.length := by omega
      have HJ2 : Hid (J (upn L L) wr) := hide (by
        have := HJ.out
        rw [lvn_all t _ (Nat.le_refl _), HL.out] at this
        exact this)
      clear HJ
      gi_wp2
      go_end0
      exact ⟨⟨_, rfl⟩, .inl HJ2.out⟩

theorem lvs_seq (n : Nat) (hn : 1 ≤ n) (B base : Nat) (t : List Ov) (w : World) (h : SeqT B base w t) (hLm : t.length ≤ 1000000) :
    SeqStopsK Fence.wide n Try.prog 38 #[.pointer (some ⟨B, 0, none⟩)] (fun x : Nx (Tm.live t).length => #[.string (pt (Tm.live t) x).k, .string (pt (Tm.live t) x).v]) (Kn (SeqTB B w)) (fun xs => xs = upn (Tm.live t).length (Tm.live t).length) (fun pre => ∃ k, k ≤ (Tm.live t).length ∧ pre = upn (Tm.live t).length k) (Tm.live t).length w := fun l J Jx W hW hJ hJx hY h0 => by
  have hlt := h.lt
  obtain ⟨hb, v, h1, h2⟩ := h
  have c0 := blk_cell h1 0 rfl
  refine lvs_one n hn l B t (Tm.live t).length (pt (Tm.live t)) (fun i h => List.getElem?_eq_getElem h) rfl v (SeqTB B w) (.inl rfl) (fun b hb => .inr ⟨v, c0, hb⟩) hLm J Jx W (fun g hg => Nat.lt_of_lt_of_le (hlt g hg).2 hW.size) hJ hY ((hW.cell (p := ⟨B, 0, none⟩) (blk_lt h1)).trans c0) (h2.is.below hW) h0

end Go.Proofs.Ytlfhpbiapnjghaa
