/- Texts of one layer, one behind the other. -/
import Derived.Test.YtkpnkknolobioaaG9
import Derived.Test.YtkpnkknolobioaaG26
import Derived.Test.YtkpnkknolobioaaG12
import Derived.Test.YtkpnkknolobioaaG18
import Derived.SizedLaws
import Derived.Lib.SmallJoins
import Derived.Deep.Slices
import Derived.Test.YtkpnkknolobioaaG3
import Derived.Test.YtkpnkknolobioaaG5
/- LentCommits: the lists of ops lie apart; three lists of commits, apart. -/
namespace Go.Proofs.Ytkpnkknolobioaa
open Go.RowKit
set_option linter.unusedVariables false

theorem LentV.ownO {base : Nat} {w : World} {v : Value} {l : List Bm.Ov} (h : LentV base w v l) : OwnO 66 base w v l := by
  obtain ⟨g, cap, rfl, hc, hm, ho⟩ := h
  have ho' : w.ownsRow base 66 3 (.slice (some ⟨g, 0, none⟩) (l.length + 3) cap) (l.length + 3) (ocells (l ++ [behind, behind, behind])) := by
    have := ho
    unfold OwnO at this
    rw [List.length_append] at this
    exact this
  have := own_frontO ho' l.length (by omega)
  rw [← ocells_take, List.take_left] at this
  exact this

set_option maxHeartbeats 1000000 in
theorem lentCs_ap (vl : Value) (r : List Cw) (w : World) (h : IsC w vl r) (hf : FitC r) (hl : r.length ≤ 1000) :
    Calls Try.prog 13 #[vl] w fun E w' => ∃ v rs, E = .returned v ∧ OwnR 32 w.heap.size w' v (rs ++ [behC, behC, behC]) ∧ cvs rs = cvs r ∧ LentR w.heap.size w' rs ∧ ApC rs ∧ Below w.heap.size w w' := by
  obtain ⟨ao, cap, hvl, _, _⟩ := h.1.shape
  have hcell : 0 < r.length → ∃ b1 o1 c1, vl = .slice (some ⟨b1, o1, none⟩) r.length c1 ∧ b1 < w.heap.size ∧ ∀ i c, r[i]? = some c → w.cell? ⟨b1, o1 + i * 3, none⟩ = some (.int .i64 c.e) ∧ w.cell? ⟨b1, o1 + i * 3 + 1, none⟩ = some (.int .i64 c.n) ∧ w.cell? ⟨b1, o1 + i * 3 + 2, none⟩ = some c.v := by
    intro hp
    obtain ⟨b1, o1, c1, hv, _, _, hB, hc⟩ := h.1.full hp
    exact ⟨b1, o1, c1, hv, hB, hc⟩
  subst hvl
  have HIN := hide h.2
  have HFIT := hide hf
  have HC := hide hcell
  generalize hn : r.length = n at *
  have HN := hide hn
  clear h hcell hf hn
  go_enter Try.func13, Try.ntmps13
  go_wp2
  go_loopw [3, 4] (fun ov iv wr => ∃ (k : Nat) (rs : List Cw), k ≤ n ∧ iv = .int .i64 k ∧ rs.length = k ∧ Hid (OwnR 32 w.heap.size wr ov rs ∧ cvs rs = cvs (r.take k) ∧ LentR w.heap.size wr rs ∧ ApC rs) ∧ Below w.heap.size w wr) (fun _ iv _ => n - (intOf iv).toNat)
  case atStart => exact ⟨0, [], by omega, rfl, rfl, ⟨OwnR.nil _ _ _, rfl, fun c hc => by simp at hc, fun i j c d _ hc => by simp at hc⟩, Below.refl _ _⟩
  case round =>
    obtain ⟨k, rs, hk, rfl, hrl, HT, bel⟩ := hrel
    have sz := bel.size
    by_cases hlt : k < n
    · obtain ⟨b1, o1, c1, hvx, hB, hcell⟩ := HC.out (by have := HN.out; omega)
      simp only [Value.slice.injEq, true_and] at hvx
      obtain ⟨rfl, rfl⟩ := hvx
      obtain ⟨c, hc⟩ : ∃ c, r[k]? = some c := ⟨r[k]'(by have := HN.out; omega), by rw [List.getElem?_eq_getElem]⟩
      obtain ⟨e0, e1, e2⟩ := hcell k c hc
      have d0 := (bel.cell (p := ⟨b1, o1 + k * 3, none⟩) hB).trans e0
      have d1 := (bel.cell (p := ⟨b1, o1 + k * 3 + 1, none⟩) hB).trans e1
      have d2 := (bel.cell (p := ⟨b1, o1 + k * 3 + 2, none⟩) hB).trans e2
      have hmem := List.mem_of_getElem? hc
      obtain ⟨i1, _, _⟩ := HIN.out c hmem
      have i2 := i1.below bel
      obtain ⟨hfc, hlc⟩ := HFIT.out c hmem
      have HCK := hide hc
      have hlt' : (k : Int) < n := by omega
      clear hc hmem i1 e0 e1 e2 hcell
      go_wp2_with fail
      refine (lentC_any c.e c.n _ c.l _ i2 hlc).mono ?_
      rintro E w2 ⟨v2, rfl, own2, bel2⟩
      unfold cmv
      have sz2 := bel2.size
      obtain ⟨ah, ch, hv2, _, _⟩ := own2.is.shape
      subst hv2
      obtain ⟨w3, hw3, sz3, bel3, own3⟩ := coms_step 32 w2 #[.int .i64 c.e, .int .i64 c.n, .slice ah c.l.length ch] 1 [⟨c.e, c.n, .slice ah c.l.length ch, c.l⟩] rfl rfl (by simp [maxLen])
      obtain ⟨hO, hE, hP, hA⟩ := HT.out
      have HA2 : Hid (ApC (rs ++ [⟨c.e, c.n, .slice ah c.l.length ch, c.l⟩])) := hide (apc_snoc (N := wr.heap.size) hA (fun d hd b hb => ((hP d hd).ownO.block b hb).2) (fun b hb => (own2.ownO.block b hb).1))
      have bel23 : Below wr.heap.size wr w3 := bel2.trans (bel3.mono (by omega))
      have hO3 := hO.below bel23
      have hP3 := hP.below bel23
      have own23 := (own2.below bel3).rebase (base' := w.heap.size) (by omega)
      have hlk : (rs.length + [(⟨c.e, c.n, .slice ah c.l.length ch, c.l⟩ : Cw)].length) * 40 ≤ 140737488355328 := by rw [List.length_singleton]; omega
      have HE := hide hE
      have HP := hide hP3
      have bel03 : Below w.heap.size w w3 := bel.trans (bel23.mono (by omega))
      clear HT hO hP hP3 hE hA bel2 bel3 bel23 own2 bel d0 d1 d2 i2
      go_wp2_with (at_builtin; refine wpList_append_coms rfl (.tmp 12) (.tmp 18) 22 rfl 32 w.heap.size Try.underlying22 Try.info32 _ rs rfl hO3 _ _ rfl own3.row (by intro c hc; rw [List.mem_singleton.1 hc]; rfl) hlk (by omega) ?_)
      intro v4 w4 own4 bel4 kp4
      have HT2 : Hid (OwnR 32 w.heap.size w4 v4 (rs ++ [⟨c.e, c.n, .slice ah c.l.length ch, c.l⟩]) ∧ cvs (rs ++ [⟨c.e, c.n, .slice ah c.l.length ch, c.l⟩]) = cvs (r.take (k + 1)) ∧ LentR w.heap.size w4 (rs ++ [⟨c.e, c.n, .slice ah c.l.length ch, c.l⟩]) ∧ ApC (rs ++ [⟨c.e, c.n, .slice ah c.l.length ch, c.l⟩])) :=
        ⟨own4, cvs_snoc HE.out HCK.out rfl, (HP.out.keepT kp4).snoc (own23.keepT kp4 (by decide)), HA2.out⟩
      have bel04 := bel03.trans bel4
      clear own4 kp4 own23 own3 hO3 HE HP HA2 bel03 bel4 hlk
      go_wp2
      go_roundw
      case rel => exact ⟨k + 1, _, by omega, by go_num, by rw [List.length_append, hrl]; rfl, HT2, bel04⟩
      case measure => simp [intOf]; omega
    · have hlt' : ¬ (k : Int) < n := by omega
      have HE : Hid (cvs rs = cvs r) := hide (by rw [HT.out.2.1, List.take_of_length_le (by have := HN.out; omega)])
      have HS := HT.out.1
      have HAP := hide HT.out.2.2.2
      have hS0 : Hid (OwnR 32 w.heap.size wr _ (rs ++ List.replicate 0 behC) ∧ LentR w.heap.size wr rs) := ⟨by simpa using HS, HT.out.2.2.1⟩
      clear HT HS
      go_wp2
      go_loopw [3, 5] (fun ov iv wq => ∃ (j : Nat), j ≤ 3 ∧ iv = .int .i64 j ∧ Hid (OwnR 32 w.heap.size wq ov (rs ++ List.replicate j behC) ∧ LentR w.heap.size wq rs) ∧ Below w.heap.size w wq) (fun _ iv _ => 3 - (intOf iv).toNat)
      case atStart => exact ⟨0, by omega, rfl, hS0, bel⟩
      case round =>
        obtain ⟨j, hj, rfl, HJ, belJ⟩ := hrel
        have szJ := belJ.size
        by_cases hlj : j < 3
        · have hlj' : (j : Int) < 3 := by omega
          obtain ⟨w3, hw3, sz3, bel3, own3⟩ := coms_step 32 wr #[.int .i64 (-7), .int .i64 0, .slice none 0 0] 1 [behC] rfl rfl (by simp [maxLen])
          have hO3 := HJ.out.1.below bel3
          have HP := hide (HJ.out.2.below bel3)
          have hlk : ((rs ++ List.replicate j behC).length + [behC].length) * 40 ≤ 140737488355328 := by rw [List.length_append, List.length_replicate, List.length_singleton]; omega
          have bel03 : Below w.heap.size w w3 := belJ.trans (bel3.mono (by omega))
          clear HJ belJ bel3 hS0
          go_wp2_with (at_builtin; refine wpList_append_coms rfl (.tmp 24) (.tmp 26) 22 rfl 32 w.heap.size Try.underlying22 Try.info32 _ _ rfl hO3 _ [behC] rfl own3.row (by intro c hc; rw [List.mem_singleton.1 hc]; rfl) hlk (by omega) ?_)
          intro v4 w4 own4 bel4 kp4
          have HT2 : Hid (OwnR 32 w.heap.size w4 v4 (rs ++ List.replicate (j + 1) behC) ∧ LentR w.heap.size w4 rs) := ⟨by rw [List.replicate_succ']; exact own4, HP.out.keepT kp4⟩
          have bel04 := bel03.trans bel4
          clear own4 kp4 own3 hO3 HP bel03 bel4 hlk
          go_wp2
          go_roundw
          case rel => exact ⟨j + 1, by omega, by go_num, HT2, bel04⟩
          case measure => simp [intOf]; omega
        · have hlj' : ¬ (j : Int) < 3 := by omega
          have hj3 : j = 3 := by omega
          subst hj3
          clear hS0
          go_wp2
          go_ret
          exact ⟨_, rfl, rs, HJ.out.1, HE.out, HJ.out.2, HAP.out, belJ⟩

/-- A list of commits of the statement's own. -/
structure Oc (base : Nat) (w : World) (v : Value) (r : List Cw) : Prop where
  c : OwnR 32 base w v r
  o : CopyR base w r
  i : ∀ c ∈ r, In64 c.e ∧ In64 c.n
  ap : ApC r
  len : r.length ≤ 1000
  ops : ∀ c ∈ r, c.l.length ≤ 1000
  fit : FitC r

theorem Oc.below {base : Nat} {w w' : World} {v : Value} {r : List Cw} (h : Oc base w v r) (hb : Below w.heap.size w w') : Oc base w' v r := ⟨h.c.below hb, h.o.below hb, h.i, h.ap, h.len, h.ops, h.fit⟩
theorem Oc.rebase {base base' : Nat} {w : World} {v : Value} {r : List Cw} (h : Oc base w v r) (hb : base' ≤ base) : Oc base' w v r := ⟨h.c.rebase hb, fun c hc => (h.o c hc).rebase hb, h.i, h.ap, h.len, h.ops, h.fit⟩

/-- Its blocks end ahead of s. -/
def Oc.Lt (v : Value) (r : List Cw) (s : Nat) : Prop := (∀ b, v.ownBlock = some b → b < s) ∧ ∀ c ∈ r, ∀ b, c.v.ownBlock = some b → b < s

theorem Oc.lt {base : Nat} {w : World} {v : Value} {r : List Cw} (h : Oc base w v r) : Oc.Lt v r w.heap.size := ⟨fun b hb => (World.ownsRow.lt h.c b hb).2, fun c hc b hb => (World.ownsRow.lt (h.o c hc) b hb).2⟩

/-- 'v[:k]' of a row of commits of one's own. -/
theorem ownR_cut {base : Nat} {w : World} {v : Value} {l : List Cw} (h : OwnR 32 base w v l) (k : Nat) (hk : k ≤ l.length) (h0 : 0 < l.length) :
    ∃ vs, (∀ wx, (Instr.slice 22 v none (some (.int .i64 k)) none).run Try.prog wx = .ok vs wx) ∧ OwnR 32 base w vs (l.take k) ∧ vs.ownBlock = v.ownBlock ∧ ∃ a c, vs = .slice a k c := by
  rcases h.2 with ⟨_, hn⟩ | ⟨g, cap, cur, hv, _, _, hc, hm, _⟩
  · omega
  · subst hv
    refine ⟨.slice (some ⟨g, 0, none⟩) k cap, fun wx => ?_, ?_, rfl, _, _, rfl⟩
    · rw [run_slice_h wx 22 (some ⟨g, 0, none⟩) l.length cap Try.elemC .i64 _ (by omega) (by omega), Try.sizeC]
      simp only [Result.andThen, sliced]
      simp [Addr.add]
    · unfold OwnR at h ⊢
      rw [List.length_take, Nat.min_eq_left hk, ccells_take]
      exact own_cut h k hk

def tri17 {α : Type} (a b c : α) : Nat → α
  | 0 => a
  | 1 => b
  | _ => c

theorem ap_app {r1 r2 : List Cw} {s : Nat} (h1 : ApC r1) (h2 : ApC r2) (b1 : ∀ c ∈ r1, ∀ b, c.v.ownBlock = some b → b < s) (b2 : ∀ c ∈ r2, ∀ b, c.v.ownBlock = some b → s ≤ b) : ApC (r1 ++ r2) := by
  intro i j x y hij hx hy
  have key : (∀ b d, x.v.ownBlock = some b → y.v.ownBlock = some d → b ≠ d) → x.v.ownBlock = none ∨ x.v.ownBlock ≠ y.v.ownBlock := by
    intro h
    cases hu : x.v.ownBlock with
    | none => exact .inl rfl
    | some b => exact .inr fun e => h b b hu e.symm rfl
  by_cases hi : i < r1.length
  · rw [List.getElem?_append_left hi] at hx
    by_cases hj : j < r1.length
    · rw [List.getElem?_append_left hj] at hy
      exact h1 i j x y hij hx hy
    · rw [List.getElem?_append_right (by omega)] at hy
      refine key fun b d hb hd e => ?_
      have := b1 x (List.mem_of_getElem? hx) b hb
      have := b2 y (List.mem_of_getElem? hy) d hd
      omega
  · rw [List.getElem?_append_right (by omega)] at hx
    by_cases hj : j < r1.length
    · rw [List.getElem?_append_left hj] at hy
      refine key fun b d hb hd e => ?_
      have := b2 x (List.mem_of_getElem? hx) b hb
      have := b1 y (List.mem_of_getElem? hy) d hd
      omega
    · rw [List.getElem?_append_right (by omega)] at hy
      exact h2 _ _ x y (by omega) hx hy

theorem ap_comm {r1 r2 : List Cw} (h : ApC (r1 ++ r2)) : ApC (r2 ++ r1) := by
  intro i j x y hij hx hy
  have m : ∀ (k : Nat) (z : Cw), (r2 ++ r1)[k]? = some z → ∃ k', (r1 ++ r2)[k']? = some z ∧ k' = (if k < r2.length then k + r1.length else k - r2.length) := by
    intro k z hz
    by_cases hk : k < r2.length
    · rw [List.getElem?_append_left hk] at hz
      refine ⟨k + r1.length, ?_, by rw [if_pos hk]⟩
      rw [List.getElem?_append_right (by omega), Nat.add_sub_cancel]
      exact hz
    · rw [List.getElem?_append_right (by omega)] at hz
      have hl := (List.getElem?_eq_some_iff.1 hz).1
      refine ⟨k - r2.length, ?_, by rw [if_neg hk]⟩
      rw [List.getElem?_append_left hl]
      exact hz
  obtain ⟨i', hi', ei⟩ := m i x hx
  obtain ⟨j', hj', ej⟩ := m j y hy
  have hli := (List.getElem?_eq_some_iff.1 hx).1
  have hlj := (List.getElem?_eq_some_iff.1 hy).1
  rw [List.length_append] at hli hlj
  refine h i' j' x y ?_ hi' hj'
  rw [ei, ej]
  split <;> split <;> omega

theorem listsC_tri {b0 s1 s2 : Nat} {w : World} {vc vx vo : Value} {rc rx ro : List Cw} (hc : Oc s1 w vc rc) (hx : Oc s2 w vx rx) (ho : Oc b0 w vo ro) (h01 : b0 ≤ s1) (h12 : s1 ≤ s2) (lo : Oc.Lt vo ro s1) (lc : Oc.Lt vc rc s2) :
    ListsC 3 w.heap.size b0 (w.alloc (.cells #[vc, vx, vo] 22)) (tri17 vc vx vo) (tri17 rc rx ro) := by
  have bel : Below w.heap.size w (w.alloc (.cells #[vc, vx, vo] 22)) := (Below.refl _ _).alloc (Nat.le_refl _) _
  have hc' := (hc.below bel).rebase h01
  have hx' := (hx.below bel).rebase (Nat.le_trans h01 h12)
  have ho' := ho.below bel
  have thr : ∀ i, i < 3 → i = 0 ∨ i = 1 ∨ i = 2 := by omega
  have tc : ∀ b, vc.ownBlock = some b → s1 ≤ b ∧ b < w.heap.size := World.ownsRow.lt hc.c
  have tx : ∀ b, vx.ownBlock = some b → s2 ≤ b ∧ b < w.heap.size := World.ownsRow.lt hx.c
  have to : ∀ b, vo.ownBlock = some b → b0 ≤ b ∧ b < w.heap.size := World.ownsRow.lt ho.c
  have key : ∀ u v : Value, (∀ b d, u.ownBlock = some b → v.ownBlock = some d → b ≠ d) → u.ownBlock = none ∨ u.ownBlock ≠ v.ownBlock := by
    intro u v h
    cases hu : u.ownBlock with
    | none => exact .inl rfl
    | some b => exact .inr fun e => h b b hu e.symm rfl
  refine ⟨fun i hi => ?_, fun i hi => ?_, fun i hi => ?_, fun i hi => ?_, fun i j hi hj hne => ?_, fun i hi => ?_, fun i hi => ?_, fun i hi => ?_, fun i hi => ?_, ?_⟩
  · rcases thr i hi with rfl | rfl | rfl <;> simp [tri17]
  · rcases thr i hi with rfl | rfl | rfl
    · exact hc'.c
    · exact hx'.c
    · exact ho'.c
  · rcases thr i hi with rfl | rfl | rfl
    · exact hc'.o
    · exact hx'.o
    · exact ho'.o
  · rcases thr i hi with rfl | rfl | rfl
    · exact hc.i
    · exact hx.i
    · exact ho.i
  · rcases thr i hi with rfl | rfl | rfl <;> rcases thr j hj with rfl | rfl | rfl <;> first | exact absurd rfl hne | skip
    all_goals
      refine key _ _ fun b d hb hd e => ?_
      simp only [tri17] at hb hd
    · have := lc.1 b hb; have := tx d hd; omega
    · have := tc b hb; have := lo.1 d hd; omega
    · have := tx b hb; have := lc.1 d hd; omega
    · have := tx b hb; have := lo.1 d hd; omega
    · have := lo.1 b hb; have := tc d hd; omega
    · have := lo.1 b hb; have := tx d hd; omega
  · intro e
    rcases thr i hi with rfl | rfl | rfl
    · have := tc _ e; omega
    · have := tx _ e; omega
    · have := to _ e; omega
  · rcases thr i hi with rfl | rfl | rfl
    · exact hc.len
    · exact hx.len
    · exact ho.len
  · rcases thr i hi with rfl | rfl | rfl
    · exact hc.ops
    · exact hx.ops
    · exact ho.ops
  · rcases thr i hi with rfl | rfl | rfl
    · exact hc.fit
    · exact hx.fit
    · exact ho.fit
  · have e : (List.range 3).flatMap (tri17 rc rx ro) = (rc ++ rx) ++ ro := by simp [List.range_succ, tri17]
    rw [e]
    refine ap_comm (ap_app (s := s1) ho.ap (ap_app (s := s2) hc.ap hx.ap lc.2 fun c h b e => (World.ownsRow.lt (hx.o c h) b e).1) lo.2 fun c h b e => ?_)
    rcases List.mem_append.1 h with h | h
    · exact (World.ownsRow.lt (hc.o c h) b e).1
    · have := (World.ownsRow.lt (hx.o c h) b e).1
      omega

end Go.Proofs.Ytkpnkknolobioaa

/- OrphanCalls: the commits of sections lie apart. -/
namespace Go.Proofs.Ytkpnkknolobioaa
open Go.RowKit
set_option linter.unusedVariables false

set_option maxHeartbeats 1000000 in
theorem apartC_none (ao : Option Addr) (cap : Nat) (w : World) : Calls Try.prog 26 #[.slice ao 0 cap] w fun E w' => E = .returned (.bool true) ∧ Below w.heap.size w w' := by
  obtain ⟨i0, hi, hz0, hz1, hz2⟩ := info_parts Try.info22
  go_enter Try.func26, Try.ntmps26
  go_wp2_with (at_make; refine wpList_make_full _ rfl _ _ 46 rfl w.heap.size 22 i0 (.slice none 0 0) 1 Try.underlying46 hi hz0 hz1 _ _ _ _ 0 rfl rfl (by omega) (by omega) ?b2 ?b3 (Nat.le_refl _) ?_)
  case b2 => rw [hz2]; omega
  case b3 => unfold maxLen; omega
  intro w0 hown0 hgrow0
  have bel0 : Below w.heap.size w w0 := (Below.refl _ _).grown hgrow0 (Nat.le_refl _) (by simp)
  clear hown0 hgrow0
  go_wp2
  refine wp_loop_rounds 1 ?_
  rw [rounds_succ]
  go_wp2
  refine wp_loop_rounds 1 ?_
  rw [rounds_succ]
  go_wp2
  refine wp_loop_rounds 1 ?_
  rw [rounds_succ]
  go_wp2_with fail
  refine (apartO_none none 0 w0).mono ?_
  rintro E w2 ⟨rfl, bel2⟩
  have b2 := bel0.trans (bel2.mono bel0.size)
  clear bel0 bel2
  go_wp2
  go_ret
  exact ⟨rfl, b2⟩

/-- Sections have their bytes. -/
theorem fr_ge (c : Cm.Cv) : 4 ≤ (Wl.fr c).length := by
  unfold Wl.fr
  rw [Fm.frm_len]
  have h1 := Vm.sz_pos (Wl.rec c).length
  have h2 : 3 ≤ (Wl.rec c).length := by
    unfold Wl.rec Cm.encC
    have a := Vm.sz_pos c.e.toNat
    have b := Vm.sz_pos c.n.toNat
    have d : 1 ≤ (Bm.encB c.l).length := by
      unfold Bm.encB
      have := Vm.sz_pos c.l.length
      unfold Vm.sz at this
      rw [List.length_append]
      omega
    unfold Vm.sz at a b
    rw [List.length_append, List.length_append]
    omega
  omega
theorem lgb_ge : ∀ (l : List Cm.Cv), 4 * l.length ≤ (Wl.lgb l).length
  | [] => by simp
  | c :: l => by
    have h1 := fr_ge c
    have h2 := lgb_ge l
    rw [Wl.lgb_cons, List.length_append, List.length_cons]
    omega
theorem sec_ge {s : Orp.Se} (h : Orp.chk s = 0) : 8 ≤ (Orp.sec s).length ∧ 4 * s.cs.length ≤ (Orp.sec s).length := by
  have h1 := lgb_ge s.cs
  have h2 := (Orp.chk_zero h).2.2.2.2.1
  have h3 : 4 ≤ (Fm.frm (Orp.hdr s)).length := by
    rw [Fm.frm_len, Orp.hdr_len]
    have a := Vm.sz_pos s.e.toNat
    have b := Vm.sz_pos s.f.toNat
    have c := Vm.sz_pos s.cs.length
    have d := Vm.sz_pos (Vm.sz s.e.toNat + Vm.sz s.f.toNat + Vm.sz s.cs.length)
    omega
  unfold Orp.sec
  rw [List.length_append]
  constructor <;> omega
theorem secs_ge : ∀ {l : List Orp.Se}, (∀ s ∈ l, Orp.chk s = 0) → 8 * l.length ≤ (Orp.secs l).length ∧ ∀ s ∈ l, 4 * s.cs.length ≤ (Orp.secs l).length
  | [], _ => by simp
  | s :: l, h => by
    obtain ⟨h1, h2⟩ := secs_ge (l := l) fun t ht => h t (by simp [ht])
    obtain ⟨g1, g2⟩ := sec_ge (h s (by simp))
    rw [Orp.secs_cons, List.length_append, List.length_cons]
    refine ⟨by omega, fun t ht => ?_⟩
    rcases List.mem_cons.1 ht with rfl | ht
    · omega
    · have := h2 t ht; omega

/-- Blocks that differ. -/
def NeB (c d : Cw) : Prop := c.v.ownBlock = none ∨ c.v.ownBlock ≠ d.v.ownBlock
theorem NeB.symm {c d : Cw} (h : NeB c d) : NeB d c := by
  unfold NeB at *
  cases hd : d.v.ownBlock with
  | none => exact .inl rfl
  | some g =>
    right
    rcases h with h | h
    · rw [h]; simp
    · rw [hd] at h; exact fun e => h e.symm
theorem apc_pair {l : List Cw} : ApC l ↔ l.Pairwise NeB := by
  rw [List.pairwise_iff_getElem]
  constructor
  · intro h i j hi hj hij
    exact h i j _ _ (by omega) (List.getElem?_eq_getElem hi) (List.getElem?_eq_getElem hj)
  · intro h i j c d hij hc hd
    obtain ⟨h1, e1⟩ := List.getElem?_eq_some_iff.1 hc
    obtain ⟨h2, e2⟩ := List.getElem?_eq_some_iff.1 hd
    subst e1 e2
    rcases Nat.lt_or_gt_of_ne hij with q | q
    · exact h i j h1 h2 q
    · exact (h j i h2 h1 q).symm

theorem range_flat {α β : Type} (l : List α) (f : α → List β) : (List.range l.length).flatMap (fun i => (l.map f).getD i []) = l.flatMap f := by
  rw [List.flatMap_def, List.flatMap_def]
  congr 1
  apply List.ext_getElem
  · simp
  · intro i h1 h2
    simp at h1
    simp [List.getD, h1]

/-- The lists of the commits of sections that lie apart. -/
theorem lists_secs {bA base : Nat} {W : World} {lst : List Sw} {bl cl : Nat} (hA : OwnG one 1 22 bA W (.slice (some ⟨bl, 0, none⟩) lst.length cl) (lst.map Sw.v)) (ho : ∀ x ∈ lst, ShS base W x.v x.rs) (hlt : ∀ x ∈ lst, ∀ g, SwB x g → g < bA)
    (hp : lst.Pairwise fun x y => ∀ g, SwB x g → ¬ SwB y g) (hl : ∀ x ∈ lst, x.rs.length ≤ 1000) (hop : ∀ x ∈ lst, ∀ c ∈ x.rs, c.l.length ≤ 1000) :
    ListsC lst.length bl base W (fun i => (lst.map Sw.v).getD i (.slice none 0 0)) (fun i => (lst.map Sw.rs).getD i []) := by
  have hv : ∀ i (h : i < lst.length), (lst.map Sw.v).getD i (.slice none 0 0) = lst[i].v := fun i h => by simp [List.getD, h]
  have hr : ∀ i (h : i < lst.length), (lst.map Sw.rs).getD i [] = lst[i].rs := fun i h => by simp [List.getD, h]
  have mem : ∀ i (h : i < lst.length), lst[i] ∈ lst := fun i h => List.getElem_mem h
  have hbl : lst.length = 0 ∨ bA ≤ bl := by
    by_cases hz : lst.length = 0
    · exact .inl hz
    · exact .inr (OwnG.lt hA bl rfl).1
  refine ⟨fun i hi => ?_, fun i hi => ?_, fun i hi => ?_, fun i hi c hc => ?_, fun i j hi hj hij => ?_, fun i hi e => ?_, fun i hi => ?_, fun i hi c hc => ?_, fun i hi => ?_, ?_⟩
  · obtain ⟨b, off, cap, h1, _, _, _, h5⟩ := RowG.full one_len (by decide) hA.row (by rw [List.length_map]; omega)
    simp only [Value.slice.injEq, Option.some.injEq, Addr.mk.injEq, and_true] at h1
    obtain ⟨⟨rfl, rfl⟩, _⟩ := h1
    have := h5 i lst[i].v (by rw [List.getElem?_map, List.getElem?_eq_getElem hi]; rfl) 0 lst[i].v rfl
    rw [hv i hi]
    simpa using this
  · rw [hv i hi, hr i hi]; exact (ho _ (mem i hi)).c
  · rw [hr i hi]; exact (ho _ (mem i hi)).o
  · rw [hr i hi] at hc; exact (ho _ (mem i hi)).i c hc
  · rw [hv i hi, hv j hj]
    cases hq : lst[i].v.ownBlock with
    | none => exact .inl rfl
    | some g =>
      refine .inr fun e => ?_
      rw [List.pairwise_iff_getElem] at hp
      rcases Nat.lt_or_gt_of_ne hij with q | q
      · exact hp i j hi hj q g (.inl hq) (.inl e.symm)
      · exact hp j i hj hi q g (.inl e.symm) (.inl hq)
  · rw [hv i hi] at e
    have := hlt _ (mem i hi) bl (.inl e)
    omega
  · rw [hr i hi]; exact hl _ (mem i hi)
  · rw [hr i hi] at hc; exact hop _ (mem i hi) c hc
  · rw [hr i hi]; exact (ho _ (mem i hi)).f
  · rw [range_flat, apc_pair, List.flatMap_def, List.pairwise_flatten]
    refine ⟨fun l hl => ?_, ?_⟩
    · obtain ⟨x, hx, rfl⟩ := List.mem_map.1 hl
      exact apc_pair.1 (ho x hx).ap
    · rw [List.pairwise_map]
      refine hp.imp fun {x y} hxy c hc d hd => ?_
      unfold NeB
      cases hq : c.v.ownBlock with
      | none => exact .inl rfl
      | some g => exact .inr fun e => hxy g (.inr ⟨c, hc, hq⟩) (.inr ⟨d, hd, e.symm⟩)

end Go.Proofs.Ytkpnkknolobioaa

/- What an argument that is a slice of ops comes in as. No program. -/
namespace Go.Proofs.Ytkpnkknolobioaa
open Go.RowKit Go.ChangeShapes Go.WideShapes Go.Deep
set_option linter.unusedVariables false

/-- An op as a datum. -/
def opd {H : Type} (o : Bm.Ov) : DataW H := .agg [.lit (.bool o.p), .lit (.string o.k.data.toList), .lit (.string o.v.data.toList)]

theorem ocells_inv : ∀ (l : List Bm.Ov) (j : Nat) (u : Value), (ocells l)[j]? = some u → ∃ i o, l[i]? = some o ∧ ((j = i * 3 ∧ u = .bool o.p) ∨ (j = i * 3 + 1 ∧ u = .string o.k) ∨ (j = i * 3 + 2 ∧ u = .string o.v))
  | [], j, u, h => by simp [ocells] at h
  | o :: r, 0, u, h => ⟨0, o, rfl, .inl ⟨rfl, by simpa [ocells, ocell] using h.symm⟩⟩
  | o :: r, 1, u, h => ⟨0, o, rfl, .inr (.inl ⟨rfl, by simpa [ocells, ocell] using h.symm⟩)⟩
  | o :: r, 2, u, h => ⟨0, o, rfl, .inr (.inr ⟨rfl, by simpa [ocells, ocell] using h.symm⟩)⟩
  | o :: r, j + 3, u, h => by
    have h' : (ocells r)[j]? = some u := by simpa [ocells, ocell] using h
    obtain ⟨i, q, hq, hc⟩ := ocells_inv r j u h'
    refine ⟨i + 1, q, by simpa using hq, ?_⟩
    rcases hc with ⟨rfl, hu⟩ | ⟨rfl, hu⟩ | ⟨rfl, hu⟩
    · exact .inl ⟨by omega, hu⟩
    · exact .inr (.inl ⟨by omega, hu⟩)
    · exact .inr (.inr ⟨by omega, hu⟩)

section
variable {H : Type} {enc : TypeId × Value → H} {P : Program} {w : World} {base : Nat} {spare : Nat → Bool} {held : Bool}

theorem open_ops {t e : TypeId} {f0 f1 f2 : Field} {fuel : Nat} {v : Value} {x : DataW H × List MemPlace} (ht : P.underlying t = some (.slice e)) (he : P.underlying e = some (.struct #[f0, f1, f2]))
    (hone : oneCellFields P #[f0, f1, f2] = true) (ce : P.cellsOf e = 3) (u0 : P.underlying f0.type = some .bool) (u1 : P.underlying f1.type = some .string) (u2 : P.underlying f2.type = some .string)
    (h : DataW.trod enc P w base spare held fuel t [v] = some x) : ∃ l : List Bm.Ov, IsO w v l ∧ ((x.1 = .nil ∧ l = []) ∨ ∃ sp, x.1 = .slice (l.map opd) sp) := by
  rcases open_slice ht h with ⟨hv, hx⟩ | ⟨a, len, cap, m, n, D, Pl, hv, hb, hl, hm, hmm, rfl, hx⟩
  · simp at hv
    subst hv hx
    exact ⟨[], IsO.nil _, .inl ⟨rfl, rfl⟩⟩
  · simp at hv
    subst hv
    have hlm : len ≤ m := by rw [hmm]; split <;> omega
    obtain ⟨o0, c0⟩ := hone_of hone 0 f0 rfl
    obtain ⟨o1, c1⟩ := hone_of hone 1 f1 rfl
    obtain ⟨o2, c2⟩ := hone_of hone 2 f2 rfl
    have each : ∀ i, i < len → ∃ o : Bm.Ov, w.cell? (a.add (i * 3)) = some (.bool o.p) ∧ w.cell? (a.add (i * 3 + 1)) = some (.string o.k) ∧ w.cell? (a.add (i * 3 + 2)) = some (.string o.v) ∧ D i = opd o := by
      intro i hi
      obtain ⟨cs', h1, h2⟩ := hx i (by omega)
      rw [ce] at h1
      obtain ⟨_, hlen, hcell⟩ := World.cells?_some h1
      obtain ⟨y0, y1, y2, k, hxy, _, g0, g1, g2⟩ := trod_struct3 he h2
      match cs', hlen with
      | [v0, v1, v2], _ =>
        simp [o0, o1, o2, c0, c1, c2] at g0 g1 g2
        obtain ⟨p, hp, rfl⟩ := DataW.trod_bool u0 g0
        obtain ⟨s, hs, rfl, _⟩ := DataW.trod_string u1 g1
        obtain ⟨r, hr, rfl, _⟩ := DataW.trod_string u2 g2
        simp at hp hs hr
        subst hp hs hr
        have e0 := hcell 0 (by omega)
        have e1 := hcell 1 (by omega)
        have e2 := hcell 2 (by omega)
        rw [Go.Deep.add_add] at e0 e1 e2
        simp only [Prod.mk.injEq] at hxy
        exact ⟨⟨p, s, r⟩, by simpa using e0, by simpa using e1, by simpa using e2, hxy.1⟩
    have : Inhabited Bm.Ov := ⟨⟨false, ⟨#[]⟩, ⟨#[]⟩⟩⟩
    obtain ⟨f, hf⟩ := choose_lt each
    refine ⟨(List.range len).map f, .inr ⟨a, cap, by simp, by simpa using hl, hm, fun j u hj => ?_⟩, .inr ⟨(List.range (m - len)).map fun j => D (len + j), ?_⟩⟩
    · obtain ⟨i, o, ho, hc⟩ := ocells_inv _ j u hj
      obtain ⟨hi, e⟩ := List.getElem?_eq_some_iff.1 ho
      simp at hi e
      obtain ⟨k0, k1, k2, _⟩ := hf i hi
      subst e
      rcases hc with ⟨rfl, rfl⟩ | ⟨rfl, rfl⟩ | ⟨rfl, rfl⟩
      · exact k0
      · exact k1
      · exact k2
    · show DataW.slice _ _ = DataW.slice _ _
      congr 1
      rw [List.map_map]
      exact List.map_congr_left fun i hi => (hf i (by simpa using hi)).2.2.2

theorem weights_all {e : TypeId} {n : Nat} {d : DataW H} : ∀ {ds : List (DataW H)}, d ∈ ds → n ∈ d.weights P e → n ∈ DataW.weightsAll P e ds
  | [], h, _ => by simp at h
  | q :: r, h, hn => by
    simp only [DataW.weightsAll, List.mem_append]
    rcases List.mem_cons.1 h with rfl | h
    · exact .inl hn
    · exact .inr (weights_all h hn)

/-- A list of ops as a datum. -/
def OpsD (d : DataW H) (l : List Bm.Ov) : Prop := (d = .nil ∧ l = []) ∨ ∃ sp, d = .slice (l.map opd) sp

theorem ops_fit {t e : TypeId} {f0 f1 f2 : Field} {l : List Bm.Ov} {d : DataW H} (h : ∀ n ∈ d.weights P t, n ≤ reachBytes) (hd : OpsD d l) (hu : P.underlying t = some (.slice e)) (he : P.underlying e = some (.struct #[f0, f1, f2])) (hb : P.bytesOf e = 40) :
    FitO l ∧ l.length * 40 ≤ 140737488351232 := by
  rcases hd with ⟨_, rfl⟩ | ⟨sp, rfl⟩
  · exact ⟨fun o ho => by simp at ho, by simp⟩
  refine ⟨fun o ho => ?_, ?_⟩
  · have key : ∀ n ∈ (opd (H := H) o).weights P e, n ≤ 140737488351232 := by
      intro n hn
      exact h n (by
        simp only [DataW.weights, hu]
        exact List.mem_cons_of_mem _ (List.mem_append_left _ (weights_all (List.mem_map_of_mem ho) hn)))
    constructor
    · have := key o.k.data.toList.length (by simp [opd, DataW.weights, he, DataW.weightsEach])
      rw [Lib.size_eq]; exact this
    · have := key o.v.data.toList.length (by simp [opd, DataW.weights, he, DataW.weightsEach])
      rw [Lib.size_eq]; exact this
  · have := h ((l.map (opd (H := H))).length + sp.length |> (· * P.bytesOf e)) (by simp [DataW.weights, hu])
    rw [hb] at this
    simp only [List.length_map, reachBytes] at this
    omega

theorem sized_ops {ts : List TypeId} {ds : List (DataW H)} (h : (DataW.weightsEach P ts ds).all (· ≤ reachBytes) = true) {j : Nat} {t e : TypeId} {f0 f1 f2 : Field} {l : List Bm.Ov} {sp : List (DataW H)} (ht : ts[j]? = some t) (hd : ds[j]? = some (.slice (l.map opd) sp)) (hu : P.underlying t = some (.slice e)) (he : P.underlying e = some (.struct #[f0, f1, f2])) (hb : P.bytesOf e = 40) :
    FitO l ∧ l.length * 40 ≤ 140737488351232 := by
  have hall := List.all_eq_true.1 h
  refine ⟨fun o ho => ?_, ?_⟩
  · have key : ∀ n ∈ (opd (H := H) o).weights P e, n ≤ 140737488351232 := by
      intro n hn
      have := hall n (DataW.weights_mem_each ht hd n (by
        simp only [DataW.weights, hu]
        exact List.mem_cons_of_mem _ (List.mem_append_left _ (weights_all (List.mem_map_of_mem ho) hn))))
      have h3 : n ≤ reachBytes := of_decide_eq_true this
      exact h3
    constructor
    · have := key o.k.data.toList.length (by simp [opd, DataW.weights, he, DataW.weightsEach])
      rw [Lib.size_eq]; exact this
    · have := key o.v.data.toList.length (by simp [opd, DataW.weights, he, DataW.weightsEach])
      rw [Lib.size_eq]; exact this
  · have := sized_slice h ht hd hu
    rw [hb] at this
    simp only [List.length_map, reachBytes] at this
    omega

end

end Go.Proofs.Ytkpnkknolobioaa

/- What an argument that is a commit, or a slice of commits, comes in as. No program. -/
namespace Go.Proofs.Ytkpnkknolobioaa
open Go.RowKit Go.ChangeShapes Go.WideShapes Go.Deep
set_option linter.unusedVariables false

theorem in64 {z : Int} (h : (Lit.int .i64 z).wf = true) : In64 z := by
  have := range_i64 (zs := [z]) (by simpa using h) 0
  simp at this
  exact ⟨by omega, by omega⟩

theorem ccells_inv : ∀ (l : List Cw) (j : Nat) (u : Value), (ccells l)[j]? = some u → ∃ i c, l[i]? = some c ∧ ((j = i * 3 ∧ u = .int .i64 c.e) ∨ (j = i * 3 + 1 ∧ u = .int .i64 c.n) ∨ (j = i * 3 + 2 ∧ u = c.v))
  | [], j, u, h => by simp [ccells] at h
  | o :: r, 0, u, h => ⟨0, o, rfl, .inl ⟨rfl, by simpa [ccells, ccell] using h.symm⟩⟩
  | o :: r, 1, u, h => ⟨0, o, rfl, .inr (.inl ⟨rfl, by simpa [ccells, ccell] using h.symm⟩)⟩
  | o :: r, 2, u, h => ⟨0, o, rfl, .inr (.inr ⟨rfl, by simpa [ccells, ccell] using h.symm⟩)⟩
  | o :: r, j + 3, u, h => by
    have h' : (ccells r)[j]? = some u := by simpa [ccells, ccell] using h
    obtain ⟨i, q, hq, hc⟩ := ccells_inv r j u h'
    refine ⟨i + 1, q, by simpa using hq, ?_⟩
    rcases hc with ⟨rfl, hu⟩ | ⟨rfl, hu⟩ | ⟨rfl, hu⟩
    · exact .inl ⟨by omega, hu⟩
    · exact .inr (.inl ⟨by omega, hu⟩)
    · exact .inr (.inr ⟨by omega, hu⟩)

section
variable {H : Type} {enc : TypeId × Value → H} {P : Program} {w : World} {base : Nat} {spare : Nat → Bool} {held : Bool}

theorem com_weights {t : TypeId} {f0 f1 f2 : Field} {x0 x1 d : DataW H} {n : Nat} (hu : P.underlying t = some (.struct #[f0, f1, f2])) (hn : n ∈ d.weights P f2.type) : n ∈ (DataW.agg [x0, x1, d]).weights P t := by
  simp only [DataW.weights, hu]
  simp [DataW.weightsEach, hn]

theorem sized_com {ts : List TypeId} {ds : List (DataW H)} (h : (DataW.weightsEach P ts ds).all (· ≤ reachBytes) = true) {j : Nat} {t e : TypeId} {f0 f1 f2 g0 g1 g2 : Field} {l : List Bm.Ov} {x0 x1 d : DataW H} (ht : ts[j]? = some t) (hd : ds[j]? = some (.agg [x0, x1, d])) (hu : P.underlying t = some (.struct #[f0, f1, f2])) (hl : OpsD d l) (h2 : P.underlying f2.type = some (.slice e)) (he : P.underlying e = some (.struct #[g0, g1, g2])) (hb : P.bytesOf e = 40) :
    FitO l ∧ l.length * 40 ≤ 140737488351232 := by
  have hall := List.all_eq_true.1 h
  refine ops_fit (fun n hn => ?_) hl h2 he hb
  exact of_decide_eq_true (hall n (DataW.weights_mem_each ht hd n (com_weights hu hn)))

/-- A commit of a list as a datum. -/
def ComD (d : DataW H) (c : Cw) : Prop := ∃ x0 x1 d2, d = .agg [x0, x1, d2] ∧ OpsD d2 c.l

theorem open_coms {t e o : TypeId} {f0 f1 f2 g0 g1 g2 : Field} {fuel : Nat} {v : Value} {x : DataW H × List MemPlace} (ht : P.underlying t = some (.slice e)) (he : P.underlying e = some (.struct #[f0, f1, f2]))
    (hone : oneCellFields P #[f0, f1, f2] = true) (ce : P.cellsOf e = 3) (u0 : P.underlying f0.type = some (.int .i64)) (u1 : P.underlying f1.type = some (.int .i64)) (u2 : P.underlying f2.type = some (.slice o))
    (ho : P.underlying o = some (.struct #[g0, g1, g2])) (hone' : oneCellFields P #[g0, g1, g2] = true) (co : P.cellsOf o = 3) (k0 : P.underlying g0.type = some .bool) (k1 : P.underlying g1.type = some .string) (k2 : P.underlying g2.type = some .string)
    (h : DataW.trod enc P w base spare held fuel t [v] = some x) : ∃ r : List Cw, IsC w v r ∧ ((x.1 = .nil ∧ r = []) ∨ ∃ ds sp, x.1 = .slice ds sp ∧ ds.length = r.length ∧ ∀ (i : Nat) (c : Cw), r[i]? = some c → ∃ d, ds[i]? = some d ∧ ComD d c) := by
  rcases open_slice ht h with ⟨hv, hx⟩ | ⟨a, len, cap, m, n, D, Pl, hv, hb, hl, hm, hmm, rfl, hx⟩
  · simp at hv
    subst hv hx
    exact ⟨[], IsC.nil _, .inl ⟨rfl, rfl⟩⟩
  · simp at hv
    subst hv
    have hlm : len ≤ m := by rw [hmm]; split <;> omega
    obtain ⟨o0, c0⟩ := hone_of hone 0 f0 rfl
    obtain ⟨o1, c1⟩ := hone_of hone 1 f1 rfl
    obtain ⟨o2, c2⟩ := hone_of hone 2 f2 rfl
    have each : ∀ i, i < len → ∃ c : Cw, (w.cell? (a.add (i * 3)) = some (.int .i64 c.e) ∧ w.cell? (a.add (i * 3 + 1)) = some (.int .i64 c.n) ∧ w.cell? (a.add (i * 3 + 2)) = some c.v) ∧ (IsO w c.v c.l ∧ In64 c.e ∧ In64 c.n) ∧ ComD (D i) c := by
      intro i hi
      obtain ⟨cs', h1, h2⟩ := hx i (by omega)
      rw [ce] at h1
      obtain ⟨_, hlen, hcell⟩ := World.cells?_some h1
      obtain ⟨y0, y1, y2, k, hxy, _, q0, q1, q2⟩ := trod_struct3 he h2
      match cs', hlen with
      | [v0, v1, v2], _ =>
        simp [o0, o1, o2, c0, c1, c2] at q0 q1 q2
        obtain ⟨p, hp, rfl, wp⟩ := DataW.trod_int u0 q0
        obtain ⟨s, hs, rfl, ws⟩ := DataW.trod_int u1 q1
        obtain ⟨l, hl2, hd2⟩ := open_ops u2 ho hone' co k0 k1 k2 q2
        simp at hp hs
        subst hp hs
        have e0 := hcell 0 (by omega)
        have e1 := hcell 1 (by omega)
        have e2 := hcell 2 (by omega)
        rw [Go.Deep.add_add] at e0 e1 e2
        simp only [Prod.mk.injEq] at hxy
        exact ⟨⟨p, s, v2, l⟩, ⟨by simpa using e0, by simpa using e1, by simpa using e2⟩, ⟨hl2, in64 wp, in64 ws⟩, _, _, _, hxy.1, hd2⟩
    have : Inhabited Cw := ⟨⟨0, 0, .slice none 0 0, []⟩⟩
    obtain ⟨f, hf⟩ := choose_lt each
    refine ⟨(List.range len).map f, ⟨.inr ⟨a, cap, by simp, by simpa using hl, hm, fun j u hj => ?_⟩, fun c hc => ?_⟩, .inr ⟨(List.range len).map D, (List.range (m - len)).map fun j => D (len + j), ?_, by simp, fun i c hic => ?_⟩⟩
    · obtain ⟨i, o, ho, hc⟩ := ccells_inv _ j u hj
      obtain ⟨hi, e⟩ := List.getElem?_eq_some_iff.1 ho
      simp at hi e
      obtain ⟨⟨k0, k1, k2⟩, _⟩ := hf i hi
      subst e
      rcases hc with ⟨rfl, rfl⟩ | ⟨rfl, rfl⟩ | ⟨rfl, rfl⟩
      · exact k0
      · exact k1
      · exact k2
    · obtain ⟨i, hi, rfl⟩ := List.mem_map.1 hc
      exact (hf i (by simpa using hi)).2.1
    · rfl
    · obtain ⟨hi, e⟩ := List.getElem?_eq_some_iff.1 hic
      simp at hi e
      subst e
      exact ⟨D i, by simp [hi], (hf i hi).2.2⟩

theorem sized_coms {ts : List TypeId} {ds : List (DataW H)} (h : (DataW.weightsEach P ts ds).all (· ≤ reachBytes) = true) {j : Nat} {t e o : TypeId} {f0 f1 f2 g0 g1 g2 : Field} {r : List Cw} {es sp : List (DataW H)} (ht : ts[j]? = some t) (hd : ds[j]? = some (.slice es sp)) (hlen : es.length = r.length) (hr : ∀ (i : Nat) (c : Cw), r[i]? = some c → ∃ d, es[i]? = some d ∧ ComD d c)
    (hu : P.underlying t = some (.slice e)) (he : P.underlying e = some (.struct #[f0, f1, f2])) (hb : P.bytesOf e = 40) (h2 : P.underlying f2.type = some (.slice o)) (ho : P.underlying o = some (.struct #[g0, g1, g2])) (hbo : P.bytesOf o = 40) :
    FitC r ∧ r.length * 40 ≤ 140737488351232 := by
  have hall := List.all_eq_true.1 h
  refine ⟨fun c hc => ?_, ?_⟩
  · obtain ⟨i, hi⟩ := List.getElem?_of_mem hc
    obtain ⟨d, hd1, x0, x1, d2, rfl, hd2⟩ := hr i c hi
    refine ops_fit (fun n hn => ?_) hd2 h2 ho hbo
    exact of_decide_eq_true (hall n (DataW.weights_mem_each ht hd n (by
      simp only [DataW.weights, hu]
      exact List.mem_cons_of_mem _ (List.mem_append_left _ (weights_all (List.mem_of_getElem? hd1) (com_weights he hn))))))
  · have := sized_slice h ht hd hu
    rw [hb] at this
    simp only [reachBytes] at this
    omega

end

end Go.Proofs.Ytkpnkknolobioaa
