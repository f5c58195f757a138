/- The contracts of Check and Encode (the program's). -/
import Derived.Test.YthndeolibilnnaaDoorQc
namespace Go.Proofs.YthndeolibilnnaaDoor
open Go.RowKit
set_option linter.unusedVariables false

/-- What Check's three tests come to. -/
theorem chk_three (x : Pm.Pg) : (x.e < 1 → Pm.chk x = 2) ∧ (¬ Up x 6 → Pm.chk x = 2) ∧ (¬ Pm.Own x → Pm.chk x = 2) ∧ (¬ x.e < 1 → Up x 6 → Pm.Own x → Pm.chk x = 0) := by
  refine ⟨fun h => Pm.chk_no fun ho => ?_, fun h => Pm.chk_no fun ho => h ?_, fun h => Pm.chk_no fun ho => h ho.2, fun h1 h2 h3 => Pm.chk_ok ⟨?_, h3⟩⟩
  · have := Pm.ok_nums ho; omega
  · have := Pm.ok_nums ho
    intro i hi
    obtain rfl | rfl | rfl | rfl | rfl | rfl : i = 0 ∨ i = 1 ∨ i = 2 ∨ i = 3 ∨ i = 4 ∨ i = 5 := by omega
    all_goals simp [Pm.nums, mst]; omega
  · have := up_six h2
    unfold Pm.Bnd
    omega

set_option maxHeartbeats 1000000 in
theorem pgcheck_any (x : Pm.Pg) (w : World) (hx : FitP x) (hm : Mst w) :
    Calls Tryd.prog 31 #[vp x] w fun E w' => E = .returned (.int .i64 (Pm.chk x)) ∧ Below w.heap.size w w' := by
  obtain ⟨t1, t2, t3, t4⟩ := chk_three x
  obtain ⟨w1, hw1, sz1, bel1, hB⟩ := blk_step w #[.int .i64 x.e, .int .u8 x.r, .int .i64 x.a, .int .u8 x.p, .int .i64 x.f, .int .i64 x.b] 25
  have HV : Hid (vp x = .agg #[.int .i64 x.e, .int .u8 x.r, .int .i64 x.a, .int .u8 x.p, .int .i64 x.f, .int .i64 x.b]) := rfl
  obtain ⟨c0, c1, c2, c3, c4, c5⟩ := six_of hB
  have HB := hide hB
  have HM := hide (hm.below bel1)
  have g := hx
  obtain ⟨ch, hch⟩ : ∃ c, Pm.chk x = c := ⟨_, rfl⟩
  rw [hch] at t1 t2 t3 t4 ⊢
  have T1 := hide t1; have T2 := hide t2; have T3 := hide t3; have T4 := hide t4
  rw [HV.out]
  clear hB hm hch t1 t2 t3 t4
  obtain ⟨g1, g2, g3, g4, g5, g6, g7, g8, g9, g10, g11, g12⟩ := g
  have HX := hide hx
  clear hx
  go_enter Tryd.func31, Tryd.ntmps31
  by_cases h1 : x.e < 1
  · have q := T1.out h1
    subst q
    clear T1 T2 T3 T4
    go_wp2
    go_ret
    exact ⟨rfl, bel1⟩
  go_wp2_with fail
  refine (numbersOf_any x _ HX.out).mono ?_
  rintro E w2 ⟨rfl, bel2⟩
  have sz2 := bel2.size
  have hB2 := (bel2.block _ (by omega)).trans HB.out
  have HM2 := hide (HM.out.below bel2)
  have bel02 := bel1.trans (bel2.mono (by omega))
  have HB2 := hide hB2
  clear HB HM hB2 c0 c1 c2 c3 c4 c5
  go_wp2_with fail
  refine (inBounds_any x _ HX.out HM2.out).mono ?_
  rintro E w3 ⟨rfl, bel3⟩
  have sz3 := bel3.size
  have hB3 := (bel3.block _ (by omega)).trans HB2.out
  have bel03 := bel02.trans (bel3.mono (by omega))
  obtain ⟨c0, c1, c2, c3, c4, c5⟩ := six_of hB3
  clear HB2 hB3 bel1 bel2 bel3 bel02
  by_cases h2 : Up x 6
  · rw [upx_iff.2 h2]
    have H2 := hide h2
    clear h2
    go_wp2_with fail
    refine (hasItsOwn_any x _ HX.out).mono ?_
    rintro E w4 ⟨rfl, bel4⟩
    have bel04 := bel03.trans (bel4.mono (by omega))
    by_cases h3 : Pm.Own x
    · rw [decide_eq_true h3]
      have q := T4.out h1 H2.out h3
      subst q
      clear h3 T1 T2 T3 T4
      go_wp2
      go_ret
      exact ⟨rfl, bel04⟩
    · rw [decide_eq_false h3]
      have q := T3.out h3
      subst q
      clear h3 T1 T2 T3 T4
      go_wp2
      go_ret
      exact ⟨rfl, bel04⟩
  · rw [upx_no h2]
    have q := T2.out h2
    subst q
    clear h2 T1 T2 T3 T4
    go_wp2
    go_ret
    exact ⟨rfl, bel03⟩

end Go.Proofs.YthndeolibilnnaaDoor
