/- The statements' own: lives. -/
import Derived.Test.YtdfbagnnieoonaaDoorQl
import Derived.Test.YtdfbagnnieoonaaDoorFe
namespace Go.Proofs.YtdfbagnnieoonaaDoor
open Go.RowKit
set_option linter.unusedVariables false

theorem ok_a : Pm.Ok ⟨3, 1, 7, 0, 0, 0⟩ := by unfold Pm.Ok Pm.Bnd Pm.Own; simp
theorem ok_b : Pm.Ok ⟨2, 1, 4, 0, 0, 0⟩ := by unfold Pm.Ok Pm.Bnd Pm.Own; simp
theorem enc_a : Pm.enc ⟨3, 1, 7, 0, 0, 0⟩ = [3, 1, 7, 0, 0, 0] := by simp [Pm.enc, Pm.nums, Pm.encs, Vm.enc_lo]
theorem enc_b : Pm.enc ⟨2, 1, 4, 0, 0, 0⟩ = [2, 1, 4, 0, 0, 0] := by simp [Pm.enc, Pm.nums, Pm.encs, Vm.enc_lo]

theorem last_ex : LRes [6, 2, 1, 4, 0, 0, 0, 6, 2] 0 ⟨2, 1, 4, 0, 0, 0⟩ 7 0 := by
  refine .inl ⟨rfl, rfl, [⟨2, 1, 4, 0, 0, 0⟩], ?_, ?_, ?_, rfl, ?_⟩
  · intro y hy
    simp at hy
    subst hy
    exact ok_b
  · simp [Fm.cat, enc_b, frm_lo]
  · simp [Fm.cat, enc_b, frm_lo]
  · intro y hy
    exact no_frame (c := 6) (bs := [2]) (by omega) (by omega) (by simp) _

theorem same_nil {a b : Bool} (h : a = b) : Value.bool a = .bool b := by rw [h]

set_option maxRecDepth 100000 in
set_option maxHeartbeats 2000000 in
theorem lives_any (w : World) (hm : Mst w) : Calls Tryd.prog 12 #[] w fun E w' => E = .returned (.bool true) ∧ Below w.heap.size w w' := by
  have C1 := hide (encode_any ⟨3, 1, 7, 0, 0, 0⟩ w (fit_ok ok_a) hm)
  have HM := hide hm
  clear hm
  go_enter Tryd.func12, Tryd.ntmps12
  go_wp2_with fail
  refine C1.out.mono ?_
  rintro E w1 ⟨vb, rfl, own1, bel1⟩
  rw [Pm.chk_ok ok_a]
  rw [out_ok ok_a, enc_a] at own1
  have sz1 := bel1.size
  obtain ⟨w2, hw2, sz2, bel2, own2⟩ := own_step .u8 5 w1 #[.int .u8 6, .int .u8 2, .int .u8 1, .int .u8 4, .int .u8 0, .int .u8 0, .int .u8 0, .int .u8 6, .int .u8 2] 9 [6, 2, 1, 4, 0, 0, 0, 6, 2] rfl rfl (by simp [maxLen]) (by decide)
  have bel02 := bel1.trans (bel2.mono (by omega))
  have C2 := hide (last_any _ [6, 2, 1, 4, 0, 0, 0, 6, 2] 0 w2 own2.is (by simp) (HM.out.below bel02))
  have O1 := hide (own1.below bel2)
  clear C1 own1 own2 bel1 bel2
  go_wp2_with fail
  refine C2.out.mono ?_
  rintro E w3 ⟨y, n, e, rfl, LR, fit, bel3⟩
  obtain ⟨hy, hn, he⟩ := lres_one LR.out last_ex
  subst hy hn he
  have sz3 := bel3.size
  have bel03 := bel02.trans (bel3.mono (by omega))
  have HV : Hid (vp ⟨2, 1, 4, 0, 0, 0⟩ = .agg #[.int .i64 2, .int .u8 1, .int .i64 4, .int .u8 0, .int .i64 0, .int .i64 0]) := rfl
  rw [HV.out]
  obtain ⟨w4, hw4', hw4, sz4, bel4, hP, e0, e1, e2, e3, e4, e5⟩ := new6 w3 25 (.int .i64 0) (.int .u8 0) (.int .i64 0) (.int .u8 0) (.int .i64 0) (.int .i64 0) (.int .i64 2) (.int .u8 1) (.int .i64 4) (.int .u8 0) (.int .i64 0) (.int .i64 0)
  have s3 : w4.setCell ⟨w3.heap.size, 3, none⟩ (.int .u8 0) = w4 := set_same hP (j := 3) rfl
  have s4 : w4.setCell ⟨w3.heap.size, 4, none⟩ (.int .i64 0) = w4 := set_same hP (j := 4) rfl
  have s5 : w4.setCell ⟨w3.heap.size, 5, none⟩ (.int .i64 0) = w4 := set_same hP (j := 5) rfl
  have f3 := blk_froz hP 3; have f4 := blk_froz hP 4; have f5 := blk_froz hP 5
  have bel04 := bel03.trans (bel4.mono (by omega))
  have O4 := (O1.out.below bel3).below bel4
  obtain ⟨w5, hw5, sz5, bel5, own5⟩ := own_step .u8 5 w4 #[.int .u8 3, .int .u8 1, .int .u8 7, .int .u8 0, .int .u8 0, .int .u8 0] 6 [3, 1, 7, 0, 0, 0] rfl rfl (by simp [maxLen]) (by decide)
  have bel05 := bel04.trans (bel5.mono (by omega))
  rw [sz4] at own5
  have C5 := hide (same_yes _ _ [3, 1, 7, 0, 0, 0] [3, 1, 7, 0, 0, 0] w5 (O4.below bel5).is own5.is (by simp) rfl)
  have P5 := hide ((bel5.block _ (blk_lt hP)).trans hP)
  clear C2 O1 O4 LR fit bel02 bel03 bel04 bel3 bel4 bel5 hP own5 hw4' HV
  go_wp2_with fail
  refine C5.out.mono ?_
  rintro E w6 ⟨rfl, bel6⟩
  have sz6 := bel6.size
  obtain ⟨d0, d1, d2, d3, d4, d5⟩ := six_of ((bel6.block _ (blk_lt P5.out)).trans P5.out)
  have bel06 := bel05.trans (bel6.mono (by omega))
  have C6 := hide (samePage_any ⟨2, 1, 4, 0, 0, 0⟩ ⟨2, 1, 4, 0, 0, 0⟩ w6)
  clear C5 P5 bel05 bel6 s3 s4 s5 f3 f4 f5 e0 e1 e2 e3 e4 e5 hw4 hw5
  go_wp2_with fail
  refine C6.out.mono ?_
  rintro E w7 ⟨rfl, bel7⟩
  rw [same_self]
  have bel07 := bel06.trans (bel7.mono (by omega))
  go_wp2
  go_ret
  exact ⟨rfl, bel07⟩

end Go.Proofs.YtdfbagnnieoonaaDoor
