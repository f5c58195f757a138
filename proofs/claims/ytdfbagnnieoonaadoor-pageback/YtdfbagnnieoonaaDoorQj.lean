/- The contract of the document's Encode. -/
import Derived.Test.YtdfbagnnieoonaaDoorQi
import Derived.Test.YtdfbagnnieoonaaDoorQe
import Derived.Test.YtdfbagnnieoonaaDoorFf
namespace Go.Proofs.YtdfbagnnieoonaaDoor
open Go.RowKit
set_option linter.unusedVariables false

set_option maxRecDepth 100000 in
set_option maxHeartbeats 2000000 in
theorem encodeR_any (x : Pm.Pg) (w : World) (hx : FitP x) :
    Calls Tryd.prog 15 #[vp x] w fun E w' => ∃ vb, E = .returned (.tuple #[vb, .int .i64 (Pm.chk x)]) ∧ Own .u8 5 w.heap.size w' vb (outP x) ∧ Below w.heap.size w w' := by
  obtain ⟨w1, hw1, sz1, bel1, hB⟩ := blk_step w #[.int .i64 x.e, .int .u8 x.r, .int .i64 x.a, .int .u8 x.p, .int .i64 x.f, .int .i64 x.b] 25
  have HV : Hid (vp x = .agg #[.int .i64 x.e, .int .u8 x.r, .int .i64 x.a, .int .u8 x.p, .int .i64 x.f, .int .i64 x.b]) := rfl
  obtain ⟨c0, c1, c2, c3, c4, c5⟩ := six_of hB
  have HB := hide hB
  have HX := hide hx
  have e1 := wrap_u8i x.r hx.2.2.1 hx.2.2.2.1
  have e2 := wrap_u8i x.p hx.2.2.2.2.2.2.1 hx.2.2.2.2.2.2.2.1
  rw [HV.out]
  clear hB hx
  go_enter Tryd.func15, Tryd.ntmps15
  go_wp2_with fail
  refine (checkR_any x _ HX.out).mono ?_
  rintro E w2 ⟨rfl, bel2⟩
  have sz2 := bel2.size
  have hB2 := (bel2.block _ (by omega)).trans HB.out
  have bel02 := bel1.trans (bel2.mono (by omega))
  obtain ⟨d0, d1, d2, d3, d4, d5⟩ := six_of hB2
  clear HB hB2 c0 c1 c2 c3 c4 c5 bel1 bel2
  by_cases ho : Pm.Ok x
  · rw [Pm.chk_ok ho]
    have g := Pm.ok_nums ho
    obtain ⟨g1, g2, g3, g4, g5, g6, g7, g8, g9, g10, g11, g12⟩ := g
    have HO := hide ho
    obtain ⟨w3, hw3, sz3, bel3, hN⟩ := blk_step w2 #[.int .i64 x.e, .int .i64 x.r, .int .i64 x.a, .int .i64 x.p, .int .i64 x.f, .int .i64 x.b] 3
    have bel03 := bel02.trans (bel3.mono (by omega))
    have HN := hide hN
    clear ho hN bel3
    go_wp2
    go_loopw [6, 7] (fun bb kk wr => ∃ k : Nat, k ≤ 6 ∧ kk = .int .i64 k ∧ Own .u8 5 w.heap.size wr bb (Pm.encs ((Pm.nums x).take k)) ∧ Below w.heap.size w wr ∧ w3.heap.size ≤ wr.heap.size ∧ Hid (wr.heap[w2.heap.size]? = some (.cells #[.int .i64 x.e, .int .i64 x.r, .int .i64 x.a, .int .i64 x.p, .int .i64 x.f, .int .i64 x.b] 3 (0, 0)))) (fun _ kk _ => 7 - (intOf kk).toNat)
    case atStart => exact ⟨0, by omega, rfl, Own.nil _ _ _ _, bel03, Nat.le_refl _, HN⟩
    case round =>
      obtain ⟨k, hk, rfl, own, belr, szr, HR⟩ := hrel
      obtain ⟨q0, q1, q2, q3, q4, q5⟩ := six_of HR.out
      clear d0 d1 d2 d3 d4 d5 HN bel03 bel02 hw3
      rcases (show k = 0 ∨ k = 1 ∨ k = 2 ∨ k = 3 ∨ k = 4 ∨ k = 5 ∨ k = 6 by omega) with rfl | rfl | rfl | rfl | rfl | rfl | rfl
      · have hln := encs_take_len HO.out 0
        go_wp2_with fail
        refine (putR_any _ _ x.e _ own.is (by omega) (by omega) (by omega)).mono ?_
        rintro E w4 ⟨v4, rfl, own4, bel4⟩
        have e : Pm.encs ((Pm.nums x).take 0) ++ Vm.enc x.e.toNat = Pm.encs ((Pm.nums x).take 1) := encs_take (Pm.nums x) 0 (by simp [Pm.nums])
        rw [e] at own4
        have sz4 := bel4.size
        have own5 := own4.rebase (base' := w.heap.size) (by omega)
        have bel5 := belr.trans (bel4.mono (by omega))
        have HR5 := hide ((bel4.block _ (blk_lt HR.out)).trans HR.out)
        clear own own4 e bel4 q0 q1 q2 q3 q4 q5 HR
        go_wp2
        go_roundw
        case rel => exact ⟨1, by omega, rfl, own5, bel5, by omega, HR5⟩
        case measure => simp [intOf]
      · have hln := encs_take_len HO.out 1
        go_wp2_with fail
        refine (putR_any _ _ x.r _ own.is (by omega) (by omega) (by omega)).mono ?_
        rintro E w4 ⟨v4, rfl, own4, bel4⟩
        have e : Pm.encs ((Pm.nums x).take 1) ++ Vm.enc x.r.toNat = Pm.encs ((Pm.nums x).take 2) := encs_take (Pm.nums x) 1 (by simp [Pm.nums])
        rw [e] at own4
        have sz4 := bel4.size
        have own5 := own4.rebase (base' := w.heap.size) (by omega)
        have bel5 := belr.trans (bel4.mono (by omega))
        have HR5 := hide ((bel4.block _ (blk_lt HR.out)).trans HR.out)
        clear own own4 e bel4 q0 q1 q2 q3 q4 q5 HR
        go_wp2
        go_roundw
        case rel => exact ⟨2, by omega, rfl, own5, bel5, by omega, HR5⟩
        case measure => simp [intOf]
      · have hln := encs_take_len HO.out 2
        go_wp2_with fail
        refine (putR_any _ _ x.a _ own.is (by omega) (by omega) (by omega)).mono ?_
        rintro E w4 ⟨v4, rfl, own4, bel4⟩
        have e : Pm.encs ((Pm.nums x).take 2) ++ Vm.enc x.a.toNat = Pm.encs ((Pm.nums x).take 3) := encs_take (Pm.nums x) 2 (by simp [Pm.nums])
        rw [e] at own4
        have sz4 := bel4.size
        have own5 := own4.rebase (base' := w.heap.size) (by omega)
        have bel5 := belr.trans (bel4.mono (by omega))
        have HR5 := hide ((bel4.block _ (blk_lt HR.out)).trans HR.out)
        clear own own4 e bel4 q0 q1 q2 q3 q4 q5 HR
        go_wp2
        go_roundw
        case rel => exact ⟨3, by omega, rfl, own5, bel5, by omega, HR5⟩
        case measure => simp [intOf]
      · have hln := encs_take_len HO.out 3
        go_wp2_with fail
        refine (putR_any _ _ x.p _ own.is (by omega) (by omega) (by omega)).mono ?_
        rintro E w4 ⟨v4, rfl, own4, bel4⟩
        have e : Pm.encs ((Pm.nums x).take 3) ++ Vm.enc x.p.toNat = Pm.encs ((Pm.nums x).take 4) := encs_take (Pm.nums x) 3 (by simp [Pm.nums])
        rw [e] at own4
        have sz4 := bel4.size
        have own5 := own4.rebase (base' := w.heap.size) (by omega)
        have bel5 := belr.trans (bel4.mono (by omega))
        have HR5 := hide ((bel4.block _ (blk_lt HR.out)).trans HR.out)
        clear own own4 e bel4 q0 q1 q2 q3 q4 q5 HR
        go_wp2
        go_roundw
        case rel => exact ⟨4, by omega, rfl, own5, bel5, by omega, HR5⟩
        case measure => simp [intOf]
      · have hln := encs_take_len HO.out 4
        go_wp2_with fail
        refine (putR_any _ _ x.f _ own.is (by omega) (by omega) (by omega)).mono ?_
        rintro E w4 ⟨v4, rfl, own4, bel4⟩
        have e : Pm.encs ((Pm.nums x).take 4) ++ Vm.enc x.f.toNat = Pm.encs ((Pm.nums x).take 5) := encs_take (Pm.nums x) 4 (by simp [Pm.nums])
        rw [e] at own4
        have sz4 := bel4.size
        have own5 := own4.rebase (base' := w.heap.size) (by omega)
        have bel5 := belr.trans (bel4.mono (by omega))
        have HR5 := hide ((bel4.block _ (blk_lt HR.out)).trans HR.out)
        clear own own4 e bel4 q0 q1 q2 q3 q4 q5 HR
        go_wp2
        go_roundw
        case rel => exact ⟨5, by omega, rfl, own5, bel5, by omega, HR5⟩
        case measure => simp [intOf]
      · have hln := encs_take_len HO.out 5
        go_wp2_with fail
        refine (putR_any _ _ x.b _ own.is (by omega) (by omega) (by omega)).mono ?_
        rintro E w4 ⟨v4, rfl, own4, bel4⟩
        have e : Pm.encs ((Pm.nums x).take 5) ++ Vm.enc x.b.toNat = Pm.encs ((Pm.nums x).take 6) := encs_take (Pm.nums x) 5 (by simp [Pm.nums])
        rw [e] at own4
        have sz4 := bel4.size
        have own5 := own4.rebase (base' := w.heap.size) (by omega)
        have bel5 := belr.trans (bel4.mono (by omega))
        have HR5 := hide ((bel4.block _ (blk_lt HR.out)).trans HR.out)
        clear own own4 e bel4 q0 q1 q2 q3 q4 q5 HR
        go_wp2
        go_roundw
        case rel => exact ⟨6, by omega, rfl, own5, bel5, by omega, HR5⟩
        case measure => simp [intOf]
      · go_wp2
        go_ret2
        exact ⟨_, by rw [Pm.chk_ok HO.out]; rfl, by rw [out_ok HO.out]; exact own, belr⟩
  · rw [Pm.chk_no ho]
    have HO := hide ho
    clear ho
    go_wp2
    go_ret2
    exact ⟨_, by rw [Pm.chk_no HO.out]; rfl, by rw [out_no HO.out]; exact Own.nil _ _ _ _, bel02⟩

end Go.Proofs.YtdfbagnnieoonaaDoor
