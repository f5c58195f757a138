/- The contract of Encode (the program's). -/
import Derived.Test.YtdfbagnnieoonaaDoorQd
namespace Go.Proofs.YtdfbagnnieoonaaDoor
open Go.RowKit
set_option linter.unusedVariables false

/-- What Encode's bytes are. -/
def outP (x : Pm.Pg) : List Int := if Pm.Ok x then Pm.enc x else []

theorem out_ok {x : Pm.Pg} (h : Pm.Ok x) : outP x = Pm.enc x := if_pos h
theorem out_no {x : Pm.Pg} (h : ¬ Pm.Ok x) : outP x = [] := if_neg h

theorem encs_take (l : List Int) (k : Nat) (h : k < l.length) : Pm.encs (l.take k) ++ Vm.enc (l.getD k 0).toNat = Pm.encs (l.take (k + 1)) := by
  rw [List.take_succ_eq_append_getElem h, Pm.encs_app, List.getD_eq_getElem?_getD, List.getElem?_eq_getElem h]
  simp [Pm.encs]

theorem encs_take_len {x : Pm.Pg} (h : Pm.Ok x) (k : Nat) : (Pm.encs ((Pm.nums x).take k)).length ≤ 60 := by
  have h1 := Pm.enc_len h
  have h2 : Pm.nums x = (Pm.nums x).take k ++ (Pm.nums x).drop k := (List.take_append_drop _ _).symm
  unfold Pm.enc at h1
  rw [h2, Pm.encs_app, List.length_append] at h1
  omega

theorem wrap_u64i (z : Int) (h0 : 0 ≤ z) (h1 : z < 9223372036854775808) : IntKind.u64.wrap z = z := by
  rw [IntKind.wrap_u64]; omega

set_option maxHeartbeats 1000000 in
theorem encode_any (x : Pm.Pg) (w : World) (hx : FitP x) (hm : Mst w) :
    Calls Tryd.prog 14 #[vp x] w fun E w' => ∃ vb, E = .returned (.tuple #[vb, .int .i64 (Pm.chk x)]) ∧ Own .u8 5 w.heap.size w' vb (outP x) ∧ Below w.heap.size w w' := by
  obtain ⟨w1, hw1, sz1, bel1, hB⟩ := blk_step w #[.int .i64 x.e, .int .u8 x.r, .int .i64 x.a, .int .u8 x.p, .int .i64 x.f, .int .i64 x.b] 25
  have HV : Hid (vp x = .agg #[.int .i64 x.e, .int .u8 x.r, .int .i64 x.a, .int .u8 x.p, .int .i64 x.f, .int .i64 x.b]) := rfl
  obtain ⟨c0, c1, c2, c3, c4, c5⟩ := six_of hB
  have HB := hide hB
  have HM := hide (hm.below bel1)
  have HX := hide hx
  rw [HV.out]
  clear hB hm hx
  go_enter Tryd.func14, Tryd.ntmps14
  go_wp2_with fail
  refine (check_any x _ HX.out HM.out).mono ?_
  rintro E w2 ⟨rfl, bel2⟩
  have sz2 := bel2.size
  have hB2 := (bel2.block _ (by omega)).trans HB.out
  have bel02 := bel1.trans (bel2.mono (by omega))
  obtain ⟨d0, d1, d2, d3, d4, d5⟩ := six_of hB2
  clear HB HM hB2 c0 c1 c2 c3 c4 c5 bel1 bel2
  by_cases ho : Pm.Ok x
  · rw [Pm.chk_ok ho]
    have g := Pm.ok_nums ho
    obtain ⟨g1, g2, g3, g4, g5, g6, g7, g8, g9, g10, g11, g12⟩ := g
    have HO := hide ho
    clear ho
    go_wp2_with fail
    refine (numbersOf_any x _ HX.out).mono ?_
    rintro E w3 ⟨rfl, bel3⟩
    have sz3 := bel3.size
    have bel03 := bel02.trans (bel3.mono (by omega))
    have HN : Hid (vn x = .agg #[.int .i64 x.e, .int .i64 x.r, .int .i64 x.a, .int .i64 x.p, .int .i64 x.f, .int .i64 x.b]) := rfl
    rw [HN.out]
    clear d0 d1 d2 d3 d4 d5 bel02 bel3
    go_wp2
    go_loopw [5, 15] (fun bb kk wr => ∃ k : Nat, k ≤ 6 ∧ kk = .int .i64 k ∧ Own .u8 5 w.heap.size wr bb (Pm.encs ((Pm.nums x).take k)) ∧ Below w.heap.size w wr) (fun _ kk _ => 7 - (intOf kk).toNat)
    case atStart => exact ⟨0, by omega, rfl, Own.nil _ _ _ _, bel03⟩
    case round =>
      obtain ⟨k, hk, rfl, own, belr⟩ := hrel
      have szr := belr.size
      rcases (show k = 0 ∨ k = 1 ∨ k = 2 ∨ k = 3 ∨ k = 4 ∨ k = 5 ∨ k = 6 by omega) with rfl | rfl | rfl | rfl | rfl | rfl | rfl
      · have hix := Tryd.idx0 x.e x.r x.a x.p x.f x.b
        have hwr := wrap_u64i x.e (by omega) (by omega)
        have hln := encs_take_len HO.out 0
        go_wp2_with fail
        refine (app_any _ _ x.e _ own.is (by omega) (by omega) (by omega)).mono ?_
        rintro E w4 ⟨v4, rfl, own4, bel4⟩
        have e : Pm.encs ((Pm.nums x).take 0) ++ Vm.enc x.e.toNat = Pm.encs ((Pm.nums x).take 1) := encs_take (Pm.nums x) 0 (by simp [Pm.nums])
        rw [e] at own4
        have own5 := own4.rebase (base' := w.heap.size) (by omega)
        have bel5 := belr.trans (bel4.mono (by omega))
        clear own own4 e bel4
        go_wp2
        go_roundw
        case rel => exact ⟨1, by omega, rfl, own5, bel5⟩
        case measure => simp [intOf]
      · have hix := Tryd.idx1 x.e x.r x.a x.p x.f x.b
        have hwr := wrap_u64i x.r (by omega) (by omega)
        have hln := encs_take_len HO.out 1
        go_wp2_with fail
        refine (app_any _ _ x.r _ own.is (by omega) (by omega) (by omega)).mono ?_
        rintro E w4 ⟨v4, rfl, own4, bel4⟩
        have e : Pm.encs ((Pm.nums x).take 1) ++ Vm.enc x.r.toNat = Pm.encs ((Pm.nums x).take 2) := encs_take (Pm.nums x) 1 (by simp [Pm.nums])
        rw [e] at own4
        have own5 := own4.rebase (base' := w.heap.size) (by omega)
        have bel5 := belr.trans (bel4.mono (by omega))
        clear own own4 e bel4
        go_wp2
        go_roundw
        case rel => exact ⟨2, by omega, rfl, own5, bel5⟩
        case measure => simp [intOf]
      · have hix := Tryd.idx2 x.e x.r x.a x.p x.f x.b
        have hwr := wrap_u64i x.a (by omega) (by omega)
        have hln := encs_take_len HO.out 2
        go_wp2_with fail
        refine (app_any _ _ x.a _ own.is (by omega) (by omega) (by omega)).mono ?_
        rintro E w4 ⟨v4, rfl, own4, bel4⟩
        have e : Pm.encs ((Pm.nums x).take 2) ++ Vm.enc x.a.toNat = Pm.encs ((Pm.nums x).take 3) := encs_take (Pm.nums x) 2 (by simp [Pm.nums])
        rw [e] at own4
        have own5 := own4.rebase (base' := w.heap.size) (by omega)
        have bel5 := belr.trans (bel4.mono (by omega))
        clear own own4 e bel4
        go_wp2
        go_roundw
        case rel => exact ⟨3, by omega, rfl, own5, bel5⟩
        case measure => simp [intOf]
      · have hix := Tryd.idx3 x.e x.r x.a x.p x.f x.b
        have hwr := wrap_u64i x.p (by omega) (by omega)
        have hln := encs_take_len HO.out 3
        go_wp2_with fail
        refine (app_any _ _ x.p _ own.is (by omega) (by omega) (by omega)).mono ?_
        rintro E w4 ⟨v4, rfl, own4, bel4⟩
        have e : Pm.encs ((Pm.nums x).take 3) ++ Vm.enc x.p.toNat = Pm.encs ((Pm.nums x).take 4) := encs_take (Pm.nums x) 3 (by simp [Pm.nums])
        rw [e] at own4
        have own5 := own4.rebase (base' := w.heap.size) (by omega)
        have bel5 := belr.trans (bel4.mono (by omega))
        clear own own4 e bel4
        go_wp2
        go_roundw
        case rel => exact ⟨4, by omega, rfl, own5, bel5⟩
        case measure => simp [intOf]
      · have hix := Tryd.idx4 x.e x.r x.a x.p x.f x.b
        have hwr := wrap_u64i x.f (by omega) (by omega)
        have hln := encs_take_len HO.out 4
        go_wp2_with fail
        refine (app_any _ _ x.f _ own.is (by omega) (by omega) (by omega)).mono ?_
        rintro E w4 ⟨v4, rfl, own4, bel4⟩
        have e : Pm.encs ((Pm.nums x).take 4) ++ Vm.enc x.f.toNat = Pm.encs ((Pm.nums x).take 5) := encs_take (Pm.nums x) 4 (by simp [Pm.nums])
        rw [e] at own4
        have own5 := own4.rebase (base' := w.heap.size) (by omega)
        have bel5 := belr.trans (bel4.mono (by omega))
        clear own own4 e bel4
        go_wp2
        go_roundw
        case rel => exact ⟨5, by omega, rfl, own5, bel5⟩
        case measure => simp [intOf]
      · have hix := Tryd.idx5 x.e x.r x.a x.p x.f x.b
        have hwr := wrap_u64i x.b (by omega) (by omega)
        have hln := encs_take_len HO.out 5
        go_wp2_with fail
        refine (app_any _ _ x.b _ own.is (by omega) (by omega) (by omega)).mono ?_
        rintro E w4 ⟨v4, rfl, own4, bel4⟩
        have e : Pm.encs ((Pm.nums x).take 5) ++ Vm.enc x.b.toNat = Pm.encs ((Pm.nums x).take 6) := encs_take (Pm.nums x) 5 (by simp [Pm.nums])
        rw [e] at own4
        have own5 := own4.rebase (base' := w.heap.size) (by omega)
        have bel5 := belr.trans (bel4.mono (by omega))
        clear own own4 e bel4
        go_wp2
        go_roundw
        case rel => exact ⟨6, by omega, rfl, own5, bel5⟩
        case measure => simp [intOf]
      · go_wp2
        go_ret2
        exact ⟨_, by rw [Pm.chk_ok HO.out]; rfl, by rw [out_ok HO.out]; exact own, belr⟩
  · rw [Pm.chk_no ho]
    have HO := hide ho
    clear ho
    go_wp2
    go_ret2
    exact ⟨_, by rw [Pm.chk_no HO.out]; rfl, by rw [out_no HO.out]; exact Own.nil _ _ _ _, bel02⟩

end Go.Proofs.YtdfbagnnieoonaaDoor
