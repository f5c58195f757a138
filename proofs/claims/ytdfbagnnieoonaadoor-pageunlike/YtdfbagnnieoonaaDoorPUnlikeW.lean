/- The walk of PageUnlike. -/
import Derived.Test.YtdfbagnnieoonaaDoorQn
import Derived.Test.YtdfbagnnieoonaaDoorCuth
import Derived.Deep.RegionHeld3
import Derived.Deep.CutRange
namespace Go.Proofs.YtdfbagnnieoonaaDoor
open Go.RowKit
set_option linter.unusedVariables false

theorem cellsU1 {w : World} {g : Nat} {x : Pm.Pg} (h : PgAt w g x) : (w.cell? ⟨g, 0, none⟩ = some (.int .i64 x.e) ∧ w.cell? ⟨g, 1, none⟩ = some (.int .u8 x.r) ∧ w.cell? ⟨g, 2, none⟩ = some (.int .i64 x.a) ∧ w.cell? ⟨g, 3, none⟩ = some (.int .u8 x.p) ∧ w.cell? ⟨g, 4, none⟩ = some (.int .i64 x.f) ∧ w.cell? ⟨g, 5, none⟩ = some (.int .i64 x.b)) :=
  ⟨h.six.c0, h.six.c1, h.six.c2, h.six.c3, h.six.c4, h.six.c5⟩

theorem cellsU {w : World} {g g1 : Nat} {x y : Pm.Pg} (h : PgAt w g x) (h1 : PgAt w g1 y) : (w.cell? ⟨g, 0, none⟩ = some (.int .i64 x.e) ∧ w.cell? ⟨g, 1, none⟩ = some (.int .u8 x.r) ∧ w.cell? ⟨g, 2, none⟩ = some (.int .i64 x.a) ∧ w.cell? ⟨g, 3, none⟩ = some (.int .u8 x.p) ∧ w.cell? ⟨g, 4, none⟩ = some (.int .i64 x.f) ∧ w.cell? ⟨g, 5, none⟩ = some (.int .i64 x.b)) ∧ (w.cell? ⟨g1, 0, none⟩ = some (.int .i64 y.e) ∧ w.cell? ⟨g1, 1, none⟩ = some (.int .u8 y.r) ∧ w.cell? ⟨g1, 2, none⟩ = some (.int .i64 y.a) ∧ w.cell? ⟨g1, 3, none⟩ = some (.int .u8 y.p) ∧ w.cell? ⟨g1, 4, none⟩ = some (.int .i64 y.f) ∧ w.cell? ⟨g1, 5, none⟩ = some (.int .i64 y.b)) :=
  ⟨cellsU1 h, cellsU1 h1⟩

theorem same_cut {x y : Pm.Pg} {m : Nat} (h : Pm.Ok x) (h' : Pm.Ok y) (hm : m = min (Pm.enc x).length (Pm.enc y).length) : decide ((Pm.enc x).take m = (Pm.enc y).take m) = same x y := by
  rw [Bool.eq_iff_iff, decide_eq_true_iff, same_iff, hm]
  exact (Pm.enc_cut h h').symm

theorem min_int (a b : Nat) : (if (b : Int) < (a : Int) then (b : Int) else (a : Int)) = ((min a b : Nat) : Int) := by
  by_cases h : (b : Int) < (a : Int)
  · rw [if_pos h]; omega
  · rw [if_neg h]; omega

set_option maxRecDepth 100000 in
set_option maxHeartbeats 8000000 in
theorem pageUnlike_walk (x y : Pm.Pg) (w : World) (hx : FitP x) (hy : FitP y) (hm : Mst w) :
    Calls Tryd.prog 7 #[vp x, vp y] w fun e w' => e = .returned (.bool true) ∧ Below w.heap.size w w' := by
  have HX := hide hx
  have HY := hide hy
  have HM := hide hm
  have HV : Hid (vp x = .agg #[.int .i64 x.e, .int .u8 x.r, .int .i64 x.a, .int .u8 x.p, .int .i64 x.f, .int .i64 x.b]) := rfl
  have HW : Hid (vp y = .agg #[.int .i64 y.e, .int .u8 y.r, .int .i64 y.a, .int .u8 y.p, .int .i64 y.f, .int .i64 y.b]) := rfl
  rw [HV.out, HW.out]
  obtain ⟨w1, hw1, sz1, bel1, hP0, _, _⟩ := newp w x
  obtain ⟨w2, hw2, sz2, bel2, hP1, _, _⟩ := newp w1 y
  have P0 : Hid (PgAt w2 w.heap.size x) := hide (PgAt.below (show PgAt w1 w.heap.size x from hP0) bel2)
  rw [sz1] at hP1
  have P1 : Hid (PgAt w2 (w.heap.size + 1) y) := hP1
  have bel02 := bel1.trans (bel2.mono (by omega))
  have C2 := hide (lives_any w2 (HM.out.below bel02))
  clear hx hy hm hP0 hP1 HV HW bel1 bel2
  go_enter Tryd.func7, Tryd.ntmps7
  go_wp2_with fail
  refine C2.out.mono ?_
  rintro E w3 ⟨rfl, bel3⟩
  have sz3 := bel3.size
  have bel03 := bel02.trans (bel3.mono (by omega))
  replace P0 := hide (P0.out.below bel3)
  replace P1 := hide (P1.out.below bel3)
  have C3 := hide (encode_any x w3 HX.out (HM.out.below bel03))
  obtain ⟨c0, c1, c2, c3, c4, c5⟩ := P0.out.six
  clear C2 bel02 bel3 hw1 hw2
  go_wp2_with fail
  refine C3.out.mono ?_
  rintro E w4 ⟨va, rfl, own4, bel4⟩
  have sz4 := bel4.size
  have bel04 := bel03.trans (bel4.mono (by omega))
  replace P0 := hide (P0.out.below bel4)
  replace P1 := hide (P1.out.below bel4)
  have C4 := hide (encode_any y w4 HY.out (HM.out.below bel04))
  clear C3 bel03 c0 c1 c2 c3 c4 c5
  obtain ⟨d0, d1, d2, d3, d4, d5⟩ := P1.out.six
  go_wp2_with fail
  refine C4.out.mono ?_
  rintro E w5 ⟨vb, rfl, own5, bel5⟩
  have sz5 := bel5.size
  have bel05 := bel04.trans (bel5.mono (by omega))
  replace P0 := hide (P0.out.below bel5)
  replace P1 := hide (P1.out.below bel5)
  have O4 := hide (own4.below bel5)
  have O5 := hide own5
  have M5 := hide (HM.out.below bel05)
  clear C4 d0 d1 d2 d3 d4 d5 bel04 bel4 bel5 own4 own5
  by_cases hok : Pm.Ok x ∧ Pm.Ok y
  · obtain ⟨hox, hoy⟩ := hok
    rw [Pm.chk_ok hox, Pm.chk_ok hoy]
    have la := Pm.enc_len hox
    have lb := Pm.enc_len hoy
    have e1 := out_ok hox
    have e2 := out_ok hoy
    rw [e1] at O4
    rw [e2] at O5
    have SC := hide (same_cut (m := min (Pm.enc x).length (Pm.enc y).length) hox hoy rfl)
    have g := Pm.ok_nums hox
    obtain ⟨g1, g2, g3, g4, g5, g6, g7, g8, g9, g10, g11, g12⟩ := g
    have HOwn := hide hox.2
    obtain ⟨za, hza⟩ : ∃ l, Pm.enc x = l := ⟨_, rfl⟩
    obtain ⟨zb, hzb⟩ : ∃ l, Pm.enc y = l := ⟨_, rfl⟩
    rw [hza] at la O4 SC
    rw [hzb] at lb O5 SC
    clear hox hoy hza hzb e1 e2
    obtain ⟨ao, ac, rfl, _, _⟩ := O4.out.is.shape
    obtain ⟨bo, bc, rfl, _, _⟩ := O5.out.is.shape
    obtain ⟨c0, c1, c2, c3, c4, c5⟩ := P0.out.six
    go_upto_region 7 with fail
    go_cut [9] from 39 to 51 (fun v9 wx => v9 = .bool (decide (Knw x)) ∧ wx = w5)
    case first =>
      by_cases k2 : x.p = 2
      · have k2' : (x.p == 2) = true := by simp [k2]
        have hk : Knw x := .inl k2
        clear k2
        go_wp2_with fail
        go_meet
        exact ⟨is_bool hk, rfl⟩
      have k2' : (x.p == 2) = false := by simp [k2]
      by_cases k3 : x.p = 3
      · have k3' : (x.p == 3) = true := by simp [k3]
        have hk : Knw x := .inr (.inl k3)
        clear k2 k3
        go_wp2_with fail
        go_meet
        exact ⟨is_bool hk, rfl⟩
      have k3' : (x.p == 3) = false := by simp [k3]
      by_cases k4 : x.p = 4
      · have k4' : (x.p == 4) = true := by simp [k4]
        have hk : Knw x := .inr (.inr k4)
        clear k2 k3 k4
        go_wp2_with fail
        go_meet
        exact ⟨is_bool hk, rfl⟩
      have k4' : (x.p == 4) = false := by simp [k4]
      have hk : ¬ Knw x := by unfold Knw; omega
      go_wp2_with fail
      go_meet
      exact ⟨no_bool hk, rfl⟩
    case rest =>
    obtain ⟨hc9, hwc⟩ := hcut
    subst hc9
    rw [hwc]
    clear hwc
    go_upto_region 8 with fail
    go_cut [9, 92] from 52 to 92 (fun _ v wx => v = .bool false ∧ wx = w5)
    case first =>
      have n1 : ¬ x.e < 1 := by omega
      have n2 : ¬ 1048576 < x.e := by omega
      have ho := HOwn.out
      unfold Pm.Own at ho
      rcases ho with ⟨r1, p0, f0, b0⟩ | ⟨r2, a0, p0, f0, b0⟩ | ⟨r3, a0, p1, f0, b0⟩ | ⟨r3, a0, pl, pu⟩
      · have hk : ¬ Knw x := by unfold Knw; omega
        rw [decide_eq_false hk]
        have r1' : (x.r != 1) = false := by simp [r1]
        have r3' : (x.r == 3) = false := by simp [r1]
        have p0' : (x.p != 0) = false := by simp [p0]
        have f0' : (x.f != 0) = false := by simp [f0]
        have b0' : (x.b != 0) = false := by simp [b0]
        by_cases a0 : x.a = 0
        · have a0' : (x.a != 0) = false := by simp [a0]
          clear hk r1 p0 f0 b0 a0
          go_wp2_with fail
          go_meet
          exact ⟨rfl, rfl⟩
        · have a0' : (x.a != 0) = true := by simp [a0]
          clear hk r1 p0 f0 b0 a0
          go_wp2_with fail
          go_meet
          exact ⟨rfl, rfl⟩
      · have hk : ¬ Knw x := by unfold Knw; omega
        rw [decide_eq_false hk]
        have r3' : (x.r == 3) = false := by simp [r2]
        have p0' : (x.p != 0) = false := by simp [p0]
        have f0' : (x.f != 0) = false := by simp [f0]
        have b0' : (x.b != 0) = false := by simp [b0]
        have a0' : (x.a != 0) = false := by simp [a0]
        clear hk r2 p0 f0 b0 a0
        go_wp2_with fail
        go_meet
        exact ⟨rfl, rfl⟩
      · have hk : ¬ Knw x := by unfold Knw; omega
        rw [decide_eq_false hk]
        have r3' : (x.r == 3) = true := by simp [r3]
        have p0' : (x.p != 0) = true := by simp [p1]
        have f0' : (x.f != 0) = false := by simp [f0]
        have b0' : (x.b != 0) = false := by simp [b0]
        have a0' : (x.a != 0) = false := by simp [a0]
        clear hk r3 p1 f0 b0 a0
        go_wp2_with fail
        go_meet
        exact ⟨rfl, rfl⟩
      · have hk : Knw x := by unfold Knw; omega
        rw [decide_eq_true hk]
        have r3' : (x.r == 3) = true := by simp [r3]
        have p0' : (x.p != 0) = true := by simp; omega
        have a0' : (x.a != 0) = false := by simp [a0]
        clear hk r3 a0
        go_wp2_with fail
        go_meet
        exact ⟨rfl, rfl⟩
    case rest =>
    obtain ⟨hc92, hwc⟩ := hcut
    subst hc92
    rw [hwc]
    clear hwc
    by_cases hlt : (zb.length : Int) < (za.length : Int)
    · have hlt' := hlt
      obtain ⟨vs1, hsl1, is1⟩ := O4.out.is.slice_h Tryd.elemP Tryd.sizeP zb.length (by omega)
      obtain ⟨vs2, hsl2, is2⟩ := O5.out.is.slice_h Tryd.elemP Tryd.sizeP zb.length (by omega)
      have hmm : min za.length zb.length = zb.length := by omega
      rw [hmm] at SC
      have I1 := hide is1
      have I2 := hide is2
      obtain ⟨s, hs⟩ : ∃ s, same x y = s := ⟨_, rfl⟩
      rw [hs] at SC
      have HS := hide hs
      have S0 := hide (cellsU P0.out P1.out)
      have lt1 : (za.take zb.length).length ≤ 60 := by rw [List.length_take]; omega
      have lt2 : (zb.take zb.length).length ≤ 60 := by rw [List.length_take]; omega
      clear is1 is2 hmm hs c0 c1 c2 c3 c4 c5
      go_wp2_with fail
      go_region_held3 (fun w' => (w'.cell? ⟨w.heap.size, 0, none⟩ = some (.int .i64 x.e) ∧ w'.cell? ⟨w.heap.size, 1, none⟩ = some (.int .u8 x.r) ∧ w'.cell? ⟨w.heap.size, 2, none⟩ = some (.int .i64 x.a) ∧ w'.cell? ⟨w.heap.size, 3, none⟩ = some (.int .u8 x.p) ∧ w'.cell? ⟨w.heap.size, 4, none⟩ = some (.int .i64 x.f) ∧ w'.cell? ⟨w.heap.size, 5, none⟩ = some (.int .i64 x.b)) ∧ (w'.cell? ⟨w.heap.size + 1, 0, none⟩ = some (.int .i64 y.e) ∧ w'.cell? ⟨w.heap.size + 1, 1, none⟩ = some (.int .u8 y.r) ∧ w'.cell? ⟨w.heap.size + 1, 2, none⟩ = some (.int .i64 y.a) ∧ w'.cell? ⟨w.heap.size + 1, 3, none⟩ = some (.int .u8 y.p) ∧ w'.cell? ⟨w.heap.size + 1, 4, none⟩ = some (.int .i64 y.f) ∧ w'.cell? ⟨w.heap.size + 1, 5, none⟩ = some (.int .i64 y.b))) (first | exact S0.out | exact Swa.out | exact Swb.out | go_keep)
        (first
        | (go_at_call 9; refine (samePage_any x y _).mono ?_; rintro E wa ⟨rfl, bela'⟩; rw [HS.out]; have bela : Below w5.heap.size w5 wa := ((Below.refl _ _).drew).trans bela'; have Swa := hide (cellsU (P0.out.below bela) (P1.out.below bela)); clear bela')
        | (go_at_call 18; refine (same_bool _ _ (za.take zb.length) (zb.take zb.length) s _ (I1.out.below bela) (I2.out.below bela) (by omega) (by omega) SC.out).mono ?_; rintro E wb ⟨rfl, mb, rfl⟩; have belb : Below w5.heap.size w5 (wa.drewN mb) := below_drewN bela mb; have Swb := hide (cellsU (P0.out.below belb) (P1.out.below belb))))
      go_wp2
      go_ret
      exact ⟨by simp, bel05.trans (belb.mono (by omega))⟩
    · have hlt' := hlt
      obtain ⟨vs1, hsl1, is1⟩ := O4.out.is.slice_h Tryd.elemP Tryd.sizeP za.length (by omega)
      obtain ⟨vs2, hsl2, is2⟩ := O5.out.is.slice_h Tryd.elemP Tryd.sizeP za.length (by omega)
      have hmm : min za.length zb.length = za.length := by omega
      rw [hmm] at SC
      have I1 := hide is1
      have I2 := hide is2
      obtain ⟨s, hs⟩ : ∃ s, same x y = s := ⟨_, rfl⟩
      rw [hs] at SC
      have HS := hide hs
      have S0 := hide (cellsU P0.out P1.out)
      have lt1 : (za.take za.length).length ≤ 60 := by rw [List.length_take]; omega
      have lt2 : (zb.take za.length).length ≤ 60 := by rw [List.length_take]; omega
      clear is1 is2 hmm hs c0 c1 c2 c3 c4 c5
      go_wp2_with fail
      go_region_held3 (fun w' => (w'.cell? ⟨w.heap.size, 0, none⟩ = some (.int .i64 x.e) ∧ w'.cell? ⟨w.heap.size, 1, none⟩ = some (.int .u8 x.r) ∧ w'.cell? ⟨w.heap.size, 2, none⟩ = some (.int .i64 x.a) ∧ w'.cell? ⟨w.heap.size, 3, none⟩ = some (.int .u8 x.p) ∧ w'.cell? ⟨w.heap.size, 4, none⟩ = some (.int .i64 x.f) ∧ w'.cell? ⟨w.heap.size, 5, none⟩ = some (.int .i64 x.b)) ∧ (w'.cell? ⟨w.heap.size + 1, 0, none⟩ = some (.int .i64 y.e) ∧ w'.cell? ⟨w.heap.size + 1, 1, none⟩ = some (.int .u8 y.r) ∧ w'.cell? ⟨w.heap.size + 1, 2, none⟩ = some (.int .i64 y.a) ∧ w'.cell? ⟨w.heap.size + 1, 3, none⟩ = some (.int .u8 y.p) ∧ w'.cell? ⟨w.heap.size + 1, 4, none⟩ = some (.int .i64 y.f) ∧ w'.cell? ⟨w.heap.size + 1, 5, none⟩ = some (.int .i64 y.b))) (first | exact S0.out | exact Swa.out | exact Swb.out | go_keep)
        (first
        | (go_at_call 9; refine (samePage_any x y _).mono ?_; rintro E wa ⟨rfl, bela'⟩; rw [HS.out]; have bela : Below w5.heap.size w5 wa := ((Below.refl _ _).drew).trans bela'; have Swa := hide (cellsU (P0.out.below bela) (P1.out.below bela)); clear bela')
        | (go_at_call 18; refine (same_bool _ _ (za.take za.length) (zb.take za.length) s _ (I1.out.below bela) (I2.out.below bela) (by omega) (by omega) SC.out).mono ?_; rintro E wb ⟨rfl, mb, rfl⟩; have belb : Below w5.heap.size w5 (wa.drewN mb) := below_drewN bela mb; have Swb := hide (cellsU (P0.out.below belb) (P1.out.below belb))))
      go_wp2
      go_ret
      exact ⟨by simp, bel05.trans (belb.mono (by omega))⟩
  · obtain ⟨ca, hca⟩ : ∃ c, Pm.chk x = c := ⟨_, rfl⟩
    obtain ⟨cb, hcb⟩ : ∃ c, Pm.chk y = c := ⟨_, rfl⟩
    have hne : ¬ (ca = 0 ∧ cb = 0) := fun h => hok ⟨Pm.chk_iff.1 (hca.trans h.1), Pm.chk_iff.1 (hcb.trans h.2)⟩
    have X1 := hide (check_any x w5 HX.out M5.out)
    have X2 := hide (fun W (h : Mst W) => check_any y W HY.out h)
    rw [hca] at X1 ⊢
    rw [hcb] at X2 ⊢
    obtain ⟨c0, c1, c2, c3, c4, c5⟩ := P0.out.six
    clear hok hca hcb
    by_cases h1 : ca = 0
    · have h2 : cb ≠ 0 := fun h => hne ⟨h1, h⟩
      have h1' : (ca != 0) = false := by simp [h1]
      have h2' : (cb != 0) = true := by simp [h2]
      clear hne h1 h2
      go_wp2_with fail
      refine X1.out.mono ?_
      rintro E w6 ⟨rfl, bel6⟩
      have sz6 := bel6.size
      have bel06 := bel05.trans (bel6.mono (by omega))
      obtain ⟨d0, d1, d2, d3, d4, d5⟩ := (P1.out.below bel6).six
      have X3 := hide (X2.out w6 (M5.out.below bel6))
      go_wp2_with fail
      refine X3.out.mono ?_
      rintro E w7 ⟨rfl, bel7⟩
      have bel07 := bel06.trans (bel7.mono (by omega))
      go_wp2
      go_ret
      exact ⟨rfl, bel07⟩
    · have h1' : (ca != 0) = true := by simp [h1]
      clear hne h1
      go_wp2_with fail
      refine X1.out.mono ?_
      rintro E w6 ⟨rfl, bel6⟩
      have sz6 := bel6.size
      have bel06 := bel05.trans (bel6.mono (by omega))
      obtain ⟨d0, d1, d2, d3, d4, d5⟩ := (P1.out.below bel6).six
      have X3 := hide (X2.out w6 (M5.out.below bel6))
      go_wp2_with fail
      refine X3.out.mono ?_
      rintro E w7 ⟨rfl, bel7⟩
      have bel07 := bel06.trans (bel7.mono (by omega))
      go_wp2
      go_ret
      exact ⟨rfl, bel07⟩

end Go.Proofs.YtdfbagnnieoonaaDoor
