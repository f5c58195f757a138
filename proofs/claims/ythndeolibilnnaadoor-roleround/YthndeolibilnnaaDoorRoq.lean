/- The program's roles (layer 20): what it answers of any page. -/
import Derived.Test.YthndeolibilnnaaDoorRoqd
namespace Go.Proofs.YthndeolibilnnaaDoor
open Go.RowKit
set_option linter.unusedVariables false

namespace Rol
open Pm (Pg chk no Ok)

theorem own_of {x : Pg} (h : chk x = 0) : (own x = 0 ↔ x.r = 1) ∧ (own x = 1 ↔ x.r = 2) ∧ (own x = 2 ↔ x.p = 1) ∧ (own x = 3 ↔ x.p = 2) ∧ (own x = 4 ↔ x.p = 3) ∧ (own x = 5 ↔ x.p = 4) := by
  have ho := Pm.chk_iff.1 h
  have := Pm.ok_nums ho
  obtain ⟨h1, h2, _, h3, h4⟩ := ok_phase ho
  unfold own
  (repeat' split) <;> (refine ⟨?_, ?_, ?_, ?_, ?_, ?_⟩ <;> omega)

theorem ck_of (x : Pg) (n lo hi : Int) : (chk x ≠ 0 → ck x n lo hi = chk x) ∧ (chk x = 0 → n < lo ∨ hi < n → ck x n lo hi = 2) ∧ (chk x = 0 → ¬ (n < lo ∨ hi < n) → ck x n lo hi = 0) := by
  unfold ck
  exact ⟨fun h => if_neg h, fun h k => by rw [if_pos h, if_pos k], fun h k => by rw [if_pos h, if_neg k]⟩

end Rol

set_option maxRecDepth 20000 in
set_option maxHeartbeats 2000000 in
theorem pplain_any (x y : Pm.Pg) (k e : Int) (w : World) (hx : FitP x) (hm : Mst w) (h1 : Pm.chk x ≠ 0 → y = Pm.no ∧ e = Pm.chk x) (h2 : Pm.chk x = 0 → ∀ W, Calls Tryd.prog 34 #[vp x, .int .i64 k, .int .i64 0, .int .i64 0] W fun E w' => E = .returned (.tuple #[vp y, .int .i64 e]) ∧ Below W.heap.size W w') :
    Calls Tryd.prog 35 #[vp x, .int .i64 k] w fun E w' => E = .returned (.tuple #[vp y, .int .i64 e]) ∧ Below w.heap.size w w' := by
  obtain ⟨w1, w2, hw1, hw2, sz1, sz2, bel2, ⟨p0, p1, p2, p3, p4, p5⟩, PST⟩ := role_open x w
  have CK := hide (pgcheck_any x w2 hx (hm.below bel2))
  clear bel2 hm
  by_cases h0 : Pm.chk x = 0
  · have h2 := hide (h2 h0)
    rw [h0] at CK
    clear h1 h0
    unfold vp
    go_enter Tryd.func35, Tryd.ntmps35
    go_wp2_with fail
    refine CK.out.mono ?_
    rintro E w3 ⟨rfl, b3⟩
    obtain ⟨hP3, hR3, B3, sz3⟩ := PST.out w3 b3
    obtain ⟨q0, q1, q2, q3, q4, q5⟩ := six_of hP3
    have FO := hide (h2.out w3)
    have B3h := hide b3
    clear CK b3 hP3 hR3 B3 p0 p1 p2 p3 p4 p5 
    unfold vp at FO
    go_wp2_with fail
    refine FO.out.mono ?_
    rintro E w4 ⟨rfl, b4⟩
    obtain ⟨hP4, hR4, B4, sz4⟩ := PST.out w4 (B3h.out.trans (b4.mono B3h.out.size))
    obtain ⟨Z, hZ, _, gZ, ⟨a0, a1, a2, a3, a4, a5⟩, fr, ⟨z0, z1, z2, z3, z4, z5⟩⟩ := put6 hR4 (.int .i64 y.e) (.int .u8 y.r) (.int .i64 y.a) (.int .u8 y.p) (.int .i64 y.f) (.int .i64 y.b)
    have f0 := fr 0; have f1 := fr 1; have f2 := fr 2; have f3 := fr 3; have f4 := fr 4; have f5 := fr 5
    have BB := hide (below_put B4 gZ (by omega) (by omega))
    clear PST FO B3h b4 hP4 hR4 B4 sz4 gZ fr q0 q1 q2 q3 q4 q5
    go_wp2
    refine bodyPost_ret (v := .tuple #[.agg #[.int .i64 y.e, .int .u8 y.r, .int .i64 y.a, .int .u8 y.p, .int .i64 y.f, .int .i64 y.b], .int .i64 e]) (by simp [results, Tryd.results35, go_sem, z0, z1, z2, z3, z4, z5]) rfl ?_
    exact ⟨rfl, BB.out⟩
  · obtain ⟨rfl, rfl⟩ := h1 h0
    have hb : (Pm.chk x != 0) = true := by simpa using h0
    generalize Pm.chk x = ch at *
    clear h1 h2 h0
    unfold vp
    go_enter Tryd.func35, Tryd.ntmps35
    go_wp2_with fail
    refine CK.out.mono ?_
    rintro E w3 ⟨rfl, b3⟩
    obtain ⟨hP3, hR3, B3, sz3⟩ := PST.out w3 b3
    obtain ⟨q0, q1, q2, q3, q4, q5⟩ := six_of hP3
    obtain ⟨Z, hZ, _, gZ, ⟨a0, a1, a2, a3, a4, a5⟩, fr, ⟨z0, z1, z2, z3, z4, z5⟩⟩ := put6 hR3 (.int .i64 0) (.int .u8 0) (.int .i64 0) (.int .u8 0) (.int .i64 0) (.int .i64 0)
    have f0 := fr 0; have f1 := fr 1; have f2 := fr 2; have f3 := fr 3; have f4 := fr 4; have f5 := fr 5
    have BB := hide (below_put B3 gZ (by omega) (by omega))
    clear CK PST b3 hP3 hR3 B3 sz3 gZ fr p0 p1 p2 p3 p4 p5 
    go_wp2
    refine bodyPost_ret (v := .tuple #[.agg #[.int .i64 0, .int .u8 0, .int .i64 0, .int .u8 0, .int .i64 0, .int .i64 0], .int .i64 ch]) (by simp [results, Tryd.results35, go_sem, z0, z1, z2, z3, z4, z5]) rfl ?_
    exact ⟨rfl, BB.out⟩

set_option maxRecDepth 20000 in
set_option maxHeartbeats 2000000 in
theorem pfile_any (x : Pm.Pg) (w : World) (hx : FitP x) (hm : Mst w) :
    Calls Tryd.prog 8 #[vp x] w fun E w' => E = .returned (.tuple #[vp (Rol.nx x 2 3), .int .i64 (Rol.nxE x 2)]) ∧ Below w.heap.size w w' := by
  obtain ⟨w1, w2, hw1, hw2, sz1, sz2, bel2, ⟨p0, p1, p2, p3, p4, p5⟩, PST⟩ := role_open x w
  have CK := hide (pplain_any x (Rol.nx x 2 3) 3 (Rol.nxE x 2) w2 hx (hm.below bel2) (fun h => by unfold Rol.nx Rol.nxE; simp [h]) (fun h W => by
    by_cases hk : Rol.own x = 3
    · have hp : x.p = 2 := (Rol.own_of h).2.2.2.1.1 hk
      have e1 : Rol.nxE x 2 = 0 := by unfold Rol.nxE; rw [if_pos h, if_pos hp]
      have e2 : Rol.nx x 2 3 = ⟨x.e, x.r, x.a, 3, x.f, x.b⟩ := by unfold Rol.nx; rw [if_pos e1]
      rw [e1, e2]
      exact pfol3_any x 0 0 W hk
    · have hp : x.p ≠ 2 := fun h' => hk ((Rol.own_of h).2.2.2.1.2 h')
      have e1 : Rol.nxE x 2 = 15 := by unfold Rol.nxE; rw [if_pos h, if_neg hp]
      have e2 : Rol.nx x 2 3 = Pm.no := by unfold Rol.nx; rw [if_neg (by omega)]
      rw [e1, e2]
      exact pfol_no x 3 0 0 W hk))
  generalize Rol.nx x 2 3 = y at *
  generalize Rol.nxE x 2 = e at *
  clear bel2 hm
  unfold vp at CK
  unfold vp
  go_enter Tryd.func8, Tryd.ntmps8
  go_wp2_with fail
  refine CK.out.mono ?_
  rintro E w3 ⟨rfl, b3⟩
  obtain ⟨hP3, hR3, B3, sz3⟩ := PST.out w3 b3
  obtain ⟨q0, q1, q2, q3, q4, q5⟩ := six_of hP3
  obtain ⟨Z, hZ, _, gZ, ⟨a0, a1, a2, a3, a4, a5⟩, fr, ⟨z0, z1, z2, z3, z4, z5⟩⟩ := put6 hR3 (.int .i64 y.e) (.int .u8 y.r) (.int .i64 y.a) (.int .u8 y.p) (.int .i64 y.f) (.int .i64 y.b)
  have f0 := fr 0; have f1 := fr 1; have f2 := fr 2; have f3 := fr 3; have f4 := fr 4; have f5 := fr 5
  have BB := hide (below_put B3 gZ (by omega) (by omega))
  clear CK PST b3 hP3 hR3 B3 sz3 gZ fr p0 p1 p2 p3 p4 p5
  go_wp2
  refine bodyPost_ret (v := .tuple #[.agg #[.int .i64 y.e, .int .u8 y.r, .int .i64 y.a, .int .u8 y.p, .int .i64 y.f, .int .i64 y.b], .int .i64 e]) (by simp [results, Tryd.results8, go_sem, z0, z1, z2, z3, z4, z5]) rfl ?_
  exact ⟨rfl, BB.out⟩

set_option maxRecDepth 20000 in
set_option maxHeartbeats 2000000 in
theorem pcut_any (x : Pm.Pg) (w : World) (hx : FitP x) (hm : Mst w) :
    Calls Tryd.prog 10 #[vp x] w fun E w' => E = .returned (.tuple #[vp (Rol.nx x 3 4), .int .i64 (Rol.nxE x 3)]) ∧ Below w.heap.size w w' := by
  obtain ⟨w1, w2, hw1, hw2, sz1, sz2, bel2, ⟨p0, p1, p2, p3, p4, p5⟩, PST⟩ := role_open x w
  have CK := hide (pplain_any x (Rol.nx x 3 4) 4 (Rol.nxE x 3) w2 hx (hm.below bel2) (fun h => by unfold Rol.nx Rol.nxE; simp [h]) (fun h W => by
    by_cases hk : Rol.own x = 4
    · have hp : x.p = 3 := (Rol.own_of h).2.2.2.2.1.1 hk
      have e1 : Rol.nxE x 3 = 0 := by unfold Rol.nxE; rw [if_pos h, if_pos hp]
      have e2 : Rol.nx x 3 4 = ⟨x.e, x.r, x.a, 4, x.f, x.b⟩ := by unfold Rol.nx; rw [if_pos e1]
      rw [e1, e2]
      exact pfol4_any x 0 0 W hk
    · have hp : x.p ≠ 3 := fun h' => hk ((Rol.own_of h).2.2.2.2.1.2 h')
      have e1 : Rol.nxE x 3 = 15 := by unfold Rol.nxE; rw [if_pos h, if_neg hp]
      have e2 : Rol.nx x 3 4 = Pm.no := by unfold Rol.nx; rw [if_neg (by omega)]
      rw [e1, e2]
      exact pfol_no x 4 0 0 W hk))
  generalize Rol.nx x 3 4 = y at *
  generalize Rol.nxE x 3 = e at *
  clear bel2 hm
  unfold vp at CK
  unfold vp
  go_enter Tryd.func10, Tryd.ntmps10
  go_wp2_with fail
  refine CK.out.mono ?_
  rintro E w3 ⟨rfl, b3⟩
  obtain ⟨hP3, hR3, B3, sz3⟩ := PST.out w3 b3
  obtain ⟨q0, q1, q2, q3, q4, q5⟩ := six_of hP3
  obtain ⟨Z, hZ, _, gZ, ⟨a0, a1, a2, a3, a4, a5⟩, fr, ⟨z0, z1, z2, z3, z4, z5⟩⟩ := put6 hR3 (.int .i64 y.e) (.int .u8 y.r) (.int .i64 y.a) (.int .u8 y.p) (.int .i64 y.f) (.int .i64 y.b)
  have f0 := fr 0; have f1 := fr 1; have f2 := fr 2; have f3 := fr 3; have f4 := fr 4; have f5 := fr 5
  have BB := hide (below_put B3 gZ (by omega) (by omega))
  clear CK PST b3 hP3 hR3 B3 sz3 gZ fr p0 p1 p2 p3 p4 p5
  go_wp2
  refine bodyPost_ret (v := .tuple #[.agg #[.int .i64 y.e, .int .u8 y.r, .int .i64 y.a, .int .u8 y.p, .int .i64 y.f, .int .i64 y.b], .int .i64 e]) (by simp [results, Tryd.results10, go_sem, z0, z1, z2, z3, z4, z5]) rfl ?_
  exact ⟨rfl, BB.out⟩

set_option maxRecDepth 20000 in
set_option maxHeartbeats 2000000 in
theorem prejoin_any (x : Pm.Pg) (w : World) (hx : FitP x) (hm : Mst w) :
    Calls Tryd.prog 11 #[vp x] w fun E w' => E = .returned (.tuple #[vp (Rol.rj x), .int .i64 (Rol.nxE x 4)]) ∧ Below w.heap.size w w' := by
  obtain ⟨w1, w2, hw1, hw2, sz1, sz2, bel2, ⟨p0, p1, p2, p3, p4, p5⟩, PST⟩ := role_open x w
  have CK := hide (pplain_any x (Rol.rj x) 5 (Rol.nxE x 4) w2 hx (hm.below bel2) (fun h => by unfold Rol.rj Rol.nxE; simp [h]) (fun h W => by
    by_cases hk : Rol.own x = 5
    · have hp : x.p = 4 := (Rol.own_of h).2.2.2.2.2.1 hk
      have e1 : Rol.nxE x 4 = 0 := by unfold Rol.nxE; rw [if_pos h, if_pos hp]
      have e2 : Rol.rj x = ⟨x.e, 2, 0, 0, 0, 0⟩ := by unfold Rol.rj; rw [if_pos e1]
      rw [e1, e2]
      exact pfol5_any x 0 0 W hk
    · have hp : x.p ≠ 4 := fun h' => hk ((Rol.own_of h).2.2.2.2.2.2 h')
      have e1 : Rol.nxE x 4 = 15 := by unfold Rol.nxE; rw [if_pos h, if_neg hp]
      have e2 : Rol.rj x = Pm.no := by unfold Rol.rj; rw [if_neg (by omega)]
      rw [e1, e2]
      exact pfol_no x 5 0 0 W hk))
  generalize Rol.rj x = y at *
  generalize Rol.nxE x 4 = e at *
  clear bel2 hm
  unfold vp at CK
  unfold vp
  go_enter Tryd.func11, Tryd.ntmps11
  go_wp2_with fail
  refine CK.out.mono ?_
  rintro E w3 ⟨rfl, b3⟩
  obtain ⟨hP3, hR3, B3, sz3⟩ := PST.out w3 b3
  obtain ⟨q0, q1, q2, q3, q4, q5⟩ := six_of hP3
  obtain ⟨Z, hZ, _, gZ, ⟨a0, a1, a2, a3, a4, a5⟩, fr, ⟨z0, z1, z2, z3, z4, z5⟩⟩ := put6 hR3 (.int .i64 y.e) (.int .u8 y.r) (.int .i64 y.a) (.int .u8 y.p) (.int .i64 y.f) (.int .i64 y.b)
  have f0 := fr 0; have f1 := fr 1; have f2 := fr 2; have f3 := fr 3; have f4 := fr 4; have f5 := fr 5
  have BB := hide (below_put B3 gZ (by omega) (by omega))
  clear CK PST b3 hP3 hR3 B3 sz3 gZ fr p0 p1 p2 p3 p4 p5
  go_wp2
  refine bodyPost_ret (v := .tuple #[.agg #[.int .i64 y.e, .int .u8 y.r, .int .i64 y.a, .int .u8 y.p, .int .i64 y.f, .int .i64 y.b], .int .i64 e]) (by simp [results, Tryd.results11, go_sem, z0, z1, z2, z3, z4, z5]) rfl ?_
  exact ⟨rfl, BB.out⟩

set_option maxRecDepth 20000 in
set_option maxHeartbeats 2000000 in
theorem pprom_any (x : Pm.Pg) (n : Int) (w : World) (hx : FitP x) (hm : Mst w) (hn : I64 n) :
    Calls Tryd.prog 7 #[vp x, .int .i64 n] w fun E w' => E = .returned (.tuple #[vp (Rol.pr x n), .int .i64 (Rol.prE x n)]) ∧ Below w.heap.size w w' := by
  obtain ⟨w1, w2, hw1, hw2, sz1, sz2, bel2, ⟨p0, p1, p2, p3, p4, p5⟩, PST⟩ := role_open x w
  have CK := hide (pck_any x n 0 1048576 w2 hx (hm.below bel2))
  clear bel2 hm
  by_cases h0 : Pm.chk x = 0
  case neg =>
    rw [(Rol.ck_of x n 0 1048576).1 h0] at CK
    have eE : Rol.prE x n = Pm.chk x := by unfold Rol.prE; (repeat' split) <;> omega
    have eP : Rol.pr x n = Pm.no := by unfold Rol.pr; rw [if_neg (by rw [eE]; omega)]
    rw [eP, eE]
    have hb : (Pm.chk x != 0) = true := by simpa using h0
    generalize Pm.chk x = ch at *
    clear eE eP h0 hx 
    unfold vp
    go_enter Tryd.func7, Tryd.ntmps7
    go_wp2_with fail
    refine CK.out.mono ?_
    rintro E w3 ⟨rfl, b3⟩
    obtain ⟨hP3, hR3, B3, sz3⟩ := PST.out w3 b3
    obtain ⟨q0, q1, q2, q3, q4, q5⟩ := six_of hP3
    obtain ⟨Z, hZ, _, gZ, ⟨a0, a1, a2, a3, a4, a5⟩, fr, ⟨z0, z1, z2, z3, z4, z5⟩⟩ := put6 hR3 (.int .i64 0) (.int .u8 0) (.int .i64 0) (.int .u8 0) (.int .i64 0) (.int .i64 0)
    have f0 := fr 0; have f1 := fr 1; have f2 := fr 2; have f3 := fr 3; have f4 := fr 4; have f5 := fr 5
    have BB := hide (below_put B3 gZ (by omega) (by omega))
    clear CK PST b3 hP3 hR3 B3 sz3 gZ fr p0 p1 p2 p3 p4 p5 
    go_wp2
    refine bodyPost_ret (v := .tuple #[.agg #[.int .i64 0, .int .u8 0, .int .i64 0, .int .u8 0, .int .i64 0, .int .i64 0], .int .i64 ch]) (by simp [results, Tryd.results7, go_sem, z0, z1, z2, z3, z4, z5]) rfl ?_
    exact ⟨rfl, BB.out⟩
  by_cases hr : n < 0 ∨ 1048576 < n
  case pos =>
    rw [(Rol.ck_of x n 0 1048576).2.1 h0 hr] at CK
    have eE : Rol.prE x n = 2 := by unfold Rol.prE; (repeat' split) <;> omega
    have eP : Rol.pr x n = Pm.no := by unfold Rol.pr; rw [if_neg (by rw [eE]; omega)]
    rw [eP, eE]
    clear eE eP h0 hx hr 
    unfold vp
    go_enter Tryd.func7, Tryd.ntmps7
    go_wp2_with fail
    refine CK.out.mono ?_
    rintro E w3 ⟨rfl, b3⟩
    obtain ⟨hP3, hR3, B3, sz3⟩ := PST.out w3 b3
    obtain ⟨q0, q1, q2, q3, q4, q5⟩ := six_of hP3
    obtain ⟨Z, hZ, _, gZ, ⟨a0, a1, a2, a3, a4, a5⟩, fr, ⟨z0, z1, z2, z3, z4, z5⟩⟩ := put6 hR3 (.int .i64 0) (.int .u8 0) (.int .i64 0) (.int .u8 0) (.int .i64 0) (.int .i64 0)
    have f0 := fr 0; have f1 := fr 1; have f2 := fr 2; have f3 := fr 3; have f4 := fr 4; have f5 := fr 5
    have BB := hide (below_put B3 gZ (by omega) (by omega))
    clear CK PST b3 hP3 hR3 B3 sz3 gZ fr p0 p1 p2 p3 p4 p5 
    go_wp2
    refine bodyPost_ret (v := .tuple #[.agg #[.int .i64 0, .int .u8 0, .int .i64 0, .int .u8 0, .int .i64 0, .int .i64 0], .int .i64 2]) (by simp [results, Tryd.results7, go_sem, z0, z1, z2, z3, z4, z5]) rfl ?_
    exact ⟨rfl, BB.out⟩
  rw [(Rol.ck_of x n 0 1048576).2.2 h0 hr] at CK
  by_cases h3 : x.r = 1
  case pos =>
    have gh3 : (x.r == 1) = true := by simpa using h3
    have eE : Rol.prE x n = 10 := by unfold Rol.prE; (repeat' split) <;> omega
    have eP : Rol.pr x n = Pm.no := by unfold Rol.pr; rw [if_neg (by rw [eE]; omega)]
    rw [eP, eE]
    clear eE eP h0 hr hx h3
    unfold vp
    go_enter Tryd.func7, Tryd.ntmps7
    go_wp2_with fail
    refine CK.out.mono ?_
    rintro E w3 ⟨rfl, b3⟩
    obtain ⟨hP3, hR3, B3, sz3⟩ := PST.out w3 b3
    obtain ⟨q0, q1, q2, q3, q4, q5⟩ := six_of hP3
    obtain ⟨Z, hZ, _, gZ, ⟨a0, a1, a2, a3, a4, a5⟩, fr, ⟨z0, z1, z2, z3, z4, z5⟩⟩ := put6 hR3 (.int .i64 0) (.int .u8 0) (.int .i64 0) (.int .u8 0) (.int .i64 0) (.int .i64 0)
    have f0 := fr 0; have f1 := fr 1; have f2 := fr 2; have f3 := fr 3; have f4 := fr 4; have f5 := fr 5
    have BB := hide (below_put B3 gZ (by omega) (by omega))
    clear CK PST b3 hP3 hR3 B3 sz3 gZ fr p0 p1 p2 p3 p4 p5 
    go_wp2
    refine bodyPost_ret (v := .tuple #[.agg #[.int .i64 0, .int .u8 0, .int .i64 0, .int .u8 0, .int .i64 0, .int .i64 0], .int .i64 10]) (by simp [results, Tryd.results7, go_sem, z0, z1, z2, z3, z4, z5]) rfl ?_
    exact ⟨rfl, BB.out⟩
  have gh3 : (x.r == 1) = false := by simpa using h3
  by_cases h4 : x.r = 3
  case pos =>
    have gh4 : (x.r == 3) = true := by simpa using h4
    have eE : Rol.prE x n = 9 := by unfold Rol.prE; (repeat' split) <;> omega
    have eP : Rol.pr x n = Pm.no := by unfold Rol.pr; rw [if_neg (by rw [eE]; omega)]
    rw [eP, eE]
    clear eE eP h0 hr hx h3 h4
    unfold vp
    go_enter Tryd.func7, Tryd.ntmps7
    go_wp2_with fail
    refine CK.out.mono ?_
    rintro E w3 ⟨rfl, b3⟩
    obtain ⟨hP3, hR3, B3, sz3⟩ := PST.out w3 b3
    obtain ⟨q0, q1, q2, q3, q4, q5⟩ := six_of hP3
    obtain ⟨Z, hZ, _, gZ, ⟨a0, a1, a2, a3, a4, a5⟩, fr, ⟨z0, z1, z2, z3, z4, z5⟩⟩ := put6 hR3 (.int .i64 0) (.int .u8 0) (.int .i64 0) (.int .u8 0) (.int .i64 0) (.int .i64 0)
    have f0 := fr 0; have f1 := fr 1; have f2 := fr 2; have f3 := fr 3; have f4 := fr 4; have f5 := fr 5
    have BB := hide (below_put B3 gZ (by omega) (by omega))
    clear CK PST b3 hP3 hR3 B3 sz3 gZ fr p0 p1 p2 p3 p4 p5 
    go_wp2
    refine bodyPost_ret (v := .tuple #[.agg #[.int .i64 0, .int .u8 0, .int .i64 0, .int .u8 0, .int .i64 0, .int .i64 0], .int .i64 9]) (by simp [results, Tryd.results7, go_sem, z0, z1, z2, z3, z4, z5]) rfl ?_
    exact ⟨rfl, BB.out⟩
  have gh4 : (x.r == 3) = false := by simpa using h4
  by_cases h5 : x.e = 1048576
  case pos =>
    have gh5 : (x.e == 1048576) = true := by simpa using h5
    have eE : Rol.prE x n = 2 := by unfold Rol.prE; (repeat' split) <;> omega
    have eP : Rol.pr x n = Pm.no := by unfold Rol.pr; rw [if_neg (by rw [eE]; omega)]
    rw [eP, eE]
    clear eE eP h0 hr hx h3 h4 h5
    unfold vp
    go_enter Tryd.func7, Tryd.ntmps7
    go_wp2_with fail
    refine CK.out.mono ?_
    rintro E w3 ⟨rfl, b3⟩
    obtain ⟨hP3, hR3, B3, sz3⟩ := PST.out w3 b3
    obtain ⟨q0, q1, q2, q3, q4, q5⟩ := six_of hP3
    obtain ⟨Z, hZ, _, gZ, ⟨a0, a1, a2, a3, a4, a5⟩, fr, ⟨z0, z1, z2, z3, z4, z5⟩⟩ := put6 hR3 (.int .i64 0) (.int .u8 0) (.int .i64 0) (.int .u8 0) (.int .i64 0) (.int .i64 0)
    have f0 := fr 0; have f1 := fr 1; have f2 := fr 2; have f3 := fr 3; have f4 := fr 4; have f5 := fr 5
    have BB := hide (below_put B3 gZ (by omega) (by omega))
    clear CK PST b3 hP3 hR3 B3 sz3 gZ fr p0 p1 p2 p3 p4 p5 
    go_wp2
    refine bodyPost_ret (v := .tuple #[.agg #[.int .i64 0, .int .u8 0, .int .i64 0, .int .u8 0, .int .i64 0, .int .i64 0], .int .i64 2]) (by simp [results, Tryd.results7, go_sem, z0, z1, z2, z3, z4, z5]) rfl ?_
    exact ⟨rfl, BB.out⟩
  have gh5 : (x.e == 1048576) = false := by simpa using h5
  have hn3 := Pm.ok_nums (Pm.chk_iff.1 h0)
  have ho : Rol.own x = 1 := (Rol.own_of h0).2.1.2 (by omega)
  have he : x.e ≤ 1048576 := by omega
  have he0 : 0 ≤ x.e := by omega
  have eE : Rol.prE x n = 0 := by unfold Rol.prE; (repeat' split) <;> omega
  have eP : Rol.pr x n = ⟨x.e + 1, 1, n, 0, 0, 0⟩ := by unfold Rol.pr; rw [if_pos eE]
  rw [eP, eE]
  clear eE eP h0 hr hx h3 h4 h5 hn3
  unfold vp
  go_enter Tryd.func7, Tryd.ntmps7
  go_wp2_with fail
  refine CK.out.mono ?_
  rintro E w3 ⟨rfl, b3⟩
  obtain ⟨hP3, hR3, B3, sz3⟩ := PST.out w3 b3
  obtain ⟨q0, q1, q2, q3, q4, q5⟩ := six_of hP3
  have FO := hide (pfol1_any x n 0 w3 ho he he0)
  have B3h := hide b3
  clear CK b3 hP3 hR3 B3 p0 p1 p2 p3 p4 p5 he he0 ho
  unfold vp at FO
  go_wp2_with fail
  refine FO.out.mono ?_
  rintro E w4 ⟨rfl, b4⟩
  obtain ⟨hP4, hR4, B4, sz4⟩ := PST.out w4 (B3h.out.trans (b4.mono B3h.out.size))
  obtain ⟨Z, hZ, _, gZ, ⟨a0, a1, a2, a3, a4, a5⟩, fr, ⟨z0, z1, z2, z3, z4, z5⟩⟩ := put6 hR4 (.int .i64 (x.e + 1)) (.int .u8 1) (.int .i64 n) (.int .u8 0) (.int .i64 0) (.int .i64 0)
  have f0 := fr 0; have f1 := fr 1; have f2 := fr 2; have f3 := fr 3; have f4 := fr 4; have f5 := fr 5
  have BB := hide (below_put B4 gZ (by omega) (by omega))
  clear PST FO B3h b4 hP4 hR4 B4 sz4 gZ fr q0 q1 q2 q3 q4 q5
  go_wp2
  refine bodyPost_ret (v := .tuple #[.agg #[.int .i64 (x.e + 1), .int .u8 1, .int .i64 n, .int .u8 0, .int .i64 0, .int .i64 0], .int .i64 0]) (by simp [results, Tryd.results7, go_sem, z0, z1, z2, z3, z4, z5]) rfl ?_
  exact ⟨rfl, BB.out⟩

set_option maxRecDepth 20000 in
set_option maxHeartbeats 2000000 in
theorem pfork_any (x : Pm.Pg) (n k : Int) (w : World) (hx : FitP x) (hm : Mst w) (hn : I64 n) (hk : I64 k) :
    Calls Tryd.prog 9 #[vp x, .int .i64 n, .int .i64 k] w fun E w' => E = .returned (.tuple #[vp (Rol.fk x n k), .int .i64 (Rol.fkE x n k)]) ∧ Below w.heap.size w w' := by
  obtain ⟨w1, w2, hw1, hw2, sz1, sz2, bel2, ⟨p0, p1, p2, p3, p4, p5⟩, PST⟩ := role_open x w
  have CK := hide (pck_any x n 0 1048576 w2 hx (hm.below bel2))
  clear bel2 hm
  by_cases h0 : Pm.chk x = 0
  case neg =>
    rw [(Rol.ck_of x n 0 1048576).1 h0] at CK
    have eE : Rol.fkE x n k = Pm.chk x := by unfold Rol.fkE; (repeat' split) <;> omega
    have eP : Rol.fk x n k = Pm.no := by unfold Rol.fk; rw [if_neg (by rw [eE]; omega)]
    rw [eP, eE]
    have hb : (Pm.chk x != 0) = true := by simpa using h0
    generalize Pm.chk x = ch at *
    clear eE eP h0 hx 
    unfold vp
    go_enter Tryd.func9, Tryd.ntmps9
    go_wp2_with fail
    refine CK.out.mono ?_
    rintro E w3 ⟨rfl, b3⟩
    obtain ⟨hP3, hR3, B3, sz3⟩ := PST.out w3 b3
    obtain ⟨q0, q1, q2, q3, q4, q5⟩ := six_of hP3
    obtain ⟨Z, hZ, _, gZ, ⟨a0, a1, a2, a3, a4, a5⟩, fr, ⟨z0, z1, z2, z3, z4, z5⟩⟩ := put6 hR3 (.int .i64 0) (.int .u8 0) (.int .i64 0) (.int .u8 0) (.int .i64 0) (.int .i64 0)
    have f0 := fr 0; have f1 := fr 1; have f2 := fr 2; have f3 := fr 3; have f4 := fr 4; have f5 := fr 5
    have BB := hide (below_put B3 gZ (by omega) (by omega))
    clear CK PST b3 hP3 hR3 B3 sz3 gZ fr p0 p1 p2 p3 p4 p5 
    go_wp2
    refine bodyPost_ret (v := .tuple #[.agg #[.int .i64 0, .int .u8 0, .int .i64 0, .int .u8 0, .int .i64 0, .int .i64 0], .int .i64 ch]) (by simp [results, Tryd.results9, go_sem, z0, z1, z2, z3, z4, z5]) rfl ?_
    exact ⟨rfl, BB.out⟩
  by_cases hr : n < 0 ∨ 1048576 < n
  case pos =>
    rw [(Rol.ck_of x n 0 1048576).2.1 h0 hr] at CK
    have eE : Rol.fkE x n k = 2 := by unfold Rol.fkE; (repeat' split) <;> omega
    have eP : Rol.fk x n k = Pm.no := by unfold Rol.fk; rw [if_neg (by rw [eE]; omega)]
    rw [eP, eE]
    clear eE eP h0 hx hr 
    unfold vp
    go_enter Tryd.func9, Tryd.ntmps9
    go_wp2_with fail
    refine CK.out.mono ?_
    rintro E w3 ⟨rfl, b3⟩
    obtain ⟨hP3, hR3, B3, sz3⟩ := PST.out w3 b3
    obtain ⟨q0, q1, q2, q3, q4, q5⟩ := six_of hP3
    obtain ⟨Z, hZ, _, gZ, ⟨a0, a1, a2, a3, a4, a5⟩, fr, ⟨z0, z1, z2, z3, z4, z5⟩⟩ := put6 hR3 (.int .i64 0) (.int .u8 0) (.int .i64 0) (.int .u8 0) (.int .i64 0) (.int .i64 0)
    have f0 := fr 0; have f1 := fr 1; have f2 := fr 2; have f3 := fr 3; have f4 := fr 4; have f5 := fr 5
    have BB := hide (below_put B3 gZ (by omega) (by omega))
    clear CK PST b3 hP3 hR3 B3 sz3 gZ fr p0 p1 p2 p3 p4 p5 
    go_wp2
    refine bodyPost_ret (v := .tuple #[.agg #[.int .i64 0, .int .u8 0, .int .i64 0, .int .u8 0, .int .i64 0, .int .i64 0], .int .i64 2]) (by simp [results, Tryd.results9, go_sem, z0, z1, z2, z3, z4, z5]) rfl ?_
    exact ⟨rfl, BB.out⟩
  rw [(Rol.ck_of x n 0 1048576).2.2 h0 hr] at CK
  by_cases h3 : k < 0
  case pos =>
    have eE : Rol.fkE x n k = 2 := by unfold Rol.fkE; (repeat' split) <;> omega
    have eP : Rol.fk x n k = Pm.no := by unfold Rol.fk; rw [if_neg (by rw [eE]; omega)]
    rw [eP, eE]
    clear eE eP h0 hr hx
    unfold vp
    go_enter Tryd.func9, Tryd.ntmps9
    go_wp2_with fail
    refine CK.out.mono ?_
    rintro E w3 ⟨rfl, b3⟩
    obtain ⟨hP3, hR3, B3, sz3⟩ := PST.out w3 b3
    obtain ⟨q0, q1, q2, q3, q4, q5⟩ := six_of hP3
    obtain ⟨Z, hZ, _, gZ, ⟨a0, a1, a2, a3, a4, a5⟩, fr, ⟨z0, z1, z2, z3, z4, z5⟩⟩ := put6 hR3 (.int .i64 0) (.int .u8 0) (.int .i64 0) (.int .u8 0) (.int .i64 0) (.int .i64 0)
    have f0 := fr 0; have f1 := fr 1; have f2 := fr 2; have f3 := fr 3; have f4 := fr 4; have f5 := fr 5
    have BB := hide (below_put B3 gZ (by omega) (by omega))
    clear CK PST b3 hP3 hR3 B3 sz3 gZ fr p0 p1 p2 p3 p4 p5 
    go_wp2
    refine bodyPost_ret (v := .tuple #[.agg #[.int .i64 0, .int .u8 0, .int .i64 0, .int .u8 0, .int .i64 0, .int .i64 0], .int .i64 2]) (by simp [results, Tryd.results9, go_sem, z0, z1, z2, z3, z4, z5]) rfl ?_
    exact ⟨rfl, BB.out⟩
  by_cases h4 : 1073741824 < k
  case pos =>
    have eE : Rol.fkE x n k = 2 := by unfold Rol.fkE; (repeat' split) <;> omega
    have eP : Rol.fk x n k = Pm.no := by unfold Rol.fk; rw [if_neg (by rw [eE]; omega)]
    rw [eP, eE]
    clear eE eP h0 hr hx
    unfold vp
    go_enter Tryd.func9, Tryd.ntmps9
    go_wp2_with fail
    refine CK.out.mono ?_
    rintro E w3 ⟨rfl, b3⟩
    obtain ⟨hP3, hR3, B3, sz3⟩ := PST.out w3 b3
    obtain ⟨q0, q1, q2, q3, q4, q5⟩ := six_of hP3
    obtain ⟨Z, hZ, _, gZ, ⟨a0, a1, a2, a3, a4, a5⟩, fr, ⟨z0, z1, z2, z3, z4, z5⟩⟩ := put6 hR3 (.int .i64 0) (.int .u8 0) (.int .i64 0) (.int .u8 0) (.int .i64 0) (.int .i64 0)
    have f0 := fr 0; have f1 := fr 1; have f2 := fr 2; have f3 := fr 3; have f4 := fr 4; have f5 := fr 5
    have BB := hide (below_put B3 gZ (by omega) (by omega))
    clear CK PST b3 hP3 hR3 B3 sz3 gZ fr p0 p1 p2 p3 p4 p5 
    go_wp2
    refine bodyPost_ret (v := .tuple #[.agg #[.int .i64 0, .int .u8 0, .int .i64 0, .int .u8 0, .int .i64 0, .int .i64 0], .int .i64 2]) (by simp [results, Tryd.results9, go_sem, z0, z1, z2, z3, z4, z5]) rfl ?_
    exact ⟨rfl, BB.out⟩
  by_cases ho : Rol.own x = 2
  case pos =>
    have hp : x.p = 1 := (Rol.own_of h0).2.2.1.1 ho
    have eE : Rol.fkE x n k = 0 := by unfold Rol.fkE; (repeat' split) <;> omega
    have eP : Rol.fk x n k = ⟨x.e, x.r, x.a, 2, n, k⟩ := by unfold Rol.fk; rw [if_pos eE]
    rw [eP, eE]
    clear eE eP h0 hr hx hp
    unfold vp
    go_enter Tryd.func9, Tryd.ntmps9
    go_wp2_with fail
    refine CK.out.mono ?_
    rintro E w3 ⟨rfl, b3⟩
    obtain ⟨hP3, hR3, B3, sz3⟩ := PST.out w3 b3
    obtain ⟨q0, q1, q2, q3, q4, q5⟩ := six_of hP3
    have FO := hide (pfol2_any x n k w3 ho)
    have B3h := hide b3
    clear CK b3 hP3 hR3 B3 p0 p1 p2 p3 p4 p5 ho
    unfold vp at FO
    go_wp2_with fail
    refine FO.out.mono ?_
    rintro E w4 ⟨rfl, b4⟩
    obtain ⟨hP4, hR4, B4, sz4⟩ := PST.out w4 (B3h.out.trans (b4.mono B3h.out.size))
    obtain ⟨Z, hZ, _, gZ, ⟨a0, a1, a2, a3, a4, a5⟩, fr, ⟨z0, z1, z2, z3, z4, z5⟩⟩ := put6 hR4 (.int .i64 x.e) (.int .u8 x.r) (.int .i64 x.a) (.int .u8 2) (.int .i64 n) (.int .i64 k)
    have f0 := fr 0; have f1 := fr 1; have f2 := fr 2; have f3 := fr 3; have f4 := fr 4; have f5 := fr 5
    have BB := hide (below_put B4 gZ (by omega) (by omega))
    clear PST FO B3h b4 hP4 hR4 B4 sz4 gZ fr q0 q1 q2 q3 q4 q5
    go_wp2
    refine bodyPost_ret (v := .tuple #[.agg #[.int .i64 x.e, .int .u8 x.r, .int .i64 x.a, .int .u8 2, .int .i64 n, .int .i64 k], .int .i64 0]) (by simp [results, Tryd.results9, go_sem, z0, z1, z2, z3, z4, z5]) rfl ?_
    exact ⟨rfl, BB.out⟩
  have hp : x.p ≠ 1 := fun h => ho ((Rol.own_of h0).2.2.1.2 h)
  have eE : Rol.fkE x n k = 15 := by unfold Rol.fkE; (repeat' split) <;> omega
  have eP : Rol.fk x n k = Pm.no := by unfold Rol.fk; rw [if_neg (by rw [eE]; omega)]
  rw [eP, eE]
  clear eE eP h0 hr hx hp
  unfold vp
  go_enter Tryd.func9, Tryd.ntmps9
  go_wp2_with fail
  refine CK.out.mono ?_
  rintro E w3 ⟨rfl, b3⟩
  obtain ⟨hP3, hR3, B3, sz3⟩ := PST.out w3 b3
  obtain ⟨q0, q1, q2, q3, q4, q5⟩ := six_of hP3
  have FO := hide (pfol_no x 2 n k w3 ho)
  have B3h := hide b3
  clear CK b3 hP3 hR3 B3 p0 p1 p2 p3 p4 p5 ho
  unfold vp at FO
  go_wp2_with fail
  refine FO.out.mono ?_
  rintro E w4 ⟨rfl, b4⟩
  obtain ⟨hP4, hR4, B4, sz4⟩ := PST.out w4 (B3h.out.trans (b4.mono B3h.out.size))
  obtain ⟨Z, hZ, _, gZ, ⟨a0, a1, a2, a3, a4, a5⟩, fr, ⟨z0, z1, z2, z3, z4, z5⟩⟩ := put6 hR4 (.int .i64 0) (.int .u8 0) (.int .i64 0) (.int .u8 0) (.int .i64 0) (.int .i64 0)
  have f0 := fr 0; have f1 := fr 1; have f2 := fr 2; have f3 := fr 3; have f4 := fr 4; have f5 := fr 5
  have BB := hide (below_put B4 gZ (by omega) (by omega))
  clear PST FO B3h b4 hP4 hR4 B4 sz4 gZ fr q0 q1 q2 q3 q4 q5
  go_wp2
  refine bodyPost_ret (v := .tuple #[.agg #[.int .i64 0, .int .u8 0, .int .i64 0, .int .u8 0, .int .i64 0, .int .i64 0], .int .i64 15]) (by simp [results, Tryd.results9, go_sem, z0, z1, z2, z3, z4, z5]) rfl ?_
  exact ⟨rfl, BB.out⟩

set_option maxRecDepth 20000 in
set_option maxHeartbeats 1000000 in
theorem pwrites_any (x : Pm.Pg) (w : World) (hx : FitP x) (hm : Mst w) :
    Calls Tryd.prog 15 #[vp x] w fun E w' => E = .returned (.int .i64 (Rol.wrE x)) ∧ Below w.heap.size w w' := by
  obtain ⟨w2, hw2, sz2, bel2, hP⟩ := blk_step w #[.int .i64 x.e, .int .u8 x.r, .int .i64 x.a, .int .u8 x.p, .int .i64 x.f, .int .i64 x.b] 25
  obtain ⟨p0, p1, p2, p3, p4, p5⟩ := six_of hP
  have PST : Hid (∀ W, Below w2.heap.size w2 W → W.heap[w.heap.size]? = some (.cells #[.int .i64 x.e, .int .u8 x.r, .int .i64 x.a, .int .u8 x.p, .int .i64 x.f, .int .i64 x.b] 25 (0, 0)) ∧ Below w.heap.size w W) := hide fun W hW => ⟨(hW.block w.heap.size (by omega)).trans hP, bel2.trans (hW.mono (by omega))⟩
  have CK := hide (pgcheck_any x w2 hx (hm.below bel2))
  unfold Rol.wrE
  obtain ⟨ch, hch⟩ : ∃ c, Pm.chk x = c := ⟨_, rfl⟩
  rw [hch] at CK ⊢
  clear bel2 hx hP hm hch
  by_cases h0 : ch = 0
  case neg =>
    rw [if_neg h0]
    have hb : (ch != 0) = true := by simpa using h0
    unfold vp
    go_enter Tryd.func15, Tryd.ntmps15
    go_wp2_with fail
    refine CK.out.mono ?_
    rintro E w3 ⟨rfl, b3⟩
    obtain ⟨hP3, B3⟩ := PST.out w3 b3
    obtain ⟨q0, q1, q2, q3, q4, q5⟩ := six_of hP3
    have BB := hide B3
    clear CK PST b3 hP3 B3 p0 p1 p2 p3 p4 p5
    go_wp2
    go_ret
    exact ⟨rfl, BB.out⟩
  subst h0
  rw [if_pos rfl]
  by_cases k0 : x.r = 2
  case pos =>
    rw [if_pos k0]
    have g0 : (x.r == 2) = true := by simpa using k0
    clear k0
    unfold vp
    go_enter Tryd.func15, Tryd.ntmps15
    go_wp2_with fail
    refine CK.out.mono ?_
    rintro E w3 ⟨rfl, b3⟩
    obtain ⟨hP3, B3⟩ := PST.out w3 b3
    obtain ⟨q0, q1, q2, q3, q4, q5⟩ := six_of hP3
    have BB := hide B3
    clear CK PST b3 hP3 B3 p0 p1 p2 p3 p4 p5
    go_wp2
    go_ret
    exact ⟨rfl, BB.out⟩
  rw [if_neg k0]
  have g0 : (x.r == 2) = false := by simpa using k0
  by_cases k1 : x.r = 3
  case pos =>
    rw [if_pos k1]
    have g1 : (x.r == 3) = true := by simpa using k1
    clear k0 k1
    unfold vp
    go_enter Tryd.func15, Tryd.ntmps15
    go_wp2_with fail
    refine CK.out.mono ?_
    rintro E w3 ⟨rfl, b3⟩
    obtain ⟨hP3, B3⟩ := PST.out w3 b3
    obtain ⟨q0, q1, q2, q3, q4, q5⟩ := six_of hP3
    have BB := hide B3
    clear CK PST b3 hP3 B3 p0 p1 p2 p3 p4 p5
    go_wp2
    go_ret
    exact ⟨rfl, BB.out⟩
  rw [if_neg k1]
  have g1 : (x.r == 3) = false := by simpa using k1
  clear k0 k1
  unfold vp
  go_enter Tryd.func15, Tryd.ntmps15
  go_wp2_with fail
  refine CK.out.mono ?_
  rintro E w3 ⟨rfl, b3⟩
  obtain ⟨hP3, B3⟩ := PST.out w3 b3
  obtain ⟨q0, q1, q2, q3, q4, q5⟩ := six_of hP3
  have BB := hide B3
  clear CK PST b3 hP3 B3 p0 p1 p2 p3 p4 p5
  go_wp2
  go_ret
  exact ⟨rfl, BB.out⟩

set_option maxRecDepth 20000 in
set_option maxHeartbeats 1000000 in
theorem preads_any (x : Pm.Pg) (w : World) (hx : FitP x) (hm : Mst w) :
    Calls Tryd.prog 16 #[vp x] w fun E w' => E = .returned (.int .i64 (Rol.rdE x)) ∧ Below w.heap.size w w' := by
  obtain ⟨w2, hw2, sz2, bel2, hP⟩ := blk_step w #[.int .i64 x.e, .int .u8 x.r, .int .i64 x.a, .int .u8 x.p, .int .i64 x.f, .int .i64 x.b] 25
  obtain ⟨p0, p1, p2, p3, p4, p5⟩ := six_of hP
  have PST : Hid (∀ W, Below w2.heap.size w2 W → W.heap[w.heap.size]? = some (.cells #[.int .i64 x.e, .int .u8 x.r, .int .i64 x.a, .int .u8 x.p, .int .i64 x.f, .int .i64 x.b] 25 (0, 0)) ∧ Below w.heap.size w W) := hide fun W hW => ⟨(hW.block w.heap.size (by omega)).trans hP, bel2.trans (hW.mono (by omega))⟩
  have CK := hide (pgcheck_any x w2 hx (hm.below bel2))
  unfold Rol.rdE
  obtain ⟨ch, hch⟩ : ∃ c, Pm.chk x = c := ⟨_, rfl⟩
  rw [hch] at CK ⊢
  clear bel2 hx hP hm hch
  by_cases h0 : ch = 0
  case neg =>
    rw [if_neg h0]
    have hb : (ch != 0) = true := by simpa using h0
    unfold vp
    go_enter Tryd.func16, Tryd.ntmps16
    go_wp2_with fail
    refine CK.out.mono ?_
    rintro E w3 ⟨rfl, b3⟩
    obtain ⟨hP3, B3⟩ := PST.out w3 b3
    obtain ⟨q0, q1, q2, q3, q4, q5⟩ := six_of hP3
    have BB := hide B3
    clear CK PST b3 hP3 B3 p0 p1 p2 p3 p4 p5
    go_wp2
    go_ret
    exact ⟨rfl, BB.out⟩
  subst h0
  rw [if_pos rfl]
  by_cases k0 : x.r = 3
  case pos =>
    rw [if_pos k0]
    have g0 : (x.r == 3) = true := by simpa using k0
    clear k0
    unfold vp
    go_enter Tryd.func16, Tryd.ntmps16
    go_wp2_with fail
    refine CK.out.mono ?_
    rintro E w3 ⟨rfl, b3⟩
    obtain ⟨hP3, B3⟩ := PST.out w3 b3
    obtain ⟨q0, q1, q2, q3, q4, q5⟩ := six_of hP3
    have BB := hide B3
    clear CK PST b3 hP3 B3 p0 p1 p2 p3 p4 p5
    go_wp2
    go_ret
    exact ⟨rfl, BB.out⟩
  rw [if_neg k0]
  have g0 : (x.r == 3) = false := by simpa using k0
  clear k0
  unfold vp
  go_enter Tryd.func16, Tryd.ntmps16
  go_wp2_with fail
  refine CK.out.mono ?_
  rintro E w3 ⟨rfl, b3⟩
  obtain ⟨hP3, B3⟩ := PST.out w3 b3
  obtain ⟨q0, q1, q2, q3, q4, q5⟩ := six_of hP3
  have BB := hide B3
  clear CK PST b3 hP3 B3 p0 p1 p2 p3 p4 p5
  go_wp2
  go_ret
  exact ⟨rfl, BB.out⟩

set_option maxRecDepth 20000 in
set_option maxHeartbeats 2000000 in
theorem phear_any (x : Pm.Pg) (n : Int) (w : World) (hx : FitP x) (hm : Mst w) (hn : I64 n) :
    Calls Tryd.prog 13 #[vp x, .int .i64 n] w fun E w' => E = .returned (.tuple #[vp (Rol.he x n), .bool (Rol.heB x n), .int .i64 (Rol.heE x n)]) ∧ Below w.heap.size w w' := by
  obtain ⟨w1, w2, hw1, hw2, sz1, sz2, bel2, ⟨p0, p1, p2, p3, p4, p5⟩, PST⟩ := role_open x w
  have CK := hide (pck_any x n 1 1048576 w2 hx (hm.below bel2))
  clear bel2 hm
  by_cases h0 : Pm.chk x = 0
  case neg =>
    rw [(Rol.ck_of x n 1 1048576).1 h0] at CK
    have eE : Rol.heE x n = Pm.chk x := by unfold Rol.heE; (repeat' split) <;> omega
    have eP : Rol.he x n = Pm.no := by unfold Rol.he; rw [if_neg (by rw [eE]; omega)]
    have eB : Rol.heB x n = false := by unfold Rol.heB; rw [eE]; simp <;> omega
    rw [eP, eE, eB]
    have hb : (Pm.chk x != 0) = true := by simpa using h0
    generalize Pm.chk x = ch at *
    clear eE eP eB h0 hx 
    unfold vp
    go_enter Tryd.func13, Tryd.ntmps13
    go_wp2_with fail
    refine CK.out.mono ?_
    rintro E w3 ⟨rfl, b3⟩
    obtain ⟨hP3, hR3, B3, sz3⟩ := PST.out w3 b3
    obtain ⟨q0, q1, q2, q3, q4, q5⟩ := six_of hP3
    obtain ⟨Z, hZ, _, gZ, ⟨a0, a1, a2, a3, a4, a5⟩, fr, ⟨z0, z1, z2, z3, z4, z5⟩⟩ := put6 hR3 (.int .i64 0) (.int .u8 0) (.int .i64 0) (.int .u8 0) (.int .i64 0) (.int .i64 0)
    have f0 := fr 0; have f1 := fr 1; have f2 := fr 2; have f3 := fr 3; have f4 := fr 4; have f5 := fr 5
    have BB := hide (below_put B3 gZ (by omega) (by omega))
    clear CK PST b3 hP3 hR3 B3 sz3 gZ fr p0 p1 p2 p3 p4 p5 
    go_wp2
    refine bodyPost_ret (v := .tuple #[.agg #[.int .i64 0, .int .u8 0, .int .i64 0, .int .u8 0, .int .i64 0, .int .i64 0], .bool false, .int .i64 ch]) (by simp [results, Tryd.results13, go_sem, z0, z1, z2, z3, z4, z5]) rfl ?_
    exact ⟨rfl, BB.out⟩
  by_cases hr : n < 1 ∨ 1048576 < n
  case pos =>
    rw [(Rol.ck_of x n 1 1048576).2.1 h0 hr] at CK
    have eE : Rol.heE x n = 2 := by unfold Rol.heE; (repeat' split) <;> omega
    have eP : Rol.he x n = Pm.no := by unfold Rol.he; rw [if_neg (by rw [eE]; omega)]
    have eB : Rol.heB x n = false := by unfold Rol.heB; rw [eE]; simp <;> omega
    rw [eP, eE, eB]
    clear eE eP eB h0 hx hr 
    unfold vp
    go_enter Tryd.func13, Tryd.ntmps13
    go_wp2_with fail
    refine CK.out.mono ?_
    rintro E w3 ⟨rfl, b3⟩
    obtain ⟨hP3, hR3, B3, sz3⟩ := PST.out w3 b3
    obtain ⟨q0, q1, q2, q3, q4, q5⟩ := six_of hP3
    obtain ⟨Z, hZ, _, gZ, ⟨a0, a1, a2, a3, a4, a5⟩, fr, ⟨z0, z1, z2, z3, z4, z5⟩⟩ := put6 hR3 (.int .i64 0) (.int .u8 0) (.int .i64 0) (.int .u8 0) (.int .i64 0) (.int .i64 0)
    have f0 := fr 0; have f1 := fr 1; have f2 := fr 2; have f3 := fr 3; have f4 := fr 4; have f5 := fr 5
    have BB := hide (below_put B3 gZ (by omega) (by omega))
    clear CK PST b3 hP3 hR3 B3 sz3 gZ fr p0 p1 p2 p3 p4 p5 
    go_wp2
    refine bodyPost_ret (v := .tuple #[.agg #[.int .i64 0, .int .u8 0, .int .i64 0, .int .u8 0, .int .i64 0, .int .i64 0], .bool false, .int .i64 2]) (by simp [results, Tryd.results13, go_sem, z0, z1, z2, z3, z4, z5]) rfl ?_
    exact ⟨rfl, BB.out⟩
  rw [(Rol.ck_of x n 1 1048576).2.2 h0 hr] at CK
  have eE : Rol.heE x n = 0 := by unfold Rol.heE; rw [if_pos h0, if_neg hr]
  by_cases h3 : n ≤ x.e
  case pos =>
    have eP : Rol.he x n = x := by unfold Rol.he; rw [if_pos eE, if_neg (by omega)]
    have eB : Rol.heB x n = false := by unfold Rol.heB; rw [eE]; simp; omega
    rw [eP, eE, eB]
    clear eE eP eB h0 hr hx
    unfold vp
    go_enter Tryd.func13, Tryd.ntmps13
    go_wp2_with fail
    refine CK.out.mono ?_
    rintro E w3 ⟨rfl, b3⟩
    obtain ⟨hP3, hR3, B3, sz3⟩ := PST.out w3 b3
    obtain ⟨q0, q1, q2, q3, q4, q5⟩ := six_of hP3
    obtain ⟨Z, hZ, _, gZ, ⟨a0, a1, a2, a3, a4, a5⟩, fr, ⟨z0, z1, z2, z3, z4, z5⟩⟩ := put6 hR3 (.int .i64 x.e) (.int .u8 x.r) (.int .i64 x.a) (.int .u8 x.p) (.int .i64 x.f) (.int .i64 x.b)
    have f0 := fr 0; have f1 := fr 1; have f2 := fr 2; have f3 := fr 3; have f4 := fr 4; have f5 := fr 5
    have BB := hide (below_put B3 gZ (by omega) (by omega))
    clear CK PST b3 hP3 hR3 B3 sz3 gZ fr p0 p1 p2 p3 p4 p5
    go_wp2
    refine bodyPost_ret (v := .tuple #[.agg #[.int .i64 x.e, .int .u8 x.r, .int .i64 x.a, .int .u8 x.p, .int .i64 x.f, .int .i64 x.b], .bool false, .int .i64 0]) (by simp [results, Tryd.results13, go_sem, z0, z1, z2, z3, z4, z5]) rfl ?_
    exact ⟨rfl, BB.out⟩
  have eP : Rol.he x n = ⟨n, 3, 0, 1, 0, 0⟩ := by unfold Rol.he; rw [if_pos eE, if_pos (by omega)]
  have eB : Rol.heB x n = true := by unfold Rol.heB; rw [eE]; simp; omega
  rw [eP, eE, eB]
  have CC : Hid (∀ W, Below w2.heap.size w2 W → Calls Tryd.prog 36 #[.int .i64 n, .int .i64 0] W fun E w' => ∃ B, E = .returned (.agg #[.func (.func 43) #[] #[.pointer (some ⟨B, 0, none⟩)], .func (.func 44) #[] #[.pointer (some ⟨B, 0, none⟩)], .func (.func 45) #[] #[.pointer (some ⟨B, 0, none⟩), .pointer (some ⟨B + 1, 0, none⟩)], .func (.func 49) #[] #[.pointer (some ⟨B + 3, 0, none⟩)], .func (.func 49) #[] #[.pointer (some ⟨B + 4, 0, none⟩)], .func (.func 47) #[] #[], .func (.func 48) #[] #[.pointer (some ⟨B, 0, none⟩)]]) ∧ Tbl B n 0 w' ∧ Below w2.heap.size w2 w') := hide fun W hW => (pchg_any n 0 W).mono fun E w' h => ⟨W.heap.size, h.1, h.2.1, hW.trans (h.2.2.mono hW.size)⟩
  clear eE eP eB h0 hr hx
  unfold vp
  go_enter Tryd.func13, Tryd.ntmps13
  go_wp2_with fail
  refine CK.out.mono ?_
  rintro E w3 ⟨rfl, b3⟩
  obtain ⟨hP3, hR3, B3, sz3⟩ := PST.out w3 b3
  obtain ⟨q0, q1, q2, q3, q4, q5⟩ := six_of hP3
  have Sk3 := hide (cells1 hP3)
  have B3' := hide b3
  clear CK b3 hP3 hR3 B3 sz3 p0 p1 p2 p3 p4 p5
  go_wp2_with fail
  have hix : ∀ (f0 f1 f2 f3 f4 f5 f6 : Value) (w : World), (Instr.index 53 (.agg #[f0, f1, f2, f3, f4, f5, f6]) (.int .i64 6)).run Tryd.prog w = .ok f6 w := Tryd.idxT6
  go_region_held3 (fun W => W.cell? ⟨w.heap.size, 0, none⟩ = some (.int .i64 x.e) ∧ W.cell? ⟨w.heap.size, 1, none⟩ = some (.int .u8 x.r) ∧ W.cell? ⟨w.heap.size, 2, none⟩ = some (.int .i64 x.a) ∧ W.cell? ⟨w.heap.size, 3, none⟩ = some (.int .u8 x.p) ∧ W.cell? ⟨w.heap.size, 4, none⟩ = some (.int .i64 x.f) ∧ W.cell? ⟨w.heap.size, 5, none⟩ = some (.int .i64 x.b)) (first | exact Sk7.out | exact Sk6.out | exact Sk4.out | exact Sk3.out | go_keep)
    (first
    | (go_at_call 36; refine (CC.out _ B3'.out.drew).mono ?_; rintro E w4 ⟨B, rfl, t4, b4⟩; have T4 := hide t4; have B4 := hide b4; have Sk4 := hide (cells1 (PST.out w4 b4).1); clear t4 b4)
    | (go_at_call 48; refine (pstep6_any x n B _ T4.out.h0).mono ?_; rintro E w6 ⟨rfl, b6⟩; obtain ⟨hP6, hR6, B6, sz6⟩ := PST.out w6 (B4.out.trans (b6.mono B4.out.size)); obtain ⟨Z, hZ, _, gZ, ⟨a0, a1, a2, a3, a4, a5⟩, fr, ⟨z0, z1, z2, z3, z4, z5⟩⟩ := put6 hR6 (.int .i64 n) (.int .u8 3) (.int .i64 0) (.int .u8 1) (.int .i64 0) (.int .i64 0); have f0 := fr 0; have f1 := fr 1; have f2 := fr 2; have f3 := fr 3; have f4 := fr 4; have f5 := fr 5; have BB := hide (below_put B6 gZ (by omega) (by omega)); have Sk6 := hide (cells1 hP6); have Sk7 := hide (cells1 ((grown_other gZ ⟨by omega, by omega⟩).trans hP6)); clear b6 hP6 hR6 B6 sz6 gZ fr))
  all_goals
    go_wp2
    refine bodyPost_ret (v := .tuple #[.agg #[.int .i64 n, .int .u8 3, .int .i64 0, .int .u8 1, .int .i64 0, .int .i64 0], .bool true, .int .i64 0]) (by simp [results, Tryd.results13, go_sem, z0, z1, z2, z3, z4, z5]) rfl ?_
    exact ⟨rfl, BB.out⟩

theorem Tryd.neqP (a b c d e f a' b' c' d' e' f' : Int) (w : World) : (binOp .neq 25 (.agg #[.int .i64 a, .int .u8 b, .int .i64 c, .int .u8 d, .int .i64 e, .int .i64 f]) (.agg #[.int .i64 a', .int .u8 b', .int .i64 c', .int .u8 d', .int .i64 e', .int .i64 f'])).run Tryd.prog w = .ok (.bool (!(a == a' && b == b' && c == c' && d == d' && e == e' && f == f'))) w := by
  rw [run_neq_struct, run_equalIn_agg w 9999 25 _ _ (by kernel_rfl) (by kernel_rfl)]
  unfold Program.fieldsOf
  rw [Tryd.underlying25]
  simp [Op.eqFields, go_sem, Tryd.underlying22, Tryd.underlying23, Tryd.underlying3]
  by_cases h1 : a = a' <;> by_cases h2 : b = b' <;> by_cases h3 : c = c' <;> by_cases h4 : d = d' <;> by_cases h5 : e = e' <;> by_cases h6 : f = f' <;> simp [h1, h2, h3, h4, h5, h6]

set_option maxRecDepth 20000 in
set_option maxHeartbeats 4000000 in
theorem packed_any (x : Pm.Pg) (n : Int) (w : World) (hx : FitP x) (hm : Mst w) (hn : I64 n) :
    Calls Tryd.prog 21 #[vp x, .int .i64 n] w fun E w' => E = .returned (.tuple #[vp (Rol.ak x n), .bool (Rol.akB x n), .int .i64 (Rol.akE x n)]) ∧ Below w.heap.size w w' := by
  obtain ⟨w1, w2, hw1, hw2, sz1, sz2, bel2, ⟨p0, p1, p2, p3, p4, p5⟩, PST⟩ := role_open x w
  have CK := hide (pck_any x n 0 1048576 w2 hx (hm.below bel2))
  clear bel2 hm
  by_cases h0 : Pm.chk x = 0
  case neg =>
    rw [(Rol.ck_of x n 0 1048576).1 h0] at CK
    have eE : Rol.akE x n = Pm.chk x := by unfold Rol.akE; (repeat' split) <;> omega
    have eP : Rol.ak x n = Pm.no := by unfold Rol.ak; rw [if_neg (by rw [eE]; omega)]
    have eB : Rol.akB x n = false := by unfold Rol.akB; rw [eE]; simp <;> omega
    rw [eP, eE, eB]
    have hb : (Pm.chk x != 0) = true := by simpa using h0
    generalize Pm.chk x = ch at *
    clear eE eP eB h0 hx 
    unfold vp
    go_enter Tryd.func21, Tryd.ntmps21
    go_wp2_with fail
    refine CK.out.mono ?_
    rintro E w3 ⟨rfl, b3⟩
    obtain ⟨hP3, hR3, B3, sz3⟩ := PST.out w3 b3
    obtain ⟨q0, q1, q2, q3, q4, q5⟩ := six_of hP3
    obtain ⟨Z, hZ, _, gZ, ⟨a0, a1, a2, a3, a4, a5⟩, fr, ⟨z0, z1, z2, z3, z4, z5⟩⟩ := put6 hR3 (.int .i64 0) (.int .u8 0) (.int .i64 0) (.int .u8 0) (.int .i64 0) (.int .i64 0)
    have f0 := fr 0; have f1 := fr 1; have f2 := fr 2; have f3 := fr 3; have f4 := fr 4; have f5 := fr 5
    have BB := hide (below_put B3 gZ (by omega) (by omega))
    clear CK PST b3 hP3 hR3 B3 sz3 gZ fr p0 p1 p2 p3 p4 p5 
    go_wp2
    refine bodyPost_ret (v := .tuple #[.agg #[.int .i64 0, .int .u8 0, .int .i64 0, .int .u8 0, .int .i64 0, .int .i64 0], .bool false, .int .i64 ch]) (by simp [results, Tryd.results21, go_sem, z0, z1, z2, z3, z4, z5]) rfl ?_
    exact ⟨rfl, BB.out⟩
  by_cases hr : n < 0 ∨ 1048576 < n
  case pos =>
    rw [(Rol.ck_of x n 0 1048576).2.1 h0 hr] at CK
    have eE : Rol.akE x n = 2 := by unfold Rol.akE; (repeat' split) <;> omega
    have eP : Rol.ak x n = Pm.no := by unfold Rol.ak; rw [if_neg (by rw [eE]; omega)]
    have eB : Rol.akB x n = false := by unfold Rol.akB; rw [eE]; simp <;> omega
    rw [eP, eE, eB]
    clear eE eP eB h0 hx hr 
    unfold vp
    go_enter Tryd.func21, Tryd.ntmps21
    go_wp2_with fail
    refine CK.out.mono ?_
    rintro E w3 ⟨rfl, b3⟩
    obtain ⟨hP3, hR3, B3, sz3⟩ := PST.out w3 b3
    obtain ⟨q0, q1, q2, q3, q4, q5⟩ := six_of hP3
    obtain ⟨Z, hZ, _, gZ, ⟨a0, a1, a2, a3, a4, a5⟩, fr, ⟨z0, z1, z2, z3, z4, z5⟩⟩ := put6 hR3 (.int .i64 0) (.int .u8 0) (.int .i64 0) (.int .u8 0) (.int .i64 0) (.int .i64 0)
    have f0 := fr 0; have f1 := fr 1; have f2 := fr 2; have f3 := fr 3; have f4 := fr 4; have f5 := fr 5
    have BB := hide (below_put B3 gZ (by omega) (by omega))
    clear CK PST b3 hP3 hR3 B3 sz3 gZ fr p0 p1 p2 p3 p4 p5 
    go_wp2
    refine bodyPost_ret (v := .tuple #[.agg #[.int .i64 0, .int .u8 0, .int .i64 0, .int .u8 0, .int .i64 0, .int .i64 0], .bool false, .int .i64 2]) (by simp [results, Tryd.results21, go_sem, z0, z1, z2, z3, z4, z5]) rfl ?_
    exact ⟨rfl, BB.out⟩
  rw [(Rol.ck_of x n 0 1048576).2.2 h0 hr] at CK
  by_cases ho : Rol.own x = 0
  case neg =>
    have hp : x.r ≠ 1 := fun h => ho ((Rol.own_of h0).1.2 h)
    have eE : Rol.akE x n = 15 := by unfold Rol.akE; (repeat' split) <;> omega
    have eP : Rol.ak x n = Pm.no := by unfold Rol.ak; rw [if_neg (by rw [eE]; omega)]
    have eB : Rol.akB x n = false := by unfold Rol.akB; rw [eE]; simp
    rw [eP, eE, eB]
    clear eE eP eB h0 hr hx hp
    unfold vp
    go_enter Tryd.func21, Tryd.ntmps21
    go_wp2_with fail
    refine CK.out.mono ?_
    rintro E w3 ⟨rfl, b3⟩
    obtain ⟨hP3, hR3, B3, sz3⟩ := PST.out w3 b3
    obtain ⟨q0, q1, q2, q3, q4, q5⟩ := six_of hP3
    have FO := hide (fun m => pfol_no x 0 m 0 w3 ho)
    have B3h := hide b3
    skip
    clear CK b3 hP3 hR3 B3 p0 p1 p2 p3 p4 p5 ho
    unfold vp at FO
    go_wp2_with fail
    all_goals
      refine (FO.out _).mono ?_
      rintro E w4 ⟨rfl, b4⟩
      obtain ⟨hP4, hR4, B4, sz4⟩ := PST.out w4 (B3h.out.trans (b4.mono B3h.out.size))
      obtain ⟨V, hV, hV2, szV, bV, hVV, ⟨v0, v1, v2, v3, v4, v5⟩⟩ := new6 w4 25 (.int .i64 0) (.int .u8 0) (.int .i64 0) (.int .u8 0) (.int .i64 0) (.int .i64 0) (.int .i64 0) (.int .u8 0) (.int .i64 0) (.int .u8 0) (.int .i64 0) (.int .i64 0)
      have hPV := (bV.block w.heap.size (by omega)).trans hP4
      have hRV := (bV.block (w.heap.size + 1) (by omega)).trans hR4
      have BV := B4.trans (bV.mono (by omega))
      obtain ⟨x0, x1, x2, x3, x4, x5⟩ := six_of hPV
      obtain ⟨Z, hZ, _, gZ, ⟨a0, a1, a2, a3, a4, a5⟩, fr, ⟨z0, z1, z2, z3, z4, z5⟩⟩ := put6 hRV (.int .i64 0) (.int .u8 0) (.int .i64 0) (.int .u8 0) (.int .i64 0) (.int .i64 0)
      have f0 := fr 0; have f1 := fr 1; have f2 := fr 2; have f3 := fr 3; have f4 := fr 4; have f5 := fr 5
      have BB := hide (below_put BV gZ (by omega) (by omega))
      clear hV
      obtain ⟨y0, y1, y2, y3, y4, y5, d0, d1, d2, d3, d4, d5⟩ := sam_of hVV
      obtain ⟨u0, u1, u2, u3, u4, u5⟩ := six_of ((grown_other gZ ⟨by omega, by omega⟩).trans hPV)
      obtain ⟨t0, t1, t2, t3, t4, t5⟩ := six_of ((grown_other gZ ⟨by omega, by omega⟩).trans hVV)
      clear PST FO B3h b4 hP4 hR4 B4 gZ fr q0 q1 q2 q3 q4 q5 hPV hRV BV bV hVV
      go_wp2
      go_region
      all_goals
        go_wp2
        refine bodyPost_ret (v := .tuple #[.agg #[.int .i64 0, .int .u8 0, .int .i64 0, .int .u8 0, .int .i64 0, .int .i64 0], .bool false, .int .i64 15]) (by simp [results, Tryd.results21, go_sem, z0, z1, z2, z3, z4, z5]) rfl ?_
        exact ⟨rfl, BB.out.drew⟩
  have hp : x.r = 1 := (Rol.own_of h0).1.1 ho
  have eE : Rol.akE x n = 0 := by unfold Rol.akE; (repeat' split) <;> omega
  by_cases h4 : x.a < n
  case pos =>
    have eP : Rol.ak x n = ⟨x.e, x.r, n, x.p, x.f, x.b⟩ := by unfold Rol.ak; rw [if_pos eE, if_pos h4]
    have eB : Rol.akB x n = true := by unfold Rol.akB; rw [eE]; simp; omega
    rw [eP, eE, eB]
    have hne : ∀ W, (binOp .neq 25 (.agg #[.int .i64 x.e, .int .u8 x.r, .int .i64 n, .int .u8 x.p, .int .i64 x.f, .int .i64 x.b]) (.agg #[.int .i64 x.e, .int .u8 x.r, .int .i64 x.a, .int .u8 x.p, .int .i64 x.f, .int .i64 x.b])).run Tryd.prog W = .ok (.bool true) W := fun W => by
      rw [Tryd.neqP]
      have : (n == x.a) = false := by rw [beq_eq_false_iff_ne]; omega
      simp [this]
    have h5 : ¬ n < x.a := by omega
    clear eE eP eB h0 hr hx hp
    unfold vp
    go_enter Tryd.func21, Tryd.ntmps21
    go_wp2_with fail
    refine CK.out.mono ?_
    rintro E w3 ⟨rfl, b3⟩
    obtain ⟨hP3, hR3, B3, sz3⟩ := PST.out w3 b3
    obtain ⟨q0, q1, q2, q3, q4, q5⟩ := six_of hP3
    have FO := hide (pfol0_any x n 0 w3 ho)
    have B3h := hide b3
    skip
    clear CK b3 hP3 hR3 B3 p0 p1 p2 p3 p4 p5 ho
    unfold vp at FO
    go_wp2_with fail
    refine FO.out.mono ?_
    rintro E w4 ⟨rfl, b4⟩
    obtain ⟨hP4, hR4, B4, sz4⟩ := PST.out w4 (B3h.out.trans (b4.mono B3h.out.size))
    obtain ⟨V, hV, hV2, szV, bV, hVV, ⟨v0, v1, v2, v3, v4, v5⟩⟩ := new6 w4 25 (.int .i64 0) (.int .u8 0) (.int .i64 0) (.int .u8 0) (.int .i64 0) (.int .i64 0) (.int .i64 x.e) (.int .u8 x.r) (.int .i64 n) (.int .u8 x.p) (.int .i64 x.f) (.int .i64 x.b)
    have hPV := (bV.block w.heap.size (by omega)).trans hP4
    have hRV := (bV.block (w.heap.size + 1) (by omega)).trans hR4
    have BV := B4.trans (bV.mono (by omega))
    obtain ⟨x0, x1, x2, x3, x4, x5⟩ := six_of hPV
    obtain ⟨Z, hZ, _, gZ, ⟨a0, a1, a2, a3, a4, a5⟩, fr, ⟨z0, z1, z2, z3, z4, z5⟩⟩ := put6 hRV (.int .i64 x.e) (.int .u8 x.r) (.int .i64 n) (.int .u8 x.p) (.int .i64 x.f) (.int .i64 x.b)
    have f0 := fr 0; have f1 := fr 1; have f2 := fr 2; have f3 := fr 3; have f4 := fr 4; have f5 := fr 5
    have BB := hide (below_put BV gZ (by omega) (by omega))
    skip
    obtain ⟨u0, u1, u2, u3, u4, u5⟩ := six_of ((grown_other gZ ⟨by omega, by omega⟩).trans hPV)
    obtain ⟨t0, t1, t2, t3, t4, t5⟩ := six_of ((grown_other gZ ⟨by omega, by omega⟩).trans hVV)
    clear PST FO B3h b4 hP4 hR4 B4 gZ fr q0 q1 q2 q3 q4 q5 hPV hRV BV bV hVV
    go_wp2
    go_region
    all_goals
      go_wp2
      refine bodyPost_ret (v := .tuple #[.agg #[.int .i64 x.e, .int .u8 x.r, .int .i64 n, .int .u8 x.p, .int .i64 x.f, .int .i64 x.b], .bool true, .int .i64 0]) (by simp [results, Tryd.results21, go_sem, z0, z1, z2, z3, z4, z5]) rfl ?_
      exact ⟨rfl, BB.out.drew⟩
  have eP : Rol.ak x n = x := by unfold Rol.ak; rw [if_pos eE, if_neg h4]
  have eB : Rol.akB x n = false := by unfold Rol.akB; rw [eE]; simp; omega
  rw [eP, eE, eB]
  have hne : ∀ W, (binOp .neq 25 (.agg #[.int .i64 x.e, .int .u8 x.r, .int .i64 x.a, .int .u8 x.p, .int .i64 x.f, .int .i64 x.b]) (.agg #[.int .i64 x.e, .int .u8 x.r, .int .i64 x.a, .int .u8 x.p, .int .i64 x.f, .int .i64 x.b])).run Tryd.prog W = .ok (.bool false) W := fun W => by
    rw [Tryd.neqP]
    simp
  by_cases h5 : n = x.a
  case pos =>
    subst h5
    clear eE eP eB h0 hr hx hp
    unfold vp
    go_enter Tryd.func21, Tryd.ntmps21
    go_wp2_with fail
    refine CK.out.mono ?_
    rintro E w3 ⟨rfl, b3⟩
    obtain ⟨hP3, hR3, B3, sz3⟩ := PST.out w3 b3
    obtain ⟨q0, q1, q2, q3, q4, q5⟩ := six_of hP3
    have FO := hide (pfol0_any x x.a 0 w3 ho)
    have B3h := hide b3
    skip
    clear CK b3 hP3 hR3 B3 p0 p1 p2 p3 p4 p5 ho
    unfold vp at FO
    go_wp2_with fail
    refine FO.out.mono ?_
    rintro E w4 ⟨rfl, b4⟩
    obtain ⟨hP4, hR4, B4, sz4⟩ := PST.out w4 (B3h.out.trans (b4.mono B3h.out.size))
    obtain ⟨V, hV, hV2, szV, bV, hVV, ⟨v0, v1, v2, v3, v4, v5⟩⟩ := new6 w4 25 (.int .i64 0) (.int .u8 0) (.int .i64 0) (.int .u8 0) (.int .i64 0) (.int .i64 0) (.int .i64 x.e) (.int .u8 x.r) (.int .i64 x.a) (.int .u8 x.p) (.int .i64 x.f) (.int .i64 x.b)
    have hPV := (bV.block w.heap.size (by omega)).trans hP4
    have hRV := (bV.block (w.heap.size + 1) (by omega)).trans hR4
    have BV := B4.trans (bV.mono (by omega))
    obtain ⟨x0, x1, x2, x3, x4, x5⟩ := six_of hPV
    obtain ⟨Z, hZ, _, gZ, ⟨a0, a1, a2, a3, a4, a5⟩, fr, ⟨z0, z1, z2, z3, z4, z5⟩⟩ := put6 hRV (.int .i64 x.e) (.int .u8 x.r) (.int .i64 x.a) (.int .u8 x.p) (.int .i64 x.f) (.int .i64 x.b)
    have f0 := fr 0; have f1 := fr 1; have f2 := fr 2; have f3 := fr 3; have f4 := fr 4; have f5 := fr 5
    have BB := hide (below_put BV gZ (by omega) (by omega))
    skip
    obtain ⟨u0, u1, u2, u3, u4, u5⟩ := six_of ((grown_other gZ ⟨by omega, by omega⟩).trans hPV)
    obtain ⟨t0, t1, t2, t3, t4, t5⟩ := six_of ((grown_other gZ ⟨by omega, by omega⟩).trans hVV)
    clear PST FO B3h b4 hP4 hR4 B4 gZ fr q0 q1 q2 q3 q4 q5 hPV hRV BV bV hVV
    go_wp2
    go_region
    all_goals
      go_wp2
      refine bodyPost_ret (v := .tuple #[.agg #[.int .i64 x.e, .int .u8 x.r, .int .i64 x.a, .int .u8 x.p, .int .i64 x.f, .int .i64 x.b], .bool false, .int .i64 0]) (by simp [results, Tryd.results21, go_sem, z0, z1, z2, z3, z4, z5]) rfl ?_
      exact ⟨rfl, BB.out.drew⟩
  have h6 : n < x.a := by omega
  clear eE eP eB h0 hr hx hp h5
  unfold vp
  go_enter Tryd.func21, Tryd.ntmps21
  go_wp2_with fail
  refine CK.out.mono ?_
  rintro E w3 ⟨rfl, b3⟩
  obtain ⟨hP3, hR3, B3, sz3⟩ := PST.out w3 b3
  obtain ⟨q0, q1, q2, q3, q4, q5⟩ := six_of hP3
  have FO := hide (pfol0_any x x.a 0 w3 ho)
  have B3h := hide b3
  skip
  clear CK b3 hP3 hR3 B3 p0 p1 p2 p3 p4 p5 ho
  unfold vp at FO
  go_wp2_with fail
  refine FO.out.mono ?_
  rintro E w4 ⟨rfl, b4⟩
  obtain ⟨hP4, hR4, B4, sz4⟩ := PST.out w4 (B3h.out.trans (b4.mono B3h.out.size))
  obtain ⟨V, hV, hV2, szV, bV, hVV, ⟨v0, v1, v2, v3, v4, v5⟩⟩ := new6 w4 25 (.int .i64 0) (.int .u8 0) (.int .i64 0) (.int .u8 0) (.int .i64 0) (.int .i64 0) (.int .i64 x.e) (.int .u8 x.r) (.int .i64 x.a) (.int .u8 x.p) (.int .i64 x.f) (.int .i64 x.b)
  have hPV := (bV.block w.heap.size (by omega)).trans hP4
  have hRV := (bV.block (w.heap.size + 1) (by omega)).trans hR4
  have BV := B4.trans (bV.mono (by omega))
  obtain ⟨x0, x1, x2, x3, x4, x5⟩ := six_of hPV
  obtain ⟨Z, hZ, _, gZ, ⟨a0, a1, a2, a3, a4, a5⟩, fr, ⟨z0, z1, z2, z3, z4, z5⟩⟩ := put6 hRV (.int .i64 x.e) (.int .u8 x.r) (.int .i64 x.a) (.int .u8 x.p) (.int .i64 x.f) (.int .i64 x.b)
  have f0 := fr 0; have f1 := fr 1; have f2 := fr 2; have f3 := fr 3; have f4 := fr 4; have f5 := fr 5
  have BB := hide (below_put BV gZ (by omega) (by omega))
  skip
  obtain ⟨u0, u1, u2, u3, u4, u5⟩ := six_of ((grown_other gZ ⟨by omega, by omega⟩).trans hPV)
  obtain ⟨t0, t1, t2, t3, t4, t5⟩ := six_of ((grown_other gZ ⟨by omega, by omega⟩).trans hVV)
  clear PST FO B3h b4 hP4 hR4 B4 gZ fr q0 q1 q2 q3 q4 q5 hPV hRV BV bV hVV
  go_wp2
  go_region
  all_goals
    go_wp2
    refine bodyPost_ret (v := .tuple #[.agg #[.int .i64 x.e, .int .u8 x.r, .int .i64 x.a, .int .u8 x.p, .int .i64 x.f, .int .i64 x.b], .bool false, .int .i64 0]) (by simp [results, Tryd.results21, go_sem, z0, z1, z2, z3, z4, z5]) rfl ?_
    exact ⟨rfl, BB.out.drew⟩

end Go.Proofs.YthndeolibilnnaaDoor
