/- The program's roles (layer 20): the step of a page that is its own, taken out of the table. -/
import Derived.Test.YthndeolibilnnaaDoorRoqc
namespace Go.Proofs.YthndeolibilnnaaDoor
open Go.RowKit
set_option linter.unusedVariables false

set_option maxRecDepth 20000 in
set_option maxHeartbeats 1000000 in
theorem pfol_no (x : Pm.Pg) (k n b : Int) (w : World) (h : Rol.own x ≠ k) :
    Calls Tryd.prog 34 #[vp x, .int .i64 k, .int .i64 n, .int .i64 b] w fun E w' => E = .returned (.tuple #[.agg #[.int .i64 0, .int .u8 0, .int .i64 0, .int .u8 0, .int .i64 0, .int .i64 0], .int .i64 15]) ∧ Below w.heap.size w w' := by
  obtain ⟨w1, w2, hw1, hw2, sz1, sz2, bel2, ⟨p0, p1, p2, p3, p4, p5⟩, PST⟩ := role_open x w
  have C0 := hide (pown_any x w2)
  have hb : (Rol.own x != k) = true := by simpa using h
  generalize Rol.own x = o at *
  clear bel2 h
  unfold vp
  go_enter Tryd.func34, Tryd.ntmps34
  go_wp2_with fail
  refine C0.out.mono ?_
  rintro E w3 ⟨rfl, b3⟩
  obtain ⟨hP3, hR3, B3, sz3⟩ := PST.out w3 b3
  obtain ⟨Z, hZ, _, gZ, ⟨a0, a1, a2, a3, a4, a5⟩, fr, ⟨z0, z1, z2, z3, z4, z5⟩⟩ := put6 hR3 (.int .i64 0) (.int .u8 0) (.int .i64 0) (.int .u8 0) (.int .i64 0) (.int .i64 0)
  have f0 := fr 0; have f1 := fr 1; have f2 := fr 2; have f3 := fr 3; have f4 := fr 4; have f5 := fr 5
  have BB := hide (below_put B3 gZ (by omega) (by omega))
  clear C0 PST b3 hP3 hR3 B3 sz3 gZ fr p0 p1 p2 p3 p4 p5
  go_wp2
  refine bodyPost_ret (v := .tuple #[.agg #[.int .i64 0, .int .u8 0, .int .i64 0, .int .u8 0, .int .i64 0, .int .i64 0], .int .i64 15]) (by simp [results, Tryd.results34, go_sem, z0, z1, z2, z3, z4, z5]) rfl ?_
  exact ⟨rfl, BB.out⟩

set_option maxRecDepth 20000 in
set_option maxHeartbeats 2000000 in
theorem pfol0_any (x : Pm.Pg) (n b : Int) (w : World) (h : Rol.own x = 0) :
    Calls Tryd.prog 34 #[vp x, .int .i64 0, .int .i64 n, .int .i64 b] w fun E w' => E = .returned (.tuple #[.agg #[.int .i64 x.e, .int .u8 x.r, .int .i64 n, .int .u8 x.p, .int .i64 x.f, .int .i64 x.b], .int .i64 0]) ∧ Below w.heap.size w w' := by
  obtain ⟨w1, w2, hw1, hw2, sz1, sz2, bel2, ⟨p0, p1, p2, p3, p4, p5⟩, PST⟩ := role_open x w
  have C0 := hide (pown_any x w2)
  rw [h] at C0
  have CC : Hid (∀ W, Below w2.heap.size w2 W → Calls Tryd.prog 36 #[.int .i64 n, .int .i64 b] W fun E w' => ∃ B, E = .returned (.agg #[.func (.func 43) #[] #[.pointer (some ⟨B, 0, none⟩)], .func (.func 44) #[] #[.pointer (some ⟨B, 0, none⟩)], .func (.func 45) #[] #[.pointer (some ⟨B, 0, none⟩), .pointer (some ⟨B + 1, 0, none⟩)], .func (.func 49) #[] #[.pointer (some ⟨B + 3, 0, none⟩)], .func (.func 49) #[] #[.pointer (some ⟨B + 4, 0, none⟩)], .func (.func 47) #[] #[], .func (.func 48) #[] #[.pointer (some ⟨B, 0, none⟩)]]) ∧ Tbl B n b w' ∧ Below w2.heap.size w2 w') := hide fun W hW => (pchg_any n b W).mono fun E w' h => ⟨W.heap.size, h.1, h.2.1, hW.trans (h.2.2.mono hW.size)⟩
  clear bel2 h
  unfold vp
  go_enter Tryd.func34, Tryd.ntmps34
  go_wp2_with fail
  refine C0.out.mono ?_
  rintro E w3 ⟨rfl, b3⟩
  obtain ⟨hP3, hR3, B3, sz3⟩ := PST.out w3 b3
  have Sk3 := hide (cells1 hP3)
  have B3' := hide b3
  clear C0 b3 hP3 hR3 B3 sz3 p0 p1 p2 p3 p4 p5
  go_wp2_with fail
  have hix := Tryd.idxT0
  go_region_held3 (fun W => W.cell? ⟨w.heap.size, 0, none⟩ = some (.int .i64 x.e) ∧ W.cell? ⟨w.heap.size, 1, none⟩ = some (.int .u8 x.r) ∧ W.cell? ⟨w.heap.size, 2, none⟩ = some (.int .i64 x.a) ∧ W.cell? ⟨w.heap.size, 3, none⟩ = some (.int .u8 x.p) ∧ W.cell? ⟨w.heap.size, 4, none⟩ = some (.int .i64 x.f) ∧ W.cell? ⟨w.heap.size, 5, none⟩ = some (.int .i64 x.b)) (first | exact Sk7.out | exact Sk6.out | exact Sk4.out | exact Sk3.out | go_keep)
    (first
    | (go_at_call 36; refine (CC.out _ B3'.out.drew).mono ?_; rintro E w4 ⟨B, rfl, t4, b4⟩; have T4 := hide t4; have B4 := hide b4; have Sk4 := hide (cells1 (PST.out w4 b4).1); clear t4 b4)
    | (go_at_call 43; refine (pstep0_any x n B _ T4.out.h0).mono ?_; rintro E w6 ⟨rfl, b6⟩; obtain ⟨hP6, hR6, B6, sz6⟩ := PST.out w6 (B4.out.trans (b6.mono B4.out.size)); obtain ⟨Z, hZ, _, gZ, ⟨a0, a1, a2, a3, a4, a5⟩, fr, ⟨z0, z1, z2, z3, z4, z5⟩⟩ := put6 hR6 (.int .i64 x.e) (.int .u8 x.r) (.int .i64 n) (.int .u8 x.p) (.int .i64 x.f) (.int .i64 x.b); have f0 := fr 0; have f1 := fr 1; have f2 := fr 2; have f3 := fr 3; have f4 := fr 4; have f5 := fr 5; have BB := hide (below_put B6 gZ (by omega) (by omega)); have Sk6 := hide (cells1 hP6); have Sk7 := hide (cells1 ((grown_other gZ ⟨by omega, by omega⟩).trans hP6)); clear b6 hP6 hR6 B6 sz6 gZ fr))
  all_goals
    go_wp2
    refine bodyPost_ret (v := .tuple #[.agg #[.int .i64 x.e, .int .u8 x.r, .int .i64 n, .int .u8 x.p, .int .i64 x.f, .int .i64 x.b], .int .i64 0]) (by simp [results, Tryd.results34, go_sem, z0, z1, z2, z3, z4, z5]) rfl ?_
    exact ⟨rfl, BB.out⟩

set_option maxRecDepth 20000 in
set_option maxHeartbeats 2000000 in
theorem pfol1_any (x : Pm.Pg) (n b : Int) (w : World) (h : Rol.own x = 1) (he : x.e ≤ 1048576) (he0 : 0 ≤ x.e) :
    Calls Tryd.prog 34 #[vp x, .int .i64 1, .int .i64 n, .int .i64 b] w fun E w' => E = .returned (.tuple #[.agg #[.int .i64 (x.e + 1), .int .u8 1, .int .i64 n, .int .u8 0, .int .i64 0, .int .i64 0], .int .i64 0]) ∧ Below w.heap.size w w' := by
  obtain ⟨w1, w2, hw1, hw2, sz1, sz2, bel2, ⟨p0, p1, p2, p3, p4, p5⟩, PST⟩ := role_open x w
  have C0 := hide (pown_any x w2)
  rw [h] at C0
  have CC : Hid (∀ W, Below w2.heap.size w2 W → Calls Tryd.prog 36 #[.int .i64 n, .int .i64 b] W fun E w' => ∃ B, E = .returned (.agg #[.func (.func 43) #[] #[.pointer (some ⟨B, 0, none⟩)], .func (.func 44) #[] #[.pointer (some ⟨B, 0, none⟩)], .func (.func 45) #[] #[.pointer (some ⟨B, 0, none⟩), .pointer (some ⟨B + 1, 0, none⟩)], .func (.func 49) #[] #[.pointer (some ⟨B + 3, 0, none⟩)], .func (.func 49) #[] #[.pointer (some ⟨B + 4, 0, none⟩)], .func (.func 47) #[] #[], .func (.func 48) #[] #[.pointer (some ⟨B, 0, none⟩)]]) ∧ Tbl B n b w' ∧ Below w2.heap.size w2 w') := hide fun W hW => (pchg_any n b W).mono fun E w' h => ⟨W.heap.size, h.1, h.2.1, hW.trans (h.2.2.mono hW.size)⟩
  clear bel2 h
  unfold vp
  go_enter Tryd.func34, Tryd.ntmps34
  go_wp2_with fail
  refine C0.out.mono ?_
  rintro E w3 ⟨rfl, b3⟩
  obtain ⟨hP3, hR3, B3, sz3⟩ := PST.out w3 b3
  have Sk3 := hide (cells1 hP3)
  have B3' := hide b3
  clear C0 b3 hP3 hR3 B3 sz3 p0 p1 p2 p3 p4 p5
  go_wp2_with fail
  have hix := Tryd.idxT1
  go_region_held3 (fun W => W.cell? ⟨w.heap.size, 0, none⟩ = some (.int .i64 x.e) ∧ W.cell? ⟨w.heap.size, 1, none⟩ = some (.int .u8 x.r) ∧ W.cell? ⟨w.heap.size, 2, none⟩ = some (.int .i64 x.a) ∧ W.cell? ⟨w.heap.size, 3, none⟩ = some (.int .u8 x.p) ∧ W.cell? ⟨w.heap.size, 4, none⟩ = some (.int .i64 x.f) ∧ W.cell? ⟨w.heap.size, 5, none⟩ = some (.int .i64 x.b)) (first | exact Sk7.out | exact Sk6.out | exact Sk4.out | exact Sk3.out | go_keep)
    (first
    | (go_at_call 36; refine (CC.out _ B3'.out.drew).mono ?_; rintro E w4 ⟨B, rfl, t4, b4⟩; have T4 := hide t4; have B4 := hide b4; have Sk4 := hide (cells1 (PST.out w4 b4).1); clear t4 b4)
    | (go_at_call 44; refine (pstep1_any x n B _ T4.out.h0 he he0).mono ?_; rintro E w6 ⟨rfl, b6⟩; obtain ⟨hP6, hR6, B6, sz6⟩ := PST.out w6 (B4.out.trans (b6.mono B4.out.size)); obtain ⟨Z, hZ, _, gZ, ⟨a0, a1, a2, a3, a4, a5⟩, fr, ⟨z0, z1, z2, z3, z4, z5⟩⟩ := put6 hR6 (.int .i64 (x.e + 1)) (.int .u8 1) (.int .i64 n) (.int .u8 0) (.int .i64 0) (.int .i64 0); have f0 := fr 0; have f1 := fr 1; have f2 := fr 2; have f3 := fr 3; have f4 := fr 4; have f5 := fr 5; have BB := hide (below_put B6 gZ (by omega) (by omega)); have Sk6 := hide (cells1 hP6); have Sk7 := hide (cells1 ((grown_other gZ ⟨by omega, by omega⟩).trans hP6)); clear b6 hP6 hR6 B6 sz6 gZ fr))
  all_goals
    go_wp2
    refine bodyPost_ret (v := .tuple #[.agg #[.int .i64 (x.e + 1), .int .u8 1, .int .i64 n, .int .u8 0, .int .i64 0, .int .i64 0], .int .i64 0]) (by simp [results, Tryd.results34, go_sem, z0, z1, z2, z3, z4, z5]) rfl ?_
    exact ⟨rfl, BB.out⟩

set_option maxRecDepth 20000 in
set_option maxHeartbeats 2000000 in
theorem pfol2_any (x : Pm.Pg) (n b : Int) (w : World) (h : Rol.own x = 2) :
    Calls Tryd.prog 34 #[vp x, .int .i64 2, .int .i64 n, .int .i64 b] w fun E w' => E = .returned (.tuple #[.agg #[.int .i64 x.e, .int .u8 x.r, .int .i64 x.a, .int .u8 2, .int .i64 n, .int .i64 b], .int .i64 0]) ∧ Below w.heap.size w w' := by
  obtain ⟨w1, w2, hw1, hw2, sz1, sz2, bel2, ⟨p0, p1, p2, p3, p4, p5⟩, PST⟩ := role_open x w
  have C0 := hide (pown_any x w2)
  rw [h] at C0
  have CC : Hid (∀ W, Below w2.heap.size w2 W → Calls Tryd.prog 36 #[.int .i64 n, .int .i64 b] W fun E w' => ∃ B, E = .returned (.agg #[.func (.func 43) #[] #[.pointer (some ⟨B, 0, none⟩)], .func (.func 44) #[] #[.pointer (some ⟨B, 0, none⟩)], .func (.func 45) #[] #[.pointer (some ⟨B, 0, none⟩), .pointer (some ⟨B + 1, 0, none⟩)], .func (.func 49) #[] #[.pointer (some ⟨B + 3, 0, none⟩)], .func (.func 49) #[] #[.pointer (some ⟨B + 4, 0, none⟩)], .func (.func 47) #[] #[], .func (.func 48) #[] #[.pointer (some ⟨B, 0, none⟩)]]) ∧ Tbl B n b w' ∧ Below w2.heap.size w2 w') := hide fun W hW => (pchg_any n b W).mono fun E w' h => ⟨W.heap.size, h.1, h.2.1, hW.trans (h.2.2.mono hW.size)⟩
  clear bel2 h
  unfold vp
  go_enter Tryd.func34, Tryd.ntmps34
  go_wp2_with fail
  refine C0.out.mono ?_
  rintro E w3 ⟨rfl, b3⟩
  obtain ⟨hP3, hR3, B3, sz3⟩ := PST.out w3 b3
  have Sk3 := hide (cells1 hP3)
  have B3' := hide b3
  clear C0 b3 hP3 hR3 B3 sz3 p0 p1 p2 p3 p4 p5
  go_wp2_with fail
  have hix := Tryd.idxT2
  go_region_held3 (fun W => W.cell? ⟨w.heap.size, 0, none⟩ = some (.int .i64 x.e) ∧ W.cell? ⟨w.heap.size, 1, none⟩ = some (.int .u8 x.r) ∧ W.cell? ⟨w.heap.size, 2, none⟩ = some (.int .i64 x.a) ∧ W.cell? ⟨w.heap.size, 3, none⟩ = some (.int .u8 x.p) ∧ W.cell? ⟨w.heap.size, 4, none⟩ = some (.int .i64 x.f) ∧ W.cell? ⟨w.heap.size, 5, none⟩ = some (.int .i64 x.b)) (first | exact Sk7.out | exact Sk6.out | exact Sk4.out | exact Sk3.out | go_keep)
    (first
    | (go_at_call 36; refine (CC.out _ B3'.out.drew).mono ?_; rintro E w4 ⟨B, rfl, t4, b4⟩; have T4 := hide t4; have B4 := hide b4; have Sk4 := hide (cells1 (PST.out w4 b4).1); clear t4 b4)
    | (go_at_call 45; refine (pstep2_any x b n B (B + 1) _ T4.out.h0 T4.out.h1).mono ?_; rintro E w6 ⟨rfl, b6⟩; obtain ⟨hP6, hR6, B6, sz6⟩ := PST.out w6 (B4.out.trans (b6.mono B4.out.size)); obtain ⟨Z, hZ, _, gZ, ⟨a0, a1, a2, a3, a4, a5⟩, fr, ⟨z0, z1, z2, z3, z4, z5⟩⟩ := put6 hR6 (.int .i64 x.e) (.int .u8 x.r) (.int .i64 x.a) (.int .u8 2) (.int .i64 n) (.int .i64 b); have f0 := fr 0; have f1 := fr 1; have f2 := fr 2; have f3 := fr 3; have f4 := fr 4; have f5 := fr 5; have BB := hide (below_put B6 gZ (by omega) (by omega)); have Sk6 := hide (cells1 hP6); have Sk7 := hide (cells1 ((grown_other gZ ⟨by omega, by omega⟩).trans hP6)); clear b6 hP6 hR6 B6 sz6 gZ fr))
  all_goals
    go_wp2
    refine bodyPost_ret (v := .tuple #[.agg #[.int .i64 x.e, .int .u8 x.r, .int .i64 x.a, .int .u8 2, .int .i64 n, .int .i64 b], .int .i64 0]) (by simp [results, Tryd.results34, go_sem, z0, z1, z2, z3, z4, z5]) rfl ?_
    exact ⟨rfl, BB.out⟩

set_option maxRecDepth 20000 in
set_option maxHeartbeats 2000000 in
theorem pfol3_any (x : Pm.Pg) (n b : Int) (w : World) (h : Rol.own x = 3) :
    Calls Tryd.prog 34 #[vp x, .int .i64 3, .int .i64 n, .int .i64 b] w fun E w' => E = .returned (.tuple #[.agg #[.int .i64 x.e, .int .u8 x.r, .int .i64 x.a, .int .u8 3, .int .i64 x.f, .int .i64 x.b], .int .i64 0]) ∧ Below w.heap.size w w' := by
  obtain ⟨w1, w2, hw1, hw2, sz1, sz2, bel2, ⟨p0, p1, p2, p3, p4, p5⟩, PST⟩ := role_open x w
  have C0 := hide (pown_any x w2)
  rw [h] at C0
  have CC : Hid (∀ W, Below w2.heap.size w2 W → Calls Tryd.prog 36 #[.int .i64 n, .int .i64 b] W fun E w' => ∃ B, E = .returned (.agg #[.func (.func 43) #[] #[.pointer (some ⟨B, 0, none⟩)], .func (.func 44) #[] #[.pointer (some ⟨B, 0, none⟩)], .func (.func 45) #[] #[.pointer (some ⟨B, 0, none⟩), .pointer (some ⟨B + 1, 0, none⟩)], .func (.func 49) #[] #[.pointer (some ⟨B + 3, 0, none⟩)], .func (.func 49) #[] #[.pointer (some ⟨B + 4, 0, none⟩)], .func (.func 47) #[] #[], .func (.func 48) #[] #[.pointer (some ⟨B, 0, none⟩)]]) ∧ Tbl B n b w' ∧ Below w2.heap.size w2 w') := hide fun W hW => (pchg_any n b W).mono fun E w' h => ⟨W.heap.size, h.1, h.2.1, hW.trans (h.2.2.mono hW.size)⟩
  clear bel2 h
  unfold vp
  go_enter Tryd.func34, Tryd.ntmps34
  go_wp2_with fail
  refine C0.out.mono ?_
  rintro E w3 ⟨rfl, b3⟩
  obtain ⟨hP3, hR3, B3, sz3⟩ := PST.out w3 b3
  have Sk3 := hide (cells1 hP3)
  have B3' := hide b3
  clear C0 b3 hP3 hR3 B3 sz3 p0 p1 p2 p3 p4 p5
  go_wp2_with fail
  have hix := Tryd.idxT3
  go_region_held3 (fun W => W.cell? ⟨w.heap.size, 0, none⟩ = some (.int .i64 x.e) ∧ W.cell? ⟨w.heap.size, 1, none⟩ = some (.int .u8 x.r) ∧ W.cell? ⟨w.heap.size, 2, none⟩ = some (.int .i64 x.a) ∧ W.cell? ⟨w.heap.size, 3, none⟩ = some (.int .u8 x.p) ∧ W.cell? ⟨w.heap.size, 4, none⟩ = some (.int .i64 x.f) ∧ W.cell? ⟨w.heap.size, 5, none⟩ = some (.int .i64 x.b)) (first | exact Sk7.out | exact Sk6.out | exact Sk4.out | exact Sk3.out | go_keep)
    (first
    | (go_at_call 36; refine (CC.out _ B3'.out.drew).mono ?_; rintro E w4 ⟨B, rfl, t4, b4⟩; have T4 := hide t4; have B4 := hide b4; have Sk4 := hide (cells1 (PST.out w4 b4).1); clear t4 b4)
    | (go_at_call 49; refine (pstep3_any x 3 (B + 3) _ T4.out.h3).mono ?_; rintro E w6 ⟨rfl, b6⟩; obtain ⟨hP6, hR6, B6, sz6⟩ := PST.out w6 (B4.out.trans (b6.mono B4.out.size)); obtain ⟨Z, hZ, _, gZ, ⟨a0, a1, a2, a3, a4, a5⟩, fr, ⟨z0, z1, z2, z3, z4, z5⟩⟩ := put6 hR6 (.int .i64 x.e) (.int .u8 x.r) (.int .i64 x.a) (.int .u8 3) (.int .i64 x.f) (.int .i64 x.b); have f0 := fr 0; have f1 := fr 1; have f2 := fr 2; have f3 := fr 3; have f4 := fr 4; have f5 := fr 5; have BB := hide (below_put B6 gZ (by omega) (by omega)); have Sk6 := hide (cells1 hP6); have Sk7 := hide (cells1 ((grown_other gZ ⟨by omega, by omega⟩).trans hP6)); clear b6 hP6 hR6 B6 sz6 gZ fr))
  all_goals
    go_wp2
    refine bodyPost_ret (v := .tuple #[.agg #[.int .i64 x.e, .int .u8 x.r, .int .i64 x.a, .int .u8 3, .int .i64 x.f, .int .i64 x.b], .int .i64 0]) (by simp [results, Tryd.results34, go_sem, z0, z1, z2, z3, z4, z5]) rfl ?_
    exact ⟨rfl, BB.out⟩

set_option maxRecDepth 20000 in
set_option maxHeartbeats 2000000 in
theorem pfol4_any (x : Pm.Pg) (n b : Int) (w : World) (h : Rol.own x = 4) :
    Calls Tryd.prog 34 #[vp x, .int .i64 4, .int .i64 n, .int .i64 b] w fun E w' => E = .returned (.tuple #[.agg #[.int .i64 x.e, .int .u8 x.r, .int .i64 x.a, .int .u8 4, .int .i64 x.f, .int .i64 x.b], .int .i64 0]) ∧ Below w.heap.size w w' := by
  obtain ⟨w1, w2, hw1, hw2, sz1, sz2, bel2, ⟨p0, p1, p2, p3, p4, p5⟩, PST⟩ := role_open x w
  have C0 := hide (pown_any x w2)
  rw [h] at C0
  have CC : Hid (∀ W, Below w2.heap.size w2 W → Calls Tryd.prog 36 #[.int .i64 n, .int .i64 b] W fun E w' => ∃ B, E = .returned (.agg #[.func (.func 43) #[] #[.pointer (some ⟨B, 0, none⟩)], .func (.func 44) #[] #[.pointer (some ⟨B, 0, none⟩)], .func (.func 45) #[] #[.pointer (some ⟨B, 0, none⟩), .pointer (some ⟨B + 1, 0, none⟩)], .func (.func 49) #[] #[.pointer (some ⟨B + 3, 0, none⟩)], .func (.func 49) #[] #[.pointer (some ⟨B + 4, 0, none⟩)], .func (.func 47) #[] #[], .func (.func 48) #[] #[.pointer (some ⟨B, 0, none⟩)]]) ∧ Tbl B n b w' ∧ Below w2.heap.size w2 w') := hide fun W hW => (pchg_any n b W).mono fun E w' h => ⟨W.heap.size, h.1, h.2.1, hW.trans (h.2.2.mono hW.size)⟩
  clear bel2 h
  unfold vp
  go_enter Tryd.func34, Tryd.ntmps34
  go_wp2_with fail
  refine C0.out.mono ?_
  rintro E w3 ⟨rfl, b3⟩
  obtain ⟨hP3, hR3, B3, sz3⟩ := PST.out w3 b3
  have Sk3 := hide (cells1 hP3)
  have B3' := hide b3
  clear C0 b3 hP3 hR3 B3 sz3 p0 p1 p2 p3 p4 p5
  go_wp2_with fail
  have hix := Tryd.idxT4
  go_region_held3 (fun W => W.cell? ⟨w.heap.size, 0, none⟩ = some (.int .i64 x.e) ∧ W.cell? ⟨w.heap.size, 1, none⟩ = some (.int .u8 x.r) ∧ W.cell? ⟨w.heap.size, 2, none⟩ = some (.int .i64 x.a) ∧ W.cell? ⟨w.heap.size, 3, none⟩ = some (.int .u8 x.p) ∧ W.cell? ⟨w.heap.size, 4, none⟩ = some (.int .i64 x.f) ∧ W.cell? ⟨w.heap.size, 5, none⟩ = some (.int .i64 x.b)) (first | exact Sk7.out | exact Sk6.out | exact Sk4.out | exact Sk3.out | go_keep)
    (first
    | (go_at_call 36; refine (CC.out _ B3'.out.drew).mono ?_; rintro E w4 ⟨B, rfl, t4, b4⟩; have T4 := hide t4; have B4 := hide b4; have Sk4 := hide (cells1 (PST.out w4 b4).1); clear t4 b4)
    | (go_at_call 49; refine (pstep3_any x 4 (B + 4) _ T4.out.h4).mono ?_; rintro E w6 ⟨rfl, b6⟩; obtain ⟨hP6, hR6, B6, sz6⟩ := PST.out w6 (B4.out.trans (b6.mono B4.out.size)); obtain ⟨Z, hZ, _, gZ, ⟨a0, a1, a2, a3, a4, a5⟩, fr, ⟨z0, z1, z2, z3, z4, z5⟩⟩ := put6 hR6 (.int .i64 x.e) (.int .u8 x.r) (.int .i64 x.a) (.int .u8 4) (.int .i64 x.f) (.int .i64 x.b); have f0 := fr 0; have f1 := fr 1; have f2 := fr 2; have f3 := fr 3; have f4 := fr 4; have f5 := fr 5; have BB := hide (below_put B6 gZ (by omega) (by omega)); have Sk6 := hide (cells1 hP6); have Sk7 := hide (cells1 ((grown_other gZ ⟨by omega, by omega⟩).trans hP6)); clear b6 hP6 hR6 B6 sz6 gZ fr))
  all_goals
    go_wp2
    refine bodyPost_ret (v := .tuple #[.agg #[.int .i64 x.e, .int .u8 x.r, .int .i64 x.a, .int .u8 4, .int .i64 x.f, .int .i64 x.b], .int .i64 0]) (by simp [results, Tryd.results34, go_sem, z0, z1, z2, z3, z4, z5]) rfl ?_
    exact ⟨rfl, BB.out⟩

set_option maxRecDepth 20000 in
set_option maxHeartbeats 2000000 in
theorem pfol5_any (x : Pm.Pg) (n b : Int) (w : World) (h : Rol.own x = 5) :
    Calls Tryd.prog 34 #[vp x, .int .i64 5, .int .i64 n, .int .i64 b] w fun E w' => E = .returned (.tuple #[.agg #[.int .i64 x.e, .int .u8 2, .int .i64 0, .int .u8 0, .int .i64 0, .int .i64 0], .int .i64 0]) ∧ Below w.heap.size w w' := by
  obtain ⟨w1, w2, hw1, hw2, sz1, sz2, bel2, ⟨p0, p1, p2, p3, p4, p5⟩, PST⟩ := role_open x w
  have C0 := hide (pown_any x w2)
  rw [h] at C0
  have CC : Hid (∀ W, Below w2.heap.size w2 W → Calls Tryd.prog 36 #[.int .i64 n, .int .i64 b] W fun E w' => ∃ B, E = .returned (.agg #[.func (.func 43) #[] #[.pointer (some ⟨B, 0, none⟩)], .func (.func 44) #[] #[.pointer (some ⟨B, 0, none⟩)], .func (.func 45) #[] #[.pointer (some ⟨B, 0, none⟩), .pointer (some ⟨B + 1, 0, none⟩)], .func (.func 49) #[] #[.pointer (some ⟨B + 3, 0, none⟩)], .func (.func 49) #[] #[.pointer (some ⟨B + 4, 0, none⟩)], .func (.func 47) #[] #[], .func (.func 48) #[] #[.pointer (some ⟨B, 0, none⟩)]]) ∧ Tbl B n b w' ∧ Below w2.heap.size w2 w') := hide fun W hW => (pchg_any n b W).mono fun E w' h => ⟨W.heap.size, h.1, h.2.1, hW.trans (h.2.2.mono hW.size)⟩
  clear bel2 h
  unfold vp
  go_enter Tryd.func34, Tryd.ntmps34
  go_wp2_with fail
  refine C0.out.mono ?_
  rintro E w3 ⟨rfl, b3⟩
  obtain ⟨hP3, hR3, B3, sz3⟩ := PST.out w3 b3
  have Sk3 := hide (cells1 hP3)
  have B3' := hide b3
  clear C0 b3 hP3 hR3 B3 sz3 p0 p1 p2 p3 p4 p5
  go_wp2_with fail
  have hix := Tryd.idxT5
  go_region_held3 (fun W => W.cell? ⟨w.heap.size, 0, none⟩ = some (.int .i64 x.e) ∧ W.cell? ⟨w.heap.size, 1, none⟩ = some (.int .u8 x.r) ∧ W.cell? ⟨w.heap.size, 2, none⟩ = some (.int .i64 x.a) ∧ W.cell? ⟨w.heap.size, 3, none⟩ = some (.int .u8 x.p) ∧ W.cell? ⟨w.heap.size, 4, none⟩ = some (.int .i64 x.f) ∧ W.cell? ⟨w.heap.size, 5, none⟩ = some (.int .i64 x.b)) (first | exact Sk7.out | exact Sk6.out | exact Sk4.out | exact Sk3.out | go_keep)
    (first
    | (go_at_call 36; refine (CC.out _ B3'.out.drew).mono ?_; rintro E w4 ⟨B, rfl, t4, b4⟩; have T4 := hide t4; have B4 := hide b4; have Sk4 := hide (cells1 (PST.out w4 b4).1); clear t4 b4)
    | (go_at_call 47; refine (pstep5_any x _).mono ?_; rintro E w6 ⟨rfl, b6⟩; obtain ⟨hP6, hR6, B6, sz6⟩ := PST.out w6 (B4.out.trans (b6.mono B4.out.size)); obtain ⟨Z, hZ, _, gZ, ⟨a0, a1, a2, a3, a4, a5⟩, fr, ⟨z0, z1, z2, z3, z4, z5⟩⟩ := put6 hR6 (.int .i64 x.e) (.int .u8 2) (.int .i64 0) (.int .u8 0) (.int .i64 0) (.int .i64 0); have f0 := fr 0; have f1 := fr 1; have f2 := fr 2; have f3 := fr 3; have f4 := fr 4; have f5 := fr 5; have BB := hide (below_put B6 gZ (by omega) (by omega)); have Sk6 := hide (cells1 hP6); have Sk7 := hide (cells1 ((grown_other gZ ⟨by omega, by omega⟩).trans hP6)); clear b6 hP6 hR6 B6 sz6 gZ fr))
  all_goals
    go_wp2
    refine bodyPost_ret (v := .tuple #[.agg #[.int .i64 x.e, .int .u8 2, .int .i64 0, .int .u8 0, .int .i64 0, .int .i64 0], .int .i64 0]) (by simp [results, Tryd.results34, go_sem, z0, z1, z2, z3, z4, z5]) rfl ?_
    exact ⟨rfl, BB.out⟩

end Go.Proofs.YthndeolibilnnaaDoor
