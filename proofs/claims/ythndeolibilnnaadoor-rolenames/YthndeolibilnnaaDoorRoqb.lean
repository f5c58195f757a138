/- The program's roles (layer 20): each step of the table, as a function of a page. -/
import Derived.Test.YthndeolibilnnaaDoorRoo
import Derived.Test.YthndeolibilnnaaDoorRoqa
namespace Go.Proofs.YthndeolibilnnaaDoor
open Go.RowKit
set_option linter.unusedVariables false

set_option maxRecDepth 20000 in
set_option maxHeartbeats 1000000 in
theorem pstep0_any (x : Pm.Pg) (n : Int) (g : Nat) (w : World) (hg : w.heap[g]? = some (.cells #[.int .i64 n] 3 (0, 0))) :
    Calls Tryd.prog 43 #[vp x, .pointer (some ⟨g, 0, none⟩)] w fun E w' => E = .returned (.agg #[.int .i64 x.e, .int .u8 x.r, .int .i64 n, .int .u8 x.p, .int .i64 x.f, .int .i64 x.b]) ∧ Below w.heap.size w w' := by
  obtain ⟨w1, w2, hw1, hw2, sz1, sz2, bel2, ⟨p0, p1, p2, p3, p4, p5⟩, PST⟩ := role_open x w
  obtain ⟨hP3, hR3, B3, sz3⟩ := PST.out w2 (Below.refl _ _)
  have lg := blk_lt hg
  have cg : w2.cell? ⟨g, 0, none⟩ = some (.int .i64 n) := blk_cell ((bel2.block g lg).trans hg) 0 rfl
  obtain ⟨m0, hm0, hPm0, gm0, fm0⟩ := put_at hP3 2 (.int .i64 n)
  have hRm0 := (grown_other gm0 (by omega)).trans hR3
  have Bm0 := below_put B3 gm0 (Nat.le_refl _) (by omega)
  have szm0 := gm0.size
  obtain ⟨r00, r01, r02, r03, r04, r05⟩ : Six m0 w.heap.size (.int .i64 x.e) (.int .u8 x.r) (.int .i64 n) (.int .u8 x.p) (.int .i64 x.f) (.int .i64 x.b) := six_of hPm0
  obtain ⟨Z, hZ, _, gZ, ⟨a0, a1, a2, a3, a4, a5⟩, fr, ⟨z0, z1, z2, z3, z4, z5⟩⟩ := put6 hRm0 (.int .i64 x.e) (.int .u8 x.r) (.int .i64 n) (.int .u8 x.p) (.int .i64 x.f) (.int .i64 x.b)
  have f0 := fr 0; have f1 := fr 1; have f2 := fr 2; have f3 := fr 3; have f4 := fr 4; have f5 := fr 5
  have BB := hide (below_put Bm0 gZ (by omega) (by omega))
  clear PST hP3 hR3 B3 sz3 gZ fr bel2 hPm0 gm0 hRm0 Bm0 szm0 hg lg
  unfold vp
  go_enter Tryd.func43, Tryd.ntmps43
  go_wp2
  refine bodyPost_ret (v := .agg #[.int .i64 x.e, .int .u8 x.r, .int .i64 n, .int .u8 x.p, .int .i64 x.f, .int .i64 x.b]) (by simp [results, Tryd.results43, go_sem, z0, z1, z2, z3, z4, z5]) rfl ?_
  exact ⟨rfl, BB.out⟩

set_option maxRecDepth 20000 in
set_option maxHeartbeats 1000000 in
theorem pstep1_any (x : Pm.Pg) (n : Int) (g : Nat) (w : World) (hg : w.heap[g]? = some (.cells #[.int .i64 n] 3 (0, 0))) (he : x.e ≤ 1048576) (he0 : 0 ≤ x.e) :
    Calls Tryd.prog 44 #[vp x, .pointer (some ⟨g, 0, none⟩)] w fun E w' => E = .returned (.agg #[.int .i64 (x.e + 1), .int .u8 1, .int .i64 n, .int .u8 0, .int .i64 0, .int .i64 0]) ∧ Below w.heap.size w w' := by
  obtain ⟨w1, w2, hw1, hw2, sz1, sz2, bel2, ⟨p0, p1, p2, p3, p4, p5⟩, PST⟩ := role_open x w
  obtain ⟨hP3, hR3, B3, sz3⟩ := PST.out w2 (Below.refl _ _)
  have lg := blk_lt hg
  have cg : w2.cell? ⟨g, 0, none⟩ = some (.int .i64 n) := blk_cell ((bel2.block g lg).trans hg) 0 rfl
  have hwr : IntKind.i64.wrap (x.e + 1) = x.e + 1 := wrap_i64_small _ (by omega) (by omega)
  obtain ⟨Z, hZ, _, gZ, ⟨a0, a1, a2, a3, a4, a5⟩, fr, ⟨z0, z1, z2, z3, z4, z5⟩⟩ := put6 hR3 (.int .i64 (x.e + 1)) (.int .u8 1) (.int .i64 n) (.int .u8 0) (.int .i64 0) (.int .i64 0)
  have f0 := fr 0; have f1 := fr 1; have f2 := fr 2; have f3 := fr 3; have f4 := fr 4; have f5 := fr 5
  have BB := hide (below_put B3 gZ (by omega) (by omega))
  clear PST hP3 hR3 B3 sz3 gZ fr bel2  hg lg he he0
  unfold vp
  go_enter Tryd.func44, Tryd.ntmps44
  go_wp2
  refine bodyPost_ret (v := .agg #[.int .i64 (x.e + 1), .int .u8 1, .int .i64 n, .int .u8 0, .int .i64 0, .int .i64 0]) (by simp [results, Tryd.results44, go_sem, z0, z1, z2, z3, z4, z5]) rfl ?_
  exact ⟨rfl, BB.out⟩

set_option maxRecDepth 20000 in
set_option maxHeartbeats 1000000 in
theorem pstep2_any (x : Pm.Pg) (b n : Int) (g h : Nat) (w : World) (hg : w.heap[g]? = some (.cells #[.int .i64 n] 3 (0, 0))) (hh : w.heap[h]? = some (.cells #[.int .i64 b] 3 (0, 0))) :
    Calls Tryd.prog 45 #[vp x, .pointer (some ⟨g, 0, none⟩), .pointer (some ⟨h, 0, none⟩)] w fun E w' => E = .returned (.agg #[.int .i64 x.e, .int .u8 x.r, .int .i64 x.a, .int .u8 2, .int .i64 n, .int .i64 b]) ∧ Below w.heap.size w w' := by
  obtain ⟨w1, w2, hw1, hw2, sz1, sz2, bel2, ⟨p0, p1, p2, p3, p4, p5⟩, PST⟩ := role_open x w
  obtain ⟨hP3, hR3, B3, sz3⟩ := PST.out w2 (Below.refl _ _)
  have lg := blk_lt hg
  have cg : w2.cell? ⟨g, 0, none⟩ = some (.int .i64 n) := blk_cell ((bel2.block g lg).trans hg) 0 rfl
  have lh := blk_lt hh
  have ch : w2.cell? ⟨h, 0, none⟩ = some (.int .i64 b) := blk_cell ((bel2.block h lh).trans hh) 0 rfl
  obtain ⟨m0, hm0, hPm0, gm0, fm0⟩ := put_at hP3 3 (.int .u8 2)
  have hRm0 := (grown_other gm0 (by omega)).trans hR3
  have Bm0 := below_put B3 gm0 (Nat.le_refl _) (by omega)
  have szm0 := gm0.size
  obtain ⟨r00, r01, r02, r03, r04, r05⟩ : Six m0 w.heap.size (.int .i64 x.e) (.int .u8 x.r) (.int .i64 x.a) (.int .u8 2) (.int .i64 x.f) (.int .i64 x.b) := six_of hPm0
  have cg0 : m0.cell? ⟨g, 0, none⟩ = some (.int .i64 n) := blk_cell ((Bm0.block g lg).trans hg) 0 rfl
  have ch0 : m0.cell? ⟨h, 0, none⟩ = some (.int .i64 b) := blk_cell ((Bm0.block h lh).trans hh) 0 rfl
  obtain ⟨m1, hm1, hPm1, gm1, fm1⟩ := put_at hPm0 4 (.int .i64 n)
  have hRm1 := (grown_other gm1 (by omega)).trans hRm0
  have Bm1 := below_put Bm0 gm1 (Nat.le_refl _) (by omega)
  have szm1 := gm1.size
  obtain ⟨r10, r11, r12, r13, r14, r15⟩ : Six m1 w.heap.size (.int .i64 x.e) (.int .u8 x.r) (.int .i64 x.a) (.int .u8 2) (.int .i64 n) (.int .i64 x.b) := six_of hPm1
  have cg1 : m1.cell? ⟨g, 0, none⟩ = some (.int .i64 n) := blk_cell ((Bm1.block g lg).trans hg) 0 rfl
  have ch1 : m1.cell? ⟨h, 0, none⟩ = some (.int .i64 b) := blk_cell ((Bm1.block h lh).trans hh) 0 rfl
  obtain ⟨m2, hm2, hPm2, gm2, fm2⟩ := put_at hPm1 5 (.int .i64 b)
  have hRm2 := (grown_other gm2 (by omega)).trans hRm1
  have Bm2 := below_put Bm1 gm2 (Nat.le_refl _) (by omega)
  have szm2 := gm2.size
  obtain ⟨r20, r21, r22, r23, r24, r25⟩ : Six m2 w.heap.size (.int .i64 x.e) (.int .u8 x.r) (.int .i64 x.a) (.int .u8 2) (.int .i64 n) (.int .i64 b) := six_of hPm2
  have cg2 : m2.cell? ⟨g, 0, none⟩ = some (.int .i64 n) := blk_cell ((Bm2.block g lg).trans hg) 0 rfl
  have ch2 : m2.cell? ⟨h, 0, none⟩ = some (.int .i64 b) := blk_cell ((Bm2.block h lh).trans hh) 0 rfl
  obtain ⟨Z, hZ, _, gZ, ⟨a0, a1, a2, a3, a4, a5⟩, fr, ⟨z0, z1, z2, z3, z4, z5⟩⟩ := put6 hRm2 (.int .i64 x.e) (.int .u8 x.r) (.int .i64 x.a) (.int .u8 2) (.int .i64 n) (.int .i64 b)
  have f0 := fr 0; have f1 := fr 1; have f2 := fr 2; have f3 := fr 3; have f4 := fr 4; have f5 := fr 5
  have BB := hide (below_put Bm2 gZ (by omega) (by omega))
  clear PST hP3 hR3 B3 sz3 gZ fr bel2 hPm0 gm0 hRm0 Bm0 szm0 hPm1 gm1 hRm1 Bm1 szm1 hPm2 gm2 hRm2 Bm2 szm2 hg lg hh lh
  unfold vp
  go_enter Tryd.func45, Tryd.ntmps45
  go_wp2
  go_region
  all_goals go_wp2
  all_goals
    refine bodyPost_ret (v := .agg #[.int .i64 x.e, .int .u8 x.r, .int .i64 x.a, .int .u8 2, .int .i64 n, .int .i64 b]) (by simp [results, Tryd.results45, go_sem, z0, z1, z2, z3, z4, z5]) rfl ?_
    exact ⟨rfl, BB.out.drew⟩

set_option maxRecDepth 20000 in
set_option maxHeartbeats 1000000 in
theorem pstep3_any (x : Pm.Pg) (q : Int) (g : Nat) (w : World) (hg : w.heap[g]? = some (.cells #[.int .u8 q] 23 (0, 0))) :
    Calls Tryd.prog 49 #[vp x, .pointer (some ⟨g, 0, none⟩)] w fun E w' => E = .returned (.agg #[.int .i64 x.e, .int .u8 x.r, .int .i64 x.a, .int .u8 q, .int .i64 x.f, .int .i64 x.b]) ∧ Below w.heap.size w w' := by
  obtain ⟨w1, w2, hw1, hw2, sz1, sz2, bel2, ⟨p0, p1, p2, p3, p4, p5⟩, PST⟩ := role_open x w
  obtain ⟨hP3, hR3, B3, sz3⟩ := PST.out w2 (Below.refl _ _)
  have lg := blk_lt hg
  have cg : w2.cell? ⟨g, 0, none⟩ = some (.int .u8 q) := blk_cell ((bel2.block g lg).trans hg) 0 rfl
  obtain ⟨m0, hm0, hPm0, gm0, fm0⟩ := put_at hP3 3 (.int .u8 q)
  have hRm0 := (grown_other gm0 (by omega)).trans hR3
  have Bm0 := below_put B3 gm0 (Nat.le_refl _) (by omega)
  have szm0 := gm0.size
  obtain ⟨r00, r01, r02, r03, r04, r05⟩ : Six m0 w.heap.size (.int .i64 x.e) (.int .u8 x.r) (.int .i64 x.a) (.int .u8 q) (.int .i64 x.f) (.int .i64 x.b) := six_of hPm0
  obtain ⟨Z, hZ, _, gZ, ⟨a0, a1, a2, a3, a4, a5⟩, fr, ⟨z0, z1, z2, z3, z4, z5⟩⟩ := put6 hRm0 (.int .i64 x.e) (.int .u8 x.r) (.int .i64 x.a) (.int .u8 q) (.int .i64 x.f) (.int .i64 x.b)
  have f0 := fr 0; have f1 := fr 1; have f2 := fr 2; have f3 := fr 3; have f4 := fr 4; have f5 := fr 5
  have BB := hide (below_put Bm0 gZ (by omega) (by omega))
  clear PST hP3 hR3 B3 sz3 gZ fr bel2 hPm0 gm0 hRm0 Bm0 szm0 hg lg
  unfold vp
  go_enter Tryd.func49, Tryd.ntmps49
  go_wp2
  refine bodyPost_ret (v := .agg #[.int .i64 x.e, .int .u8 x.r, .int .i64 x.a, .int .u8 q, .int .i64 x.f, .int .i64 x.b]) (by simp [results, Tryd.results49, go_sem, z0, z1, z2, z3, z4, z5]) rfl ?_
  exact ⟨rfl, BB.out⟩

set_option maxRecDepth 20000 in
set_option maxHeartbeats 1000000 in
theorem pstep5_any (x : Pm.Pg) (w : World) :
    Calls Tryd.prog 47 #[vp x] w fun E w' => E = .returned (.agg #[.int .i64 x.e, .int .u8 2, .int .i64 0, .int .u8 0, .int .i64 0, .int .i64 0]) ∧ Below w.heap.size w w' := by
  obtain ⟨w1, w2, hw1, hw2, sz1, sz2, bel2, ⟨p0, p1, p2, p3, p4, p5⟩, PST⟩ := role_open x w
  obtain ⟨hP3, hR3, B3, sz3⟩ := PST.out w2 (Below.refl _ _)
  obtain ⟨Z, hZ, _, gZ, ⟨a0, a1, a2, a3, a4, a5⟩, fr, ⟨z0, z1, z2, z3, z4, z5⟩⟩ := put6 hR3 (.int .i64 x.e) (.int .u8 2) (.int .i64 0) (.int .u8 0) (.int .i64 0) (.int .i64 0)
  have f0 := fr 0; have f1 := fr 1; have f2 := fr 2; have f3 := fr 3; have f4 := fr 4; have f5 := fr 5
  have BB := hide (below_put B3 gZ (by omega) (by omega))
  clear PST hP3 hR3 B3 sz3 gZ fr bel2  
  unfold vp
  go_enter Tryd.func47, Tryd.ntmps47
  go_wp2
  refine bodyPost_ret (v := .agg #[.int .i64 x.e, .int .u8 2, .int .i64 0, .int .u8 0, .int .i64 0, .int .i64 0]) (by simp [results, Tryd.results47, go_sem, z0, z1, z2, z3, z4, z5]) rfl ?_
  exact ⟨rfl, BB.out⟩

set_option maxRecDepth 20000 in
set_option maxHeartbeats 1000000 in
theorem pstep6_any (x : Pm.Pg) (n : Int) (g : Nat) (w : World) (hg : w.heap[g]? = some (.cells #[.int .i64 n] 3 (0, 0))) :
    Calls Tryd.prog 48 #[vp x, .pointer (some ⟨g, 0, none⟩)] w fun E w' => E = .returned (.agg #[.int .i64 n, .int .u8 3, .int .i64 0, .int .u8 1, .int .i64 0, .int .i64 0]) ∧ Below w.heap.size w w' := by
  obtain ⟨w1, w2, hw1, hw2, sz1, sz2, bel2, ⟨p0, p1, p2, p3, p4, p5⟩, PST⟩ := role_open x w
  obtain ⟨hP3, hR3, B3, sz3⟩ := PST.out w2 (Below.refl _ _)
  have lg := blk_lt hg
  have cg : w2.cell? ⟨g, 0, none⟩ = some (.int .i64 n) := blk_cell ((bel2.block g lg).trans hg) 0 rfl
  obtain ⟨Z, hZ, _, gZ, ⟨a0, a1, a2, a3, a4, a5⟩, fr, ⟨z0, z1, z2, z3, z4, z5⟩⟩ := put6 hR3 (.int .i64 n) (.int .u8 3) (.int .i64 0) (.int .u8 1) (.int .i64 0) (.int .i64 0)
  have f0 := fr 0; have f1 := fr 1; have f2 := fr 2; have f3 := fr 3; have f4 := fr 4; have f5 := fr 5
  have BB := hide (below_put B3 gZ (by omega) (by omega))
  clear PST hP3 hR3 B3 sz3 gZ fr bel2  hg lg
  unfold vp
  go_enter Tryd.func48, Tryd.ntmps48
  go_wp2
  refine bodyPost_ret (v := .agg #[.int .i64 n, .int .u8 3, .int .i64 0, .int .u8 1, .int .i64 0, .int .i64 0]) (by simp [results, Tryd.results48, go_sem, z0, z1, z2, z3, z4, z5]) rfl ?_
  exact ⟨rfl, BB.out⟩

end Go.Proofs.YthndeolibilnnaaDoor
