/- next of the statements of layer 20. -/
import Derived.Test.YthndeolibilnnaaDoorRod
namespace Go.Proofs.YthndeolibilnnaaDoor
open Go.RowKit
set_option linter.unusedVariables false

/-- What a step comes to. -/
def NxR (x : Pm.Pg) (w : World) (E : Ending) (w' : World) : Prop := ∃ y z, E = .returned (.tuple #[vp y, .int .i64 z]) ∧ Hid ((z ≠ 0 → y = Pm.no) ∧ (z = 0 → Pm.Ok y ∧ x.e ≤ y.e ∧ Rol.Way x y) ∧ Below w.heap.size w w')

theorem NxR.done {x y : Pm.Pg} {z : Int} {w w' : World} (h : (z ≠ 0 → y = Pm.no) ∧ (z = 0 → Pm.Ok y ∧ x.e ≤ y.e ∧ Rol.Way x y)) (hb : Below w.heap.size w w') : NxR x w (.returned (.tuple #[vp y, .int .i64 z])) w' := ⟨y, z, rfl, hide ⟨h.1, h.2, hb⟩⟩

theorem pk_seven (a : Int) : 0 ≤ pk a 7 ∧ pk a 7 < 7 := by
  unfold pk
  have h1 := Int.tmod_lt_of_pos a (show (0 : Int) < 7 by omega)
  have h2 := Int.lt_tmod_of_pos a (show (0 : Int) < 7 by omega)
  split <;> omega

theorem nx23 {x : Pm.Pg} (h : Rol.nxE x 2 = 0) : Pm.Ok (Rol.nx x 2 3) ∧ x.e ≤ (Rol.nx x 2 3).e ∧ Rol.Way x (Rol.nx x 2 3) := Rol.nx_way h (by omega) (by omega) (by omega)
theorem nx34 {x : Pm.Pg} (h : Rol.nxE x 3 = 0) : Pm.Ok (Rol.nx x 3 4) ∧ x.e ≤ (Rol.nx x 3 4).e ∧ Rol.Way x (Rol.nx x 3 4) := Rol.nx_way h (by omega) (by omega) (by omega)

set_option maxRecDepth 20000 in
set_option maxHeartbeats 8000000 in
theorem next20_any (x : Pm.Pg) (s : Stp) (w : World) (hx : Pm.Ok x) (hs : FitT s) (hm : Mst w) :
    Calls Tryd.prog 30 #[vp x, .agg #[.int .i64 s.k, .int .i64 s.n, .int .i64 s.m]] w (NxR x w) := by
  obtain ⟨w1, hw1, sz1, bel1, hP⟩ := blk_step w #[.int .i64 x.e, .int .u8 x.r, .int .i64 x.a, .int .u8 x.p, .int .i64 x.f, .int .i64 x.b] 25
  obtain ⟨w2, hw2, sz2, bel2, hS⟩ := blk_step w1 #[.int .i64 s.k, .int .i64 s.n, .int .i64 s.m] 43
  obtain ⟨w3, hw3, sz3, bel3, hR⟩ := blk_step w2 #[.int .i64 0, .int .u8 0, .int .i64 0, .int .u8 0, .int .i64 0, .int .i64 0] 25
  have b03 : Below w.heap.size w w3 := (bel1.trans (bel2.mono (by omega))).trans (bel3.mono (by omega))
  have hP3 := ((bel2.trans (bel3.mono (by omega))).block w.heap.size (by omega)).trans hP
  have hS3 := (bel3.block w1.heap.size (by omega)).trans hS
  rw [sz1] at hS3
  rw [sz2, sz1] at hR
  have hR3 : w3.heap[w.heap.size + 2]? = some (.cells #[.int .i64 0, .int .u8 0, .int .i64 0, .int .u8 0, .int .i64 0, .int .i64 0] 25 (0, 0)) := hR
  have hz3 : w3.heap.size = w.heap.size + 3 := by omega
  have PST : Hid (∀ W, Below w3.heap.size w3 W → W.heap[w.heap.size + 2]? = some (.cells #[.int .i64 0, .int .u8 0, .int .i64 0, .int .u8 0, .int .i64 0, .int .i64 0] 25 (0, 0)) ∧ Below w.heap.size w W ∧ w.heap.size + 3 ≤ W.heap.size) := hide fun W hW => ⟨(hW.block _ (by omega)).trans hR3, b03.trans (hW.mono (by omega)), by have := hW.size; omega⟩
  obtain ⟨p0, p1, p2, p3, p4, p5⟩ := six_of hP3
  have s0 : w3.cell? ⟨w.heap.size + 1, 0, none⟩ = some (.int .i64 s.k) := blk_cell hS3 0 rfl
  have s1 : w3.cell? ⟨w.heap.size + 1, 1, none⟩ = some (.int .i64 s.n) := blk_cell hS3 1 rfl
  have s2 : w3.cell? ⟨w.heap.size + 1, 2, none⟩ = some (.int .i64 s.m) := blk_cell hS3 2 rfl
  have PK := hide (pickx_any s.k 7 w3 (by omega) (by omega) hs.1)
  have hd7 := pk_seven s.k
  obtain ⟨d, hd⟩ : ∃ d, pk s.k 7 = d := ⟨_, rfl⟩
  rw [hd] at PK hd7
  have HX := hide hx
  have hxf := fit_ok hx
  have M3 : Mst w3 := hm.below b03
  have hxe := Pm.ok_nums hx

  have K0 : Hid (∃ y z, Calls Tryd.prog 7 #[.agg #[.int .i64 x.e, .int .u8 x.r, .int .i64 x.a, .int .u8 x.p, .int .i64 x.f, .int .i64 x.b], .int .i64 s.n] w3 (fun E w' => E = .returned (.tuple #[.agg #[.int .i64 y.e, .int .u8 y.r, .int .i64 y.a, .int .u8 y.p, .int .i64 y.f, .int .i64 y.b], .int .i64 z]) ∧ Below w3.heap.size w3 w') ∧ (z ≠ 0 → y = Pm.no) ∧ (z = 0 → Pm.Ok y ∧ x.e ≤ y.e ∧ Rol.Way x y)) := hide ⟨(Rol.pr x s.n), (Rol.prE x s.n), pprom_any x s.n w3 hxf M3 hs.2.1, fun h => by unfold Rol.pr; rw [if_neg h], fun h => Rol.pr_way h⟩
  obtain ⟨hr, hhr⟩ : ∃ z, Int.tmod s.n 5 = z := ⟨_, rfl⟩
  have hr1 := Int.tmod_lt_of_pos s.n (show (0 : Int) < 5 by omega)
  have hr2 := Int.lt_tmod_of_pos s.n (show (0 : Int) < 5 by omega)
  rw [hhr] at hr1 hr2
  obtain ⟨hn, hhn⟩ : ∃ z, x.e + hr = z := ⟨_, rfl⟩
  have K1 : Hid (∃ y z bb, Calls Tryd.prog 13 #[.agg #[.int .i64 x.e, .int .u8 x.r, .int .i64 x.a, .int .u8 x.p, .int .i64 x.f, .int .i64 x.b], .int .i64 hn] w3 (fun E w' => E = .returned (.tuple #[.agg #[.int .i64 y.e, .int .u8 y.r, .int .i64 y.a, .int .u8 y.p, .int .i64 y.f, .int .i64 y.b], .bool bb, .int .i64 z]) ∧ Below w3.heap.size w3 w') ∧ (z ≠ 0 → y = Pm.no) ∧ (z = 0 → Pm.Ok y ∧ x.e ≤ y.e ∧ Rol.Way x y)) := hide ⟨(Rol.he x hn), (Rol.heE x hn), (Rol.heB x hn), phear_any x hn w3 hxf M3 ⟨by omega, by omega⟩, fun h => by unfold Rol.he; rw [if_neg h], fun h => Rol.he_way h⟩
  have K2 : Hid (∃ y z, Calls Tryd.prog 9 #[.agg #[.int .i64 x.e, .int .u8 x.r, .int .i64 x.a, .int .u8 x.p, .int .i64 x.f, .int .i64 x.b], .int .i64 s.n, .int .i64 s.m] w3 (fun E w' => E = .returned (.tuple #[.agg #[.int .i64 y.e, .int .u8 y.r, .int .i64 y.a, .int .u8 y.p, .int .i64 y.f, .int .i64 y.b], .int .i64 z]) ∧ Below w3.heap.size w3 w') ∧ (z ≠ 0 → y = Pm.no) ∧ (z = 0 → Pm.Ok y ∧ x.e ≤ y.e ∧ Rol.Way x y)) := hide ⟨(Rol.fk x s.n s.m), (Rol.fkE x s.n s.m), pfork_any x s.n s.m w3 hxf M3 hs.2.1 hs.2.2, fun h => by unfold Rol.fk; rw [if_neg h], fun h => Rol.fk_way h⟩
  have K3 : Hid (∃ y z, Calls Tryd.prog 8 #[.agg #[.int .i64 x.e, .int .u8 x.r, .int .i64 x.a, .int .u8 x.p, .int .i64 x.f, .int .i64 x.b]] w3 (fun E w' => E = .returned (.tuple #[.agg #[.int .i64 y.e, .int .u8 y.r, .int .i64 y.a, .int .u8 y.p, .int .i64 y.f, .int .i64 y.b], .int .i64 z]) ∧ Below w3.heap.size w3 w') ∧ (z ≠ 0 → y = Pm.no) ∧ (z = 0 → Pm.Ok y ∧ x.e ≤ y.e ∧ Rol.Way x y)) := hide ⟨(Rol.nx x 2 3), (Rol.nxE x 2), pfile_any x w3 hxf M3, fun h => by unfold Rol.nx; rw [if_neg h], fun h => nx23 h⟩
  have K4 : Hid (∃ y z, Calls Tryd.prog 10 #[.agg #[.int .i64 x.e, .int .u8 x.r, .int .i64 x.a, .int .u8 x.p, .int .i64 x.f, .int .i64 x.b]] w3 (fun E w' => E = .returned (.tuple #[.agg #[.int .i64 y.e, .int .u8 y.r, .int .i64 y.a, .int .u8 y.p, .int .i64 y.f, .int .i64 y.b], .int .i64 z]) ∧ Below w3.heap.size w3 w') ∧ (z ≠ 0 → y = Pm.no) ∧ (z = 0 → Pm.Ok y ∧ x.e ≤ y.e ∧ Rol.Way x y)) := hide ⟨(Rol.nx x 3 4), (Rol.nxE x 3), pcut_any x w3 hxf M3, fun h => by unfold Rol.nx; rw [if_neg h], fun h => nx34 h⟩
  have K5 : Hid (∃ y z, Calls Tryd.prog 11 #[.agg #[.int .i64 x.e, .int .u8 x.r, .int .i64 x.a, .int .u8 x.p, .int .i64 x.f, .int .i64 x.b]] w3 (fun E w' => E = .returned (.tuple #[.agg #[.int .i64 y.e, .int .u8 y.r, .int .i64 y.a, .int .u8 y.p, .int .i64 y.f, .int .i64 y.b], .int .i64 z]) ∧ Below w3.heap.size w3 w') ∧ (z ≠ 0 → y = Pm.no) ∧ (z = 0 → Pm.Ok y ∧ x.e ≤ y.e ∧ Rol.Way x y)) := hide ⟨(Rol.rj x), (Rol.nxE x 4), prejoin_any x w3 hxf M3, fun h => by unfold Rol.rj; rw [if_neg h], fun h => Rol.rj_way h⟩
  have K6 : Hid (∃ y z bb, Calls Tryd.prog 21 #[.agg #[.int .i64 x.e, .int .u8 x.r, .int .i64 x.a, .int .u8 x.p, .int .i64 x.f, .int .i64 x.b], .int .i64 s.n] w3 (fun E w' => E = .returned (.tuple #[.agg #[.int .i64 y.e, .int .u8 y.r, .int .i64 y.a, .int .u8 y.p, .int .i64 y.f, .int .i64 y.b], .bool bb, .int .i64 z]) ∧ Below w3.heap.size w3 w') ∧ (z ≠ 0 → y = Pm.no) ∧ (z = 0 → Pm.Ok y ∧ x.e ≤ y.e ∧ Rol.Way x y)) := hide ⟨(Rol.ak x s.n), (Rol.akE x s.n), (Rol.akB x s.n), packed_any x s.n w3 hxf M3 hs.2.1, fun h => by unfold Rol.ak; rw [if_neg h], fun h => Rol.ak_way h⟩
  unfold vp
  clear bel1 bel2 bel3 hP hS hR b03 hP3 hS3 hR3 hm hx hd
  have hwr : IntKind.i64.wrap (x.e + hr) = hn := by rw [wrap_i64_small _ (by omega) (by omega)]; exact hhn
  clear hhn
  go_enter Tryd.func30, Tryd.ntmps30
  go_wp2_with fail
  refine PK.out.mono ?_
  rintro E w4 ⟨rfl, hw4⟩
  obtain rfl := hw4
  clear PK hs hxf M3 hw1 hw2 hw3 sz1 sz2 sz3
  by_cases hk0 : d = 0
  case pos =>
    have hb0 : (d == 0) = true := by simp [hk0]
    obtain ⟨y, z, C, hw⟩ := K0.out
    have CC := hide C
    have WW := hide hw
    clear C hw hk0 K0 K1 K2 K3 K4 K5 K6 hd7 hxe
    go_wp2_with fail
    refine CC.out.mono ?_
    rintro E w5 ⟨rfl, b5⟩
    obtain ⟨hR5, B5, sz5⟩ := PST.out w5 b5
    obtain ⟨Z, hZ, _, gZ, ⟨a0, a1, a2, a3, a4, a5⟩, fr, ⟨z0, z1, z2, z3, z4, z5⟩⟩ := put6 hR5 (.int .i64 y.e) (.int .u8 y.r) (.int .i64 y.a) (.int .u8 y.p) (.int .i64 y.f) (.int .i64 y.b)
    have f0 := fr 0; have f1 := fr 1; have f2 := fr 2; have f3 := fr 3; have f4 := fr 4; have f5 := fr 5
    have BB := hide (below_put B5 gZ (by omega) (by omega))
    clear CC PST b5 hR5 B5 gZ fr p0 p1 p2 p3 p4 p5 s0 s1 s2
    go_wp2
    refine bodyPost_ret (v := .tuple #[.agg #[.int .i64 y.e, .int .u8 y.r, .int .i64 y.a, .int .u8 y.p, .int .i64 y.f, .int .i64 y.b], .int .i64 z]) (by simp [results, Tryd.results30, go_sem, z0, z1, z2, z3, z4, z5]) rfl ?_
    exact NxR.done WW.out BB.out
  by_cases hk1 : d = 1
  case pos =>
    have hb0 : (d == 0) = false := by simp [hk1]
    have hb1 : (d == 1) = true := by simp [hk1]
    obtain ⟨y, z, bb, C, hw⟩ := K1.out
    have CC := hide C
    have WW := hide hw
    clear C hw hk0 hk1 K0 K1 K2 K3 K4 K5 K6 hd7 hxe
    go_wp2_with fail
    refine CC.out.mono ?_
    rintro E w5 ⟨rfl, b5⟩
    obtain ⟨w6, hw6, sz6, b6, hQ, ⟨q0, q1, q2, q3, q4, q5⟩, _⟩ := newp w5 y
    obtain ⟨hR5, B5, sz5⟩ := PST.out w6 (b5.trans (b6.mono b5.size))
    obtain ⟨Z, hZ, _, gZ, ⟨a0, a1, a2, a3, a4, a5⟩, fr, ⟨z0, z1, z2, z3, z4, z5⟩⟩ := put6 hR5 (.int .i64 y.e) (.int .u8 y.r) (.int .i64 y.a) (.int .u8 y.p) (.int .i64 y.f) (.int .i64 y.b)
    have f0 := fr 0; have f1 := fr 1; have f2 := fr 2; have f3 := fr 3; have f4 := fr 4; have f5 := fr 5
    have BB := hide (below_put B5 gZ (by omega) (by omega))
    clear CC PST b5 hR5 B5 gZ fr p0 p1 p2 p3 p4 p5 s0 s1 s2 b6 hQ
    go_wp2
    refine bodyPost_ret (v := .tuple #[.agg #[.int .i64 y.e, .int .u8 y.r, .int .i64 y.a, .int .u8 y.p, .int .i64 y.f, .int .i64 y.b], .int .i64 z]) (by simp [results, Tryd.results30, go_sem, z0, z1, z2, z3, z4, z5]) rfl ?_
    exact NxR.done WW.out BB.out
  by_cases hk2 : d = 2
  case pos =>
    have hb0 : (d == 0) = false := by simp [hk2]
    have hb1 : (d == 1) = false := by simp [hk2]
    have hb2 : (d == 2) = true := by simp [hk2]
    obtain ⟨y, z, C, hw⟩ := K2.out
    have CC := hide C
    have WW := hide hw
    clear C hw hk0 hk1 hk2 K0 K1 K2 K3 K4 K5 K6 hd7 hxe
    go_wp2_with fail
    refine CC.out.mono ?_
    rintro E w5 ⟨rfl, b5⟩
    obtain ⟨hR5, B5, sz5⟩ := PST.out w5 b5
    obtain ⟨Z, hZ, _, gZ, ⟨a0, a1, a2, a3, a4, a5⟩, fr, ⟨z0, z1, z2, z3, z4, z5⟩⟩ := put6 hR5 (.int .i64 y.e) (.int .u8 y.r) (.int .i64 y.a) (.int .u8 y.p) (.int .i64 y.f) (.int .i64 y.b)
    have f0 := fr 0; have f1 := fr 1; have f2 := fr 2; have f3 := fr 3; have f4 := fr 4; have f5 := fr 5
    have BB := hide (below_put B5 gZ (by omega) (by omega))
    clear CC PST b5 hR5 B5 gZ fr p0 p1 p2 p3 p4 p5 s0 s1 s2
    go_wp2
    refine bodyPost_ret (v := .tuple #[.agg #[.int .i64 y.e, .int .u8 y.r, .int .i64 y.a, .int .u8 y.p, .int .i64 y.f, .int .i64 y.b], .int .i64 z]) (by simp [results, Tryd.results30, go_sem, z0, z1, z2, z3, z4, z5]) rfl ?_
    exact NxR.done WW.out BB.out
  by_cases hk3 : d = 3
  case pos =>
    have hb0 : (d == 0) = false := by simp [hk3]
    have hb1 : (d == 1) = false := by simp [hk3]
    have hb2 : (d == 2) = false := by simp [hk3]
    have hb3 : (d == 3) = true := by simp [hk3]
    obtain ⟨y, z, C, hw⟩ := K3.out
    have CC := hide C
    have WW := hide hw
    clear C hw hk0 hk1 hk2 hk3 K0 K1 K2 K3 K4 K5 K6 hd7 hxe
    go_wp2_with fail
    refine CC.out.mono ?_
    rintro E w5 ⟨rfl, b5⟩
    obtain ⟨hR5, B5, sz5⟩ := PST.out w5 b5
    obtain ⟨Z, hZ, _, gZ, ⟨a0, a1, a2, a3, a4, a5⟩, fr, ⟨z0, z1, z2, z3, z4, z5⟩⟩ := put6 hR5 (.int .i64 y.e) (.int .u8 y.r) (.int .i64 y.a) (.int .u8 y.p) (.int .i64 y.f) (.int .i64 y.b)
    have f0 := fr 0; have f1 := fr 1; have f2 := fr 2; have f3 := fr 3; have f4 := fr 4; have f5 := fr 5
    have BB := hide (below_put B5 gZ (by omega) (by omega))
    clear CC PST b5 hR5 B5 gZ fr p0 p1 p2 p3 p4 p5 s0 s1 s2
    go_wp2
    refine bodyPost_ret (v := .tuple #[.agg #[.int .i64 y.e, .int .u8 y.r, .int .i64 y.a, .int .u8 y.p, .int .i64 y.f, .int .i64 y.b], .int .i64 z]) (by simp [results, Tryd.results30, go_sem, z0, z1, z2, z3, z4, z5]) rfl ?_
    exact NxR.done WW.out BB.out
  by_cases hk4 : d = 4
  case pos =>
    have hb0 : (d == 0) = false := by simp [hk4]
    have hb1 : (d == 1) = false := by simp [hk4]
    have hb2 : (d == 2) = false := by simp [hk4]
    have hb3 : (d == 3) = false := by simp [hk4]
    have hb4 : (d == 4) = true := by simp [hk4]
    obtain ⟨y, z, C, hw⟩ := K4.out
    have CC := hide C
    have WW := hide hw
    clear C hw hk0 hk1 hk2 hk3 hk4 K0 K1 K2 K3 K4 K5 K6 hd7 hxe
    go_wp2_with fail
    refine CC.out.mono ?_
    rintro E w5 ⟨rfl, b5⟩
    obtain ⟨hR5, B5, sz5⟩ := PST.out w5 b5
    obtain ⟨Z, hZ, _, gZ, ⟨a0, a1, a2, a3, a4, a5⟩, fr, ⟨z0, z1, z2, z3, z4, z5⟩⟩ := put6 hR5 (.int .i64 y.e) (.int .u8 y.r) (.int .i64 y.a) (.int .u8 y.p) (.int .i64 y.f) (.int .i64 y.b)
    have f0 := fr 0; have f1 := fr 1; have f2 := fr 2; have f3 := fr 3; have f4 := fr 4; have f5 := fr 5
    have BB := hide (below_put B5 gZ (by omega) (by omega))
    clear CC PST b5 hR5 B5 gZ fr p0 p1 p2 p3 p4 p5 s0 s1 s2
    go_wp2
    refine bodyPost_ret (v := .tuple #[.agg #[.int .i64 y.e, .int .u8 y.r, .int .i64 y.a, .int .u8 y.p, .int .i64 y.f, .int .i64 y.b], .int .i64 z]) (by simp [results, Tryd.results30, go_sem, z0, z1, z2, z3, z4, z5]) rfl ?_
    exact NxR.done WW.out BB.out
  by_cases hk5 : d = 5
  case pos =>
    have hb0 : (d == 0) = false := by simp [hk5]
    have hb1 : (d == 1) = false := by simp [hk5]
    have hb2 : (d == 2) = false := by simp [hk5]
    have hb3 : (d == 3) = false := by simp [hk5]
    have hb4 : (d == 4) = false := by simp [hk5]
    have hb5 : (d == 5) = true := by simp [hk5]
    obtain ⟨y, z, C, hw⟩ := K5.out
    have CC := hide C
    have WW := hide hw
    clear C hw hk0 hk1 hk2 hk3 hk4 hk5 K0 K1 K2 K3 K4 K5 K6 hd7 hxe
    go_wp2_with fail
    refine CC.out.mono ?_
    rintro E w5 ⟨rfl, b5⟩
    obtain ⟨hR5, B5, sz5⟩ := PST.out w5 b5
    obtain ⟨Z, hZ, _, gZ, ⟨a0, a1, a2, a3, a4, a5⟩, fr, ⟨z0, z1, z2, z3, z4, z5⟩⟩ := put6 hR5 (.int .i64 y.e) (.int .u8 y.r) (.int .i64 y.a) (.int .u8 y.p) (.int .i64 y.f) (.int .i64 y.b)
    have f0 := fr 0; have f1 := fr 1; have f2 := fr 2; have f3 := fr 3; have f4 := fr 4; have f5 := fr 5
    have BB := hide (below_put B5 gZ (by omega) (by omega))
    clear CC PST b5 hR5 B5 gZ fr p0 p1 p2 p3 p4 p5 s0 s1 s2
    go_wp2
    refine bodyPost_ret (v := .tuple #[.agg #[.int .i64 y.e, .int .u8 y.r, .int .i64 y.a, .int .u8 y.p, .int .i64 y.f, .int .i64 y.b], .int .i64 z]) (by simp [results, Tryd.results30, go_sem, z0, z1, z2, z3, z4, z5]) rfl ?_
    exact NxR.done WW.out BB.out
  have hb0 : (d == 0) = false := by simpa using hk0
  have hb1 : (d == 1) = false := by simpa using hk1
  have hb2 : (d == 2) = false := by simpa using hk2
  have hb3 : (d == 3) = false := by simpa using hk3
  have hb4 : (d == 4) = false := by simpa using hk4
  have hb5 : (d == 5) = false := by simpa using hk5
  obtain ⟨y, z, bb, C, hw⟩ := K6.out
  have CC := hide C
  have WW := hide hw
  clear C hw hk0 hk1 hk2 hk3 hk4 hk5 K0 K1 K2 K3 K4 K5 K6 hd7 hxe
  go_wp2_with fail
  refine CC.out.mono ?_
  rintro E w5 ⟨rfl, b5⟩
  obtain ⟨w6, hw6, sz6, b6, hQ, ⟨q0, q1, q2, q3, q4, q5⟩, _⟩ := newp w5 y
  obtain ⟨hR5, B5, sz5⟩ := PST.out w6 (b5.trans (b6.mono b5.size))
  obtain ⟨Z, hZ, _, gZ, ⟨a0, a1, a2, a3, a4, a5⟩, fr, ⟨z0, z1, z2, z3, z4, z5⟩⟩ := put6 hR5 (.int .i64 y.e) (.int .u8 y.r) (.int .i64 y.a) (.int .u8 y.p) (.int .i64 y.f) (.int .i64 y.b)
  have f0 := fr 0; have f1 := fr 1; have f2 := fr 2; have f3 := fr 3; have f4 := fr 4; have f5 := fr 5
  have BB := hide (below_put B5 gZ (by omega) (by omega))
  clear CC PST b5 hR5 B5 gZ fr p0 p1 p2 p3 p4 p5 s0 s1 s2 b6 hQ
  go_wp2
  refine bodyPost_ret (v := .tuple #[.agg #[.int .i64 y.e, .int .u8 y.r, .int .i64 y.a, .int .u8 y.p, .int .i64 y.f, .int .i64 y.b], .int .i64 z]) (by simp [results, Tryd.results30, go_sem, z0, z1, z2, z3, z4, z5]) rfl ?_
  exact NxR.done WW.out BB.out

end Go.Proofs.YthndeolibilnnaaDoor
