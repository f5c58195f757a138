/- Proved: the examples and the numbers of the chapter on ships come out as the document writes them (ShipNames). A closed statement; no conditions. -/
import Derived.Test.YtabfihicdphjeaaGS
import Derived.Test.YtabfihicdphjeaaGU
import Derived.Test.YtabfihicdphjeaaRows
import Derived.ProofKit
import Derived.OpenShut
import Derived.ShutString
import Derived.ChangeOld
import Derived.Below
import Derived.SizedLaws
/- ShipNames: the walk. -/
namespace Go.Proofs.Ytabfihicdphjeaa
open Go.RowKit
set_option linter.unusedVariables false

set_option maxRecDepth 20000 in
set_option maxHeartbeats 16000000 in
theorem shipNames_walk (w : World) : Calls Try.prog 3 #[] w fun E w' => E = .returned (.bool true) ∧ Below w.heap.size w w' := by
  obtain ⟨m1, hm1⟩ : ∃ m, Shp.nxt 3 (exL 6) 0 = m := ⟨_, rfl⟩
  obtain ⟨m2, hm2⟩ : ∃ m, Shp.nxt 3 (exL 6) 6 = m := ⟨_, rfl⟩
  obtain ⟨m3, hm3⟩ : ∃ m, Shp.nxt 2 (exL 6) 0 = m := ⟨_, rfl⟩
  obtain ⟨m4, hm4⟩ : ∃ m, Shp.nxt 3 (exL 6) 7 = m := ⟨_, rfl⟩
  obtain ⟨m5, hm5⟩ : ∃ m, Shp.hel 3 0 [] = m := ⟨_, rfl⟩
  obtain ⟨m6, hm6⟩ : ∃ m, Shp.ack 2 7 = m := ⟨_, rfl⟩
  obtain ⟨m7, hm7⟩ : ∃ m, Shp.ack 0 7 = m := ⟨_, rfl⟩
  have HF1 : Hid (m1.f = 1 ∧ m1.p = 0) := hide (by rw [← hm1, ex_n0.2]; exact ⟨rfl, rfl⟩)
  have HC1 : Hid (m1.cs = (exL 6).take 4) := hide (by rw [← hm1, ex_n0.2])
  have HF2 : Hid (m2.f = 7 ∧ m2.p = 3 ∧ m2.cs.length = 0) := hide (by rw [← hm2, ex_n6.2]; exact ⟨rfl, rfl, rfl⟩)
  have HM6 : Hid (m6 = ⟨3, 2, 0, 7, [], 0, 0, []⟩) := hide (by rw [← hm6, ex_a.2])
  go_enter Try.func3, Try.ntmps3
  have D0 : Hid (Below w.heap.size w w) := hide (Below.refl _ _)
  go_wp2_with fail
  refine (example17_any _).mono ?_
  intro E g1 hE
  obtain ⟨u1, q1, rfl, h1⟩ := ex6_of hE
  obtain ⟨la1, lk1, hu1, _, _⟩ := h1.sh.c.row.shape
  have X1 := hide (ex_next 3 0 w g1 u1 q1 h1 (by simp [In64]) (by simp [In64]))
  rw [hm1, ex_n0.1, hu1] at X1
  rw [hu1]
  have E1 := hide h1.bel
  clear hE h1 hu1
  go_wp2_with fail
  refine X1.out.mono ?_
  intro E x1 hE
  obtain ⟨sa1, so1, ca1, co1, cs1, rfl, T1⟩ := hE.open
  obtain ⟨y1, hy1, b1, L1⟩ := blt_new T1
  have s1 : Below w.heap.size w y1 := E1.out.trans ((T1.bel.trans (b1.mono T1.bel.size)).mono E1.out.size)
  have D1 := hide (D0.out.trans (s1.mono D0.out.size))
  have L1 := hide L1
  clear hE T1 b1 s1 D0 X1 E1
  go_wp2_with fail
  refine (example17_any _).mono ?_
  intro E g2 hE
  obtain ⟨u2, q2, rfl, h2⟩ := ex6_of hE
  obtain ⟨la2, lk2, hu2, _, _⟩ := h2.sh.c.row.shape
  have X2 := hide (ex_next 3 6 y1 g2 u2 q2 h2 (by simp [In64]) (by simp [In64]))
  rw [hm2, ex_n6.1, hu2] at X2
  rw [hu2]
  have E2 := hide h2.bel
  clear hE h2 hu2
  go_wp2_with fail
  refine X2.out.mono ?_
  intro E x2 hE
  obtain ⟨sa2, so2, ca2, co2, cs2, rfl, T2⟩ := hE.open
  obtain ⟨y2, hy2, b2, L2⟩ := blt_new T2
  have s2 : Below y1.heap.size y1 y2 := E2.out.trans ((T2.bel.trans (b2.mono T2.bel.size)).mono E2.out.size)
  have D2 := hide (D1.out.trans (s2.mono D1.out.size))
  have L2 := hide L2
  have L1 := hide (L1.out.below s2)
  clear hE T2 b2 s2 D1 X2 E2 hy1
  go_wp2_with fail
  refine (example17_any _).mono ?_
  intro E g3 hE
  obtain ⟨u3, q3, rfl, h3⟩ := ex6_of hE
  obtain ⟨la3, lk3, hu3, _, _⟩ := h3.sh.c.row.shape
  have X3 := hide (ex_next 2 0 y2 g3 u3 q3 h3 (by simp [In64]) (by simp [In64]))
  rw [hm3, ex_n2.1, hu3] at X3
  rw [hu3]
  have E3 := hide h3.bel
  clear hE h3 hu3
  go_wp2_with fail
  refine X3.out.mono ?_
  intro E x3 hE
  obtain ⟨sa3, so3, ca3, co3, cs3, rfl, T3⟩ := hE.open
  obtain ⟨y3, hy3, b3, L3⟩ := blt_new T3
  have s3 : Below y2.heap.size y2 y3 := E3.out.trans ((T3.bel.trans (b3.mono T3.bel.size)).mono E3.out.size)
  have D3 := hide (D2.out.trans (s3.mono D2.out.size))
  have L3 := hide L3
  have L1 := hide (L1.out.below s3)
  have L2 := hide (L2.out.below s3)
  clear hE T3 b3 s3 D2 X3 E3 hy2 L3
  go_wp2_with fail
  refine (example17_any _).mono ?_
  intro E g4 hE
  obtain ⟨u4, q4, rfl, h4⟩ := ex6_of hE
  obtain ⟨la4, lk4, hu4, _, _⟩ := h4.sh.c.row.shape
  have X4 := hide (ex_next 3 7 y3 g4 u4 q4 h4 (by simp [In64]) (by simp [In64]))
  rw [hm4, ex_n7.1, hu4] at X4
  rw [hu4]
  have E4 := hide h4.bel
  clear hE h4 hu4
  go_wp2_with fail
  refine X4.out.mono ?_
  intro E x4 hE
  obtain ⟨sa4, so4, ca4, co4, cs4, rfl, T4⟩ := hE.open
  obtain ⟨y4, hy4, b4, L4⟩ := blt_new T4
  have s4 : Below y3.heap.size y3 y4 := E4.out.trans ((T4.bel.trans (b4.mono T4.bel.size)).mono E4.out.size)
  have D4 := hide (D3.out.trans (s4.mono D3.out.size))
  have L4 := hide L4
  have L1 := hide (L1.out.below s4)
  have L2 := hide (L2.out.below s4)
  clear hE T4 b4 s4 D3 X4 E4 hy3 L4
  have X5 := hide (phello_any 3 0 (.slice none 0 0) [] y4 (IsC.nil _) (fun c hc => by simp at hc) (by simp) (by simp [In64]) (by omega) (by omega))
  rw [show cvs [] = [] from rfl, hm5, ex_h0.1] at X5
  have E5 := hide (Below.refl y4.heap.size y4)
  go_wp2_with fail
  refine X5.out.mono ?_
  intro E x5 hE
  obtain ⟨sa5, so5, ca5, co5, cs5, rfl, T5⟩ := hE.open
  obtain ⟨y5, hy5, b5, L5⟩ := blt_new T5
  have s5 : Below y4.heap.size y4 y5 := E5.out.trans ((T5.bel.trans (b5.mono T5.bel.size)).mono E5.out.size)
  have D5 := hide (D4.out.trans (s5.mono D4.out.size))
  have L5 := hide L5
  have L1 := hide (L1.out.below s5)
  have L2 := hide (L2.out.below s5)
  clear hE T5 b5 s5 D4 X5 E5 hy4 L5
  have X6 := hide (pack_any 2 7 y5 (by simp [In64]) (by simp [In64]))
  rw [hm6, ex_a.1] at X6
  have E6 := hide (Below.refl y5.heap.size y5)
  go_wp2_with fail
  refine X6.out.mono ?_
  intro E x6 hE
  obtain ⟨sa6, so6, ca6, co6, cs6, rfl, T6⟩ := hE.open
  obtain ⟨y6, hy6, b6, L6⟩ := blt_new T6
  have s6 : Below y5.heap.size y5 y6 := E6.out.trans ((T6.bel.trans (b6.mono T6.bel.size)).mono E6.out.size)
  have D6 := hide (D5.out.trans (s6.mono D5.out.size))
  have L6 := hide L6
  have L1 := hide (L1.out.below s6)
  have L2 := hide (L2.out.below s6)
  clear hE T6 b6 s6 D5 X6 E6 hy5
  have X7 := hide (pack_any 0 7 y6 (by simp [In64]) (by simp [In64]))
  rw [hm7, ex_a0.1] at X7
  have E7 := hide (Below.refl y6.heap.size y6)
  go_wp2_with fail
  refine X7.out.mono ?_
  intro E x7 hE
  obtain ⟨sa7, so7, ca7, co7, cs7, rfl, T7⟩ := hE.open
  obtain ⟨y7, hy7, b7, L7⟩ := blt_new T7
  have s7 : Below y6.heap.size y6 y7 := E7.out.trans ((T7.bel.trans (b7.mono T7.bel.size)).mono E7.out.size)
  have D7 := hide (D6.out.trans (s7.mono D6.out.size))
  have L7 := hide L7
  have L1 := hide (L1.out.below s7)
  have L2 := hide (L2.out.below s7)
  have L6 := hide (L6.out.below s7)
  clear hE T7 b7 s7 D6 X7 E7 hy6 L7
  have SX : Hid (∀ W, Below y7.heap.size y7 W → ((W.cell? ⟨x1.heap.size, 5, none⟩ = some (.int .i64 m1.f) ∧ W.cell? ⟨x1.heap.size, 6, none⟩ = some (.int .i64 m1.p) ∧ W.cell? ⟨x1.heap.size, 7, none⟩ = some (.slice ca1 m1.cs.length co1)) ∧ W.cell? ⟨x2.heap.size, 5, none⟩ = some (.int .i64 m2.f) ∧ W.cell? ⟨x2.heap.size, 6, none⟩ = some (.int .i64 m2.p) ∧ W.cell? ⟨x2.heap.size, 7, none⟩ = some (.slice ca2 m2.cs.length co2))) := hide fun W hW => by
    have k1 := (L1.out.below hW).blk
    have k2 := (L2.out.below hW).blk
    exact ⟨⟨blk_cell k1 5 rfl, blk_cell k1 6 rfl, blk_cell k1 7 rfl⟩, blk_cell k2 5 rfl, blk_cell k2 6 rfl, blk_cell k2 7 rfl⟩
  have HEX : Hid (∀ W, Below y7.heap.size y7 W → Calls Try.prog 8 #[] W fun E w' => ∃ v8, E = .returned v8 ∧ (∃ a c, v8 = .slice a 6 c) ∧ (∃ v9, (∀ wx, (Instr.slice 24 v8 none (some (.int .i64 4)) none).run Try.prog wx = .ok v9 wx) ∧ (∃ a c, v9 = .slice a 4 c)) ∧ Hid (Below y7.heap.size y7 w' ∧ ∃ r8 v9, (∀ wx, (Instr.slice 24 v8 none (some (.int .i64 4)) none).run Try.prog wx = .ok v9 wx) ∧ IsC w' v9 r8 ∧ FitC r8 ∧ r8.length = 4 ∧ cvs r8 = (exL 6).take 4) ∧ (w'.cell? ⟨x1.heap.size, 5, none⟩ = some (.int .i64 m1.f) ∧ w'.cell? ⟨x1.heap.size, 6, none⟩ = some (.int .i64 m1.p) ∧ w'.cell? ⟨x1.heap.size, 7, none⟩ = some (.slice ca1 m1.cs.length co1)) ∧ w'.cell? ⟨x2.heap.size, 5, none⟩ = some (.int .i64 m2.f) ∧ w'.cell? ⟨x2.heap.size, 6, none⟩ = some (.int .i64 m2.p) ∧ w'.cell? ⟨x2.heap.size, 7, none⟩ = some (.slice ca2 m2.cs.length co2)) := hide fun W hW => by
    refine (example17_any W).mono ?_
    intro E w' hE
    obtain ⟨v8, q8, rfl, h8⟩ := ex6_of hE
    have hl8 := h8.len
    obtain ⟨a8, c8, hv8, _, _⟩ := h8.sh.c.row.shape
    rw [hl8] at hv8
    obtain ⟨v9, hs9, o9, _, a9, c9, hv9⟩ := ownR_cut h8.sh.c 4 (by omega) (by omega)
    have bW := hW.trans (h8.bel.mono hW.size)
    refine ⟨v8, rfl, ⟨a8, c8, hv8⟩, ⟨v9, hs9, a9, c9, hv9⟩, hide ⟨bW, q8.take 4, v9, hs9, ⟨o9.row, fun c hc => h8.isC.2 c (List.mem_of_mem_take hc)⟩, fun c hc => h8.sh.f c (List.mem_of_mem_take hc), by rw [List.length_take, hl8]; rfl, ?_⟩, SX.out _ bW⟩
    rw [← h8.is]
    unfold cvs
    rw [List.map_take]
  have HSC : Hid (∀ W v8, Hid (Below y7.heap.size y7 W ∧ ∃ r8 v9, (∀ wx, (Instr.slice 24 v8 none (some (.int .i64 4)) none).run Try.prog wx = .ok v9 wx) ∧ IsC W v9 r8 ∧ FitC r8 ∧ r8.length = 4 ∧ cvs r8 = (exL 6).take 4) → ∀ v9, (∀ wx, (Instr.slice 24 v8 none (some (.int .i64 4)) none).run Try.prog wx = .ok v9 wx) → Calls Try.prog 11 #[.slice ca1 m1.cs.length co1, v9] W fun E w' => E = .returned (.bool true) ∧ Hid (Below y7.heap.size y7 w') ∧ ((w'.cell? ⟨x1.heap.size, 5, none⟩ = some (.int .i64 m1.f) ∧ w'.cell? ⟨x1.heap.size, 6, none⟩ = some (.int .i64 m1.p) ∧ w'.cell? ⟨x1.heap.size, 7, none⟩ = some (.slice ca1 m1.cs.length co1)) ∧ w'.cell? ⟨x2.heap.size, 5, none⟩ = some (.int .i64 m2.f) ∧ w'.cell? ⟨x2.heap.size, 6, none⟩ = some (.int .i64 m2.p) ∧ w'.cell? ⟨x2.heap.size, 7, none⟩ = some (.slice ca2 m2.cs.length co2))) := hide fun W v8 H v9 hs9 => by
    obtain ⟨bW, r8, v9', hs, i8, f8, l8, c8⟩ := H.out
    have e9 : v9' = v9 := by
      have h1 := hs W
      rw [hs9 W] at h1
      cases h1
      rfl
    subst e9
    have k1 := L1.out.below bW
    refine (sameCs_any _ _ cs1 r8 W k1.own.is.c i8 k1.fit.fc f8 k1.fit.lc (by omega)).mono ?_
    rintro E w' ⟨rfl, b'⟩
    have hb := bW.trans (b'.mono bW.size)
    refine ⟨?_, hide hb, SX.out _ hb⟩
    rw [k1.is, HC1.out, c8, sameV_iff.2 rfl]
  have HL6 := hide L6.out
  obtain ⟨W0, hW0⟩ : ∃ y, y7.drew = y := ⟨_, rfl⟩
  have bel0 : Below y7.heap.size y7 W0 := by rw [← hW0]; exact (Below.refl _ _).drew
  obtain ⟨hf1, hp1⟩ := HF1.out
  obtain ⟨hf2, hp2, hc2⟩ := HF2.out
  clear HF1 HF2 L1 L2 L6 HC1 hm1 hm2 hm3 hm4 hm5 hm6 hm7
  go_wp2_with fail
  refine region_any (ops := (regOf 9 Try.f3)) (S := fun W => (W.cell? ⟨x1.heap.size, 5, none⟩ = some (.int .i64 m1.f) ∧ W.cell? ⟨x1.heap.size, 6, none⟩ = some (.int .i64 m1.p) ∧ W.cell? ⟨x1.heap.size, 7, none⟩ = some (.slice ca1 m1.cs.length co1)) ∧ W.cell? ⟨x2.heap.size, 5, none⟩ = some (.int .i64 m2.f) ∧ W.cell? ⟨x2.heap.size, 6, none⟩ = some (.int .i64 m2.p) ∧ W.cell? ⟨x2.heap.size, 7, none⟩ = some (.slice ca2 m2.cs.length co2)) (by kernel_rfl) wzh17_size ?_
  rw [wzh17_new, hW0]
  refine any_take (v := ?_) wzh17_t0_0 (by kernel_rfl) (fun _ _ _ _ _ h => h) (SX.out _ bel0) rfl rfl (by rfl) ?_ ?_
  rotate_left 1
  · intro w hS
    (try dsimp only at hS)
    go_simp
    all_goals with_reducible rfl
  simp only [Act.put, List.setIfInBounds_toArray, List.set_cons_zero, List.set_cons_succ]
  refine any_take (v := ?_) wzh17_t1_1 (by kernel_rfl) (fun _ _ _ _ _ h => h) (SX.out _ bel0) rfl rfl (by rfl) ?_ ?_
  rotate_left 1
  · intro w hS
    (try dsimp only at hS)
    go_simp
    all_goals with_reducible rfl
  simp only [Act.put, List.setIfInBounds_toArray, List.set_cons_zero, List.set_cons_succ]
  refine any_take (v := ?_) wzh17_t3_2 (by kernel_rfl) (fun _ _ _ _ _ h => h) (SX.out _ bel0) rfl rfl (by rfl) ?_ ?_
  rotate_left 1
  · intro w hS
    (try dsimp only at hS)
    go_simp
    all_goals with_reducible rfl
  simp only [Act.put, List.setIfInBounds_toArray, List.set_cons_zero, List.set_cons_succ]
  refine any_take (v := ?_) wzh17_t7_3 (by kernel_rfl) (fun _ _ _ _ _ h => h) (SX.out _ bel0) rfl rfl (by rfl) ?_ ?_
  rotate_left 1
  · intro w hS
    (try dsimp only at hS)
    go_simp
    all_goals with_reducible rfl
  simp only [Act.put, List.setIfInBounds_toArray, List.set_cons_zero, List.set_cons_succ]
  refine any_take (v := ?_) wzh17_t15_4 (by kernel_rfl) (fun _ _ _ _ _ h => h) (SX.out _ bel0) rfl rfl (by rfl) ?_ ?_
  rotate_left 1
  · intro w hS
    (try dsimp only at hS)
    go_simp
    all_goals with_reducible rfl
  simp only [Act.put, List.setIfInBounds_toArray, List.set_cons_zero, List.set_cons_succ]
  refine any_take (v := ?_) wzh17_t31_5 (by kernel_rfl) (fun _ _ _ _ _ h => h) (SX.out _ bel0) rfl rfl (by rfl) ?_ ?_
  rotate_left 1
  · intro w hS
    (try dsimp only at hS)
    go_simp
    all_goals with_reducible rfl
  simp only [Act.put, List.setIfInBounds_toArray, List.set_cons_zero, List.set_cons_succ]
  refine any_take (v := ?_) wzh17_t63_6 (by kernel_rfl) (fun _ _ _ _ _ h => h) (SX.out _ bel0) rfl rfl (by rfl) ?_ ?_
  rotate_left 1
  · intro w hS
    (try dsimp only at hS)
    go_simp
    all_goals with_reducible rfl
  simp only [Act.put, List.setIfInBounds_toArray, List.set_cons_zero, List.set_cons_succ]
  refine any_take (v := ?_) wzh17_t127_7 (by kernel_rfl) (fun _ _ _ _ _ h => h) (SX.out _ bel0) rfl rfl (by rfl) ?_ ?_
  rotate_left 1
  · intro w hS
    (try dsimp only at hS)
    go_simp
    all_goals with_reducible rfl
  simp only [Act.put, List.setIfInBounds_toArray, List.set_cons_zero, List.set_cons_succ]
  refine any_take (v := ?_) wzh17_t255_8 (by kernel_rfl) (fun _ _ _ _ _ h => h) (SX.out _ bel0) rfl rfl (by rfl) ?_ ?_
  rotate_left 1
  · intro w hS
    (try dsimp only at hS)
    go_simp
    all_goals with_reducible rfl
  simp only [Act.put, List.setIfInBounds_toArray, List.set_cons_zero, List.set_cons_succ]
  refine any_take (v := ?_) wzh17_t511_9 (by kernel_rfl) (fun _ _ _ _ _ h => h) (SX.out _ bel0) rfl rfl (by rfl) ?_ ?_
  rotate_left 1
  · intro w hS
    (try dsimp only at hS)
    go_simp
    all_goals with_reducible rfl
  simp only [Act.put, List.setIfInBounds_toArray, List.set_cons_zero, List.set_cons_succ]
  refine any_take (v := ?_) wzh17_t1023_10 (by kernel_rfl) (fun _ _ _ _ _ h => h) (SX.out _ bel0) rfl rfl (by rfl) ?_ ?_
  rotate_left 1
  · intro w hS
    (try dsimp only at hS)
    go_simp
    all_goals with_reducible rfl
  simp only [Act.put, List.setIfInBounds_toArray, List.set_cons_zero, List.set_cons_succ]
  refine any_take (v := ?_) wzh17_t2047_11 (by kernel_rfl) (fun _ _ _ _ _ h => h) (SX.out _ bel0) rfl rfl (by rfl) ?_ ?_
  rotate_left 1
  · intro w hS
    (try dsimp only at hS)
    go_simp
    all_goals with_reducible rfl
  simp only [Act.put, List.setIfInBounds_toArray, List.set_cons_zero, List.set_cons_succ]
  refine any_take (v := ?_) wzh17_t4095_12 (by kernel_rfl) (fun _ _ _ _ _ h => h) (SX.out _ bel0) rfl rfl (by rfl) ?_ ?_
  rotate_left 1
  · intro w hS
    (try dsimp only at hS)
    go_simp
    all_goals with_reducible rfl
  simp only [Act.put, List.setIfInBounds_toArray, List.set_cons_zero, List.set_cons_succ]
  refine any_take (v := ?_) wzh17_t8191_13 (by kernel_rfl) (fun _ _ _ _ _ h => h) (SX.out _ bel0) rfl rfl (by rfl) ?_ ?_
  rotate_left 1
  · intro w hS
    (try dsimp only at hS)
    go_simp
    all_goals with_reducible rfl
  simp only [Act.put, List.setIfInBounds_toArray, List.set_cons_zero, List.set_cons_succ]
  refine any_take (v := ?_) wzh17_t16383_14 (by kernel_rfl) (fun _ _ _ _ _ h => h) (SX.out _ bel0) rfl rfl (by rfl) ?_ ?_
  rotate_left 1
  · intro w hS
    (try dsimp only at hS)
    go_simp
    all_goals with_reducible rfl
  simp only [Act.put, List.setIfInBounds_toArray, List.set_cons_zero, List.set_cons_succ]
  refine any_one wzh17_r32767 ?_
  refine any_op rfl (by rfl) (fun K hK => ?_)
  go_simp
  refine (HEX.out _ bel0).mono ?_
  rintro E W1 ⟨v8, rfl, ⟨ka, kk, rfl⟩, ⟨v9, hs9, ja, jk, rfl⟩, H8, F8⟩
  go_wp2_with fail
  refine hK.out _ _ F8 ?_
  clear hK K
  try simp only [Act.put, List.setIfInBounds_toArray, List.set_cons_zero, List.set_cons_succ]
  refine any_take (v := ?_) wzh17_t65535_16 (by kernel_rfl) (fun _ _ _ _ _ h => h) F8 rfl rfl (by rfl) ?_ ?_
  rotate_left 1
  · intro w hS
    (try dsimp only at hS)
    go_simp
    all_goals with_reducible rfl
  simp only [Act.put, List.setIfInBounds_toArray, List.set_cons_zero, List.set_cons_succ]
  refine any_one wzh17_r131071 ?_
  refine any_op rfl (by rfl) (fun K hK => ?_)
  go_simp
  refine (HSC.out _ _ H8 _ hs9).mono ?_
  rintro E W2 ⟨rfl, H9, F9⟩
  go_wp2_with fail
  refine hK.out _ _ F9 ?_
  clear hK K
  try simp only [Act.put, List.setIfInBounds_toArray, List.set_cons_zero, List.set_cons_succ]
  refine any_take (v := ?_) wzh17_t262143_18 (by kernel_rfl) (fun _ _ _ _ _ h => h) F9 rfl rfl (by rfl) ?_ ?_
  rotate_left 1
  · intro w hS
    (try dsimp only at hS)
    go_simp
    all_goals with_reducible rfl
  simp only [Act.put, List.setIfInBounds_toArray, List.set_cons_zero, List.set_cons_succ]
  refine any_take (v := ?_) wzh17_t524287_19 (by kernel_rfl) (fun _ _ _ _ _ h => h) F9 rfl rfl (by rfl) ?_ ?_
  rotate_left 1
  · intro w hS
    (try dsimp only at hS)
    go_simp
    all_goals with_reducible rfl
  simp only [Act.put, List.setIfInBounds_toArray, List.set_cons_zero, List.set_cons_succ]
  refine any_take (v := ?_) wzh17_t1048575_20 (by kernel_rfl) (fun _ _ _ _ _ h => h) F9 rfl rfl (by rfl) ?_ ?_
  rotate_left 1
  · intro w hS
    (try dsimp only at hS)
    go_simp
    all_goals with_reducible rfl
  simp only [Act.put, List.setIfInBounds_toArray, List.set_cons_zero, List.set_cons_succ]
  refine any_take (v := ?_) wzh17_t2097151_21 (by kernel_rfl) (fun _ _ _ _ _ h => h) F9 rfl rfl (by rfl) ?_ ?_
  rotate_left 1
  · intro w hS
    (try dsimp only at hS)
    go_simp
    all_goals with_reducible rfl
  simp only [Act.put, List.setIfInBounds_toArray, List.set_cons_zero, List.set_cons_succ]
  refine any_take (v := ?_) wzh17_t4194303_22 (by kernel_rfl) (fun _ _ _ _ _ h => h) F9 rfl rfl (by rfl) ?_ ?_
  rotate_left 1
  · intro w hS
    (try dsimp only at hS)
    go_simp
    all_goals with_reducible rfl
  simp only [Act.put, List.setIfInBounds_toArray, List.set_cons_zero, List.set_cons_succ]
  refine any_take (v := ?_) wzh17_t8388607_23 (by kernel_rfl) (fun _ _ _ _ _ h => h) F9 rfl rfl (by rfl) ?_ ?_
  rotate_left 1
  · intro w hS
    (try dsimp only at hS)
    go_simp
    all_goals with_reducible rfl
  simp only [Act.put, List.setIfInBounds_toArray, List.set_cons_zero, List.set_cons_succ]
  refine any_take (v := ?_) wzh17_t16777215_24 (by kernel_rfl) (fun _ _ _ _ _ h => h) F9 rfl rfl (by rfl) ?_ ?_
  rotate_left 1
  · intro w hS
    (try dsimp only at hS)
    go_simp
    all_goals with_reducible rfl
  simp only [Act.put, List.setIfInBounds_toArray, List.set_cons_zero, List.set_cons_succ]
  refine any_take (v := ?_) wzh17_t33554431_25 (by kernel_rfl) (fun _ _ _ _ _ h => h) F9 rfl rfl (by rfl) ?_ ?_
  rotate_left 1
  · intro w hS
    (try dsimp only at hS)
    go_simp
    all_goals with_reducible rfl
  simp only [Act.put, List.setIfInBounds_toArray, List.set_cons_zero, List.set_cons_succ]
  refine any_take (v := ?_) wzh17_t67108863_26 (by kernel_rfl) (fun _ _ _ _ _ h => h) F9 rfl rfl (by rfl) ?_ ?_
  rotate_left 1
  · intro w hS
    (try dsimp only at hS)
    go_simp
    all_goals with_reducible rfl
  simp only [Act.put, List.setIfInBounds_toArray, List.set_cons_zero, List.set_cons_succ]
  refine any_take (v := ?_) wzh17_t134217727_27 (by kernel_rfl) (fun _ _ _ _ _ h => h) F9 rfl rfl (by rfl) ?_ ?_
  rotate_left 1
  · intro w hS
    (try dsimp only at hS)
    go_simp
    all_goals with_reducible rfl
  simp only [Act.put, List.setIfInBounds_toArray, List.set_cons_zero, List.set_cons_succ]
  refine any_take (v := ?_) wzh17_t268435455_28 (by kernel_rfl) (fun _ _ _ _ _ h => h) F9 rfl rfl (by rfl) ?_ ?_
  rotate_left 1
  · intro w hS
    (try dsimp only at hS)
    go_simp
    all_goals with_reducible rfl
  simp only [Act.put, List.setIfInBounds_toArray, List.set_cons_zero, List.set_cons_succ]
  refine any_take (v := ?_) wzh17_t536870911_29 (by kernel_rfl) (fun _ _ _ _ _ h => h) F9 rfl rfl (by rfl) ?_ ?_
  rotate_left 1
  · intro w hS
    (try dsimp only at hS)
    go_simp
    all_goals with_reducible rfl
  simp only [Act.put, List.setIfInBounds_toArray, List.set_cons_zero, List.set_cons_succ]
  refine any_take (v := ?_) wzh17_t1073741823_30 (by kernel_rfl) (fun _ _ _ _ _ h => h) F9 rfl rfl (by rfl) ?_ ?_
  rotate_left 1
  · intro w hS
    (try dsimp only at hS)
    go_simp
    all_goals with_reducible rfl
  simp only [Act.put, List.setIfInBounds_toArray, List.set_cons_zero, List.set_cons_succ]
  refine any_take (v := ?_) wzh17_t2147483647_31 (by kernel_rfl) (fun _ _ _ _ _ h => h) F9 rfl rfl (by rfl) ?_ ?_
  rotate_left 1
  · intro w hS
    (try dsimp only at hS)
    go_simp
    all_goals with_reducible rfl
  simp only [Act.put, List.setIfInBounds_toArray, List.set_cons_zero, List.set_cons_succ]
  refine any_take (v := ?_) wzh17_t4294967295_32 (by kernel_rfl) (fun _ _ _ _ _ h => h) F9 rfl rfl (by rfl) ?_ ?_
  rotate_left 1
  · intro w hS
    (try dsimp only at hS)
    go_simp
    all_goals with_reducible rfl
  simp only [Act.put, List.setIfInBounds_toArray, List.set_cons_zero, List.set_cons_succ]
  refine any_take (v := ?_) wzh17_t8589934591_33 (by kernel_rfl) (fun _ _ _ _ _ h => h) F9 rfl rfl (by rfl) ?_ ?_
  rotate_left 1
  · intro w hS
    (try dsimp only at hS)
    go_simp
    all_goals with_reducible rfl
  simp only [Act.put, List.setIfInBounds_toArray, List.set_cons_zero, List.set_cons_succ]
  refine any_take (v := ?_) wzh17_t17179869183_34 (by kernel_rfl) (fun _ _ _ _ _ h => h) F9 rfl rfl (by rfl) ?_ ?_
  rotate_left 1
  · intro w hS
    (try dsimp only at hS)
    go_simp
    all_goals with_reducible rfl
  simp only [Act.put, List.setIfInBounds_toArray, List.set_cons_zero, List.set_cons_succ]
  refine any_take (v := ?_) wzh17_t34359738367_35 (by kernel_rfl) (fun _ _ _ _ _ h => h) F9 rfl rfl (by rfl) ?_ ?_
  rotate_left 1
  · intro w hS
    (try dsimp only at hS)
    go_simp
    all_goals with_reducible rfl
  simp only [Act.put, List.setIfInBounds_toArray, List.set_cons_zero, List.set_cons_succ]
  refine any_take (v := ?_) wzh17_t68719476735_36 (by kernel_rfl) (fun _ _ _ _ _ h => h) F9 rfl rfl (by rfl) ?_ ?_
  rotate_left 1
  · intro w hS
    (try dsimp only at hS)
    go_simp
    all_goals with_reducible rfl
  simp only [Act.put, List.setIfInBounds_toArray, List.set_cons_zero, List.set_cons_succ]
  refine any_take (v := ?_) wzh17_t137438953471_37 (by kernel_rfl) (fun _ _ _ _ _ h => h) F9 rfl rfl (by rfl) ?_ ?_
  rotate_left 1
  · intro w hS
    (try dsimp only at hS)
    go_simp
    all_goals with_reducible rfl
  simp only [Act.put, List.setIfInBounds_toArray, List.set_cons_zero, List.set_cons_succ]
  refine any_take (v := ?_) wzh17_t274877906943_38 (by kernel_rfl) (fun _ _ _ _ _ h => h) F9 rfl rfl (by rfl) ?_ ?_
  rotate_left 1
  · intro w hS
    (try dsimp only at hS)
    go_simp
    all_goals with_reducible rfl
  simp only [Act.put, List.setIfInBounds_toArray, List.set_cons_zero, List.set_cons_succ]
  refine any_take (v := ?_) wzh17_t549755813887_39 (by kernel_rfl) (fun _ _ _ _ _ h => h) F9 rfl rfl (by rfl) ?_ ?_
  rotate_left 1
  · intro w hS
    (try dsimp only at hS)
    go_simp
    all_goals with_reducible rfl
  simp only [Act.put, List.setIfInBounds_toArray, List.set_cons_zero, List.set_cons_succ]
  refine any_take (v := ?_) wzh17_t1099511627775_40 (by kernel_rfl) (fun _ _ _ _ _ h => h) F9 rfl rfl (by rfl) ?_ ?_
  rotate_left 1
  · intro w hS
    (try dsimp only at hS)
    go_simp
    all_goals with_reducible rfl
  simp only [Act.put, List.setIfInBounds_toArray, List.set_cons_zero, List.set_cons_succ]
  refine any_take (v := ?_) wzh17_t2199023255551_41 (by kernel_rfl) (fun _ _ _ _ _ h => h) F9 rfl rfl (by rfl) ?_ ?_
  rotate_left 1
  · intro w hS
    (try dsimp only at hS)
    go_simp
    all_goals with_reducible rfl
  simp only [Act.put, List.setIfInBounds_toArray, List.set_cons_zero, List.set_cons_succ]
  refine any_take (v := ?_) wzh17_t4398046511103_42 (by kernel_rfl) (fun _ _ _ _ _ h => h) F9 rfl rfl (by rfl) ?_ ?_
  rotate_left 1
  · intro w hS
    (try dsimp only at hS)
    go_simp
    all_goals with_reducible rfl
  simp only [Act.put, List.setIfInBounds_toArray, List.set_cons_zero, List.set_cons_succ]
  refine any_take (v := ?_) wzh17_t8796093022207_43 (by kernel_rfl) (fun _ _ _ _ _ h => h) F9 rfl rfl (by rfl) ?_ ?_
  rotate_left 1
  · intro w hS
    (try dsimp only at hS)
    go_simp
    all_goals with_reducible rfl
  simp only [Act.put, List.setIfInBounds_toArray, List.set_cons_zero, List.set_cons_succ]
  refine any_take (v := ?_) wzh17_t17592186044415_44 (by kernel_rfl) (fun _ _ _ _ _ h => h) F9 rfl rfl (by rfl) ?_ ?_
  rotate_left 1
  · intro w hS
    (try dsimp only at hS)
    go_simp
    all_goals with_reducible rfl
  simp only [Act.put, List.setIfInBounds_toArray, List.set_cons_zero, List.set_cons_succ]
  refine any_take (v := ?_) wzh17_t35184372088831_45 (by kernel_rfl) (fun _ _ _ _ _ h => h) F9 rfl rfl (by rfl) ?_ ?_
  rotate_left 1
  · intro w hS
    (try dsimp only at hS)
    go_simp
    all_goals with_reducible rfl
  simp only [Act.put, List.setIfInBounds_toArray, List.set_cons_zero, List.set_cons_succ]
  refine any_take (v := ?_) wzh17_t70368744177663_46 (by kernel_rfl) (fun _ _ _ _ _ h => h) F9 rfl rfl (by rfl) ?_ ?_
  rotate_left 1
  · intro w hS
    (try dsimp only at hS)
    go_simp
    all_goals with_reducible rfl
  simp only [Act.put, List.setIfInBounds_toArray, List.set_cons_zero, List.set_cons_succ]
  refine any_take (v := ?_) wzh17_t140737488355327_47 (by kernel_rfl) (fun _ _ _ _ _ h => h) F9 rfl rfl (by rfl) ?_ ?_
  rotate_left 1
  · intro w hS
    (try dsimp only at hS)
    go_simp
    all_goals with_reducible rfl
  simp only [Act.put, List.setIfInBounds_toArray, List.set_cons_zero, List.set_cons_succ]
  refine any_done wzh17_end ?_
  have H9 := hide H9
  have D9 := hide (D7.out.trans (H9.out.mono D7.out.size))
  have L9 := hide (HL6.out.below H9.out)
  clear hW0 SX HEX HSC bel0 HL6 hf1 hp1 hf2 hp2 hc2 H8 H9 F8 F9 hs9 D7
  go_wp2_with fail
  refine (lives17_any _).mono ?_
  rintro E t1 ⟨rfl, b1⟩
  have D10 := hide (D9.out.trans (b1.mono D9.out.size))
  have k6 := L9.out.below b1
  obtain ⟨p0, p1, p2, p3, p4, p5, p6, p7⟩ := k6.ei
  have SM := hide (msameK_any (mw17 m6 sa6 so6 ca6 co6 cs6) ⟨3, 2, 0, 7, .slice none 0 0, [], 0, 0, .slice none 0 0, []⟩ t1 k6.own.is (own_ack 0 t1 2 7).is k6.fit (fit_ack (by simp [In64]) (by simp [In64])))
  rw [k6.m', show smM m6 (Mw.m ⟨3, 2, 0, 7, .slice none 0 0, [], 0, 0, .slice none 0 0, []⟩) = true from smM_iff.2 (by rw [HM6.out]; rfl)] at SM
  unfold mv mw17 at SM
  simp only at SM
  clear k6 b1 L9 D9 HM6
  go_wp2_with fail
  refine SM.out.mono ?_
  rintro E t2 ⟨rfl, b2⟩
  have D11 := hide (D10.out.trans (b2.mono D10.out.size))
  clear b2 SM D10
  go_wp2
  go_ret
  exact ⟨rfl, D11.out⟩

end Go.Proofs.Ytabfihicdphjeaa

/- Proved: ShipNames -/
namespace Go.Proofs.Ytabfihicdphjeaa
open Go.ChangeShapes Go.WideShapes Go.ChangeAt Go.RowKit
open Go.ChangeMaps (open_string shut_string)
set_option linter.unusedVariables false

namespace shipNamesFrame
theorem own : ownKnob Try.prog.godebug = none := by kernel_rfl
theorem laidOut : laidOutB Try.prog = true := by kernel_rfl

set_option maxRecDepth 100000 in
theorem lifted (os : Os) (started : os.Started) (H : Type) (enc : TypeId × Value → H) :
    ReturnsInHanded {} Try.checked os 3 .any (Rows.shipNamesSpec.pre6 enc Try.prog Try.f3 Rows.shipNamesRow.domain false) (Rows.shipNamesSpec.post enc Try.prog Try.f3 false true false false) := by
  refine returnsInHanded_of_change_sized (C := Try.checked) own started (by kernel_rfl) Try.func3
    (ChangeSpec.witness6 (enc := enc) (C := Try.checked) false ⟨#[], #[], []⟩ 8 (by kernel_rfl) (by kernel_rfl) (by kernel_rfl) (by kernel_rfl)) ?_
  intro W base args ds gs before hval0 hW hcnd hsz0 _
  have hsz : (DataW.weightsEach Try.prog (Try.f3.params.toList ++ Rows.shipNamesSpec.plain.varTypes Try.prog) (ds ++ gs)).all (· ≤ reachBytes) = true := hsz0
  clear hsz0
  have hval : ∀ (j : Nat) t v, Try.f3.params[j]? = some t → args[j]? = some v → Value.okWide Try.prog W .any base t v := hval0
  have hW' := hW
  obtain ⟨p, q, hA0, hV, rfl, hfz, hnd⟩ := hW
  have hA : DataW.TrodAll enc Try.prog W 0 (fun _ => true) true Try.f3.params.toList args.toList ds p := hA0
  rw [Try.params3] at hA hval hsz
  obtain ⟨rfl, rfl, rfl⟩ := trodAll_none hA
  obtain ⟨rfl, rfl⟩ := trodVars_none hV
  clear hA0 hval0
  refine (shipNames_walk  W ).mono fun e W' ⟨he, bel⟩ => ?_
  subst he
  exact ⟨_, rfl, _, _, _, [], [], [], hW', trodAll_mk1 (shut_bool Try.underlying4 _), trodAll_mk0, rfl, bel.frame _, fun h => by cases h⟩

theorem over : Rows.shipNamesRow.holds Try.pinned (OpenSpec.ofChange Rows.shipNamesSpec) :=
  OpenClaim.holds_of_wide 3 Try.f3 rfl rfl rfl rfl rfl rfl rfl ⟨rfl, rfl, rfl, rfl, rfl⟩ rfl rfl rfl rfl rfl (by kernel_rfl) Try.func3 (by kernel_rfl)
    (of_decide_eq_true (by kernel_rfl)) (by unfold Func.isWrapper; first | (rw [if_pos (by decide +kernel)]; kernel_rfl) | (rw [if_neg (by decide +kernel)]; exact ⟨rfl, rfl⟩))
    (fun os started H enc _ => lifted os started H enc)
end shipNamesFrame

/-- The statement. -/
theorem shipNames_holds : Rows.ShipNamesSaid := shipNamesFrame.over
#print axioms shipNames_holds
end Go.Proofs.Ytabfihicdphjeaa
