/- Texts of one layer, one behind the other. -/
import Derived.Test.YtofbnkeglhhnlaaGF
import Derived.Test.YtofbnkeglhhnlaaGG
import Derived.Test.YtofbnkeglhhnlaaGA
import Derived.BigQuiet
/- Law 16: a call of both txns. -/
namespace Go.Proofs.Ytofbnkeglhhnlaa
open Go.RowKit
open Bm (Ov)
set_option linter.unusedVariables false

set_option maxRecDepth 20000 in
set_option maxHeartbeats 4000000 in
theorem tcall0 (w0 w : World) (s : Tx.St) (p x : Nat) (F G : Nat → Prop) (h : PT w0 w s s p x F G) (a : Tc) (ha : TcOk a) (hf : TcFit a) (hp : pk a.k 5 = 0) :
    Calls Try.prog 18 #[.pointer (some ⟨p, 0, none⟩), .pointer (some ⟨x, 0, none⟩), tcv a] w fun E w' => E = .returned (.bool true) ∧ TN w0 p x w' := by
  unfold tcv
  obtain ⟨w1, hw1, sz1, bel1, hB⟩ := blk_step w #[.int .i64 a.k, .string a.key, .string a.val, .int .i64 a.n] 43
  have c0 : w1.cell? ⟨w.heap.size, 0, none⟩ = some (.int .i64 a.k) := blk_cell hB 0 rfl
  have PK := hide (pickx_any a.k 5 w1 (by decide) (by decide) ha.1)
  rw [hp] at PK
  have nF : ¬ F w.heap.size := fun e => by have := h.ps.lt _ e; omega
  have nG : ¬ G w.heap.size := fun e => by have := h.nx.lt _ e; omega
  have SX : Hid (∀ W, Below w1.heap.size w1 W → W.cell? ⟨w.heap.size, 1, none⟩ = some (.string a.key) ∧ W.cell? ⟨w.heap.size, 2, none⟩ = some (.string a.val)) := hide fun W hW => ⟨blk_cell ((hW.block w.heap.size (by omega)).trans hB) 1 rfl, blk_cell ((hW.block w.heap.size (by omega)).trans hB) 2 rfl⟩
  have HF1 : Hid (∀ W, Below w1.heap.size w1 W → Calls Try.prog 10 #[.pointer (some ⟨p, 0, none⟩), .string a.key, .string a.val] W fun E w' => E = .returned (.int .i64 (Tx.addE s ⟨true, a.key, a.val⟩)) ∧ ∃ F', PT w0 w' (Tx.add s ⟨true, a.key, a.val⟩) s p x F' G ∧ w'.heap[w.heap.size]? = some (.cells #[.int .i64 a.k, .string a.key, .string a.val, .int .i64 a.n] 43 (0, 0))) := hide fun W hW => by
    have hT := (h.below bel1).below hW
    have hb := (hW.block w.heap.size (by omega)).trans hB
    refine (zput_any p F W s a.key a.val hT.ps hf.1 hf.2).mono ?_
    rintro E w' ⟨rfl, hS⟩
    obtain ⟨F', k1, o1⟩ := hT.stepP hS
    exact ⟨rfl, F', k1, (o1.block w.heap.size (blk_lt hb) nF).trans hb⟩
  have HF2 : Hid (∀ W F', PT w0 W (Tx.add s ⟨true, a.key, a.val⟩) s p x F' G → W.heap[w.heap.size]? = some (.cells #[.int .i64 a.k, .string a.key, .string a.val, .int .i64 a.n] 43 (0, 0)) → Calls Try.prog 30 #[.pointer (some ⟨x, 0, none⟩), .string a.key, .string a.val] W fun E w' => E = .returned (.int .i64 (Tx.addE s ⟨true, a.key, a.val⟩)) ∧ TN w0 p x w' ∧ w'.heap[w.heap.size]? = some (.cells #[.int .i64 a.k, .string a.key, .string a.val, .int .i64 a.n] 43 (0, 0))) := hide fun W F' hT hb => by
    refine (nput_any x G W s a.key a.val hT.nx hf.1 hf.2).mono ?_
    rintro E w' ⟨rfl, hS⟩
    obtain ⟨G', k1, o1⟩ := hT.stepN hS
    exact ⟨rfl, ⟨_, F', G', k1⟩, (o1.block w.heap.size (blk_lt hb) nG).trans hb⟩
  generalize Tx.addE s ⟨true, a.key, a.val⟩ = z at *
  generalize Tx.add s ⟨true, a.key, a.val⟩ = s2 at *
  have hzz : (z == z) = true := by simp
  clear h hB nF nG ha hf hp sz1
  obtain ⟨W0, hW0⟩ : ∃ x, w1.drew = x := ⟨_, rfl⟩
  have bel0 : Below w1.heap.size w1 W0 := by rw [← hW0]; exact (Below.refl _ _).drew
  clear bel1
  go_enter Try.func18, Try.ntmps18
  go_wp2_with fail
  refine PK.out.mono ?_
  rintro E w2 ⟨rfl, rfl⟩
  clear PK
  go_wp2_with fail
  refine region_any (ops := (regOf 3 Try.f18)) (S := fun W => W.cell? ⟨w.heap.size, 1, none⟩ = some (.string a.key) ∧ W.cell? ⟨w.heap.size, 2, none⟩ = some (.string a.val)) (by kernel_rfl) wza16_size ?_
  rw [wza16_new, hW0]
  refine any_take (v := ?_) wza16_t0_0 (by kernel_rfl) (fun _ _ _ _ _ h => h) (SX.out _ bel0) rfl rfl (by rfl) ?_ ?_
  rotate_left 1
  · intro w hS
    (try dsimp only at hS)
    go_simp
    all_goals with_reducible rfl
  simp only [Act.put, List.setIfInBounds_toArray, List.set_cons_zero, List.set_cons_succ]
  refine any_take (v := ?_) wza16_t1_1 (by kernel_rfl) (fun _ _ _ _ _ h => h) (SX.out _ bel0) rfl rfl (by rfl) ?_ ?_
  rotate_left 1
  · intro w hS
    (try dsimp only at hS)
    go_simp
    all_goals with_reducible rfl
  simp only [Act.put, List.setIfInBounds_toArray, List.set_cons_zero, List.set_cons_succ]
  refine any_take (v := ?_) wza16_t3_2 (by kernel_rfl) (fun _ _ _ _ _ h => h) (SX.out _ bel0) rfl rfl (by rfl) ?_ ?_
  rotate_left 1
  · intro w hS
    (try dsimp only at hS)
    go_simp
    all_goals with_reducible rfl
  simp only [Act.put, List.setIfInBounds_toArray, List.set_cons_zero, List.set_cons_succ]
  refine any_take (v := ?_) wza16_t7_3 (by kernel_rfl) (fun _ _ _ _ _ h => h) (SX.out _ bel0) rfl rfl (by rfl) ?_ ?_
  rotate_left 1
  · intro w hS
    (try dsimp only at hS)
    go_simp
    all_goals with_reducible rfl
  simp only [Act.put, List.setIfInBounds_toArray, List.set_cons_zero, List.set_cons_succ]
  refine any_take (v := ?_) wza16_t15_4 (by kernel_rfl) (fun _ _ _ _ _ h => h) (SX.out _ bel0) rfl rfl (by rfl) ?_ ?_
  rotate_left 1
  · intro w hS
    (try dsimp only at hS)
    go_simp
    all_goals with_reducible rfl
  simp only [Act.put, List.setIfInBounds_toArray, List.set_cons_zero, List.set_cons_succ]
  refine any_take (v := ?_) wza16_t31_6 (by kernel_rfl) (fun _ _ _ _ _ h => h) (SX.out _ bel0) rfl rfl (by rfl) ?_ ?_
  rotate_left 1
  · intro w hS
    (try dsimp only at hS)
    go_simp
    all_goals with_reducible rfl
  simp only [Act.put, List.setIfInBounds_toArray, List.set_cons_zero, List.set_cons_succ]
  refine any_take (v := ?_) wza16_t95_7 (by kernel_rfl) (fun _ _ _ _ _ h => h) (SX.out _ bel0) rfl rfl (by rfl) ?_ ?_
  rotate_left 1
  · intro w hS
    (try dsimp only at hS)
    go_simp
    all_goals with_reducible rfl
  simp only [Act.put, List.setIfInBounds_toArray, List.set_cons_zero, List.set_cons_succ]
  refine any_take (v := ?_) wza16_t223_8 (by kernel_rfl) (fun _ _ _ _ _ h => h) (SX.out _ bel0) rfl rfl (by rfl) ?_ ?_
  rotate_left 1
  · intro w hS
    (try dsimp only at hS)
    go_simp
    all_goals with_reducible rfl
  simp only [Act.put, List.setIfInBounds_toArray, List.set_cons_zero, List.set_cons_succ]
  refine any_take (v := ?_) wza16_t479_9 (by kernel_rfl) (fun _ _ _ _ _ h => h) (SX.out _ bel0) rfl rfl (by rfl) ?_ ?_
  rotate_left 1
  · intro w hS
    (try dsimp only at hS)
    go_simp
    all_goals with_reducible rfl
  simp only [Act.put, List.setIfInBounds_toArray, List.set_cons_zero, List.set_cons_succ]
  refine any_take (v := ?_) wza16_t991_10 (by kernel_rfl) (fun _ _ _ _ _ h => h) (SX.out _ bel0) rfl rfl (by rfl) ?_ ?_
  rotate_left 1
  · intro w hS
    (try dsimp only at hS)
    go_simp
    all_goals with_reducible rfl
  simp only [Act.put, List.setIfInBounds_toArray, List.set_cons_zero, List.set_cons_succ]
  refine any_one wza16_r2015 ?_
  refine any_op rfl (by rfl) (fun K hK => ?_)
  go_simp
  refine (HF1.out _ bel0).mono ?_
  rintro E W1 ⟨rfl, F1, T1, B1⟩
  go_wp2_with fail
  refine hK.out _ _ ⟨blk_cell B1 1 rfl, blk_cell B1 2 rfl⟩ ?_
  clear hK K
  try simp only [Act.put, List.setIfInBounds_toArray, List.set_cons_zero, List.set_cons_succ]
  refine any_one wza16_r2047 ?_
  refine any_op rfl (by rfl) (fun K hK => ?_)
  go_simp
  refine (HF2.out _ _ T1 B1).mono ?_
  rintro E W2 ⟨rfl, J, B2⟩
  go_wp2_with fail
  refine hK.out _ _ ⟨blk_cell B2 1 rfl, blk_cell B2 2 rfl⟩ ?_
  clear hK K
  try simp only [Act.put, List.setIfInBounds_toArray, List.set_cons_zero, List.set_cons_succ]
  refine any_take (v := ?_) wza16_t4095_12 (by kernel_rfl) (fun _ _ _ _ _ h => h) ⟨blk_cell B2 1 rfl, blk_cell B2 2 rfl⟩ rfl rfl (by rfl) ?_ ?_
  rotate_left 1
  · intro w hS
    (try dsimp only at hS)
    go_simp
    all_goals with_reducible rfl
  simp only [Act.put, List.setIfInBounds_toArray, List.set_cons_zero, List.set_cons_succ]
  refine any_take (v := ?_) wza16_t8191_13 (by kernel_rfl) (fun _ _ _ _ _ h => h) ⟨blk_cell B2 1 rfl, blk_cell B2 2 rfl⟩ rfl rfl (by rfl) ?_ ?_
  rotate_left 1
  · intro w hS
    (try dsimp only at hS)
    go_simp
    all_goals with_reducible rfl
  simp only [Act.put, List.setIfInBounds_toArray, List.set_cons_zero, List.set_cons_succ]
  refine any_done wza16_end ?_
  have J := hide J
  clear hW0 SX HF1 HF2 bel0
  go_wp2
  go_ret
  exact ⟨rfl, J.out⟩

set_option maxRecDepth 20000 in
set_option maxHeartbeats 4000000 in
theorem tcall1 (w0 w : World) (s : Tx.St) (p x : Nat) (F G : Nat → Prop) (h : PT w0 w s s p x F G) (a : Tc) (ha : TcOk a) (hf : TcFit a) (hp : pk a.k 5 = 1) :
    Calls Try.prog 18 #[.pointer (some ⟨p, 0, none⟩), .pointer (some ⟨x, 0, none⟩), tcv a] w fun E w' => E = .returned (.bool true) ∧ TN w0 p x w' := by
  unfold tcv
  obtain ⟨w1, hw1, sz1, bel1, hB⟩ := blk_step w #[.int .i64 a.k, .string a.key, .string a.val, .int .i64 a.n] 43
  have c0 : w1.cell? ⟨w.heap.size, 0, none⟩ = some (.int .i64 a.k) := blk_cell hB 0 rfl
  have PK := hide (pickx_any a.k 5 w1 (by decide) (by decide) ha.1)
  rw [hp] at PK
  have nF : ¬ F w.heap.size := fun e => by have := h.ps.lt _ e; omega
  have nG : ¬ G w.heap.size := fun e => by have := h.nx.lt _ e; omega
  have SX : Hid (∀ W, Below w1.heap.size w1 W → W.cell? ⟨w.heap.size, 1, none⟩ = some (.string a.key)) := hide fun W hW => blk_cell ((hW.block w.heap.size (by omega)).trans hB) 1 rfl
  have HF1 : Hid (∀ W, Below w1.heap.size w1 W → Calls Try.prog 11 #[.pointer (some ⟨p, 0, none⟩), .string a.key] W fun E w' => E = .returned (.int .i64 (Tx.addE s ⟨false, a.key, ⟨#[]⟩⟩)) ∧ ∃ F', PT w0 w' (Tx.add s ⟨false, a.key, ⟨#[]⟩⟩) s p x F' G ∧ w'.heap[w.heap.size]? = some (.cells #[.int .i64 a.k, .string a.key, .string a.val, .int .i64 a.n] 43 (0, 0))) := hide fun W hW => by
    have hT := (h.below bel1).below hW
    have hb := (hW.block w.heap.size (by omega)).trans hB
    refine (zdel_any p F W s a.key hT.ps hf.1).mono ?_
    rintro E w' ⟨rfl, hS⟩
    obtain ⟨F', k1, o1⟩ := hT.stepP hS
    exact ⟨rfl, F', k1, (o1.block w.heap.size (blk_lt hb) nF).trans hb⟩
  have HF2 : Hid (∀ W F', PT w0 W (Tx.add s ⟨false, a.key, ⟨#[]⟩⟩) s p x F' G → W.heap[w.heap.size]? = some (.cells #[.int .i64 a.k, .string a.key, .string a.val, .int .i64 a.n] 43 (0, 0)) → Calls Try.prog 31 #[.pointer (some ⟨x, 0, none⟩), .string a.key] W fun E w' => E = .returned (.int .i64 (Tx.addE s ⟨false, a.key, ⟨#[]⟩⟩)) ∧ TN w0 p x w' ∧ w'.heap[w.heap.size]? = some (.cells #[.int .i64 a.k, .string a.key, .string a.val, .int .i64 a.n] 43 (0, 0))) := hide fun W F' hT hb => by
    refine (ndel_any x G W s a.key hT.nx hf.1).mono ?_
    rintro E w' ⟨rfl, hS⟩
    obtain ⟨G', k1, o1⟩ := hT.stepN hS
    exact ⟨rfl, ⟨_, F', G', k1⟩, (o1.block w.heap.size (blk_lt hb) nG).trans hb⟩
  generalize Tx.addE s ⟨false, a.key, ⟨#[]⟩⟩ = z at *
  generalize Tx.add s ⟨false, a.key, ⟨#[]⟩⟩ = s2 at *
  have hzz : (z == z) = true := by simp
  clear h hB nF nG ha hf hp sz1
  obtain ⟨W0, hW0⟩ : ∃ x, w1.drew = x := ⟨_, rfl⟩
  have bel0 : Below w1.heap.size w1 W0 := by rw [← hW0]; exact (Below.refl _ _).drew
  clear bel1
  go_enter Try.func18, Try.ntmps18
  go_wp2_with fail
  refine PK.out.mono ?_
  rintro E w2 ⟨rfl, rfl⟩
  clear PK
  go_wp2_with fail
  refine region_any (ops := (regOf 5 Try.f18)) (S := fun W => W.cell? ⟨w.heap.size, 1, none⟩ = some (.string a.key)) (by kernel_rfl) wzb16_size ?_
  rw [wzb16_new, hW0]
  refine any_take (v := ?_) wzb16_t0_0 (by kernel_rfl) (fun _ _ _ _ _ h => h) (SX.out _ bel0) rfl rfl (by rfl) ?_ ?_
  rotate_left 1
  · intro w hS
    (try dsimp only at hS)
    go_simp
    all_goals with_reducible rfl
  simp only [Act.put, List.setIfInBounds_toArray, List.set_cons_zero, List.set_cons_succ]
  refine any_take (v := ?_) wzb16_t1_1 (by kernel_rfl) (fun _ _ _ _ _ h => h) (SX.out _ bel0) rfl rfl (by rfl) ?_ ?_
  rotate_left 1
  · intro w hS
    (try dsimp only at hS)
    go_simp
    all_goals with_reducible rfl
  simp only [Act.put, List.setIfInBounds_toArray, List.set_cons_zero, List.set_cons_succ]
  refine any_take (v := ?_) wzb16_t3_2 (by kernel_rfl) (fun _ _ _ _ _ h => h) (SX.out _ bel0) rfl rfl (by rfl) ?_ ?_
  rotate_left 1
  · intro w hS
    (try dsimp only at hS)
    go_simp
    all_goals with_reducible rfl
  simp only [Act.put, List.setIfInBounds_toArray, List.set_cons_zero, List.set_cons_succ]
  refine any_take (v := ?_) wzb16_t7_4 (by kernel_rfl) (fun _ _ _ _ _ h => h) (SX.out _ bel0) rfl rfl (by rfl) ?_ ?_
  rotate_left 1
  · intro w hS
    (try dsimp only at hS)
    go_simp
    all_goals with_reducible rfl
  simp only [Act.put, List.setIfInBounds_toArray, List.set_cons_zero, List.set_cons_succ]
  refine any_take (v := ?_) wzb16_t23_5 (by kernel_rfl) (fun _ _ _ _ _ h => h) (SX.out _ bel0) rfl rfl (by rfl) ?_ ?_
  rotate_left 1
  · intro w hS
    (try dsimp only at hS)
    go_simp
    all_goals with_reducible rfl
  simp only [Act.put, List.setIfInBounds_toArray, List.set_cons_zero, List.set_cons_succ]
  refine any_take (v := ?_) wzb16_t55_6 (by kernel_rfl) (fun _ _ _ _ _ h => h) (SX.out _ bel0) rfl rfl (by rfl) ?_ ?_
  rotate_left 1
  · intro w hS
    (try dsimp only at hS)
    go_simp
    all_goals with_reducible rfl
  simp only [Act.put, List.setIfInBounds_toArray, List.set_cons_zero, List.set_cons_succ]
  refine any_one wzb16_r119 ?_
  refine any_op rfl (by rfl) (fun K hK => ?_)
  go_simp
  refine (HF1.out _ bel0).mono ?_
  rintro E W1 ⟨rfl, F1, T1, B1⟩
  go_wp2_with fail
  refine hK.out _ _ (blk_cell B1 1 rfl) ?_
  clear hK K
  try simp only [Act.put, List.setIfInBounds_toArray, List.set_cons_zero, List.set_cons_succ]
  refine any_one wzb16_r127 ?_
  refine any_op rfl (by rfl) (fun K hK => ?_)
  go_simp
  refine (HF2.out _ _ T1 B1).mono ?_
  rintro E W2 ⟨rfl, J, B2⟩
  go_wp2_with fail
  refine hK.out _ _ (blk_cell B2 1 rfl) ?_
  clear hK K
  try simp only [Act.put, List.setIfInBounds_toArray, List.set_cons_zero, List.set_cons_succ]
  refine any_take (v := ?_) wzb16_t255_8 (by kernel_rfl) (fun _ _ _ _ _ h => h) (blk_cell B2 1 rfl) rfl rfl (by rfl) ?_ ?_
  rotate_left 1
  · intro w hS
    (try dsimp only at hS)
    go_simp
    all_goals with_reducible rfl
  simp only [Act.put, List.setIfInBounds_toArray, List.set_cons_zero, List.set_cons_succ]
  refine any_take (v := ?_) wzb16_t511_9 (by kernel_rfl) (fun _ _ _ _ _ h => h) (blk_cell B2 1 rfl) rfl rfl (by rfl) ?_ ?_
  rotate_left 1
  · intro w hS
    (try dsimp only at hS)
    go_simp
    all_goals with_reducible rfl
  simp only [Act.put, List.setIfInBounds_toArray, List.set_cons_zero, List.set_cons_succ]
  refine any_done wzb16_end ?_
  have J := hide J
  clear hW0 SX HF1 HF2 bel0
  go_wp2
  go_ret
  exact ⟨rfl, J.out⟩

set_option maxRecDepth 20000 in
set_option maxHeartbeats 4000000 in
theorem tcall2 (w0 w : World) (s : Tx.St) (p x : Nat) (F G : Nat → Prop) (h : PT w0 w s s p x F G) (a : Tc) (ha : TcOk a) (hf : TcFit a) (hp : pk a.k 5 = 2) :
    Calls Try.prog 18 #[.pointer (some ⟨p, 0, none⟩), .pointer (some ⟨x, 0, none⟩), tcv a] w fun E w' => E = .returned (.bool true) ∧ TN w0 p x w' := by
  unfold tcv
  obtain ⟨w1, hw1, sz1, bel1, hB⟩ := blk_step w #[.int .i64 a.k, .string a.key, .string a.val, .int .i64 a.n] 43
  have c0 : w1.cell? ⟨w.heap.size, 0, none⟩ = some (.int .i64 a.k) := blk_cell hB 0 rfl
  have PK := hide (pickx_any a.k 5 w1 (by decide) (by decide) ha.1)
  rw [hp] at PK
  have nF : ¬ F w.heap.size := fun e => by have := h.ps.lt _ e; omega
  have nG : ¬ G w.heap.size := fun e => by have := h.nx.lt _ e; omega
  have SX : Hid (∀ W, Below w1.heap.size w1 W → W.cell? ⟨w.heap.size, 3, none⟩ = some (.int .i64 a.n)) := hide fun W hW => blk_cell ((hW.block w.heap.size (by omega)).trans hB) 3 rfl
  have HF1 : Hid (∀ W, Below w1.heap.size w1 W → Calls Try.prog 12 #[.pointer (some ⟨p, 0, none⟩), .int .i64 a.n] W fun E w' => E = .returned (.int .i64 (Tx.undE s a.n)) ∧ ∃ F', PT w0 w' (Tx.und s a.n) s p x F' G ∧ w'.heap[w.heap.size]? = some (.cells #[.int .i64 a.k, .string a.key, .string a.val, .int .i64 a.n] 43 (0, 0))) := hide fun W hW => by
    have hT := (h.below bel1).below hW
    have hb := (hW.block w.heap.size (by omega)).trans hB
    refine (zundo_any p F W s a.n hT.ps).mono ?_
    rintro E w' ⟨rfl, hS⟩
    obtain ⟨F', k1, o1⟩ := hT.stepP hS
    exact ⟨rfl, F', k1, (o1.block w.heap.size (blk_lt hb) nF).trans hb⟩
  have HF2 : Hid (∀ W F', PT w0 W (Tx.und s a.n) s p x F' G → W.heap[w.heap.size]? = some (.cells #[.int .i64 a.k, .string a.key, .string a.val, .int .i64 a.n] 43 (0, 0)) → Calls Try.prog 32 #[.pointer (some ⟨x, 0, none⟩), .int .i64 a.n] W fun E w' => E = .returned (.int .i64 (Tx.undE s a.n)) ∧ TN w0 p x w' ∧ w'.heap[w.heap.size]? = some (.cells #[.int .i64 a.k, .string a.key, .string a.val, .int .i64 a.n] 43 (0, 0))) := hide fun W F' hT hb => by
    refine (nundo_any x G W s a.n hT.nx).mono ?_
    rintro E w' ⟨rfl, hS⟩
    obtain ⟨G', k1, o1⟩ := hT.stepN hS
    exact ⟨rfl, ⟨_, F', G', k1⟩, (o1.block w.heap.size (blk_lt hb) nG).trans hb⟩
  generalize Tx.undE s a.n = z at *
  generalize Tx.und s a.n = s2 at *
  have hzz : (z == z) = true := by simp
  clear h hB nF nG ha hf hp sz1
  obtain ⟨W0, hW0⟩ : ∃ x, w1.drew = x := ⟨_, rfl⟩
  have bel0 : Below w1.heap.size w1 W0 := by rw [← hW0]; exact (Below.refl _ _).drew
  clear bel1
  go_enter Try.func18, Try.ntmps18
  go_wp2_with fail
  refine PK.out.mono ?_
  rintro E w2 ⟨rfl, rfl⟩
  clear PK
  go_wp2_with fail
  refine region_any (ops := (regOf 7 Try.f18)) (S := fun W => W.cell? ⟨w.heap.size, 3, none⟩ = some (.int .i64 a.n)) (by kernel_rfl) wzc16_size ?_
  rw [wzc16_new, hW0]
  refine any_take (v := ?_) wzc16_t0_0 (by kernel_rfl) (fun _ _ _ _ _ h => h) (SX.out _ bel0) rfl rfl (by rfl) ?_ ?_
  rotate_left 1
  · intro w hS
    (try dsimp only at hS)
    go_simp
    all_goals with_reducible rfl
  simp only [Act.put, List.setIfInBounds_toArray, List.set_cons_zero, List.set_cons_succ]
  refine any_take (v := ?_) wzc16_t1_1 (by kernel_rfl) (fun _ _ _ _ _ h => h) (SX.out _ bel0) rfl rfl (by rfl) ?_ ?_
  rotate_left 1
  · intro w hS
    (try dsimp only at hS)
    go_simp
    all_goals with_reducible rfl
  simp only [Act.put, List.setIfInBounds_toArray, List.set_cons_zero, List.set_cons_succ]
  refine any_take (v := ?_) wzc16_t3_2 (by kernel_rfl) (fun _ _ _ _ _ h => h) (SX.out _ bel0) rfl rfl (by rfl) ?_ ?_
  rotate_left 1
  · intro w hS
    (try dsimp only at hS)
    go_simp
    all_goals with_reducible rfl
  simp only [Act.put, List.setIfInBounds_toArray, List.set_cons_zero, List.set_cons_succ]
  refine any_take (v := ?_) wzc16_t7_4 (by kernel_rfl) (fun _ _ _ _ _ h => h) (SX.out _ bel0) rfl rfl (by rfl) ?_ ?_
  rotate_left 1
  · intro w hS
    (try dsimp only at hS)
    go_simp
    all_goals with_reducible rfl
  simp only [Act.put, List.setIfInBounds_toArray, List.set_cons_zero, List.set_cons_succ]
  refine any_take (v := ?_) wzc16_t23_5 (by kernel_rfl) (fun _ _ _ _ _ h => h) (SX.out _ bel0) rfl rfl (by rfl) ?_ ?_
  rotate_left 1
  · intro w hS
    (try dsimp only at hS)
    go_simp
    all_goals with_reducible rfl
  simp only [Act.put, List.setIfInBounds_toArray, List.set_cons_zero, List.set_cons_succ]
  refine any_take (v := ?_) wzc16_t55_6 (by kernel_rfl) (fun _ _ _ _ _ h => h) (SX.out _ bel0) rfl rfl (by rfl) ?_ ?_
  rotate_left 1
  · intro w hS
    (try dsimp only at hS)
    go_simp
    all_goals with_reducible rfl
  simp only [Act.put, List.setIfInBounds_toArray, List.set_cons_zero, List.set_cons_succ]
  refine any_one wzc16_r119 ?_
  refine any_op rfl (by rfl) (fun K hK => ?_)
  go_simp
  refine (HF1.out _ bel0).mono ?_
  rintro E W1 ⟨rfl, F1, T1, B1⟩
  go_wp2_with fail
  refine hK.out _ _ (blk_cell B1 3 rfl) ?_
  clear hK K
  try simp only [Act.put, List.setIfInBounds_toArray, List.set_cons_zero, List.set_cons_succ]
  refine any_one wzc16_r127 ?_
  refine any_op rfl (by rfl) (fun K hK => ?_)
  go_simp
  refine (HF2.out _ _ T1 B1).mono ?_
  rintro E W2 ⟨rfl, J, B2⟩
  go_wp2_with fail
  refine hK.out _ _ (blk_cell B2 3 rfl) ?_
  clear hK K
  try simp only [Act.put, List.setIfInBounds_toArray, List.set_cons_zero, List.set_cons_succ]
  refine any_take (v := ?_) wzc16_t255_8 (by kernel_rfl) (fun _ _ _ _ _ h => h) (blk_cell B2 3 rfl) rfl rfl (by rfl) ?_ ?_
  rotate_left 1
  · intro w hS
    (try dsimp only at hS)
    go_simp
    all_goals with_reducible rfl
  simp only [Act.put, List.setIfInBounds_toArray, List.set_cons_zero, List.set_cons_succ]
  refine any_take (v := ?_) wzc16_t511_9 (by kernel_rfl) (fun _ _ _ _ _ h => h) (blk_cell B2 3 rfl) rfl rfl (by rfl) ?_ ?_
  rotate_left 1
  · intro w hS
    (try dsimp only at hS)
    go_simp
    all_goals with_reducible rfl
  simp only [Act.put, List.setIfInBounds_toArray, List.set_cons_zero, List.set_cons_succ]
  refine any_done wzc16_end ?_
  have J := hide J
  clear hW0 SX HF1 HF2 bel0
  go_wp2
  go_ret
  exact ⟨rfl, J.out⟩

set_option maxRecDepth 20000 in
set_option maxHeartbeats 4000000 in
theorem tcall3 (w0 w : World) (s : Tx.St) (p x : Nat) (F G : Nat → Prop) (h : PT w0 w s s p x F G) (a : Tc) (ha : TcOk a) (hp : pk a.k 5 = 3) :
    Calls Try.prog 18 #[.pointer (some ⟨p, 0, none⟩), .pointer (some ⟨x, 0, none⟩), tcv a] w fun E w' => E = .returned (.bool true) ∧ TN w0 p x w' := by
  unfold tcv
  obtain ⟨w1, hw1, sz1, bel1, hB⟩ := blk_step w #[.int .i64 a.k, .string a.key, .string a.val, .int .i64 a.n] 43
  have c0 : w1.cell? ⟨w.heap.size, 0, none⟩ = some (.int .i64 a.k) := blk_cell hB 0 rfl
  have PK := hide (pickx_any a.k 5 w1 (by decide) (by decide) ha.1)
  rw [hp] at PK
  have hT := h.below bel1
  have HZ := hide (zdone_any p F w1 s hT.ps)
  have HT := hide hT
  have h8 : (Tx.donL s).length ≤ 8 := by
    unfold Tx.donL
    split
    · exact h.nx.ok.1
    · simp
  obtain ⟨z, hz⟩ : ∃ z, Tx.donE s = z := ⟨_, rfl⟩
  have hzz : (z == z) = true := by simp
  rw [hz] at HZ
  have HZZ := hide hz
  clear h hB ha hp sz1 bel1 hT hz
  go_enter Try.func18, Try.ntmps18
  go_wp2_with fail
  refine PK.out.mono ?_
  rintro E w2 ⟨rfl, rfl⟩
  clear PK
  go_wp2_with fail
  refine HZ.out.mono ?_
  rintro E w2 ⟨v2, rfl, o2, hS⟩
  obtain ⟨F', k2, u2⟩ := HT.out.stepP (PzS.of_done hS)
  obtain ⟨a2, q2, hv2, _, _⟩ := o2.is.shape
  have HN := hide (ndone_any x G w2 s k2.nx)
  rw [HZZ.out] at HN
  have K2 := hide k2
  have O2 := hide o2
  subst hv2
  clear HZ hS u2 k2 o2
  go_wp2_with fail
  refine HN.out.mono ?_
  rintro E w3 ⟨v3, rfl, o3, hS⟩
  obtain ⟨G', k3, u3⟩ := K2.out.stepN hS
  obtain ⟨a3, q3, hv3, _, _⟩ := o3.is.shape
  have I2 : IsO w3 (.slice a2 (Tx.donL s).length q2) (Tx.donL s) := O2.out.is.out u3 fun _ b hb e => by
    have m1 := (O2.out.block b hb).1
    have m2 := HT.out.nx.lt b e
    omega
  have SM := hide (sameO_any _ _ _ _ w3 I2 o3.is (by omega) (by omega))
  rw [Bm.sameL_self] at SM
  have K3 := hide k3
  subst hv3
  clear HN hS u3 k3 o3 I2 O2
  generalize (Tx.donL s).length = dn at *
  go_wp2_with fail
  refine SM.out.mono ?_
  rintro E w4 ⟨rfl, b4⟩
  have K4 := hide (K3.out.below b4)
  clear SM b4
  go_wp2
  go_ret
  exact ⟨rfl, _, _, _, K4.out⟩

set_option maxRecDepth 20000 in
set_option maxHeartbeats 4000000 in
theorem tcall4 (w0 w : World) (s : Tx.St) (p x : Nat) (F G : Nat → Prop) (h : PT w0 w s s p x F G) (a : Tc) (ha : TcOk a) (hp : pk a.k 5 = 4) :
    Calls Try.prog 18 #[.pointer (some ⟨p, 0, none⟩), .pointer (some ⟨x, 0, none⟩), tcv a] w fun E w' => E = .returned (.bool true) ∧ TN w0 p x w' := by
  unfold tcv
  obtain ⟨w1, hw1, sz1, bel1, hB⟩ := blk_step w #[.int .i64 a.k, .string a.key, .string a.val, .int .i64 a.n] 43
  have c0 : w1.cell? ⟨w.heap.size, 0, none⟩ = some (.int .i64 a.k) := blk_cell hB 0 rfl
  have PK := hide (pickx_any a.k 5 w1 (by decide) (by decide) ha.1)
  rw [hp] at PK
  have hT := h.below bel1
  have HZ := hide (zdrop_any p F w1 s hT.ps)
  have HT := hide hT
  obtain ⟨z, hz⟩ : ∃ z, Tx.ask s = z := ⟨_, rfl⟩
  have hzz : (z == z) = true := by simp
  rw [hz] at HZ
  have HZZ := hide hz
  clear h hB ha hp sz1 bel1 hT hz
  go_enter Try.func18, Try.ntmps18
  go_wp2_with fail
  refine PK.out.mono ?_
  rintro E w2 ⟨rfl, rfl⟩
  clear PK
  go_wp2_with fail
  refine HZ.out.mono ?_
  rintro E w2 ⟨rfl, hS⟩
  obtain ⟨F', k2, u2⟩ := HT.out.stepP hS
  have HN := hide (ndrop_any x G w2 s k2.nx)
  rw [HZZ.out] at HN
  have K2 := hide k2
  clear HZ hS u2 k2
  go_wp2_with fail
  refine HN.out.mono ?_
  rintro E w3 ⟨rfl, hS⟩
  obtain ⟨G', k3, u3⟩ := K2.out.stepN hS
  have K3 := hide k3
  clear HN hS u3 k3
  go_wp2
  go_ret
  exact ⟨rfl, _, _, _, K3.out⟩

theorem tcall_any (w0 w : World) (s : Tx.St) (p x : Nat) (F G : Nat → Prop) (h : PT w0 w s s p x F G) (a : Tc) (ha : TcOk a) (hf : TcFit a) :
    Calls Try.prog 18 #[.pointer (some ⟨p, 0, none⟩), .pointer (some ⟨x, 0, none⟩), tcv a] w fun E w' => E = .returned (.bool true) ∧ TN w0 p x w' := by
  have hp := pk_lt a.k 5 (by decide)
  rcases (by omega : pk a.k 5 = 0 ∨ pk a.k 5 = 1 ∨ pk a.k 5 = 2 ∨ pk a.k 5 = 3 ∨ pk a.k 5 = 4) with e | e | e | e | e
  · exact tcall0 w0 w s p x F G h a ha hf e
  · exact tcall1 w0 w s p x F G h a ha hf e
  · exact tcall2 w0 w s p x F G h a ha hf e
  · exact tcall3 w0 w s p x F G h a ha e
  · exact tcall4 w0 w s p x F G h a ha e

end Go.Proofs.Ytofbnkeglhhnlaa

/- The document's txn: Get. -/
namespace Go.Proofs.Ytofbnkeglhhnlaa
open Go.RowKit
open Bm (Ov)
set_option linter.unusedVariables false

set_option maxRecDepth 20000 in
set_option maxHeartbeats 2000000 in
theorem nget_any (p : Nat) (F : Nat → Prop) (w : World) (s : Tx.St) (k : ByteArray) (h : Nxt p F w s) :
    Calls Try.prog 21 #[.pointer (some ⟨p, 0, none⟩), .string k] w fun E w' => E = .returned (.tuple #[.string (Tx.gtV s k), .bool (Tx.gtM s k), .bool (Tx.gtT s k)]) ∧ ∃ m, w' = w.drewN m := by
  have HA := hide (nasked_any p F w s h)
  cases hs : s.ov with
  | true =>
    have e1 : Tx.gtV s k = ⟨#[]⟩ := by unfold Tx.gtV; rw [if_pos hs]
    have e2 : Tx.gtM s k = false := by unfold Tx.gtM; rw [if_pos hs]
    have e3 : Tx.gtT s k = false := by unfold Tx.gtT; rw [if_pos hs]
    rw [Tx.ask_ov hs] at HA
    rw [e1, e2, e3]
    clear h e1 e2 e3
    go_enter Try.func21, Try.ntmps21
    go_wp2_with fail
    refine HA.out.mono ?_
    rintro E w2 ⟨rfl, rfl⟩
    go_wp2
    go_ret3
    exact ⟨rfl, 0, rfl⟩
  | false =>
    have e1 : Tx.gtV s k = Tx.vOf (Tx.lst k s.l) := by unfold Tx.gtV; rw [if_neg (by rw [hs]; decide)]
    have e2 : Tx.gtM s k = (Tx.lst k s.l).isSome := by unfold Tx.gtM; rw [if_neg (by rw [hs]; decide)]
    have e3 : Tx.gtT s k = Tx.tOf (Tx.lst k s.l) := by unfold Tx.gtT; rw [if_neg (by rw [hs]; decide)]
    rw [Tx.ask_on hs] at HA
    rw [e1, e2, e3]
    obtain ⟨v, hv, _⟩ := h
    have h8 := hv.ok.1
    have HI := hide hv.row.is
    obtain ⟨la, lk, hlv, _, _⟩ := hv.row.is.shape
    have c1 : w.cell? ⟨p, 1, none⟩ = some (.slice la s.l.length lk) := by rw [← hlv]; exact blk_cell hv.blk 1 rfl
    rw [hlv] at HI
    obtain ⟨r, hr⟩ : ∃ r, Tx.lst k s.l = r := ⟨_, rfl⟩
    have HRR := hide hr
    rw [hr]
    clear hv hlv e1 e2 e3 hr
    go_enter Try.func21, Try.ntmps21
    go_wp2_with fail
    refine HA.out.mono ?_
    rintro E w2 ⟨rfl, rfl⟩
    go_wp2
    go_loopw [7] (fun iv wr => ∃ j : Nat, iv = .int .i64 ((j : Int) - 1) ∧ j ≤ s.l.length ∧ Hid (Tx.lst k (s.l.take j) = r) ∧ wr = w) (fun iv _ => (intOf iv + 1).toNat)
    case atStart => exact ⟨s.l.length, rfl, by omega, hide (by rw [List.take_length]; exact HRR.out), rfl⟩
    case round =>
      obtain ⟨j, rfl, hj, HJ, rfl⟩ := hrel
      cases j with
      | zero =>
        have e0 : r = none := HJ.out.symm
        subst e0
        clear HJ HRR
        go_wp2
        go_ret3
        exact ⟨rfl, 0, rfl⟩
      | succ i =>
        obtain ⟨b, off, cap, hvx, _, _, _, hcell⟩ := HI.out.full (by omega)
        simp only [Value.slice.injEq, true_and] at hvx
        obtain ⟨rfl, rfl⟩ := hvx
        obtain ⟨o, ho⟩ : ∃ o, s.l[i]? = some o := ⟨s.l[i], by rw [List.getElem?_eq_getElem]⟩
        obtain ⟨d0, d1, d2⟩ := hcell i o ho
        have hji := HJ.out
        rw [Tx.lst_take k s.l i o ho] at hji
        have hi1 : ((i + 1 : Nat) : Int) - 1 = (i : Int) := by omega
        rw [hi1]
        have hi2 : (i : Int) < s.l.length := by omega
        have hi3 : (0 : Int) ≤ (i : Int) := by omega
        by_cases hk : o.k = k
        · rw [if_pos hk] at hji
          have e0 : r = some o := hji.symm
          subst e0
          have hkb : (o.k.toList == k.toList) = true := by rw [Tx.eqk]; simp [hk]
          clear HJ HRR hcell ho hji hi1 hk
          go_wp2
          go_quiet (fail)
          go_wp2
          go_ret3
          exact ⟨rfl, _, rfl⟩
        · rw [if_neg hk] at hji
          have HJ2 := hide hji
          have hkb : (o.k.toList == k.toList) = false := by rw [Tx.eqk]; simp [hk]
          clear HJ HRR hcell ho hji hi1 hk d0 d2
          go_wp2
          go_roundw
          case rel => exact ⟨i, rfl, by omega, HJ2, by trivial⟩
          case measure => simp [intOf]

end Go.Proofs.Ytofbnkeglhhnlaa
