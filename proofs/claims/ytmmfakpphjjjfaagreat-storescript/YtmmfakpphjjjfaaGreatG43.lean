/- Texts of one layer, one behind the other. -/
import Derived.Test.YtmmfakpphjjjfaaGreatG18
import Derived.Test.YtmmfakpphjjjfaaGreatProg
import Derived.Test.YtmmfakpphjjjfaaGreatG42
import Derived.Test.YtmmfakpphjjjfaaGreatG26
import Derived.Test.YtmmfakpphjjjfaaGreatG33
import Derived.Test.YtmmfakpphjjjfaaGreatG41
import Derived.Test.YtmmfakpphjjjfaaGreatG27
import Derived.Test.YtmmfakpphjjjfaaGreatG8
import Derived.Test.YtmmfakpphjjjfaaGreatG9
import Derived.Deep.RegionLaw
/- The steps of a region of next's. -/
namespace Go.Proofs.YtmmfakpphjjjfaaGreat
open Go.RowKit
set_option linter.unusedVariables false

theorem wzr_new : Array.replicate 12 false = lst 12 0 := by kernel_rfl

theorem wzr_size : (regOf 1 Tryz.f48).size = 12 := by kernel_rfl

theorem wzr_t0_0 : Region.free .any (regOf 1 Tryz.f48) (lst 12 0) 0 = true ∧ (Region.ready .any (regOf 1 Tryz.f48) (lst 12 0)).contains 0 = true ∧ (lst 12 0).setIfInBounds 0 true = lst 12 1 := ⟨by kernel_rfl, by kernel_rfl, by kernel_rfl⟩

theorem wzr_t1_1 : Region.free .any (regOf 1 Tryz.f48) (lst 12 1) 1 = true ∧ (Region.ready .any (regOf 1 Tryz.f48) (lst 12 1)).contains 1 = true ∧ (lst 12 1).setIfInBounds 1 true = lst 12 3 := ⟨by kernel_rfl, by kernel_rfl, by kernel_rfl⟩

theorem wzr_t3_2 : Region.free .any (regOf 1 Tryz.f48) (lst 12 3) 2 = true ∧ (Region.ready .any (regOf 1 Tryz.f48) (lst 12 3)).contains 2 = true ∧ (lst 12 3).setIfInBounds 2 true = lst 12 7 := ⟨by kernel_rfl, by kernel_rfl, by kernel_rfl⟩

theorem wzr_t7_5 : Region.free .any (regOf 1 Tryz.f48) (lst 12 7) 5 = true ∧ (Region.ready .any (regOf 1 Tryz.f48) (lst 12 7)).contains 5 = true ∧ (lst 12 7).setIfInBounds 5 true = lst 12 39 := ⟨by kernel_rfl, by kernel_rfl, by kernel_rfl⟩

theorem wzr_t39_6 : Region.free .any (regOf 1 Tryz.f48) (lst 12 39) 6 = true ∧ (Region.ready .any (regOf 1 Tryz.f48) (lst 12 39)).contains 6 = true ∧ (lst 12 39).setIfInBounds 6 true = lst 12 103 := ⟨by kernel_rfl, by kernel_rfl, by kernel_rfl⟩

theorem wzr_t103_7 : Region.free .any (regOf 1 Tryz.f48) (lst 12 103) 7 = true ∧ (Region.ready .any (regOf 1 Tryz.f48) (lst 12 103)).contains 7 = true ∧ (lst 12 103).setIfInBounds 7 true = lst 12 231 := ⟨by kernel_rfl, by kernel_rfl, by kernel_rfl⟩

theorem wzr_t231_8 : Region.free .any (regOf 1 Tryz.f48) (lst 12 231) 8 = true ∧ (Region.ready .any (regOf 1 Tryz.f48) (lst 12 231)).contains 8 = true ∧ (lst 12 231).setIfInBounds 8 true = lst 12 487 := ⟨by kernel_rfl, by kernel_rfl, by kernel_rfl⟩

theorem wzr_t487_9 : Region.free .any (regOf 1 Tryz.f48) (lst 12 487) 9 = true ∧ (Region.ready .any (regOf 1 Tryz.f48) (lst 12 487)).contains 9 = true ∧ (lst 12 487).setIfInBounds 9 true = lst 12 999 := ⟨by kernel_rfl, by kernel_rfl, by kernel_rfl⟩

theorem wzr_r999 : Region.ready .any (regOf 1 Tryz.f48) (lst 12 999) = [3] ∧ (lst 12 999).setIfInBounds 3 true = lst 12 1007 := ⟨by kernel_rfl, by kernel_rfl⟩

theorem wzr_t1007_4 : Region.free .any (regOf 1 Tryz.f48) (lst 12 1007) 4 = true ∧ (Region.ready .any (regOf 1 Tryz.f48) (lst 12 1007)).contains 4 = true ∧ (lst 12 1007).setIfInBounds 4 true = lst 12 1023 := ⟨by kernel_rfl, by kernel_rfl, by kernel_rfl⟩

theorem wzr_t1023_10 : Region.free .any (regOf 1 Tryz.f48) (lst 12 1023) 10 = true ∧ (Region.ready .any (regOf 1 Tryz.f48) (lst 12 1023)).contains 10 = true ∧ (lst 12 1023).setIfInBounds 10 true = lst 12 2047 := ⟨by kernel_rfl, by kernel_rfl, by kernel_rfl⟩

theorem wzr_r2047 : Region.ready .any (regOf 1 Tryz.f48) (lst 12 2047) = [11] ∧ (lst 12 2047).setIfInBounds 11 true = lst 12 4095 := ⟨by kernel_rfl, by kernel_rfl⟩

theorem wzr_end : Region.ready .any (regOf 1 Tryz.f48) (lst 12 4095) = [] := by kernel_rfl

theorem wzs_new : Array.replicate 10 false = lst 10 0 := by kernel_rfl

theorem wzs_size : (regOf 16 Tryz.f16).size = 10 := by kernel_rfl

theorem wzs_t0_0 : Region.free .any (regOf 16 Tryz.f16) (lst 10 0) 0 = true ∧ (Region.ready .any (regOf 16 Tryz.f16) (lst 10 0)).contains 0 = true ∧ (lst 10 0).setIfInBounds 0 true = lst 10 1 := ⟨by kernel_rfl, by kernel_rfl, by kernel_rfl⟩

theorem wzs_t1_1 : Region.free .any (regOf 16 Tryz.f16) (lst 10 1) 1 = true ∧ (Region.ready .any (regOf 16 Tryz.f16) (lst 10 1)).contains 1 = true ∧ (lst 10 1).setIfInBounds 1 true = lst 10 3 := ⟨by kernel_rfl, by kernel_rfl, by kernel_rfl⟩

theorem wzs_t3_2 : Region.free .any (regOf 16 Tryz.f16) (lst 10 3) 2 = true ∧ (Region.ready .any (regOf 16 Tryz.f16) (lst 10 3)).contains 2 = true ∧ (lst 10 3).setIfInBounds 2 true = lst 10 7 := ⟨by kernel_rfl, by kernel_rfl, by kernel_rfl⟩

theorem wzs_t7_4 : Region.free .any (regOf 16 Tryz.f16) (lst 10 7) 4 = true ∧ (Region.ready .any (regOf 16 Tryz.f16) (lst 10 7)).contains 4 = true ∧ (lst 10 7).setIfInBounds 4 true = lst 10 23 := ⟨by kernel_rfl, by kernel_rfl, by kernel_rfl⟩

theorem wzs_t23_5 : Region.free .any (regOf 16 Tryz.f16) (lst 10 23) 5 = true ∧ (Region.ready .any (regOf 16 Tryz.f16) (lst 10 23)).contains 5 = true ∧ (lst 10 23).setIfInBounds 5 true = lst 10 55 := ⟨by kernel_rfl, by kernel_rfl, by kernel_rfl⟩

theorem wzs_t55_6 : Region.free .any (regOf 16 Tryz.f16) (lst 10 55) 6 = true ∧ (Region.ready .any (regOf 16 Tryz.f16) (lst 10 55)).contains 6 = true ∧ (lst 10 55).setIfInBounds 6 true = lst 10 119 := ⟨by kernel_rfl, by kernel_rfl, by kernel_rfl⟩

theorem wzs_r119 : Region.ready .any (regOf 16 Tryz.f16) (lst 10 119) = [3] ∧ (lst 10 119).setIfInBounds 3 true = lst 10 127 := ⟨by kernel_rfl, by kernel_rfl⟩

theorem wzs_r127 : Region.ready .any (regOf 16 Tryz.f16) (lst 10 127) = [7] ∧ (lst 10 127).setIfInBounds 7 true = lst 10 255 := ⟨by kernel_rfl, by kernel_rfl⟩

theorem wzs_t255_8 : Region.free .any (regOf 16 Tryz.f16) (lst 10 255) 8 = true ∧ (Region.ready .any (regOf 16 Tryz.f16) (lst 10 255)).contains 8 = true ∧ (lst 10 255).setIfInBounds 8 true = lst 10 511 := ⟨by kernel_rfl, by kernel_rfl, by kernel_rfl⟩

theorem wzs_t511_9 : Region.free .any (regOf 16 Tryz.f16) (lst 10 511) 9 = true ∧ (Region.ready .any (regOf 16 Tryz.f16) (lst 10 511)).contains 9 = true ∧ (lst 10 511).setIfInBounds 9 true = lst 10 1023 := ⟨by kernel_rfl, by kernel_rfl, by kernel_rfl⟩

theorem wzs_end : Region.ready .any (regOf 16 Tryz.f16) (lst 10 1023) = [] := by kernel_rfl

theorem wzt_new : Array.replicate 7 false = lst 7 0 := by kernel_rfl

theorem wzt_size : (regOf 17 Tryz.f16).size = 7 := by kernel_rfl

theorem wzt_t0_0 : Region.free .any (regOf 17 Tryz.f16) (lst 7 0) 0 = true ∧ (Region.ready .any (regOf 17 Tryz.f16) (lst 7 0)).contains 0 = true ∧ (lst 7 0).setIfInBounds 0 true = lst 7 1 := ⟨by kernel_rfl, by kernel_rfl, by kernel_rfl⟩

theorem wzt_t1_2 : Region.free .any (regOf 17 Tryz.f16) (lst 7 1) 2 = true ∧ (Region.ready .any (regOf 17 Tryz.f16) (lst 7 1)).contains 2 = true ∧ (lst 7 1).setIfInBounds 2 true = lst 7 5 := ⟨by kernel_rfl, by kernel_rfl, by kernel_rfl⟩

theorem wzt_t5_3 : Region.free .any (regOf 17 Tryz.f16) (lst 7 5) 3 = true ∧ (Region.ready .any (regOf 17 Tryz.f16) (lst 7 5)).contains 3 = true ∧ (lst 7 5).setIfInBounds 3 true = lst 7 13 := ⟨by kernel_rfl, by kernel_rfl, by kernel_rfl⟩

theorem wzt_r13 : Region.ready .any (regOf 17 Tryz.f16) (lst 7 13) = [1] ∧ (lst 7 13).setIfInBounds 1 true = lst 7 15 := ⟨by kernel_rfl, by kernel_rfl⟩

theorem wzt_r15 : Region.ready .any (regOf 17 Tryz.f16) (lst 7 15) = [4] ∧ (lst 7 15).setIfInBounds 4 true = lst 7 31 := ⟨by kernel_rfl, by kernel_rfl⟩

theorem wzt_t31_5 : Region.free .any (regOf 17 Tryz.f16) (lst 7 31) 5 = true ∧ (Region.ready .any (regOf 17 Tryz.f16) (lst 7 31)).contains 5 = true ∧ (lst 7 31).setIfInBounds 5 true = lst 7 63 := ⟨by kernel_rfl, by kernel_rfl, by kernel_rfl⟩

theorem wzt_t63_6 : Region.free .any (regOf 17 Tryz.f16) (lst 7 63) 6 = true ∧ (Region.ready .any (regOf 17 Tryz.f16) (lst 7 63)).contains 6 = true ∧ (lst 7 63).setIfInBounds 6 true = lst 7 127 := ⟨by kernel_rfl, by kernel_rfl, by kernel_rfl⟩

theorem wzt_end : Region.ready .any (regOf 17 Tryz.f16) (lst 7 127) = [] := by kernel_rfl

end Go.Proofs.YtmmfakpphjjjfaaGreat

/- The law's next; a flush of both stores. -/
namespace Go.Proofs.YtmmfakpphjjjfaaGreat
open Go.RowKit
open Bm (Ov)
set_option linter.unusedVariables false

set_option maxRecDepth 20000 in
set_option maxHeartbeats 2000000 in
theorem snext_any (a : Bc) (en : Int) (w : World) (h : BcOk w a) (hn : 0 ≤ en ∧ en ≤ 1048576) :
  Calls Tryz.prog 48 #[.agg #[.int .i64 a.k, .int .i64 a.n, .int .i64 a.c.e, .int .i64 a.c.n, a.c.v], .int .i64 en] w fun E w' => E = .returned (cmv (1 + pk a.c.e 3) (en + 1) a.c.v) ∧ Below w.heap.size w w' := by
 obtain ⟨ao, cap, hv, _, _⟩ := h.1.shape
 obtain ⟨w1, hw1, sz1, bel1, hB⟩ := blk_step w #[.int .i64 a.k, .int .i64 a.n, .int .i64 a.c.e, .int .i64 a.c.n, a.c.v] 52
 obtain ⟨w2, hw2, sz2, bel2, hR⟩ := blk_step w1 #[.int .i64 0, .int .i64 0, .slice none 0 0] 50
 have SX : Hid (∀ W, Below w1.heap.size w1 W → W.cell? ⟨w.heap.size, 2, none⟩ = some (.int .i64 a.c.e) ∧ W.cell? ⟨w.heap.size, 4, none⟩ = some (.slice ao a.c.l.length cap)) := hide fun W hW => by
  have hb := (hW.block w.heap.size (by omega)).trans hB
  exact ⟨blk_cell hb 2 rfl, (blk_cell hb 4 rfl).trans (by rw [← hv]; rfl)⟩
 have hI : I64 a.c.e := ⟨h.2.2.1.1, by have := h.2.2.1.2; omega⟩
 have HPK : Hid (∀ W, Calls Tryz.prog 18 #[.int .i64 a.c.e, .int .i64 3] W fun E w' => E = .returned (.int .i64 (pk a.c.e 3)) ∧ W = w') := hide fun W => pickx_any a.c.e 3 W (by omega) (by omega) hI
 obtain ⟨hp0, hp1⟩ := pk_lt a.c.e 3 (by omega)
 have hw3 : IntKind.i64.wrap (en + 1) = en + 1 := wrap_i64_small _ (by omega) (by omega)
 have hw4 : IntKind.i64.wrap (1 + pk a.c.e 3) = 1 + pk a.c.e 3 := wrap_i64_small _ (by omega) (by omega)
 rw [hv] at hw1 ⊢
 unfold cmv
 generalize pk a.c.e 3 = pp at *
 have B1 := hide bel1
 obtain ⟨W0, hW0⟩ : ∃ x, w2.drew = x := ⟨_, rfl⟩
 have bel0 : Below w1.heap.size w1 W0 := by rw [← hW0]; exact bel2.drew
 have hR0 : W0.heap[w1.heap.size]? = some (.cells #[.int .i64 0, .int .i64 0, .slice none 0 0] 50 (0, 0)) := by rw [← hW0]; exact hR
 clear h hB hR bel1 bel2 hv hp0 hp1 sz1 sz2 hI
 go_enter Tryz.func48, Tryz.ntmps48
 go_wp2_with fail
 refine region_any (ops := (regOf 1 Tryz.f48)) (S := fun W => W.cell? ⟨w.heap.size, 2, none⟩ = some (.int .i64 a.c.e) ∧ W.cell? ⟨w.heap.size, 4, none⟩ = some (.slice ao a.c.l.length cap)) (by kernel_rfl) wzr_size ?_
 rw [wzr_new, hW0]
 refine any_take (v := ?_) wzr_t0_0 (by kernel_rfl) (fun _ _ _ _ _ h => h) (SX.out _ bel0) rfl rfl (by rfl) ?_ ?_
 rotate_left 1
 ·intro w hS
  (try dsimp only at hS)
  go_simp
  all_goals with_reducible rfl
 simp only [Act.put, List.setIfInBounds_toArray, List.set_cons_zero, List.set_cons_succ]
 refine any_take (v := ?_) wzr_t1_1 (by kernel_rfl) (fun _ _ _ _ _ h => h) (SX.out _ bel0) rfl rfl (by rfl) ?_ ?_
 rotate_left 1
 ·intro w hS
  (try dsimp only at hS)
  go_simp
  all_goals with_reducible rfl
 simp only [Act.put, List.setIfInBounds_toArray, List.set_cons_zero, List.set_cons_succ]
 refine any_take (v := ?_) wzr_t3_2 (by kernel_rfl) (fun _ _ _ _ _ h => h) (SX.out _ bel0) rfl rfl (by rfl) ?_ ?_
 rotate_left 1
 ·intro w hS
  (try dsimp only at hS)
  go_simp
  all_goals with_reducible rfl
 simp only [Act.put, List.setIfInBounds_toArray, List.set_cons_zero, List.set_cons_succ]
 refine any_take (v := ?_) wzr_t7_5 (by kernel_rfl) (fun _ _ _ _ _ h => h) (SX.out _ bel0) rfl rfl (by rfl) ?_ ?_
 rotate_left 1
 ·intro w hS
  (try dsimp only at hS)
  go_simp
  all_goals with_reducible rfl
 simp only [Act.put, List.setIfInBounds_toArray, List.set_cons_zero, List.set_cons_succ]
 refine any_take (v := ?_) wzr_t39_6 (by kernel_rfl) (fun _ _ _ _ _ h => h) (SX.out _ bel0) rfl rfl (by rfl) ?_ ?_
 rotate_left 1
 ·intro w hS
  (try dsimp only at hS)
  go_simp
  all_goals with_reducible rfl
 simp only [Act.put, List.setIfInBounds_toArray, List.set_cons_zero, List.set_cons_succ]
 refine any_take (v := ?_) wzr_t103_7 (by kernel_rfl) (fun _ _ _ _ _ h => h) (SX.out _ bel0) rfl rfl (by rfl) ?_ ?_
 rotate_left 1
 ·intro w hS
  (try dsimp only at hS)
  go_simp
  all_goals with_reducible rfl
 simp only [Act.put, List.setIfInBounds_toArray, List.set_cons_zero, List.set_cons_succ]
 refine any_take (v := ?_) wzr_t231_8 (by kernel_rfl) (fun _ _ _ _ _ h => h) (SX.out _ bel0) rfl rfl (by rfl) ?_ ?_
 rotate_left 1
 ·intro w hS
  (try dsimp only at hS)
  go_simp
  all_goals with_reducible rfl
 simp only [Act.put, List.setIfInBounds_toArray, List.set_cons_zero, List.set_cons_succ]
 refine any_take (v := ?_) wzr_t487_9 (by kernel_rfl) (fun _ _ _ _ _ h => h) (SX.out _ bel0) rfl rfl (by rfl) ?_ ?_
 rotate_left 1
 ·intro w hS
  (try dsimp only at hS)
  go_simp
  all_goals with_reducible rfl
 simp only [Act.put, List.setIfInBounds_toArray, List.set_cons_zero, List.set_cons_succ]
 refine any_one wzr_r999 ?_
 refine any_op rfl (by rfl) (fun K hK => ?_)
 go_simp
 refine (HPK.out _).mono ?_
 rintro E Wp ⟨rfl, rfl⟩
 go_wp2_with fail
 refine hK.out _ _ (SX.out _ bel0) ?_
 clear hK K
 try simp only [Act.put, List.setIfInBounds_toArray, List.set_cons_zero, List.set_cons_succ]
 refine any_take (v := ?_) wzr_t1007_4 (by kernel_rfl) (fun _ _ _ _ _ h => h) (SX.out _ bel0) rfl rfl (by rfl) ?_ ?_
 rotate_left 1
 ·intro w hS
  (try dsimp only at hS)
  go_simp
  all_goals with_reducible rfl
 simp only [Act.put, List.setIfInBounds_toArray, List.set_cons_zero, List.set_cons_succ]
 refine any_take (v := ?_) wzr_t1023_10 (by kernel_rfl) (fun _ _ _ _ _ h => h) (SX.out _ bel0) rfl rfl (by rfl) ?_ ?_
 rotate_left 1
 ·intro w hS
  (try dsimp only at hS)
  go_simp
  all_goals with_reducible rfl
 simp only [Act.put, List.setIfInBounds_toArray, List.set_cons_zero, List.set_cons_succ]
 refine any_one wzr_r2047 ?_
 obtain ⟨V, hV, bV, gV, ⟨p0, p1, p2⟩, ⟨f0, f1, f2⟩, ⟨z0, z1, z2⟩⟩ := res_step hR0 (.int .i64 (1 + pp)) (.int .i64 (en + 1)) (.slice ao a.c.l.length cap)
 have belV := below_put bel0 gV (Nat.le_refl _) bel0.size
 refine any_op rfl (by rfl) (fun K hK => ?_)
 go_simp
 go_wp2_with fail
 refine hK.out _ _ (SX.out _ belV) ?_
 clear hK K
 try simp only [Act.put, List.setIfInBounds_toArray, List.set_cons_zero, List.set_cons_succ]
 refine any_done wzr_end ?_
 have FIN := hide (B1.out.trans (belV.mono B1.out.size))
 clear gV bV belV bel0
 go_wp2
 refine bodyPost_ret (v := .agg #[.int .i64 (1 + pp), .int .i64 (en + 1), .slice ao a.c.l.length cap]) (by simp [results, Tryz.results48, go_sem, z0, z1, z2]) rfl ?_
 exact ⟨rfl, FIN.out⟩

set_option maxRecDepth 20000 in
set_option maxHeartbeats 4000000 in
theorem scall2 (w0 w : World) (s : Sto.Ss) (ps p q xs x y : Nat) (F G : Nat → Prop) (h : TP w0 w s s ps p q xs x y F G) (k : Nat) (hin : SIn k s) (hk : k ≤ 80) (a : Bc) (ha : BcOk w a) (hp : pk a.k 4 = 2) :
  Calls Tryz.prog 16 #[.pointer (some ⟨ps, 0, none⟩), .pointer (some ⟨xs, 0, none⟩), bcv a] w fun E w' => E = .returned (.bool true) ∧ TD w0 ps p q xs x y k w' := by
 unfold bcv
 obtain ⟨ao, cap, hcv, _, _⟩ := ha.1.shape
 obtain ⟨w1, hw1, sz1, bel1, hB⟩ := blk_step w #[.int .i64 a.k, .int .i64 a.n, .int .i64 a.c.e, .int .i64 a.c.n, a.c.v] 52
 have c0 : w1.cell? ⟨w.heap.size, 0, none⟩ = some (.int .i64 a.k) := blk_cell hB 0 rfl
 have PK := hide (pickx_any a.k 4 w1 (by decide) (by decide) ha.2.1.1)
 rw [hp] at PK
 have ok := h.yy.ok
 have hro := hin.ro ok
 have hrest := hin.rest
 have nF : ¬ F w.heap.size := fun e => by have := h.ss.lt _ e; omega
 have nG : ¬ G w.heap.size := fun e => by have := h.yy.lt _ e; omega
 have hu : In64 a.n := ⟨ha.2.1.2.1, by have := ha.2.1.2.2; omega⟩
 have SX : Hid (∀ W, Below w1.heap.size w1 W → W.cell? ⟨w.heap.size, 1, none⟩ = some (.int .i64 a.n)) := hide fun W hW => blk_cell ((hW.block w.heap.size (by omega)).trans hB) 1 rfl
 have HF1 : Hid (∀ W, Below w1.heap.size w1 W → Calls Tryz.prog 52 #[.pointer (some ⟨ps, 0, none⟩), .int .i64 a.n] W fun E w' => E = .returned (.int .i64 (Sto.flu s a.n).1) ∧ ∃ F', TP w0 w' (Sto.flu s a.n).2 s ps p q xs x y F' G ∧ w'.heap[w.heap.size]? = some (.cells #[.int .i64 a.k, .int .i64 a.n, .int .i64 a.c.e, .int .i64 a.c.n, a.c.v] 52 (0, 0)) ∧ True) := hide fun W hW => by
  have hT := (h.below bel1).below hW
  have hb := (hW.block w.heap.size (by omega)).trans hB
  refine (hT.callS (sflush_any ps p q F W s a.n hT.ss (hin.rbig (by omega)) hu (by omega))).mono ?_
  rintro E w' ⟨rfl, F', k1, o1, _⟩
  exact ⟨rfl, F', k1, (o1.block w.heap.size (blk_lt hb) nF).trans hb, trivial⟩
 have HF2 : Hid (∀ W F', TP w0 W (Sto.flu s a.n).2 s ps p q xs x y F' G → W.heap[w.heap.size]? = some (.cells #[.int .i64 a.k, .int .i64 a.n, .int .i64 a.c.e, .int .i64 a.c.n, a.c.v] 52 (0, 0)) → Calls Tryz.prog 53 #[.pointer (some ⟨xs, 0, none⟩), .int .i64 a.n] W fun E w' => E = .returned (.int .i64 (Sto.flu s a.n).1) ∧ TD w0 ps p q xs x y k w' ∧ w'.heap[w.heap.size]? = some (.cells #[.int .i64 a.k, .int .i64 a.n, .int .i64 a.c.e, .int .i64 a.c.n, a.c.v] 52 (0, 0))) := hide fun W F' hT hb => by
  refine (hT.callY (dflush_any xs x y G W s a.n hT.yy (hin.rbig (by omega)) hu (by omega) (by omega))).mono ?_
  rintro E w' ⟨rfl, G', k1, o1, _⟩
  exact ⟨rfl, ⟨_, F', G', k1, sin_flu hin ok a.n⟩, (o1.block w.heap.size (blk_lt hb) nG).trans hb⟩
 rw [hcv] at hw1 HF1 HF2 ⊢
 generalize (Sto.flu s a.n).1 = z at *
 have hzz : (z == z) = true := by simp
 clear h hin hB hcv nF nG ha ok
 obtain ⟨W0, hW0⟩ : ∃ x, w1.drew = x := ⟨_, rfl⟩
 have bel0 : Below w1.heap.size w1 W0 := by rw [← hW0]; exact (Below.refl _ _).drew
 go_enter Tryz.func16, Tryz.ntmps16
 go_wp2_with fail
 refine PK.out.mono ?_
 rintro E w2 ⟨rfl, rfl⟩
 clear PK
 go_wp2_with fail
 refine region_any (ops := (regOf 16 Tryz.f16)) (S := fun W => W.cell? ⟨w.heap.size, 1, none⟩ = some (.int .i64 a.n)) (by kernel_rfl) wzs_size ?_
 rw [wzs_new, hW0]
 refine any_take (v := ?_) wzs_t0_0 (by kernel_rfl) (fun _ _ _ _ _ h => h) (SX.out _ bel0) rfl rfl (by rfl) ?_ ?_
 rotate_left 1
 ·intro w hS
  (try dsimp only at hS)
  go_simp
  all_goals with_reducible rfl
 simp only [Act.put, List.setIfInBounds_toArray, List.set_cons_zero, List.set_cons_succ]
 refine any_take (v := ?_) wzs_t1_1 (by kernel_rfl) (fun _ _ _ _ _ h => h) (SX.out _ bel0) rfl rfl (by rfl) ?_ ?_
 rotate_left 1
 ·intro w hS
  (try dsimp only at hS)
  go_simp
  all_goals with_reducible rfl
 simp only [Act.put, List.setIfInBounds_toArray, List.set_cons_zero, List.set_cons_succ]
 refine any_take (v := ?_) wzs_t3_2 (by kernel_rfl) (fun _ _ _ _ _ h => h) (SX.out _ bel0) rfl rfl (by rfl) ?_ ?_
 rotate_left 1
 ·intro w hS
  (try dsimp only at hS)
  go_simp
  all_goals with_reducible rfl
 simp only [Act.put, List.setIfInBounds_toArray, List.set_cons_zero, List.set_cons_succ]
 refine any_take (v := ?_) wzs_t7_4 (by kernel_rfl) (fun _ _ _ _ _ h => h) (SX.out _ bel0) rfl rfl (by rfl) ?_ ?_
 rotate_left 1
 ·intro w hS
  (try dsimp only at hS)
  go_simp
  all_goals with_reducible rfl
 simp only [Act.put, List.setIfInBounds_toArray, List.set_cons_zero, List.set_cons_succ]
 refine any_take (v := ?_) wzs_t23_5 (by kernel_rfl) (fun _ _ _ _ _ h => h) (SX.out _ bel0) rfl rfl (by rfl) ?_ ?_
 rotate_left 1
 ·intro w hS
  (try dsimp only at hS)
  go_simp
  all_goals with_reducible rfl
 simp only [Act.put, List.setIfInBounds_toArray, List.set_cons_zero, List.set_cons_succ]
 refine any_take (v := ?_) wzs_t55_6 (by kernel_rfl) (fun _ _ _ _ _ h => h) (SX.out _ bel0) rfl rfl (by rfl) ?_ ?_
 rotate_left 1
 ·intro w hS
  (try dsimp only at hS)
  go_simp
  all_goals with_reducible rfl
 simp only [Act.put, List.setIfInBounds_toArray, List.set_cons_zero, List.set_cons_succ]
 refine any_one wzs_r119 ?_
 refine any_op rfl (by rfl) (fun K hK => ?_)
 go_simp
 refine (HF1.out _ bel0).mono ?_
 rintro E W1 ⟨rfl, F1, T1, B1, n1⟩
 go_wp2_with fail
 refine hK.out _ _ (blk_cell B1 1 rfl) ?_
 clear hK K
 try simp only [Act.put, List.setIfInBounds_toArray, List.set_cons_zero, List.set_cons_succ]
 refine any_one wzs_r127 ?_
 refine any_op rfl (by rfl) (fun K hK => ?_)
 go_simp
 refine (HF2.out _ _ T1 B1).mono ?_
 rintro E W2 ⟨rfl, J, B2⟩
 go_wp2_with fail
 refine hK.out _ _ (blk_cell B2 1 rfl) ?_
 clear hK K
 try simp only [Act.put, List.setIfInBounds_toArray, List.set_cons_zero, List.set_cons_succ]
 refine any_take (v := ?_) wzs_t255_8 (by kernel_rfl) (fun _ _ _ _ _ h => h) (blk_cell B2 1 rfl) rfl rfl (by rfl) ?_ ?_
 rotate_left 1
 ·intro w hS
  (try dsimp only at hS)
  go_simp
  all_goals with_reducible rfl
 simp only [Act.put, List.setIfInBounds_toArray, List.set_cons_zero, List.set_cons_succ]
 refine any_take (v := ?_) wzs_t511_9 (by kernel_rfl) (fun _ _ _ _ _ h => h) (blk_cell B2 1 rfl) rfl rfl (by rfl) ?_ ?_
 rotate_left 1
 ·intro w hS
  (try dsimp only at hS)
  go_simp
  all_goals with_reducible rfl
 simp only [Act.put, List.setIfInBounds_toArray, List.set_cons_zero, List.set_cons_succ]
 refine any_done wzs_end ?_
 have J := hide J
 go_wp2
 go_ret
 exact ⟨rfl, J.out⟩

set_option maxRecDepth 20000 in
set_option maxHeartbeats 4000000 in
theorem scall3 (w0 w : World) (s : Sto.Ss) (ps p q xs x y : Nat) (F G : Nat → Prop) (h : TP w0 w s s ps p q xs x y F G) (k : Nat) (hin : SIn k s) (hk : k ≤ 80) (a : Bc) (ha : BcOk w a) (hp : pk a.k 4 = 3) :
  Calls Tryz.prog 16 #[.pointer (some ⟨ps, 0, none⟩), .pointer (some ⟨xs, 0, none⟩), bcv a] w fun E w' => E = .returned (.bool true) ∧ TD w0 ps p q xs x y k w' := by
 unfold bcv
 obtain ⟨ao, cap, hcv, _, _⟩ := ha.1.shape
 obtain ⟨w1, hw1, sz1, bel1, hB⟩ := blk_step w #[.int .i64 a.k, .int .i64 a.n, .int .i64 a.c.e, .int .i64 a.c.n, a.c.v] 52
 have c0 : w1.cell? ⟨w.heap.size, 0, none⟩ = some (.int .i64 a.k) := blk_cell hB 0 rfl
 have PK := hide (pickx_any a.k 4 w1 (by decide) (by decide) ha.2.1.1)
 rw [hp] at PK
 have ok := h.yy.ok
 obtain ⟨q1, q2, q3, q4⟩ := ok.bound
 have hfin : Sto.fin s = Cm.lastN 0 s.r.l + s.l.length := rfl
 have hro := hin.ro ok
 have hrest := hin.rest
 obtain ⟨hp0, hp1⟩ := pk_lt a.n 4 (by omega)
 have HPI : Hid (∀ W, Calls Tryz.prog 18 #[.int .i64 a.n, .int .i64 4] W fun E w' => E = .returned (.int .i64 (pk a.n 4)) ∧ W = w') := hide fun W => pickx_any a.n 4 W (by omega) (by omega) ha.2.1.2
 have hu : In64 (Sto.fin s - pk a.n 4) := ⟨by omega, by omega⟩
 have hwr : IntKind.i64.wrap (Sto.fin s - pk a.n 4) = Sto.fin s - pk a.n 4 := wrap_i64_small _ (by omega) (by omega)
 have SX : Hid (∀ W, Below w1.heap.size w1 W → W.cell? ⟨w.heap.size, 1, none⟩ = some (.int .i64 a.n)) := hide fun W hW => blk_cell ((hW.block w.heap.size (by omega)).trans hB) 1 rfl
 have HEN : Hid (∀ W, Below w1.heap.size w1 W → Calls Tryz.prog 49 #[.pointer (some ⟨xs, 0, none⟩)] W fun E w' => E = .returned (.int .i64 (Sto.fin s)) ∧ Below w1.heap.size w1 w') := hide fun W hW => (dEnd_any xs x y G W s ((h.below bel1).below hW).yy).mono fun E w' k => ⟨k.1, hW.trans (k.2.mono hW.size)⟩
 have HF1 : Hid (∀ W, Below w1.heap.size w1 W → Calls Tryz.prog 52 #[.pointer (some ⟨ps, 0, none⟩), .int .i64 (Sto.fin s - pk a.n 4)] W fun E w' => E = .returned (.int .i64 (Sto.flu s (Sto.fin s - pk a.n 4)).1) ∧ ∃ F', TP w0 w' (Sto.flu s (Sto.fin s - pk a.n 4)).2 s ps p q xs x y F' G) := hide fun W hW => by
  have hT := (h.below bel1).below hW
  refine (hT.callS (sflush_any ps p q F W s _ hT.ss (hin.rbig (by omega)) hu (by omega))).mono ?_
  rintro E w' ⟨rfl, F', k1, o1, _⟩
  exact ⟨rfl, F', k1⟩
 have HF2 : Hid (∀ W F', TP w0 W (Sto.flu s (Sto.fin s - pk a.n 4)).2 s ps p q xs x y F' G → Calls Tryz.prog 53 #[.pointer (some ⟨xs, 0, none⟩), .int .i64 (Sto.fin s - pk a.n 4)] W fun E w' => E = .returned (.int .i64 (Sto.flu s (Sto.fin s - pk a.n 4)).1) ∧ TD w0 ps p q xs x y k w') := hide fun W F' hT => by
  refine (hT.callY (dflush_any xs x y G W s _ hT.yy (hin.rbig (by omega)) hu (by omega) (by omega))).mono ?_
  rintro E w' ⟨rfl, G', k1, o1, _⟩
  exact ⟨rfl, ⟨_, F', G', k1, sin_flu hin ok _⟩⟩
 rw [hcv] at hw1 ⊢
 generalize (Sto.flu s (Sto.fin s - pk a.n 4)).1 = z at *
 have hzz : (z == z) = true := by simp
 generalize hff : Sto.fin s = fi at *
 generalize hpp : pk a.n 4 = pp at *
 clear h hin hB hcv ha ok hff hpp hfin
 obtain ⟨W0, hW0⟩ : ∃ x, w1.drew = x := ⟨_, rfl⟩
 have bel0 : Below w1.heap.size w1 W0 := by rw [← hW0]; exact (Below.refl _ _).drew
 go_enter Tryz.func16, Tryz.ntmps16
 go_wp2_with fail
 refine PK.out.mono ?_
 rintro E w2 ⟨rfl, rfl⟩
 clear PK
 go_wp2_with fail
 refine region_any (ops := (regOf 17 Tryz.f16)) (S := fun W => W.cell? ⟨w.heap.size, 1, none⟩ = some (.int .i64 a.n)) (by kernel_rfl) wzt_size ?_
 rw [wzt_new, hW0]
 refine any_take (v := ?_) wzt_t0_0 (by kernel_rfl) (fun _ _ _ _ _ h => h) (SX.out _ bel0) rfl rfl (by rfl) ?_ ?_
 rotate_left 1
 ·intro w hS
  (try dsimp only at hS)
  go_simp
  all_goals with_reducible rfl
 simp only [Act.put, List.setIfInBounds_toArray, List.set_cons_zero, List.set_cons_succ]
 refine any_take (v := ?_) wzt_t1_2 (by kernel_rfl) (fun _ _ _ _ _ h => h) (SX.out _ bel0) rfl rfl (by rfl) ?_ ?_
 rotate_left 1
 ·intro w hS
  (try dsimp only at hS)
  go_simp
  all_goals with_reducible rfl
 simp only [Act.put, List.setIfInBounds_toArray, List.set_cons_zero, List.set_cons_succ]
 refine any_take (v := ?_) wzt_t5_3 (by kernel_rfl) (fun _ _ _ _ _ h => h) (SX.out _ bel0) rfl rfl (by rfl) ?_ ?_
 rotate_left 1
 ·intro w hS
  (try dsimp only at hS)
  go_simp
  all_goals with_reducible rfl
 simp only [Act.put, List.setIfInBounds_toArray, List.set_cons_zero, List.set_cons_succ]
 refine any_one wzt_r13 ?_
 refine any_op rfl (by rfl) (fun K hK => ?_)
 go_simp
 refine (HEN.out _ bel0).mono ?_
 rintro E W1 ⟨rfl, bel1⟩
 go_wp2_with fail
 refine hK.out _ _ (SX.out _ bel1) ?_
 clear hK K
 try simp only [Act.put, List.setIfInBounds_toArray, List.set_cons_zero, List.set_cons_succ]
 refine any_one wzt_r15 ?_
 refine any_op rfl (by rfl) (fun K hK => ?_)
 go_simp
 refine (HPI.out _).mono ?_
 rintro E W2 ⟨rfl, rfl⟩
 go_wp2_with fail
 refine hK.out _ _ (SX.out _ bel1) ?_
 clear hK K
 try simp only [Act.put, List.setIfInBounds_toArray, List.set_cons_zero, List.set_cons_succ]
 refine any_take (v := ?_) wzt_t31_5 (by kernel_rfl) (fun _ _ _ _ _ h => h) (SX.out _ bel1) rfl rfl (by rfl) ?_ ?_
 rotate_left 1
 ·intro w hS
  (try dsimp only at hS)
  go_simp
  all_goals with_reducible rfl
 simp only [Act.put, List.setIfInBounds_toArray, List.set_cons_zero, List.set_cons_succ]
 refine any_take (v := ?_) wzt_t63_6 (by kernel_rfl) (fun _ _ _ _ _ h => h) (SX.out _ bel1) rfl rfl (by rfl) ?_ ?_
 rotate_left 1
 ·intro w hS
  (try dsimp only at hS)
  go_simp
  all_goals with_reducible rfl
 simp only [Act.put, List.setIfInBounds_toArray, List.set_cons_zero, List.set_cons_succ]
 refine any_done wzt_end ?_
 have B17 := hide bel1
 have X1 := hide (HF1.out _ B17.out)
 clear HF1 HEN HPI SX bel0 bel1
 go_wp2_with fail
 refine X1.out.mono ?_
 rintro E w4 ⟨rfl, F4, T4⟩
 have X2 := hide (HF2.out _ _ T4)
 clear HF2 T4 X1
 go_wp2_with fail
 refine X2.out.mono ?_
 rintro E w5 ⟨rfl, J⟩
 have J := hide J
 clear X2
 go_wp2
 go_ret
 exact ⟨rfl, J.out⟩

end Go.Proofs.YtmmfakpphjjjfaaGreat

/- The law's pair: a runs and its disk, and the document's, in memory. -/
namespace Go.Proofs.YtmmfakpphjjjfaaGreat
open Go.RowKit
set_option linter.unusedVariables false

section
variable {w0 w w' : World} {r p q x y : Nat} {s t s' t' : Rl.Rs} {F G : Nat → Prop}

theorem XwS.disk {F1 : Nat → Prop} {st st' : Dm.Ds} {l : List Cm.Cv} {bk : Bool} {v : Value} {rs : List Cw} (h1 : Dk y F1 w st) (h2 : XrV x y w l bk v rs) (h3 : ∀ g, XRB x v rs g → ¬ F1 g) (k : DStep y F1 w w' st') : XwS x y (fun g => F1 g ∨ XRB x v rs g) w w' ⟨st', l, bk⟩ := by
 obtain ⟨F2, k1, k2, k3, k4, k5⟩ := XW.disk h1 h2 h3 k
 refine ⟨_, ⟨F2, v, rs, k1, k2, k3, rfl⟩, k4.mono fun g hg => .inl (.inl hg), ?_⟩
 rintro g (e | e)
 ·rcases k5 g e with e | e
  ·exact .inl (.inl e)
  ·exact .inr e
 ·exact .inl (.inr e)

end

end Go.Proofs.YtmmfakpphjjjfaaGreat

/- Sizes of the runs of a script. -/
namespace Go.Proofs.YtmmfakpphjjjfaaGreat
open Go.RowKit
open Bm (Ov)
set_option linter.unusedVariables false

structure RIn (k : Nat) (s : Rl.Rs) : Prop where
 big : Big (2100 * k) (40 * k) s.d
 len : (Rl.ops s.l).length ≤ 2100 * k ∧ s.l.length ≤ 2100 * k

end Go.Proofs.YtmmfakpphjjjfaaGreat

/- The law's pair is opened anew. -/
namespace Go.Proofs.YtmmfakpphjjjfaaGreat
open Go.RowKit
set_option linter.unusedVariables false

section
variable {w0 w : World} {r p q x y : Nat} {s : Rl.Rs} {F G : Nat → Prop}

end

end Go.Proofs.YtmmfakpphjjjfaaGreat

/- The law's sorted: what a table of ops tells. -/
namespace Go.Proofs.YtmmfakpphjjjfaaGreat
open Go.RowKit
open Bm (Ov)
set_option linter.unusedVariables false

end Go.Proofs.YtmmfakpphjjjfaaGreat

/- The calls of a script of runs, in memory: small. -/
namespace Go.Proofs.YtmmfakpphjjjfaaGreat
open Go.RowKit
set_option linter.unusedVariables false

structure Ac where
 k : Int
 n : Int
 t : Int
 c : Cw

def acc (a : Ac) : List Value := [.int .i64 a.k, .int .i64 a.n, .int .i64 a.t, .int .i64 a.c.e, .int .i64 a.c.n, a.c.v]

end Go.Proofs.YtmmfakpphjjjfaaGreat
