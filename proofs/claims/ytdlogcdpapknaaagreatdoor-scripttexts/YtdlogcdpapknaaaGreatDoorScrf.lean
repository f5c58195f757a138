/- The document's Check of any act (layer 25). -/
import Derived.Test.YtdlogcdpapknaaaGreatDoorScre
namespace Go.Proofs.YtdlogcdpapknaaaGreatDoor
open Go.RowKit
set_option linter.unusedVariables false
set_option maxRecDepth 100000

set_option maxHeartbeats 4000000 in
theorem chkR25_any (a : Sct.Av) (v : Value) (w : World) (h : IsO w v a.ops) (hf : FitO a.ops) (hl : a.ops.length ≤ 140737488355328) (hz : a.key.size ≤ 140737488351232) : Calls Tryz.prog 16 #[acv a v] w (ChR a w) := by
  have hc : (a.k < 1) ∨ (¬ a.k < 1 ∧ 12 < a.k) ∨ (¬ a.k < 1 ∧ ¬ 12 < a.k ∧ a.u < 0) ∨ (¬ a.k < 1 ∧ ¬ 12 < a.k ∧ ¬ a.u < 0 ∧ 1 < a.u) ∨ (¬ a.k < 1 ∧ ¬ 12 < a.k ∧ ¬ a.u < 0 ∧ ¬ 1 < a.u ∧ a.n < 0) ∨ (¬ a.k < 1 ∧ ¬ 12 < a.k ∧ ¬ a.u < 0 ∧ ¬ 1 < a.u ∧ ¬ a.n < 0 ∧ 999999999 < a.n) ∨ (¬ a.k < 1 ∧ ¬ 12 < a.k ∧ ¬ a.u < 0 ∧ ¬ 1 < a.u ∧ ¬ a.n < 0 ∧ ¬ 999999999 < a.n ∧ a.t < 0) ∨ (¬ a.k < 1 ∧ ¬ 12 < a.k ∧ ¬ a.u < 0 ∧ ¬ 1 < a.u ∧ ¬ a.n < 0 ∧ ¬ 999999999 < a.n ∧ ¬ a.t < 0 ∧ 999999999 < a.t) ∨ (¬ a.k < 1 ∧ ¬ 12 < a.k ∧ ¬ a.u < 0 ∧ ¬ 1 < a.u ∧ ¬ a.n < 0 ∧ ¬ 999999999 < a.n ∧ ¬ a.t < 0 ∧ ¬ 999999999 < a.t) := by omega
  rcases hc with g0 | ⟨g0, g1⟩ | ⟨g0, g1, g2⟩ | ⟨g0, g1, g2, g3⟩ | ⟨g0, g1, g2, g3, g4⟩ | ⟨g0, g1, g2, g3, g4, g5⟩ | ⟨g0, g1, g2, g3, g4, g5, g6⟩ | ⟨g0, g1, g2, g3, g4, g5, g6, g7⟩ | ⟨g0, g1, g2, g3, g4, g5, g6, g7⟩
  case inr.inr.inr.inr.inr.inr.inr.inr =>
    have u : 0 ≤ a.u ∧ a.u ≤ 1 := by omega
    have n : 0 ≤ a.n ∧ a.n ≤ 999999999 := by omega
    have t : 0 ≤ a.t ∧ a.t ≤ 999999999 := by omega
    obtain k | k | k | k | k | k | k | k | k | k | k | k : a.k = 1 ∨ a.k = 2 ∨ a.k = 3 ∨ a.k = 4 ∨ a.k = 5 ∨ a.k = 6 ∨ a.k = 7 ∨ a.k = 8 ∨ a.k = 9 ∨ a.k = 10 ∨ a.k = 11 ∨ a.k = 12 := by omega
    · exact chk25_1 a v w h hf hl k u n t hz
    · exact chk25_2 a v w h hf hl k u n t hz
    · exact chk25_3 a v w h hf hl k u n t hz
    · exact chk25_4 a v w h hf hl k u n t hz
    · exact chk25_5 a v w h hf hl k u n t hz
    · exact chk25_6 a v w h hf hl k u n t hz
    · exact chk25_7 a v w h hf hl k u n t hz
    · exact chk25_8 a v w h hf hl k u n t hz
    · exact chk25_9 a v w h hf hl k u n t hz
    · exact chk25_10 a v w h hf hl k u n t hz
    · exact chk25_11 a v w h hf hl k u n t hz
    · exact chk25_12 a v w h hf hl k u n t hz
  all_goals
    have R : Hid (∀ W, Below w.heap.size w W → ChR a w (.returned (.int .i64 2)) W) := hide fun W b => ⟨.inr ⟨fun o => by have := o.k; have := o.u; have := o.n; have := o.t; omega, rfl⟩, b⟩
    unfold acv acc
    obtain ⟨w1, hw1, s1, b1, P1⟩ := blk_step w #[.int .i64 a.k, .int .i64 a.u, .int .i64 a.n, .int .i64 a.t, .string a.key, v] 24
    have c0 := blk_cell P1 0 rfl; have c1 := blk_cell P1 1 rfl; have c2 := blk_cell P1 2 rfl; have c3 := blk_cell P1 3 rfl; have c4 := blk_cell P1 4 rfl; have c5 := blk_cell P1 5 rfl
    obtain ⟨ao, cap, hv, _, _⟩ := h.shape
    have B1 := hide b1
    rw [hv] at c5 hw1
    rw [hv]
    clear h hf hl hz hv P1 b1 s1
    go_enter Tryz.func16, Tryz.ntmps16
    go_wp2
    go_ret
    exact R.out _ B1.out

end Go.Proofs.YtdlogcdpapknaaaGreatDoor
