/- LeashNames: the walk. -/
import Derived.Test.YtedljaokkpmhcaaZa
import Derived.Test.YtedljaokkpmhcaaBlk
namespace Go.Proofs.Ytedljaokkpmhcaa
open Go.RowKit
set_option linter.unusedVariables false

set_option maxRecDepth 100000 in
set_option maxHeartbeats 4000000 in
theorem leashNames_walk (w : World) :
    Calls Try.prog 3 #[] w fun E w' => E = .returned (.bool true) ∧ Below w.heap.size w w' := by
  have f0 : Lea.oE 5 7 = 2 := by decide
  have f1 : Lea.oV 5 7 = 0 := by decide
  have f2 : Lea.kV 8 5 7 = 7 := by decide
  have f3 : Lea.kV 8 5 4 = 5 := by decide
  have f4 : Lea.kV 8 5 20 = 8 := by decide
  have f5 : Lea.kV 8 5 (-1) = 5 := by decide
  have f6 : Lea.oE 8 5 = 0 := by decide
  have f7 : Lea.rV 8 5 3 = 0 := by decide
  have f8 : Lea.rE 8 5 3 = 0 := by decide
  have f9 : Lea.rV 8 8 3 = 3 := by decide
  have f10 : Lea.rE 8 8 3 = 0 := by decide
  have f11 : Lea.ad 0 0 17 = 2 := by decide
  have f12 : Lea.ad 1048576 1048576 1 = 2 := by decide
  have f13 : Lea.ad 1048576 0 1 = 8 := by decide
  obtain ⟨w1, hw1, sz1, bel1, hA⟩ := blk_step w #[.int .i64 7, .int .i64 4, .int .i64 20, .int .i64 (-1)] 3
  obtain ⟨w2, hw2, sz2, bel2, hB⟩ := blk_step w1 #[.int .i64 7, .int .i64 5, .int .i64 8, .int .i64 5] 3
  replace hA : w2.heap[w.heap.size]? = some (.cells #[.int .i64 7, .int .i64 4, .int .i64 20, .int .i64 (-1)] 3 (0, 0)) := by rw [← hA]; exact bel2.block w.heap.size (by omega)
  have bel : Below w.heap.size w w2 := bel1.trans (bel2.mono (by omega))
  have a0 := blk_cell hA 0 rfl
  have b0 := blk_cell hB 0 rfl
  have a1 := blk_cell hA 1 rfl
  have b1 := blk_cell hB 1 rfl
  have a2 := blk_cell hA 2 rfl
  have b2 := blk_cell hB 2 rfl
  have a3 := blk_cell hA 3 rfl
  have b3 := blk_cell hB 3 rfl
  clear hA hB sz1 sz2 bel1 bel2
  go_enter Try.func3, Try.ntmps3
  go_wp2_with fail
  refine (lout_any 5 7 w).mono ?_
  rintro E w2 ⟨rfl, rfl⟩
  rw [f1, f0]
  go_wp2
  go_loopw [6] (fun kv wr => ∃ k : Nat, kv = .int .i64 k ∧ k ≤ 4 ∧ wr = w2) (fun kv _ => 4 - (intOf kv).toNat)
  case atStart => exact ⟨0, rfl, by omega, rfl⟩
  case round =>
    obtain ⟨k, rfl, hk, rfl⟩ := hrel
    rcases (by omega : k = 0 ∨ k = 1 ∨ k = 2 ∨ k = 3 ∨ k = 4) with rfl | rfl | rfl | rfl | rfl
    · go_wp2_with fail
      refine (lacked_any 8 5 7 wr).mono ?_
      rintro E w4 ⟨rfl, rfl⟩
      rw [f2, f6]
      go_wp2
      go_roundw
      case rel => exact ⟨1, rfl, by omega, by trivial⟩
      case measure => simp [intOf]
    · go_wp2_with fail
      refine (lacked_any 8 5 4 wr).mono ?_
      rintro E w4 ⟨rfl, rfl⟩
      rw [f3, f6]
      go_wp2
      go_roundw
      case rel => exact ⟨2, rfl, by omega, by trivial⟩
      case measure => simp [intOf]
    · go_wp2_with fail
      refine (lacked_any 8 5 20 wr).mono ?_
      rintro E w4 ⟨rfl, rfl⟩
      rw [f4, f6]
      go_wp2
      go_roundw
      case rel => exact ⟨3, rfl, by omega, by trivial⟩
      case measure => simp [intOf]
    · go_wp2_with fail
      refine (lacked_any 8 5 (-1) wr).mono ?_
      rintro E w4 ⟨rfl, rfl⟩
      rw [f5, f6]
      go_wp2
      go_roundw
      case rel => exact ⟨4, rfl, by omega, by trivial⟩
      case measure => simp [intOf]
    · go_wp2_with fail
      refine (lroom_any 8 5 3 wr).mono ?_
      rintro E w2 ⟨rfl, rfl⟩
      rw [f7, f8]
      go_wp2_with fail
      refine (lroom_any 8 8 3 wr).mono ?_
      rintro E w2 ⟨rfl, rfl⟩
      rw [f9, f10]
      go_wp2_with fail
      refine (llives_any wr).mono ?_
      rintro E w2 ⟨rfl, rfl⟩
      go_wp2_with fail
      refine (ladmit_any 0 0 17 wr).mono ?_
      rintro E w2 ⟨rfl, rfl⟩
      rw [f11]
      go_wp2_with fail
      refine (ladmit_any 1048576 1048576 1 wr).mono ?_
      rintro E w2 ⟨rfl, rfl⟩
      rw [f12]
      go_wp2_with fail
      refine (ladmit_any 1048576 0 1 wr).mono ?_
      rintro E w2 ⟨rfl, rfl⟩
      rw [f13]
      go_wp2
      go_ret
      exact ⟨rfl, bel⟩

end Go.Proofs.Ytedljaokkpmhcaa
