/- A page's box and the block of a result. -/
import Derived.Test.YthndeolibilnnaaDoorQna
import Derived.Test.YthndeolibilnnaaDoorQb
namespace Go.Proofs.YthndeolibilnnaaDoor
open Go.RowKit
set_option linter.unusedVariables false

/-- A page's box and the block of a result, kept by what comes behind. -/
theorem role_open (x : Pm.Pg) (w : World) : ∃ w1 w2, w.alloc (.cells #[.int .i64 x.e, .int .u8 x.r, .int .i64 x.a, .int .u8 x.p, .int .i64 x.f, .int .i64 x.b] 25) = w1 ∧ w1.alloc (.cells #[.int .i64 0, .int .u8 0, .int .i64 0, .int .u8 0, .int .i64 0, .int .i64 0] 25) = w2 ∧ w1.heap.size = w.heap.size + 1 ∧ w2.heap.size = w.heap.size + 2 ∧ Below w.heap.size w w2 ∧ Six w2 w.heap.size (.int .i64 x.e) (.int .u8 x.r) (.int .i64 x.a) (.int .u8 x.p) (.int .i64 x.f) (.int .i64 x.b) ∧ Hid (∀ W, Below w2.heap.size w2 W → W.heap[w.heap.size]? = some (.cells #[.int .i64 x.e, .int .u8 x.r, .int .i64 x.a, .int .u8 x.p, .int .i64 x.f, .int .i64 x.b] 25 (0, 0)) ∧ W.heap[w.heap.size + 1]? = some (.cells #[.int .i64 0, .int .u8 0, .int .i64 0, .int .u8 0, .int .i64 0, .int .i64 0] 25 (0, 0)) ∧ Below w.heap.size w W ∧ w.heap.size + 2 ≤ W.heap.size) := by
  obtain ⟨w1, h1, s1, b1, p1⟩ := blk_step w #[.int .i64 x.e, .int .u8 x.r, .int .i64 x.a, .int .u8 x.p, .int .i64 x.f, .int .i64 x.b] 25
  obtain ⟨w2, h2, s2, b2, p2⟩ := blk_step w1 #[.int .i64 0, .int .u8 0, .int .i64 0, .int .u8 0, .int .i64 0, .int .i64 0] 25
  have q1 := (b2.block w.heap.size (by omega)).trans p1
  rw [s1] at p2
  refine ⟨w1, w2, h1, h2, s1, by omega, b1.trans (b2.mono (by omega)), six_of q1, hide fun W hW => ⟨?_, ?_, (b1.trans (b2.mono (by omega))).trans (hW.mono (by omega)), by have := hW.size; omega⟩⟩
  · exact (hW.block w.heap.size (by omega)).trans q1
  · exact (hW.block (w.heap.size + 1) (by omega)).trans p2

theorem grown_other {V V' : World} {g h : Nat} (hg : V.grownBy V' (some g)) (hne : h ≠ g ∧ h < V.heap.size) : V'.heap[h]? = V.heap[h]? := hg.block h hne.2 (by simp; exact hne.1)

end Go.Proofs.YthndeolibilnnaaDoor
