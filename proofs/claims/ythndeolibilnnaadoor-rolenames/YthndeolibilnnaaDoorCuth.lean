/- Front parts of a row of integers. -/
import Derived.Test.YthndeolibilnnaaDoorCut
import Derived.Test.YthndeolibilnnaaDoorBytes
namespace Go.Proofs.YthndeolibilnnaaDoor
open Go.RowKit
set_option linter.unusedVariables false

section
variable {P : Program} {w : World} {v : Value}

/-- 'v[:p]'. -/
theorem Is.slice_h {k : IntKind} {zs : List Int} (h : Is k w v zs) {t : TypeId} (ht : P.underlying t = some (.slice (P.elem t))) (hs : ∀ wx, (sizeOf (P.elem t)).run P wx = .ok 1 wx) (p : Nat) (hp : p ≤ zs.length) :
    ∃ vs, (∀ wx, (Instr.slice t v none (some (.int .i64 p)) none).run P wx = .ok vs wx) ∧ Is k w vs (zs.take p) := by
  obtain ⟨vs, h1, h2⟩ := h.slice_lh ht hs 0 p (by omega) hp
  rw [List.drop_zero, Nat.sub_zero] at h2
  refine ⟨vs, fun wx => ?_, h2⟩
  obtain ⟨ao, cap, rfl, hcap, _⟩ := h.shape
  rw [← h1 wx, run_slice_lh wx t ao zs.length cap ht .i64 .i64 _ _ (by omega) (by omega) (by omega), run_slice_h wx t ao zs.length cap ht .i64 _ (by omega) (by omega)]
  simp

end

end Go.Proofs.YthndeolibilnnaaDoor
