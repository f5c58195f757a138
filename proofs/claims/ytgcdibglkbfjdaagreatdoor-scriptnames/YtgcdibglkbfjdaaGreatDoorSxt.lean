/- The law's same and sames, at acts that are the same (layer 25). -/
import Derived.Test.YtgcdibglkbfjdaaGreatDoorSxr
import Derived.Test.YtgcdibglkbfjdaaGreatDoorBe
import Derived.BigQuiet
import Derived.Deep.RegionHeld3
import Derived.Deep.QuietTactic
namespace Go.Proofs.YtgcdibglkbfjdaaGreatDoor
open Go.RowKit
set_option linter.unusedVariables false
set_option maxRecDepth 100000

set_option maxHeartbeats 4000000 in
theorem same_yes (a : Sct.Av) (v u : Value) (w : World) (h1 : IsO w v a.ops) (h2 : IsO w u a.ops) (hl : a.ops.length ≤ 140737488355328) : Calls Tryz.prog 8 #[acv a v, acv a u] w fun E w' => E = .returned (.bool true) ∧ Below w.heap.size w w' := by
  obtain ⟨w1, hw1, s1, b1, P1⟩ := blk_step w #[.int .i64 a.k, .int .i64 a.u, .int .i64 a.n, .int .i64 a.t, .string a.key, v] 24
  obtain ⟨w2, hw2, s2, b2, P2⟩ := blk_step w1 #[.int .i64 a.k, .int .i64 a.u, .int .i64 a.n, .int .i64 a.t, .string a.key, u] 24
  replace P1 := (b2.block _ (blk_lt P1)).trans P1
  have b12 := b1.trans (b2.mono b1.size)
  have i1 := h1.below b12
  have i2 := h2.below b12
  obtain ⟨oa, oc, rfl, _, _⟩ := h1.shape
  obtain ⟨pa, pc, rfl, _, _⟩ := h2.shape
  rw [s1] at P2
  have A1 := sx_of P1
  have A2 := sx_of P2
  obtain ⟨a0, a1, a2, a3, a4, a5⟩ := A1
  obtain ⟨c0, c1, c2, c3, c4, c5⟩ := A2
  have B := hide b12
  have SO1 := hide (And.intro i1 i2)
  unfold acv acc
  clear h1 h2 b1 b2 P1 P2 i1 i2 b12
  go_enter Tryz.func8, Tryz.ntmps8
  go_wp2_with fail
  refine (sameO_any _ _ a.ops a.ops w2 SO1.out.1 SO1.out.2 hl hl).mono ?_
  rintro E w3 ⟨rfl, b3⟩
  rw [Bm.sameL_self]
  have BB := hide (B.out.trans (b3.mono B.out.size))
  clear b3
  go_wp2
  go_ret
  exact ⟨rfl, BB.out⟩

end Go.Proofs.YtgcdibglkbfjdaaGreatDoor
