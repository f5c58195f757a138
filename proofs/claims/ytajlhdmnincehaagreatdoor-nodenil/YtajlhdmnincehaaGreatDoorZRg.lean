/- Texts of one layer, one behind the other. -/
import Derived.Test.YtajlhdmnincehaaGreatDoorH1
import Derived.RangeFuncNested
import Derived.RangeFuncBound
import Derived.RangeFuncCalls
import Derived.RangeFuncLeaves
import Derived.Shelf.RegionOpen
import Derived.WalkKit
import Derived.OwnWalkIn
import Derived.TacticsInMore
import Derived.LoopNIn
import Derived.LoopIn
import Derived.Lib.Walk
/- Range over a function: places, what a round keeps; a body that never panics, round by round. -/
namespace Go.Proofs.YtajlhdmnincehaaGreatDoor
open Go.RowKit Go.Shelf
set_option linter.unusedVariables false

/-- A number's place. -/
abbrev Nx (L : Nat) := { i : Nat // i < L }




/-- What a round keeps. -/
def Kn (S : Nat → Prop) (W W' : World) : Prop := ∀ g, S g → W'.heap[g]? = W.heap[g]?

theorem Kn.trans {S : Nat → Prop} {A B C : World} (h : Kn S A B) (k : Kn S B C) : Kn S A C := fun g hg => (k g hg).trans (h g hg)

theorem kn_b {S : Nat → Prop} {w : World} (h : ∀ g, S g → g < w.heap.size) (W : World) (l : Nat) (o o' : Obj) (hl : w.heap.size ≤ l) (_ : W.heap[l]? = some o) (_ : o.isCells = false) (_ : o.isWalk = false) : Kn S W (W.putObj l o') :=
  fun g hg => World.putObj_heap_other (by have := h g hg; omega)

theorem cell_of_blk {W W' : World} {B : Nat} (h : W'.heap[B]? = W.heap[B]?) (j : Nat) : W'.cell? ⟨B, j, none⟩ = W.cell? ⟨B, j, none⟩ := World.cell?_of_block (show W'.heap[(⟨B, j, none⟩ : Addr).block]? = W.heap[(⟨B, j, none⟩ : Addr).block]? from h)




end Go.Proofs.YtajlhdmnincehaaGreatDoor
