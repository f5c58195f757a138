/- Texts. -/
import Derived.Test.YtlmkaljjocflmaaGreatDoorBH1
import Derived.RangeFuncNested
import Derived.RangeFuncBound
import Derived.RangeFuncCalls
import Derived.RangeFuncLeaves
import Derived.Shelf.RegionOpen
import Derived.WalkKit
import Derived.OwnWalkIn
import Derived.TacticsInMore
import Derived.LoopNIn
import Derived.LoopIn
import Derived.Lib.Walk
set_option maxRecDepth 100000
set_option maxHeartbeats 8000000
set_option linter.unusedVariables false
namespace Go.Proofs.YtlmkaljjocflmaaGreatDoor
open Go.RowKit Go.Shelf
abbrev Nx (L:Nat):={i:Nat // i<L}
def upn (L:Nat):Nat→List (Nx L)
 |0=>[]
 |k+1=>upn L k++(if h:k<L then [⟨k,h⟩]else [])
theorem uU (L k:Nat)(h:k<L):upn L (k+1)=upn L k++[⟨k,h⟩]:=by rw[upn,dif_pos h]
theorem aiw (L:Nat):∀k,k≤L→(upn L k).length=k
 |0,_=>rfl
 |k+1,h=>by
  rw[uU L k (by omega),List.length_append,aiw L k (by omega)]
  rfl
def Kn (S:Nat→Prop) (W W':World):Prop:=∀g,S g→W'.heap[g]? =W.heap[g]?
theorem Kn.trans {S:Nat→Prop}{A B C:World}(h:Kn S A B)(k:Kn S B C):Kn S A C:=fun g hg=>(k g hg).trans (h g hg)
theorem aw3 {S:Nat→Prop}{w:World}(h:∀g,S g→g<w.heap.size)(W:World)(l:Nat)(o o':Obj)(hl:w.heap.size≤l)(_:W.heap[l]? =some o)(_:o.isCells=false)(_:o.isWalk=false):Kn S W (W.putObj l o'):=
 fun g hg=>World.putObj_heap_other (by have:=h g hg;omega)
theorem iI {W W':World}{B:Nat}(h:W'.heap[B]? =W.heap[B]?)(j:Nat):W'.cell? ⟨B,j,none⟩=W.cell? ⟨B,j,none⟩:=World.cell?_of_block (show W'.heap[(⟨B,j,none⟩:Addr).block]? =W.heap[(⟨B,j,none⟩:Addr).block]? from h)
end Go.Proofs.YtlmkaljjocflmaaGreatDoor
