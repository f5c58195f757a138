/- Texts. -/
import Derived.Test.YtlmkaljjocflmaaGreatDoorCards
import Derived.Test.YtlmkaljjocflmaaGreatDoorTie
import Derived.Deep.DeepHandedRow
import Derived.Lib.LaidTab
import Derived.Shelf.LaysM
import Derived.Test.YtlmkaljjocflmaaGreatDoorRows
import Derived.ProofKit
import Derived.JoinedCond
set_option maxRecDepth 100000
set_option maxHeartbeats 8000000
set_option linter.unusedVariables false
namespace Go.Proofs.YtlmkaljjocflmaaGreatDoor
open Go.ChangeShapes Go.WideShapes Go.ChangeAt Go.RowKit
open Go.ChangeMaps (open_string shut_string)
namespace nodeReadsFrame
theorem bj {a b:Bool}(h:a=true)(k:b=true):(a&&b)=true:=by rw[h,k];rfl
theorem closed:joinedFacts Tryz.pinned.checked.prog 6 Tryz.f6 (OpenSpec.ofChange Rows.nodeReadsSpec).bare Rows.nodeReadsRow=true:=by
 unfold joinedFacts
 repeat' refine bj ?_ ?_
 all_goals (as_aux_lemma=>kernel_rfl)
end nodeReadsFrame
end Go.Proofs.YtlmkaljjocflmaaGreatDoor
