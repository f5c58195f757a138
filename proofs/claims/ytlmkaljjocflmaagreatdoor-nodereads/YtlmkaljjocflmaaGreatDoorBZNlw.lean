/- Texts. -/
import Derived.Test.YtlmkaljjocflmaaGreatDoorBH7
set_option maxRecDepth 100000
set_option maxHeartbeats 8000000
set_option linter.unusedVariables false
namespace Go.Proofs.YtlmkaljjocflmaaGreatDoor
open Go.RowKit Go.Shelf
attribute [local go_sem] Oper.semAt_some
end Go.Proofs.YtlmkaljjocflmaaGreatDoor
