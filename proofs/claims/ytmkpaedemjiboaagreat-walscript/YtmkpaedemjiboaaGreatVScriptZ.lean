/- WalScript: the walk. -/
import Derived.Test.YtmkpaedemjiboaaGreatVScriptW
import Derived.Test.YtmkpaedemjiboaaGreatUo
namespace Go.Proofs.YtmkpaedemjiboaaGreat
open Go.RowKit
set_option linter.unusedVariables false

theorem walScript_walk (vl : Value) (l : List Ac) (w : World) (hq : IsQ w vl l) (hfq : FitQ l) (hlq : l.length * 64 ≤ 140737488351232) :
    Calls Tryz.prog 3 #[vl] w fun e w' => e = .returned (.bool true) ∧ Below w.heap.size w w' :=
  walScript_by (fun w0 r w s p q x y F G h hb hl => psame_any w0 r w s p q x y F G h hb hl) vl l w hq hfq hlq

end Go.Proofs.YtmkpaedemjiboaaGreat
