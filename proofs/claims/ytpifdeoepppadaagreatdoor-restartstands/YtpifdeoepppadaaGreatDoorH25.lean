/- Texts of one layer, one behind the other. -/
import Derived.Test.YtpifdeoepppadaaGreatDoorH21
set_option maxRecDepth 100000
set_option maxHeartbeats 8000000
namespace Go.Proofs.YtpifdeoepppadaaGreatDoor
open Go.RowKit
set_option linter.unusedVariables false
section
variable {w0 w w5:World} {p q:Nat} {F:Nat→Prop} {s:Rst.St} {n:Nat}
theorem aiG (h:Lv w0 w p q F s){f:FuncId}{args:Array Value}{x:Value}{d':Dm.Ds}(hc:∀F1,Pk q F1 w s.d→Calls Tryz.prog f args w fun E w'=>E=.returned x∧aP q F1 w w' d'):
  Calls Tryz.prog f args w fun E w'=>E=.returned x∧∃F',Lv w0 w' p q F' ⟨d',s.p,s.l,s.r,s.off⟩:=by
 obtain⟨F1,k1,k2,k3⟩:=h.st.disk fun e=>by have:=(h.new 0 e).2;omega
 refine(hc F1 k1).mono ?_
 rintro E w' ⟨rfl,k⟩
 exact⟨rfl,h.step (k3 w' d' k)⟩
end
end Go.Proofs.YtpifdeoepppadaaGreatDoor
