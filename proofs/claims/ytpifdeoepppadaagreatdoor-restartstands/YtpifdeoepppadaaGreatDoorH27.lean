/- Texts of one layer, one behind the other. -/
import Derived.Test.YtpifdeoepppadaaGreatDoorG24
set_option maxRecDepth 100000
set_option maxHeartbeats 8000000
namespace Go.Proofs.YtpifdeoepppadaaGreatDoor
open Go.RowKit
set_option linter.unusedVariables false
theorem iI {P:Program}{ops:Array Oper}{Q:Exit→Act→World→Prop}{S:World→Prop}{L L':Array Bool}{i n:Nat}{a:Act}{w:World}{oi:Oper}{t:Tmp}(st:Region.free .any ops L i=true∧(Region.ready .any ops L).contains i=true∧L.setIfInBounds i true=L')(hs:Region.noSelect ops=true)(hQ:∀c a t v w,Q (.panic c) (Act.put a (some t) v) w→Q (.panic c) a w)(hS:S w)(hi:(ops.toList.drop i).head? =some oi)(ht:oi.dst=some t)(hw:Region.wanted oi (yielded ops a.tmps)=false)(h:wpAnyH P .any ops Q S n L' (Act.put a (some t) undef) w):wpAnyH P .any ops Q S (n+1) L a w:=
 wpAnyH_take (zT hi) hs st.1 st.2.1 (by rw[ht];exact fun c a w=>hQ c a _ _ w) (.inr ⟨hw,rfl⟩) hS (by rw[st.2.2,ht];exact h)
end Go.Proofs.YtpifdeoepppadaaGreatDoor
