/- Texts of one layer, one behind the other. -/
import Derived.Test.YtpifdeoepppadaaGreatDoorG1
import Derived.Test.YtpifdeoepppadaaGreatDoorG10
import Derived.Test.YtpifdeoepppadaaGreatDoorH10
import Derived.Test.YtpifdeoepppadaaGreatDoorG6
import Derived.Test.YtpifdeoepppadaaGreatDoorG11
set_option maxRecDepth 100000
set_option maxHeartbeats 8000000
namespace Go.Proofs.YtpifdeoepppadaaGreatDoor
end Go.Proofs.YtpifdeoepppadaaGreatDoor
namespace Go.Proofs.YtpifdeoepppadaaGreatDoor
open Go.RowKit
set_option linter.unusedVariables false
def til (o:Bm.Ov):Bm.Ov:=⟨o.p,o.k++⟨#[126]⟩,o.v⟩
structure aBV (m bl base:Nat) (w:World) (vs:Nat→Value) (zs:Nat→List Bm.Ov):Prop where
 cell:∀i,i<m→w.cell? ⟨bl,i,none⟩=some (vs i)
 own:∀i,i<m→aV 106 base w (vs i) (zs i)
 apart:∀i j,i<m→j<m→i≠j→(vs i).ownBlock=none∨(vs i).ownBlock≠(vs j).ownBlock
 table:∀i,i<m→(vs i).ownBlock≠some bl
 lens:∀i,i<m→(zs i).length≤2000
 fit:∀i,i<m→fG (zs i)
def az1 (m:Nat) (vs:Nat→Value) (g:Nat):Prop:=∃i,i<m∧(vs i).ownBlock=some g
structure aBU (m bl base:Nat) (w0 wr:World) (vs us:Nat→Value) (zs:Nat→List Bm.Ov) (k:Nat):Prop where
 cell:∀i,i<m→wr.cell? ⟨bl,i,none⟩=some (vs i)
 was:∀i,i<m→wr.cell? ⟨w0.heap.size,i,none⟩=some (us i)
 new:∀i,i<m→aV 106 (w0.heap.size+1) wr (us i) (zs i)
 done:∀i,i<k→i<m→aV 106 base wr (vs i) ((zs i).map til)
 left:∀i,k≤i→i<m→aV 106 base wr (vs i) (zs i)
 below:Out (az1 m vs) w0 wr
def one (v:Value):List Value:=[v]
theorem ac5 (v:Value):(one v).length=1:=rfl
theorem sM {e e' base size n:Nat}{w w':World}{v:Value}{xs:List Value}(h:w.ownsRow base e size v n xs)(k:bK e' w w')(hne:e≠e'):w'.ownsRow base e size v n xs:=by
 refine⟨h.1,?_⟩
 rcases h.2 with h|⟨g,cap,cur,hv,h1,hh,r⟩
 ·exact .inl h
 ·exact .inr ⟨g,cap,cur,hv,h1,k _ _ _ _ hh hne,r⟩
end Go.Proofs.YtpifdeoepppadaaGreatDoor
