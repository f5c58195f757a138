/- Texts of one layer, one behind the other. -/
import Derived.Test.YtpifdeoepppadaaGreatDoorH25
set_option maxRecDepth 100000
set_option maxHeartbeats 8000000
namespace Go.Proofs.YtpifdeoepppadaaGreatDoor
open Go.RowKit
set_option linter.unusedVariables false
section
variable {w0 w w5:World} {p q:Nat} {F:Nat→Prop} {s:Rst.St} {n:Nat}
theorem ab0 (h:Lv w0 w p q F s)(hz:Rz n s)(hn:n≤500){e m:Int}{v:Value}{l:List Bm.Ov}(O5:aV 106 w.heap.size w5 v l)(B5:Below w.heap.size w w5)(hf:adH e m l):
  ∃V,w5.alloc (.cells #[.int .i64 e,.int .i64 m,v] 32)=V∧Hid (Calls Tryz.prog 10 #[.pointer (some ⟨p,0,none⟩),.slice (some ⟨w5.heap.size,0,none⟩) 1 1] V fun E w'=>E=.returned (.int .i64 (Rst.add s [⟨e,m,l⟩]).1)∧∃F',Lv w0 w' p q F' (Rst.add s [⟨e,m,l⟩]).2):=by
 obtain⟨V,hV,fE,bn,shV⟩:=ajv (e:=e) (n:=m) O5 B5.size hf
 refine⟨V,hV,hide ?_⟩
 have LV:=(h.below B5).below bn
 refine(vI p _ F V s LV.st (dD hz hn) ⟨hz.2.2,h.n0⟩ _ [⟨e,m,v,l⟩] (fun W hW=>qL (shV.out hW fun g hg=>by have:=h.st.lt g hg;omega)) shV.f (by simp)).mono ?_
 rintro E w' ⟨rfl,k1⟩
 exact⟨rfl,LV.step k1⟩
theorem aoc (h:Lv w0 w p q F s)(hz:Rz n s)(hn:n≤500)(x:Pm.Pg)(hx:dW x):
  Calls Tryz.prog 15 #[.pointer (some ⟨p,0,none⟩),.agg #[.int .i64 x.e,.int .u8 x.r,.int .i64 x.a,.int .u8 x.p,.int .i64 x.f,.int .i64 x.b]] w fun E w'=>E=.returned (.int .i64 (Rst.bQ s x).1)∧∃F',Lv w0 w' p q F' (Rst.bQ s x).2:=by
 refine(aaT p _ F w s h.st (dD hz hn) ⟨hz.2.2,h.n0⟩ x hx).mono ?_
 rintro E w' ⟨rfl,k1⟩
 exact⟨rfl,h.step k1⟩
theorem axw (h:Lv w0 w p q F s)(hz:Rz n s)(hn:n≤500)(u:Int)(hu:In64 u):
  Calls Tryz.prog 12 #[.pointer (some ⟨p,0,none⟩),.int .i64 u] w fun E w'=>E=.returned (.int .i64 (Rst.aR s u).1)∧∃F',Lv w0 w' p q F' (Rst.aR s u).2:=by
 refine(qm p _ F w s h.st (dD hz hn) ⟨hz.2.2,h.n0⟩ u hu).mono ?_
 rintro E w' ⟨rfl,k1⟩
 exact⟨rfl,h.step k1⟩
theorem agD (h:Lv w0 w p q F s)(hz:Rz n s)(hn:n≤500){node:Int}(afw:node=0∨node=1){ps:List Pm.Pg}{ss:List Orp.Se}(hi:Rst.In (fst node) s ps ss):
  Calls Tryz.prog 9 #[.pointer (some ⟨q,0,none⟩),.int .i64 node] w fun E w'=>∃p' F' F2,E=.returned (.tuple #[.pointer (some ⟨p',0,none⟩),.int .i64 0])∧Lv w0 w' p q F' s∧Lv w0 w' p' q F2 s∧Out F w w'∧∀g,F' g∨F2 g→F g∨w.heap.size≤g:=by
 have n0:¬F 0:=fun e=>by have:=(h.new 0 e).2;omega
 obtain⟨⟨F1,G,h1,h2,h3,hm,rfl⟩,hnew,hbel⟩:=h
 refine(zm q F1 w s.d node h1 hm (fun e=>n0 (.inl e)) (hz.1.mono (by omega) (by omega)) afw hi.on (fun m p g r ss SC=>by have e:=(hi.again SC).1;have:=hz.2.1;rw[e];omega)).mono ?_
 rintro E w' ⟨m,pg,g,r,st,SC,F2,⟨k1,k2,k3⟩,hc⟩
 obtain⟨e1,e2,e3,e4,e5,e6⟩:=hi.again SC.out
 subst e1 e2 e3 e4
 rcases hc with⟨c1,_⟩|⟨_,p',G2,rfl,k4,k5⟩
 ·exact absurd e5 c1
 ·rw[e6]at k1 k4
  have hst:(⟨s.d,s.p,s.l,s.r,false⟩:Rst.St)=s:=by rw[←hi.off]
  rw[hst]at k4
  have hb:=hbel.size
  have hp:=hm.pos
  have hm':=gm hm k2 fun e=>n0 (.inl e)
  have aff:=hbel.trans (k2.below (fun g hg=>(hnew g (.inl hg)).1) hb)
  have nF:∀g,F2 g→w0.heap.size≤g∧0<g:=fun g hg=>by
   rcases k3 g hg with e|e
   ·exact hnew g (.inl e)
   ·omega
  refine⟨p',_,_,rfl,⟨⟨F2,G,k1,h2.out k2 h3,fun g hg hF=>?_,hm',rfl⟩,fun g hg=>?_,aff⟩,⟨⟨F2,G2,k1,k4,fun g hg=>(k5 g hg).2,hm',rfl⟩,fun g hg=>?_,aff⟩,k2.mono fun g hg=>.inl (.inl hg),fun g hg=>?_⟩
  ·rcases k3 g hF with e|e
   ·exact h3 g hg e
   ·have:=h2.lt g hg;omega
  ·rcases hg with e|e
   ·exact nF g e
   ·exact hnew g (.inr e)
  ·rcases hg with e|e
   ·exact nF g e
   ·have:=(k5 g e).1;omega
  ·rcases hg with(e|e)|(e|e)
   ·rcases k3 g e with e|e
    ·exact .inl (.inl e)
    ·exact .inr e
   ·exact .inl (.inr e)
   ·rcases k3 g e with e|e
    ·exact .inl (.inl e)
    ·exact .inr e
   ·exact .inr (k5 g e).1
end
end Go.Proofs.YtpifdeoepppadaaGreatDoor
