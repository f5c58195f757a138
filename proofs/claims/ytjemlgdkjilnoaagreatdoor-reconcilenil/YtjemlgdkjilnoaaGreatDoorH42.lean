/- Texts of one layer, one behind the other. -/
import Derived.Test.YtjemlgdkjilnoaaGreatDoorH35
import Derived.Test.YtjemlgdkjilnoaaGreatDoorH41
import Derived.Test.YtjemlgdkjilnoaaGreatDoorH5
set_option maxRecDepth 100000
set_option maxHeartbeats 8000000
namespace Go.Proofs.YtjemlgdkjilnoaaGreatDoor
open Go.RowKit Go.ChangeShapes Go.WideShapes Go.Deep
set_option linter.unusedVariables false
theorem asZ {z:Int}(h:(Lit.int .u8 z).wf=true):0≤z∧z<256:=by
 have:=range_u8 (zs:=[z]) (by simpa using h) 0
 simp at this
 omega
section
variable {H:Type} {enc:TypeId×Value→H} {P:Program} {w:World} {base:Nat} {spare:Nat→Bool} {held:Bool}
theorem af3 {t:TypeId}{f0 f1 f2 f3 f4 f5 f6 f7:Field}{fuel:Nat}{cs:List Value}{x:DataW H×List MemPlace}(ht:P.underlying t=some (.struct #[f0,f1,f2,f3,f4,f5,f6,f7]))(h:DataW.trod enc P w base spare held fuel t cs=some x):
  ∃y0 y1 y2 y3 y4 y5 y6 y7 n,x.1=.agg [y0.1,y1.1,y2.1,y3.1,y4.1,y5.1,y6.1,y7.1]∧DataW.trod enc P w base spare held n f0.type ((cs.drop f0.offset).take (P.cellsOf f0.type))=some y0∧
   DataW.trod enc P w base spare held n f1.type ((cs.drop f1.offset).take (P.cellsOf f1.type))=some y1∧DataW.trod enc P w base spare held n f2.type ((cs.drop f2.offset).take (P.cellsOf f2.type))=some y2∧
   DataW.trod enc P w base spare held n f3.type ((cs.drop f3.offset).take (P.cellsOf f3.type))=some y3∧DataW.trod enc P w base spare held n f4.type ((cs.drop f4.offset).take (P.cellsOf f4.type))=some y4∧
   DataW.trod enc P w base spare held n f5.type ((cs.drop f5.offset).take (P.cellsOf f5.type))=some y5∧DataW.trod enc P w base spare held n f6.type ((cs.drop f6.offset).take (P.cellsOf f6.type))=some y6∧
   DataW.trod enc P w base spare held n f7.type ((cs.drop f7.offset).take (P.cellsOf f7.type))=some y7:=by
 obtain⟨xs,n,_,rfl,hl,hlen,hf⟩:=DataW.trod_struct ht h
 match xs,hlen with
 |[y0,y1,y2,y3,y4,y5,y6,y7],_=>exact⟨y0,y1,y2,y3,y4,y5,y6,y7,n,rfl,by simpa using hf 0 f0 rfl,by simpa using hf 1 f1 rfl,by simpa using hf 2 f2 rfl,by simpa using hf 3 f3 rfl,by simpa using hf 4 f4 rfl,by simpa using hf 5 f5 rfl,by simpa using hf 6 f6 rfl,by simpa using hf 7 f7 rfl⟩
theorem arD {t e:TypeId}{d:DataW H}{r:List Sm.S}(h:∀n∈d.weights P t,n≤reachBytes)(hd:(d=.nil∧r=[])∨∃ds sp,d=.slice ds sp∧ds.length=r.length)(hu:P.underlying t=some (.slice e))(hb:P.bytesOf e=16):r.length*16≤140737488351232:=by
 rcases hd with⟨_,rfl⟩|⟨ds,sp,rfl,hl⟩
 ·simp
 ·have:=h ((ds.length+sp.length)*P.bytesOf e) (by simp[DataW.weights,hu])
  rw[hb]at this
  simp only[reachBytes]at this
  omega
theorem apw {t e o:TypeId}{f0 f1 f2 g0 g1 g2:Field}{d:DataW H}{r:List Cw}(h:∀n∈d.weights P t,n≤reachBytes)(hd:(d=.nil∧r=[])∨∃ds sp,d=.slice ds sp∧ds.length=r.length∧∀(i:Nat) (c:Cw),r[i]? =some c→∃d,ds[i]? =some d∧anK d c)
  (hu:P.underlying t=some (.slice e)) (he:P.underlying e=some (.struct #[f0,f1,f2])) (hb:P.bytesOf e=40) (h2:P.underlying f2.type=some (.slice o)) (ho:P.underlying o=some (.struct #[g0,g1,g2])) (hbo:P.bytesOf o=40):dV r∧r.length*40≤140737488351232:=by
 rcases hd with⟨_,rfl⟩|⟨es,sp,rfl,hlen,hr⟩
 ·exact⟨fun c hc=>by simp at hc,by simp⟩
 refine⟨fun c hc=>?_,?_⟩
 ·obtain⟨i,hi⟩:=List.getElem?_of_mem hc
  obtain⟨d,hd1,x0,x1,d2,rfl,hd2⟩:=hr i c hi
  refine arA (fun n hn=>?_) hd2 h2 ho hbo
  exact h n (by
   simp only[DataW.weights,hu]
   exact List.mem_cons_of_mem _ (List.mem_append_left _ (rP (List.mem_of_getElem? hd1) (agv he hn))))
 ·have:=h ((es.length+sp.length)*P.bytesOf e) (by simp[DataW.weights,hu])
  rw[hb]at this
  simp only[reachBytes]at this
  omega
theorem aen {r:Reach}{b0:Nat}{t eS eC o:TypeId}{f0 f1 f2 f3 f4 f5 f6 f7 s0 s1 g0 g1 g2 p0 p1 p2:Field}{v:Value}{d:DataW H}{p:List MemPlace}(hs:P.underlying t=some (.struct #[f0,f1,f2,f3,f4,f5,f6,f7]))(hone:oneCellFields P #[f0,f1,f2,f3,f4,f5,f6,f7]=true)(hC:P.cellsOf t=8)
  (u0:P.underlying f0.type=some (.int .i64)) (u1:P.underlying f1.type=some (.int .i64)) (u2:P.underlying f2.type=some (.int .u8)) (u3:P.underlying f3.type=some (.int .i64)) (u4:P.underlying f4.type=some (.slice eS)) (u5:P.underlying f5.type=some (.int .i64)) (u6:P.underlying f6.type=some (.int .i64)) (u7:P.underlying f7.type=some (.slice eC))
  (hS:P.underlying eS=some (.struct #[s0,s1])) (aw4:oneCellFields P #[s0,s1]=true) (cS:P.cellsOf eS=2) (bS:P.bytesOf eS=16) (us0:P.underlying s0.type=some (.int .i64)) (us1:P.underlying s1.type=some (.int .i64))
  (hE:P.underlying eC=some (.struct #[g0,g1,g2])) (awJ:oneCellFields P #[g0,g1,g2]=true) (cC:P.cellsOf eC=3) (bC:P.bytesOf eC=40) (ug0:P.underlying g0.type=some (.int .i64)) (ug1:P.underlying g1.type=some (.int .i64)) (ug2:P.underlying g2.type=some (.slice o))
  (hO:P.underlying o=some (.struct #[p0,p1,p2])) (awG:oneCellFields P #[p0,p1,p2]=true) (cO:P.cellsOf o=3) (bO:P.bytesOf o=40) (up0:P.underlying p0.type=some .bool) (up1:P.underlying p1.type=some .string) (up2:P.underlying p2.type=some .string)
  (hv:Value.okWide P w r b0 t v) (h:DataW.Trod enc P w base spare held t v d p) (hw:∀n∈d.weights P t,n≤reachBytes):∃m:Mw,v=mv m∧gQ w m∧dC m:=by
 obtain⟨cs,rfl,hsz⟩:=okWide_struct hs hv
 obtain⟨c0,c1,c2,c3,c4,c5,c6,c7,rfl⟩:∃c0 c1 c2 c3 c4 c5 c6 c7,cs=#[c0,c1,c2,c3,c4,c5,c6,c7]:=by
  have hsz':=hsz.trans hC
  obtain⟨l⟩:=cs
  match l,hsz' with
  |[c0,c1,c2,c3,c4,c5,c6,c7],_=>exact⟨c0,c1,c2,c3,c4,c5,c6,c7,rfl⟩
 obtain⟨fuel,hf⟩:=h
 obtain⟨y0,y1,y2,y3,y4,y5,y6,y7,n,hx,h0,h1,h2,h3,h4,h5,h6,h7⟩:=af3 hs hf
 obtain⟨o0,k0⟩:=hone_of hone 0 f0 rfl
 obtain⟨o1,k1⟩:=hone_of hone 1 f1 rfl
 obtain⟨o2,k2⟩:=hone_of hone 2 f2 rfl
 obtain⟨o3,k3⟩:=hone_of hone 3 f3 rfl
 obtain⟨o4,k4⟩:=hone_of hone 4 f4 rfl
 obtain⟨o5,k5⟩:=hone_of hone 5 f5 rfl
 obtain⟨o6,k6⟩:=hone_of hone 6 f6 rfl
 obtain⟨o7,k7⟩:=hone_of hone 7 f7 rfl
 simp[Value.cells,o0,o1,o2,o3,o4,o5,o6,o7,k0,k1,k2,k3,k4,k5,k6,k7]at h0 h1 h2 h3 h4 h5 h6 h7
 obtain⟨q0,e0,_,w0⟩:=DataW.trod_int u0 h0
 obtain⟨q1,e1,_,w1⟩:=DataW.trod_int u1 h1
 obtain⟨q2,e2,_,w2⟩:=DataW.trod_int u2 h2
 obtain⟨q3,e3,_,w3⟩:=DataW.trod_int u3 h3
 obtain⟨ss,hss,hsd⟩:=aoV u4 hS aw4 cS us0 us1 h4
 obtain⟨q5,e5,_,w5⟩:=DataW.trod_int u5 h5
 obtain⟨q6,e6,_,w6⟩:=DataW.trod_int u6 h6
 obtain⟨cc,hcc,hcd⟩:=ajU u7 hE awJ cC ug0 ug1 ug2 hO awG cO up0 up1 up2 h7
 simp at e0 e1 e2 e3 e5 e6
 subst e0 e1 e2 e3 e5 e6
 simp only at hx
 have hw4:∀n∈y4.1.weights P f4.type,n≤reachBytes:=fun n hn=>hw n (by
  rw[hx]
  simp only[DataW.weights,hs]
  simp[DataW.weightsEach,hn])
 have hw7:∀n∈y7.1.weights P f7.type,n≤reachBytes:=fun n hn=>hw n (by
  rw[hx]
  simp only[DataW.weights,hs]
  simp[DataW.weightsEach,hn])
 have l4:=arD hw4 hsd u4 bS
 obtain⟨f7',l7⟩:=apw hw7 hcd u7 hE bC ug2 hO bO
 have g2:=asZ w2
 exact⟨⟨q0,q1,q2,q3,c4,ss,q5,q6,c7,cc⟩,rfl,⟨hss,hcc⟩,zM w0,zM w1,g2.1,g2.2,zM w3,zM w5,zM w6,by show ss.length≤_;omega,f7',by show cc.length≤_;omega⟩
end
end Go.Proofs.YtjemlgdkjilnoaaGreatDoor
