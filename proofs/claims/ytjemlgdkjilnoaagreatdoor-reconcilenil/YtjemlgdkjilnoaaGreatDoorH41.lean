/- Texts of one layer, one behind the other. -/
import Derived.SizedLaws
import Derived.Lib.SmallJoins
import Derived.Deep.Slices
import Derived.Test.YtjemlgdkjilnoaaGreatDoorH1
import Derived.Test.YtjemlgdkjilnoaaGreatDoorH2
set_option maxRecDepth 100000
set_option maxHeartbeats 8000000
namespace Go.Proofs.YtjemlgdkjilnoaaGreatDoor
open Go.RowKit Go.ChangeShapes Go.WideShapes Go.Deep
set_option linter.unusedVariables false
def opd {H:Type} (o:Bm.Ov):DataW H:=.agg [.lit (.bool o.p),.lit (.string o.k.data.toList),.lit (.string o.v.data.toList)]
theorem abf:∀(l:List Bm.Ov) (j:Nat) (u:Value),(ocells l)[j]? =some u→∃i o,l[i]? =some o∧((j=i*3∧u=.bool o.p)∨(j=i*3+1∧u=.string o.k)∨(j=i*3+2∧u=.string o.v))
 |[],j,u,h=>by simp[ocells]at h
 |o::r,0,u,h=>⟨0,o,rfl,.inl ⟨rfl,by simpa[ocells,pR]using h.symm⟩⟩
 |o::r,1,u,h=>⟨0,o,rfl,.inr (.inl ⟨rfl,by simpa[ocells,pR]using h.symm⟩)⟩
 |o::r,2,u,h=>⟨0,o,rfl,.inr (.inr ⟨rfl,by simpa[ocells,pR]using h.symm⟩)⟩
 |o::r,j+3,u,h=>by
  have h':(ocells r)[j]? =some u:=by simpa[ocells,pR]using h
  obtain⟨i,q,hq,hc⟩:=abf r j u h'
  refine⟨i+1,q,by simpa using hq,?_⟩
  rcases hc with⟨rfl,hu⟩|⟨rfl,hu⟩|⟨rfl,hu⟩
  ·exact .inl ⟨by omega,hu⟩
  ·exact .inr (.inl ⟨by omega,hu⟩)
  ·exact .inr (.inr ⟨by omega,hu⟩)
section
variable {H:Type} {enc:TypeId×Value→H} {P:Program} {w:World} {base:Nat} {spare:Nat→Bool} {held:Bool}
theorem amX {t e:TypeId}{f0 f1 f2:Field}{fuel:Nat}{v:Value}{x:DataW H×List MemPlace}(ht:P.underlying t=some (.slice e))(he:P.underlying e=some (.struct #[f0,f1,f2]))
  (hone:oneCellFields P #[f0,f1,f2]=true) (ce:P.cellsOf e=3) (u0:P.underlying f0.type=some .bool) (u1:P.underlying f1.type=some .string) (u2:P.underlying f2.type=some .string)
  (h:DataW.trod enc P w base spare held fuel t [v]=some x):∃l:List Bm.Ov,df w v l∧((x.1=.nil∧l=[])∨∃sp,x.1=.slice (l.map opd) sp):=by
 rcases open_slice ht h with⟨hv,hx⟩|⟨a,len,cap,m,n,D,Pl,hv,hb,hl,hm,hmm,rfl,hx⟩
 ·simp at hv
  subst hv hx
  exact⟨[],df.nil _,.inl ⟨rfl,rfl⟩⟩
 ·simp at hv
  subst hv
  have hlm:len≤m:=by rw[hmm];split<;>omega
  obtain⟨o0,c0⟩:=hone_of hone 0 f0 rfl
  obtain⟨o1,c1⟩:=hone_of hone 1 f1 rfl
  obtain⟨o2,c2⟩:=hone_of hone 2 f2 rfl
  have each:∀i,i<len→∃o:Bm.Ov,w.cell? (a.add (i*3))=some (.bool o.p)∧w.cell? (a.add (i*3+1))=some (.string o.k)∧w.cell? (a.add (i*3+2))=some (.string o.v)∧D i=opd o:=by
   intro i hi
   obtain⟨cs',h1,h2⟩:=hx i (by omega)
   rw[ce]at h1
   obtain⟨_,hlen,hcell⟩:=World.cells?_some h1
   obtain⟨y0,y1,y2,k,hxy,_,g0,g1,g2⟩:=trod_struct3 he h2
   match cs',hlen with
   |[v0,v1,v2],_=>
    simp[o0,o1,o2,c0,c1,c2]at g0 g1 g2
    obtain⟨p,hp,rfl⟩:=DataW.trod_bool u0 g0
    obtain⟨s,hs,rfl,_⟩:=DataW.trod_string u1 g1
    obtain⟨r,hr,rfl,_⟩:=DataW.trod_string u2 g2
    simp at hp hs hr
    subst hp hs hr
    have e0:=hcell 0 (by omega)
    have e1:=hcell 1 (by omega)
    have e2:=hcell 2 (by omega)
    rw[Go.Deep.add_add]at e0 e1 e2
    simp only[Prod.mk.injEq]at hxy
    exact⟨⟨p,s,r⟩,by simpa using e0,by simpa using e1,by simpa using e2,hxy.1⟩
  have:Inhabited Bm.Ov:=⟨⟨false,⟨#[]⟩,⟨#[]⟩⟩⟩
  obtain⟨f,hf⟩:=choose_lt each
  refine⟨(List.range len).map f,.inr ⟨a,cap,by simp,by simpa using hl,hm,fun j u hj=>?_⟩,.inr ⟨(List.range (m-len)).map fun j=>D (len+j),?_⟩⟩
  ·obtain⟨i,o,ho,hc⟩:=abf _ j u hj
   obtain⟨hi,e⟩:=List.getElem?_eq_some_iff.1 ho
   simp at hi e
   obtain⟨k0,k1,k2,_⟩:=hf i hi
   subst e
   rcases hc with⟨rfl,rfl⟩|⟨rfl,rfl⟩|⟨rfl,rfl⟩
   ·exact k0
   ·exact k1
   ·exact k2
  ·show DataW.slice _ _=DataW.slice _ _
   congr 1
   rw[List.map_map]
   exact List.map_congr_left fun i hi=>(hf i (by simpa using hi)).2.2.2
theorem rP {e:TypeId}{n:Nat}{d:DataW H}:∀{ds:List (DataW H)},d∈ds→n∈d.weights P e→n∈DataW.weightsAll P e ds
 |[],h,_=>by simp at h
 |q::r,h,hn=>by
  simp only[DataW.weightsAll,List.mem_append]
  rcases List.mem_cons.1 h with rfl|h
  ·exact .inl hn
  ·exact .inr (rP h hn)
def au8 (d:DataW H) (l:List Bm.Ov):Prop:=(d=.nil∧l=[])∨∃sp,d=.slice (l.map opd) sp
theorem arA {t e:TypeId}{f0 f1 f2:Field}{l:List Bm.Ov}{d:DataW H}(h:∀n∈d.weights P t,n≤reachBytes)(hd:au8 d l)(hu:P.underlying t=some (.slice e))(he:P.underlying e=some (.struct #[f0,f1,f2]))(hb:P.bytesOf e=40):
  iR l∧l.length*40≤140737488351232:=by
 rcases hd with⟨_,rfl⟩|⟨sp,rfl⟩
 ·exact⟨fun o ho=>by simp at ho,by simp⟩
 refine⟨fun o ho=>?_,?_⟩
 ·have key:∀n∈(opd (H:=H) o).weights P e,n≤140737488351232:=by
   intro n hn
   exact h n (by
    simp only[DataW.weights,hu]
    exact List.mem_cons_of_mem _ (List.mem_append_left _ (rP (List.mem_map_of_mem ho) hn)))
  constructor
  ·have:=key o.k.data.toList.length (by simp[opd,DataW.weights,he,DataW.weightsEach])
   rw[Lib.size_eq];exact this
  ·have:=key o.v.data.toList.length (by simp[opd,DataW.weights,he,DataW.weightsEach])
   rw[Lib.size_eq];exact this
 ·have:=h ((l.map (opd (H:=H))).length+sp.length|>(·*P.bytesOf e)) (by simp[DataW.weights,hu])
  rw[hb]at this
  simp only[List.length_map,reachBytes]at this
  omega
end
end Go.Proofs.YtjemlgdkjilnoaaGreatDoor
namespace Go.Proofs.YtjemlgdkjilnoaaGreatDoor
open Go.RowKit Go.ChangeShapes Go.WideShapes Go.Deep
set_option linter.unusedVariables false
theorem zM {z:Int}(h:(Lit.int .i64 z).wf=true):In64 z:=by
 have:=range_i64 (zs:=[z]) (by simpa using h) 0
 simp at this
 exact⟨by omega,by omega⟩
theorem aa9:∀(l:List Cw) (j:Nat) (u:Value),(ccells l)[j]? =some u→∃i c,l[i]? =some c∧((j=i*3∧u=.int .i64 c.e)∨(j=i*3+1∧u=.int .i64 c.n)∨(j=i*3+2∧u=c.v))
 |[],j,u,h=>by simp[ccells]at h
 |o::r,0,u,h=>⟨0,o,rfl,.inl ⟨rfl,by simpa[ccells,iG]using h.symm⟩⟩
 |o::r,1,u,h=>⟨0,o,rfl,.inr (.inl ⟨rfl,by simpa[ccells,iG]using h.symm⟩)⟩
 |o::r,2,u,h=>⟨0,o,rfl,.inr (.inr ⟨rfl,by simpa[ccells,iG]using h.symm⟩)⟩
 |o::r,j+3,u,h=>by
  have h':(ccells r)[j]? =some u:=by simpa[ccells,iG]using h
  obtain⟨i,q,hq,hc⟩:=aa9 r j u h'
  refine⟨i+1,q,by simpa using hq,?_⟩
  rcases hc with⟨rfl,hu⟩|⟨rfl,hu⟩|⟨rfl,hu⟩
  ·exact .inl ⟨by omega,hu⟩
  ·exact .inr (.inl ⟨by omega,hu⟩)
  ·exact .inr (.inr ⟨by omega,hu⟩)
section
variable {H:Type} {enc:TypeId×Value→H} {P:Program} {w:World} {base:Nat} {spare:Nat→Bool} {held:Bool}
theorem agv {t:TypeId}{f0 f1 f2:Field}{x0 x1 d:DataW H}{n:Nat}(hu:P.underlying t=some (.struct #[f0,f1,f2]))(hn:n∈d.weights P f2.type):n∈(DataW.agg [x0,x1,d]).weights P t:=by
 simp only[DataW.weights,hu]
 simp[DataW.weightsEach,hn]
def anK (d:DataW H) (c:Cw):Prop:=∃x0 x1 d2,d=.agg [x0,x1,d2]∧au8 d2 c.l
theorem ajU {t e o:TypeId}{f0 f1 f2 g0 g1 g2:Field}{fuel:Nat}{v:Value}{x:DataW H×List MemPlace}(ht:P.underlying t=some (.slice e))(he:P.underlying e=some (.struct #[f0,f1,f2]))
  (hone:oneCellFields P #[f0,f1,f2]=true) (ce:P.cellsOf e=3) (u0:P.underlying f0.type=some (.int .i64)) (u1:P.underlying f1.type=some (.int .i64)) (u2:P.underlying f2.type=some (.slice o))
  (ho:P.underlying o=some (.struct #[g0,g1,g2])) (hone':oneCellFields P #[g0,g1,g2]=true) (co:P.cellsOf o=3) (k0:P.underlying g0.type=some .bool) (k1:P.underlying g1.type=some .string) (k2:P.underlying g2.type=some .string)
  (h:DataW.trod enc P w base spare held fuel t [v]=some x):∃r:List Cw,dJ w v r∧((x.1=.nil∧r=[])∨∃ds sp,x.1=.slice ds sp∧ds.length=r.length∧∀(i:Nat) (c:Cw),r[i]? =some c→∃d,ds[i]? =some d∧anK d c):=by
 rcases open_slice ht h with⟨hv,hx⟩|⟨a,len,cap,m,n,D,Pl,hv,hb,hl,hm,hmm,rfl,hx⟩
 ·simp at hv
  subst hv hx
  exact⟨[],dJ.nil _,.inl ⟨rfl,rfl⟩⟩
 ·simp at hv
  subst hv
  have hlm:len≤m:=by rw[hmm];split<;>omega
  obtain⟨o0,c0⟩:=hone_of hone 0 f0 rfl
  obtain⟨o1,c1⟩:=hone_of hone 1 f1 rfl
  obtain⟨o2,c2⟩:=hone_of hone 2 f2 rfl
  have each:∀i,i<len→∃c:Cw,(w.cell? (a.add (i*3))=some (.int .i64 c.e)∧w.cell? (a.add (i*3+1))=some (.int .i64 c.n)∧w.cell? (a.add (i*3+2))=some c.v)∧(df w c.v c.l∧In64 c.e∧In64 c.n)∧anK (D i) c:=by
   intro i hi
   obtain⟨cs',h1,h2⟩:=hx i (by omega)
   rw[ce]at h1
   obtain⟨_,hlen,hcell⟩:=World.cells?_some h1
   obtain⟨y0,y1,y2,k,hxy,_,q0,q1,q2⟩:=trod_struct3 he h2
   match cs',hlen with
   |[v0,v1,v2],_=>
    simp[o0,o1,o2,c0,c1,c2]at q0 q1 q2
    obtain⟨p,hp,rfl,wp⟩:=DataW.trod_int u0 q0
    obtain⟨s,hs,rfl,ws⟩:=DataW.trod_int u1 q1
    obtain⟨l,hl2,hd2⟩:=amX u2 ho hone' co k0 k1 k2 q2
    simp at hp hs
    subst hp hs
    have e0:=hcell 0 (by omega)
    have e1:=hcell 1 (by omega)
    have e2:=hcell 2 (by omega)
    rw[Go.Deep.add_add]at e0 e1 e2
    simp only[Prod.mk.injEq]at hxy
    exact⟨⟨p,s,v2,l⟩,⟨by simpa using e0,by simpa using e1,by simpa using e2⟩,⟨hl2,zM wp,zM ws⟩,_,_,_,hxy.1,hd2⟩
  have:Inhabited Cw:=⟨⟨0,0,.slice none 0 0,[]⟩⟩
  obtain⟨f,hf⟩:=choose_lt each
  refine⟨(List.range len).map f,⟨.inr ⟨a,cap,by simp,by simpa using hl,hm,fun j u hj=>?_⟩,fun c hc=>?_⟩,.inr ⟨(List.range len).map D,(List.range (m-len)).map fun j=>D (len+j),?_,by simp,fun i c hic=>?_⟩⟩
  ·obtain⟨i,o,ho,hc⟩:=aa9 _ j u hj
   obtain⟨hi,e⟩:=List.getElem?_eq_some_iff.1 ho
   simp at hi e
   obtain⟨⟨k0,k1,k2⟩,_⟩:=hf i hi
   subst e
   rcases hc with⟨rfl,rfl⟩|⟨rfl,rfl⟩|⟨rfl,rfl⟩
   ·exact k0
   ·exact k1
   ·exact k2
  ·obtain⟨i,hi,rfl⟩:=List.mem_map.1 hc
   exact(hf i (by simpa using hi)).2.1
  ·rfl
  ·obtain⟨hi,e⟩:=List.getElem?_eq_some_iff.1 hic
   simp at hi e
   subst e
   exact⟨D i,by simp[hi],(hf i hi).2.2⟩
end
end Go.Proofs.YtjemlgdkjilnoaaGreatDoor
