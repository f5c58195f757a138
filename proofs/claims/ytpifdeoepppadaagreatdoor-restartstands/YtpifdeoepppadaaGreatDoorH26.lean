/- Texts of one layer, one behind the other. -/
import Derived.Test.YtpifdeoepppadaaGreatDoorG8
import Derived.Test.YtpifdeoepppadaaGreatDoorG9
import Derived.Test.YtpifdeoepppadaaGreatDoorG6
import Derived.SizedLaws
import Derived.Lib.SmallJoins
import Derived.Deep.Slices
import Derived.Test.YtpifdeoepppadaaGreatDoorH8
import Derived.Test.YtpifdeoepppadaaGreatDoorH24
set_option maxRecDepth 100000
set_option maxHeartbeats 8000000
namespace Go.Proofs.YtpifdeoepppadaaGreatDoor
open Go.RowKit
set_option linter.unusedVariables false
structure ik where
 k:Int
 n:Int
 m:Int
 p:Pm.Pg
 v:Value
 l:List Bm.Ov
 e:Int
 f:Int
 x:Value
 rs:List Cw
def avc (a:ik):List Value:=[.int .i64 a.k,.int .i64 a.n,.int .i64 a.m,.int .i64 a.p.e,.int .u8 a.p.r,.int .i64 a.p.a,.int .u8 a.p.p,.int .i64 a.p.f,.int .i64 a.p.b,a.v,.int .i64 a.e,.int .i64 a.f,a.x]
def avv (a:ik):Value:=.agg #[.int .i64 a.k,.int .i64 a.n,.int .i64 a.m,.int .i64 a.p.e,.int .u8 a.p.r,.int .i64 a.p.a,.int .u8 a.p.p,.int .i64 a.p.f,.int .i64 a.p.b,a.v,.int .i64 a.e,.int .i64 a.f,a.x]
theorem aji (a:ik):(avc a).length=13:=rfl
structure yo (w:World) (a:ik):Prop where
 ops:dm w a.v a.l
 sec:fJ w a.x a.rs
 kn:In64 a.k∧In64 a.n∧In64 a.m
 pg:dW a.p
 ef:In64 a.e∧In64 a.f
def kW (w:World) (v:Value) (l:List ik):Prop:=iJ avc w v l∧∀a∈l,yo w a
def yu (l:List ik):Prop:=∀a∈l,(fG a.l∧a.l.length*40≤140737488351232)∧fF a.rs∧a.rs.length*40≤140737488351232
theorem yo.below {w w':World}{a:ik}(h:yo w a)(hb:Below w.heap.size w w'):yo w' a:=⟨h.ops.below hb,h.sec.below hb,h.kn,h.pg,h.ef⟩
theorem kW.below {w w':World}{v:Value}{l:List ik}(h:kW w v l)(hb:Below w.heap.size w w'):kW w' v l:=⟨h.1.below hb,fun a ha=>(h.2 a ha).below hb⟩
theorem kW.full {w:World}{v:Value}{l:List ik}(h:kW w v l)(hne:0<l.length):
  ∃b off cap,v=.slice (some ⟨b,off,none⟩) l.length cap∧l.length≤cap∧cap≤maxLen∧b<w.heap.size∧
   ∀i a,l[i]? =some a→w.cell? ⟨b,off+i*13,none⟩=some (.int .i64 a.k)∧w.cell? ⟨b,off+i*13+1,none⟩=some (.int .i64 a.n)∧w.cell? ⟨b,off+i*13+2,none⟩=some (.int .i64 a.m)∧
    (w.cell? ⟨b,off+i*13+3,none⟩=some (.int .i64 a.p.e)∧w.cell? ⟨b,off+i*13+4,none⟩=some (.int .u8 a.p.r)∧w.cell? ⟨b,off+i*13+5,none⟩=some (.int .i64 a.p.a)∧w.cell? ⟨b,off+i*13+6,none⟩=some (.int .u8 a.p.p)∧w.cell? ⟨b,off+i*13+7,none⟩=some (.int .i64 a.p.f)∧w.cell? ⟨b,off+i*13+8,none⟩=some (.int .i64 a.p.b))∧
    w.cell? ⟨b,off+i*13+9,none⟩=some a.v∧w.cell? ⟨b,off+i*13+10,none⟩=some (.int .i64 a.e)∧w.cell? ⟨b,off+i*13+11,none⟩=some (.int .i64 a.f)∧w.cell? ⟨b,off+i*13+12,none⟩=some a.x:=by
 obtain⟨b,off,cap,hv,h1,h2,h3,h4⟩:=h.1.full aji (by decide) hne
 refine⟨b,off,cap,hv,h1,h2,h3,fun i a ha=>?_⟩
 have:=h4 i a ha
 exact⟨by simpa using this 0 _ rfl,by simpa using this 1 _ rfl,by simpa using this 2 _ rfl,⟨by simpa using this 3 _ rfl,by simpa using this 4 _ rfl,by simpa using this 5 _ rfl,by simpa using this 6 _ rfl,by simpa using this 7 _ rfl,by simpa using this 8 _ rfl⟩,by simpa using this 9 _ rfl,by simpa using this 10 _ rfl,by simpa using this 11 _ rfl,by simpa using this 12 _ rfl⟩
theorem kW.shape {w:World}{v:Value}{l:List ik}(h:kW w v l):∃ao cap,v=.slice ao l.length cap∧l.length≤cap∧cap≤maxLen:=h.1.shape
def smC (rs:List Cw):Bool:=rs.all fun c=>decide (c.l.length≤40)
def smA (a:ik):Bool:=decide (a.l.length≤40)&&(decide (a.rs.length≤40)&&smC a.rs)
def nK (l:List ik):Bool:=l.all smA&&decide (l.length≤40)
theorem ahr {l:List ik}:nK l=true↔l.length≤40∧∀a∈l,a.l.length≤40∧a.rs.length≤40∧∀c∈a.rs,c.l.length≤40:=by
 simp[nK,smA,smC,and_comm]
theorem ab4 {α:Type}{f:α→Bool}{l:List α}{i:Nat}{a:α}(h:l[i]? =some a)(hf:f a=false):l.all f=false:=by
 rw[List.all_eq_false]
 exact⟨a,List.mem_of_getElem? h,by simp[hf]⟩
theorem agV {α:Type}{f:α→Bool}{l:List α}{i:Nat}{a:α}(h:l[i]? =some a)(hl:(l.take i).all f=true)(hf:f a=true):(l.take (i+1)).all f=true:=by
 obtain⟨hi,e⟩:=List.getElem?_eq_some_iff.1 h
 rw[List.take_succ_eq_append_getElem hi,e,List.all_append,hl]
 simp[hf]
theorem aaK (v:Value)(l:List ik)(w:World)(h:kW w v l)(hl:l.length≤140737488355328):Calls Tryz.prog 24 #[v] w fun E w'=>E=.returned (.bool (nK l))∧w'=w:=by
 obtain⟨ao,cap,hv,hc1,hc2⟩:=h.shape
 have ACT:Hid (∀i,i<l.length→∃b off,v=.slice (some ⟨b,off,none⟩) l.length cap∧∃a va ka xa xk,l[i]? =some a∧w.cell? ⟨b,off+i*13+9,none⟩=some (.slice va a.l.length ka)∧w.cell? ⟨b,off+i*13+12,none⟩=some (.slice xa a.rs.length xk)∧
   ∀j,j<a.rs.length→∃b2 agc,xa=some ⟨b2,agc,none⟩∧∃c ca ck,a.rs[j]? =some c∧w.cell? ⟨b2,agc+j*3+2,none⟩=some (.slice ca c.l.length ck)):=hide fun i hi=>by
  obtain⟨b,off,cap',hv',_,_,_,hcell⟩:=h.full (by omega)
  rw[hv]at hv'
  simp only[Value.slice.injEq,true_and]at hv'
  obtain⟨rfl,rfl⟩:=hv'
  obtain⟨a,ha⟩:∃a,l[i]? =some a:=⟨l[i],List.getElem?_eq_getElem hi⟩
  have hok:=h.2 a (List.mem_of_getElem? ha)
  obtain⟨_,_,_,_,c9,_,_,c12⟩:=hcell i a ha
  obtain⟨va,ka,e1,_,_⟩:=hok.ops.shape
  obtain⟨xa,xk,e2,_,_⟩:=hok.sec.1.shape
  rw[e1]at c9
  rw[e2]at c12
  refine⟨b,off,hv,a,va,ka,xa,xk,ha,c9,c12,fun j hj=>?_⟩
  obtain⟨b2,agc,cap2,hx2,_,_,_,hcc⟩:=hok.sec.1.full (by omega)
  rw[e2]at hx2
  simp only[Value.slice.injEq,true_and]at hx2
  obtain⟨c,hc⟩:∃c,a.rs[j]? =some c:=⟨a.rs[j],List.getElem?_eq_getElem hj⟩
  obtain⟨ca,ck,e3,_,_⟩:=(hok.sec.2 c (List.mem_of_getElem? hc)).1.shape
  have:=(hcc j c hc).2.2
  rw[e3]at this
  exact⟨b2,agc,hx2.1,c,ca,ck,hc,this⟩
 rw[hv]at ACT
 subst hv
 clear h
 go_enter Tryz.func24,Tryz.ntmps24
 go_wp2
 go_loopw [3] (fun iv wr=>∃i:Nat,i≤l.length∧iv=.int .i64 i∧Hid ((l.take i).all smA=true)∧wr=w) (fun iv _=>l.length-(intOf iv).toNat)
 case atStart=>exact⟨0,by omega,rfl,hide (by simp),rfl⟩
 case round=>
  obtain⟨i,hi,rfl,HA,rfl⟩:=hrel
  by_cases hlt:i<l.length
  ·obtain⟨b,off,dL,a,va,ka,xa,xk,ha,c9,c12,hcc⟩:=ACT.out i hlt
   simp only[Value.slice.injEq,and_true]at dL
   have hlt':(i:Int)<l.length:=by omega
   have hi0:(0:Int)≤(i:Int):=by omega
   have HX:=hide ha
   have HC:=hide hcc
   subst dL
   clear ha hcc
   by_cases q1:40<a.l.length
   ·have NO:Hid (nK l=false):=hide (by
     unfold nK
     rw[ab4 HX.out (by unfold smA;rw[decide_eq_false (by omega)];rfl)]
     rfl)
    have q1':(40:Int)<a.l.length:=by omega
    clear q1
    go_wp2
    go_ret
    exact⟨by rw[NO.out];rfl,rfl⟩
   by_cases q2:40<a.rs.length
   ·have NO:Hid (nK l=false):=hide (by
     unfold nK
     rw[ab4 HX.out (by unfold smA;rw[decide_eq_false (p:=a.rs.length≤40) (by omega)];simp)]
     rfl)
    have q1':¬(40:Int)<a.l.length:=by omega
    have q2':(40:Int)<a.rs.length:=by omega
    clear q1 q2
    go_wp2
    go_ret
    exact⟨by rw[NO.out];rfl,rfl⟩
   have q1':¬(40:Int)<a.l.length:=by omega
   have q2':¬(40:Int)<a.rs.length:=by omega
   have LQ:Hid (a.l.length≤40∧a.rs.length≤40):=hide ⟨by omega,by omega⟩
   clear q1 q2
   go_wp2
   obtain⟨wo,hwo⟩:∃y,y=wr:=⟨_,rfl⟩
   subst hwo
   go_loopw [4] (fun jv wq=>∃j:Nat,j≤a.rs.length∧jv=.int .i64 j∧Hid ((a.rs.take j).all (fun c=>decide (c.l.length≤40))=true)∧wq=wo) (fun jv _=>a.rs.length-(intOf jv).toNat)
   case atStart=>exact⟨0,by omega,rfl,hide (by simp),rfl⟩
   case round=>
    obtain⟨j,hj,rfl,HJ,rfl⟩:=hrel
    by_cases hjl:j<a.rs.length
    ·obtain⟨b2,agc,hxa,c,ca,ck,hc,d2⟩:=HC.out j hjl
     have ahH:(j:Int)<a.rs.length:=by omega
     have hj0:(0:Int)≤(j:Int):=by omega
     subst hxa
     by_cases q3:40<c.l.length
     ·have NO:Hid (nK l=false):=hide (by
       unfold nK
       rw[ab4 HX.out (by
        unfold smA smC
        rw[ab4 hc (by rw[decide_eq_false (by omega)])]
        simp)]
       rfl)
      have q3':(40:Int)<c.l.length:=by omega
      clear q3 hc
      go_wp2
      go_ret
      exact⟨by rw[NO.out];rfl,rfl⟩
     ·have NX:=hide (agV hc HJ.out (by rw[decide_eq_true (by omega)]))
      have q3':¬(40:Int)<c.l.length:=by omega
      clear q3 hc HJ
      go_wp2
      go_roundw
      case rel=>exact⟨j+1,by omega,by go_num,NX,by first|trivial|rfl⟩
      case measure=>simp[intOf];omega
    ·have ahH:¬(j:Int)<a.rs.length:=by omega
     have NX:=hide (agV HX.out HA.out (by
      have:=HJ.out
      rw[List.take_of_length_le (by omega)]at this
      unfold smA smC
      rw[this,decide_eq_true LQ.out.1,decide_eq_true LQ.out.2]
      rfl))
     clear HJ
     go_wp2
     go_roundw
     case rel=>exact⟨i+1,by omega,by go_num,NX,by first|trivial|rfl⟩
     case measure=>simp[intOf];omega
  ·have hlt':¬(i:Int)<l.length:=by omega
   have FIN:Hid (nK l=decide ((l.length:Int)≤40)):=hide (by
    have:=HA.out
    rw[List.take_of_length_le (by omega)]at this
    unfold nK
    rw[this,Bool.true_and]
    by_cases h:l.length≤40
    ·rw[decide_eq_true h,decide_eq_true (by omega)]
    ·rw[decide_eq_false h,decide_eq_false (by omega)])
   clear HA
   go_wp2
   go_ret
   exact⟨by rw[FIN.out];rfl,rfl⟩
end Go.Proofs.YtpifdeoepppadaaGreatDoor
namespace Go.Proofs.YtpifdeoepppadaaGreatDoor
open Go.RowKit Go.ChangeShapes Go.WideShapes Go.Deep
set_option linter.unusedVariables false
def opd {H:Type} (o:Bm.Ov):DataW H:=.agg [.lit (.bool o.p),.lit (.string o.k.data.toList),.lit (.string o.v.data.toList)]
theorem abJ:∀(l:List Bm.Ov) (j:Nat) (u:Value),(ocells l)[j]? =some u→∃i o,l[i]? =some o∧((j=i*3∧u=.bool o.p)∨(j=i*3+1∧u=.string o.k)∨(j=i*3+2∧u=.string o.v))
 |[],j,u,h=>by simp[ocells]at h
 |o::r,0,u,h=>⟨0,o,rfl,.inl ⟨rfl,by simpa[ocells,qh]using h.symm⟩⟩
 |o::r,1,u,h=>⟨0,o,rfl,.inr (.inl ⟨rfl,by simpa[ocells,qh]using h.symm⟩)⟩
 |o::r,2,u,h=>⟨0,o,rfl,.inr (.inr ⟨rfl,by simpa[ocells,qh]using h.symm⟩)⟩
 |o::r,j+3,u,h=>by
  have h':(ocells r)[j]? =some u:=by simpa[ocells,qh]using h
  obtain⟨i,q,hq,hc⟩:=abJ r j u h'
  refine⟨i+1,q,by simpa using hq,?_⟩
  rcases hc with⟨rfl,hu⟩|⟨rfl,hu⟩|⟨rfl,hu⟩
  ·exact .inl ⟨by omega,hu⟩
  ·exact .inr (.inl ⟨by omega,hu⟩)
  ·exact .inr (.inr ⟨by omega,hu⟩)
section
variable {H:Type} {enc:TypeId×Value→H} {P:Program} {w:World} {base:Nat} {spare:Nat→Bool} {held:Bool}
theorem aaW {t e:TypeId}{f0 f1 f2:Field}{fuel:Nat}{v:Value}{x:DataW H×List MemPlace}(ht:P.underlying t=some (.slice e))(he:P.underlying e=some (.struct #[f0,f1,f2]))
  (hone:oneCellFields P #[f0,f1,f2]=true) (ce:P.cellsOf e=3) (u0:P.underlying f0.type=some .bool) (u1:P.underlying f1.type=some .string) (u2:P.underlying f2.type=some .string)
  (h:DataW.trod enc P w base spare held fuel t [v]=some x):∃l:List Bm.Ov,dm w v l∧((x.1=.nil∧l=[])∨∃sp,x.1=.slice (l.map opd) sp):=by
 rcases open_slice ht h with⟨hv,hx⟩|⟨a,len,cap,m,n,D,Pl,hv,hb,hl,hm,hmm,rfl,hx⟩
 ·simp at hv
  subst hv hx
  exact⟨[],dm.nil _,.inl ⟨rfl,rfl⟩⟩
 ·simp at hv
  subst hv
  have hlm:len≤m:=by rw[hmm];split<;>omega
  obtain⟨o0,c0⟩:=hone_of hone 0 f0 rfl
  obtain⟨o1,c1⟩:=hone_of hone 1 f1 rfl
  obtain⟨o2,c2⟩:=hone_of hone 2 f2 rfl
  have each:∀i,i<len→∃o:Bm.Ov,w.cell? (a.add (i*3))=some (.bool o.p)∧w.cell? (a.add (i*3+1))=some (.string o.k)∧w.cell? (a.add (i*3+2))=some (.string o.v)∧D i=opd o:=by
   intro i hi
   obtain⟨cs',h1,h2⟩:=hx i (by omega)
   rw[ce]at h1
   obtain⟨_,hlen,hcell⟩:=World.cells?_some h1
   obtain⟨y0,y1,y2,k,hxy,_,g0,g1,g2⟩:=trod_struct3 he h2
   match cs',hlen with
   |[v0,v1,v2],_=>
    simp[o0,o1,o2,c0,c1,c2]at g0 g1 g2
    obtain⟨p,hp,rfl⟩:=DataW.trod_bool u0 g0
    obtain⟨s,hs,rfl,_⟩:=DataW.trod_string u1 g1
    obtain⟨r,hr,rfl,_⟩:=DataW.trod_string u2 g2
    simp at hp hs hr
    subst hp hs hr
    have e0:=hcell 0 (by omega)
    have e1:=hcell 1 (by omega)
    have e2:=hcell 2 (by omega)
    rw[Go.Deep.add_add]at e0 e1 e2
    simp only[Prod.mk.injEq]at hxy
    exact⟨⟨p,s,r⟩,by simpa using e0,by simpa using e1,by simpa using e2,hxy.1⟩
  have:Inhabited Bm.Ov:=⟨⟨false,⟨#[]⟩,⟨#[]⟩⟩⟩
  obtain⟨f,hf⟩:=choose_lt each
  refine⟨(List.range len).map f,.inr ⟨a,cap,by simp,by simpa using hl,hm,fun j u hj=>?_⟩,.inr ⟨(List.range (m-len)).map fun j=>D (len+j),?_⟩⟩
  ·obtain⟨i,o,ho,hc⟩:=abJ _ j u hj
   obtain⟨hi,e⟩:=List.getElem?_eq_some_iff.1 ho
   simp at hi e
   obtain⟨k0,k1,k2,_⟩:=hf i hi
   subst e
   rcases hc with⟨rfl,rfl⟩|⟨rfl,rfl⟩|⟨rfl,rfl⟩
   ·exact k0
   ·exact k1
   ·exact k2
  ·show DataW.slice _ _=DataW.slice _ _
   congr 1
   rw[List.map_map]
   exact List.map_congr_left fun i hi=>(hf i (by simpa using hi)).2.2.2
theorem lu {e:TypeId}{n:Nat}{d:DataW H}:∀{ds:List (DataW H)},d∈ds→n∈d.weights P e→n∈DataW.weightsAll P e ds
 |[],h,_=>by simp at h
 |q::r,h,hn=>by
  simp only[DataW.weightsAll,List.mem_append]
  rcases List.mem_cons.1 h with rfl|h
  ·exact .inl hn
  ·exact .inr (lu h hn)
def agR (d:DataW H) (l:List Bm.Ov):Prop:=(d=.nil∧l=[])∨∃sp,d=.slice (l.map opd) sp
theorem aiX {t e:TypeId}{f0 f1 f2:Field}{l:List Bm.Ov}{d:DataW H}(h:∀n∈d.weights P t,n≤reachBytes)(hd:agR d l)(hu:P.underlying t=some (.slice e))(he:P.underlying e=some (.struct #[f0,f1,f2]))(hb:P.bytesOf e=40):
  fG l∧l.length*40≤140737488351232:=by
 rcases hd with⟨_,rfl⟩|⟨sp,rfl⟩
 ·exact⟨fun o ho=>by simp at ho,by simp⟩
 refine⟨fun o ho=>?_,?_⟩
 ·have key:∀n∈(opd (H:=H) o).weights P e,n≤140737488351232:=by
   intro n hn
   exact h n (by
    simp only[DataW.weights,hu]
    exact List.mem_cons_of_mem _ (List.mem_append_left _ (lu (List.mem_map_of_mem ho) hn)))
  constructor
  ·have:=key o.k.data.toList.length (by simp[opd,DataW.weights,he,DataW.weightsEach])
   rw[Lib.size_eq];exact this
  ·have:=key o.v.data.toList.length (by simp[opd,DataW.weights,he,DataW.weightsEach])
   rw[Lib.size_eq];exact this
 ·have:=h ((l.map (opd (H:=H))).length+sp.length|>(·*P.bytesOf e)) (by simp[DataW.weights,hu])
  rw[hb]at this
  simp only[List.length_map,reachBytes]at this
  omega
end
end Go.Proofs.YtpifdeoepppadaaGreatDoor
namespace Go.Proofs.YtpifdeoepppadaaGreatDoor
open Go.RowKit Go.ChangeShapes Go.WideShapes Go.Deep
set_option linter.unusedVariables false
theorem abp {z:Int}(h:(Lit.int .i64 z).wf=true):In64 z:=by
 have:=range_i64 (zs:=[z]) (by simpa using h) 0
 simp at this
 exact⟨by omega,by omega⟩
theorem ab5:∀(l:List Cw) (j:Nat) (u:Value),(ccells l)[j]? =some u→∃i c,l[i]? =some c∧((j=i*3∧u=.int .i64 c.e)∨(j=i*3+1∧u=.int .i64 c.n)∨(j=i*3+2∧u=c.v))
 |[],j,u,h=>by simp[ccells]at h
 |o::r,0,u,h=>⟨0,o,rfl,.inl ⟨rfl,by simpa[ccells,gD]using h.symm⟩⟩
 |o::r,1,u,h=>⟨0,o,rfl,.inr (.inl ⟨rfl,by simpa[ccells,gD]using h.symm⟩)⟩
 |o::r,2,u,h=>⟨0,o,rfl,.inr (.inr ⟨rfl,by simpa[ccells,gD]using h.symm⟩)⟩
 |o::r,j+3,u,h=>by
  have h':(ccells r)[j]? =some u:=by simpa[ccells,gD]using h
  obtain⟨i,q,hq,hc⟩:=ab5 r j u h'
  refine⟨i+1,q,by simpa using hq,?_⟩
  rcases hc with⟨rfl,hu⟩|⟨rfl,hu⟩|⟨rfl,hu⟩
  ·exact .inl ⟨by omega,hu⟩
  ·exact .inr (.inl ⟨by omega,hu⟩)
  ·exact .inr (.inr ⟨by omega,hu⟩)
section
variable {H:Type} {enc:TypeId×Value→H} {P:Program} {w:World} {base:Nat} {spare:Nat→Bool} {held:Bool}
theorem aaq {t:TypeId}{f0 f1 f2:Field}{x0 x1 d:DataW H}{n:Nat}(hu:P.underlying t=some (.struct #[f0,f1,f2]))(hn:n∈d.weights P f2.type):n∈(DataW.agg [x0,x1,d]).weights P t:=by
 simp only[DataW.weights,hu]
 simp[DataW.weightsEach,hn]
def aos (d:DataW H) (c:Cw):Prop:=∃x0 x1 d2,d=.agg [x0,x1,d2]∧agR d2 c.l
theorem anX {t e o:TypeId}{f0 f1 f2 g0 g1 g2:Field}{fuel:Nat}{v:Value}{x:DataW H×List MemPlace}(ht:P.underlying t=some (.slice e))(he:P.underlying e=some (.struct #[f0,f1,f2]))
  (hone:oneCellFields P #[f0,f1,f2]=true) (ce:P.cellsOf e=3) (u0:P.underlying f0.type=some (.int .i64)) (u1:P.underlying f1.type=some (.int .i64)) (u2:P.underlying f2.type=some (.slice o))
  (ho:P.underlying o=some (.struct #[g0,g1,g2])) (hone':oneCellFields P #[g0,g1,g2]=true) (co:P.cellsOf o=3) (k0:P.underlying g0.type=some .bool) (k1:P.underlying g1.type=some .string) (k2:P.underlying g2.type=some .string)
  (h:DataW.trod enc P w base spare held fuel t [v]=some x):∃r:List Cw,fJ w v r∧((x.1=.nil∧r=[])∨∃ds sp,x.1=.slice ds sp∧ds.length=r.length∧∀(i:Nat) (c:Cw),r[i]? =some c→∃d,ds[i]? =some d∧aos d c):=by
 rcases open_slice ht h with⟨hv,hx⟩|⟨a,len,cap,m,n,D,Pl,hv,hb,hl,hm,hmm,rfl,hx⟩
 ·simp at hv
  subst hv hx
  exact⟨[],fJ.nil _,.inl ⟨rfl,rfl⟩⟩
 ·simp at hv
  subst hv
  have hlm:len≤m:=by rw[hmm];split<;>omega
  obtain⟨o0,c0⟩:=hone_of hone 0 f0 rfl
  obtain⟨o1,c1⟩:=hone_of hone 1 f1 rfl
  obtain⟨o2,c2⟩:=hone_of hone 2 f2 rfl
  have each:∀i,i<len→∃c:Cw,(w.cell? (a.add (i*3))=some (.int .i64 c.e)∧w.cell? (a.add (i*3+1))=some (.int .i64 c.n)∧w.cell? (a.add (i*3+2))=some c.v)∧(dm w c.v c.l∧In64 c.e∧In64 c.n)∧aos (D i) c:=by
   intro i hi
   obtain⟨cs',h1,h2⟩:=hx i (by omega)
   rw[ce]at h1
   obtain⟨_,hlen,hcell⟩:=World.cells?_some h1
   obtain⟨y0,y1,y2,k,hxy,_,q0,q1,q2⟩:=trod_struct3 he h2
   match cs',hlen with
   |[v0,v1,v2],_=>
    simp[o0,o1,o2,c0,c1,c2]at q0 q1 q2
    obtain⟨p,hp,rfl,wp⟩:=DataW.trod_int u0 q0
    obtain⟨s,hs,rfl,ws⟩:=DataW.trod_int u1 q1
    obtain⟨l,hl2,hd2⟩:=aaW u2 ho hone' co k0 k1 k2 q2
    simp at hp hs
    subst hp hs
    have e0:=hcell 0 (by omega)
    have e1:=hcell 1 (by omega)
    have e2:=hcell 2 (by omega)
    rw[Go.Deep.add_add]at e0 e1 e2
    simp only[Prod.mk.injEq]at hxy
    exact⟨⟨p,s,v2,l⟩,⟨by simpa using e0,by simpa using e1,by simpa using e2⟩,⟨hl2,abp wp,abp ws⟩,_,_,_,hxy.1,hd2⟩
  have:Inhabited Cw:=⟨⟨0,0,.slice none 0 0,[]⟩⟩
  obtain⟨f,hf⟩:=choose_lt each
  refine⟨(List.range len).map f,⟨.inr ⟨a,cap,by simp,by simpa using hl,hm,fun j u hj=>?_⟩,fun c hc=>?_⟩,.inr ⟨(List.range len).map D,(List.range (m-len)).map fun j=>D (len+j),?_,by simp,fun i c hic=>?_⟩⟩
  ·obtain⟨i,o,ho,hc⟩:=ab5 _ j u hj
   obtain⟨hi,e⟩:=List.getElem?_eq_some_iff.1 ho
   simp at hi e
   obtain⟨⟨k0,k1,k2⟩,_⟩:=hf i hi
   subst e
   rcases hc with⟨rfl,rfl⟩|⟨rfl,rfl⟩|⟨rfl,rfl⟩
   ·exact k0
   ·exact k1
   ·exact k2
  ·obtain⟨i,hi,rfl⟩:=List.mem_map.1 hc
   exact(hf i (by simpa using hi)).2.1
  ·rfl
  ·obtain⟨hi,e⟩:=List.getElem?_eq_some_iff.1 hic
   simp at hi e
   subst e
   exact⟨D i,by simp[hi],(hf i hi).2.2⟩
end
end Go.Proofs.YtpifdeoepppadaaGreatDoor
namespace Go.Proofs.YtpifdeoepppadaaGreatDoor
open Go.RowKit Go.ChangeShapes Go.WideShapes Go.Deep
set_option linter.unusedVariables false
section
variable {H:Type} {enc:TypeId×Value→H} {P:Program} {w:World} {base:Nat} {spare:Nat→Bool} {held:Bool}
def as5 (d:DataW H) (r:List Cw):Prop:=(d=.nil∧r=[])∨∃ds sp,d=.slice ds sp∧ds.length=r.length∧∀(i:Nat) (c:Cw),r[i]? =some c→∃d,ds[i]? =some d∧aos d c
theorem anl {t e o:TypeId}{f0 f1 f2 g0 g1 g2:Field}{d:DataW H}{r:List Cw}(h:∀n∈d.weights P t,n≤reachBytes)(hd:as5 d r)
  (hu:P.underlying t=some (.slice e)) (he:P.underlying e=some (.struct #[f0,f1,f2])) (hb:P.bytesOf e=40) (h2:P.underlying f2.type=some (.slice o)) (ho:P.underlying o=some (.struct #[g0,g1,g2])) (hbo:P.bytesOf o=40):fF r∧r.length*40≤140737488351232:=by
 rcases hd with⟨_,rfl⟩|⟨es,sp,rfl,hlen,hr⟩
 ·exact⟨fun c hc=>by simp at hc,by simp⟩
 refine⟨fun c hc=>?_,?_⟩
 ·obtain⟨i,hi⟩:=List.getElem?_of_mem hc
  obtain⟨d,hd1,x0,x1,d2,rfl,hd2⟩:=hr i c hi
  refine aiX (fun n hn=>?_) hd2 h2 ho hbo
  exact h n (by
   simp only[DataW.weights,hu]
   exact List.mem_cons_of_mem _ (List.mem_append_left _ (lu (List.mem_of_getElem? hd1) (aaq he hn))))
 ·have:=h ((es.length+sp.length)*P.bytesOf e) (by simp[DataW.weights,hu])
  rw[hb]at this
  simp only[reachBytes]at this
  omega
end
end Go.Proofs.YtpifdeoepppadaaGreatDoor
namespace Go.Proofs.YtpifdeoepppadaaGreatDoor
open Go.RowKit Go.ChangeShapes Go.WideShapes Go.Deep
set_option linter.unusedVariables false
section
variable {H:Type} {enc:TypeId×Value→H} {P:Program} {w:World} {base:Nat} {spare:Nat→Bool} {held:Bool}
theorem aqJ {t:TypeId}{f0 f1 f2 f3 f4 f5:Field}{fuel:Nat}{cs:List Value}{x:DataW H×List MemPlace}(ht:P.underlying t=some (.struct #[f0,f1,f2,f3,f4,f5]))(h:DataW.trod enc P w base spare held fuel t cs=some x):
  ∃y0 y1 y2 y3 y4 y5 n,x.1=.agg [y0.1,y1.1,y2.1,y3.1,y4.1,y5.1]∧DataW.trod enc P w base spare held n f0.type ((cs.drop f0.offset).take (P.cellsOf f0.type))=some y0∧
   DataW.trod enc P w base spare held n f1.type ((cs.drop f1.offset).take (P.cellsOf f1.type))=some y1∧DataW.trod enc P w base spare held n f2.type ((cs.drop f2.offset).take (P.cellsOf f2.type))=some y2∧
   DataW.trod enc P w base spare held n f3.type ((cs.drop f3.offset).take (P.cellsOf f3.type))=some y3∧DataW.trod enc P w base spare held n f4.type ((cs.drop f4.offset).take (P.cellsOf f4.type))=some y4∧
   DataW.trod enc P w base spare held n f5.type ((cs.drop f5.offset).take (P.cellsOf f5.type))=some y5:=by
 obtain⟨xs,n,_,rfl,hl,hlen,hf⟩:=DataW.trod_struct ht h
 match xs,hlen with
 |[y0,y1,y2,y3,y4,y5],_=>exact⟨y0,y1,y2,y3,y4,y5,n,by simp,by simpa using hf 0 f0 rfl,by simpa using hf 1 f1 rfl,by simpa using hf 2 f2 rfl,by simpa using hf 3 f3 rfl,by simpa using hf 4 f4 rfl,by simpa using hf 5 f5 rfl⟩
structure xU (P:Program) (e o c:TypeId) (f0 f1 f2 f3 f4 f5 p0 p1 p2 p3 p4 p5 s0 s1 s2 c0 c1 c2 g0 g1 g2:Field):Prop where
 he:P.underlying e=some (.struct #[f0,f1,f2,f3,f4,f5])
 of:f0.offset=0∧f1.offset=1∧f2.offset=2∧f3.offset=3∧f4.offset=9∧f5.offset=10
 cl:P.cellsOf f0.type=1∧P.cellsOf f1.type=1∧P.cellsOf f2.type=1∧P.cellsOf f3.type=6∧P.cellsOf f4.type=1∧P.cellsOf f5.type=3
 u:P.underlying f0.type=some (.int .i64)∧P.underlying f1.type=some (.int .i64)∧P.underlying f2.type=some (.int .i64)
 pg:P.underlying f3.type=some (.struct #[p0,p1,p2,p3,p4,p5])
 po:oneCellFields P #[p0,p1,p2,p3,p4,p5]=true
 pu:P.underlying p0.type=some (.int .i64)∧P.underlying p1.type=some (.int .u8)∧P.underlying p2.type=some (.int .i64)∧P.underlying p3.type=some (.int .u8)∧P.underlying p4.type=some (.int .i64)∧P.underlying p5.type=some (.int .i64)
 ops:P.underlying f4.type=some (.slice o)
 ho:P.underlying o=some (.struct #[g0,g1,g2])
 oo:oneCellFields P #[g0,g1,g2]=true
 co:P.cellsOf o=3
 ou:P.underlying g0.type=some .bool∧P.underlying g1.type=some .string∧P.underlying g2.type=some .string
 se:P.underlying f5.type=some (.struct #[s0,s1,s2])
 so:oneCellFields P #[s0,s1,s2]=true
 su:P.underlying s0.type=some (.int .i64)∧P.underlying s1.type=some (.int .i64)∧P.underlying s2.type=some (.slice c)
 hc:P.underlying c=some (.struct #[c0,c1,c2])
 cc:oneCellFields P #[c0,c1,c2]=true
 cn:P.cellsOf c=3
 cu:P.underlying c0.type=some (.int .i64)∧P.underlying c1.type=some (.int .i64)∧P.underlying c2.type=some (.slice o)
def yj (d:DataW H) (a:ik):Prop:=∃x0 x1 x2 x3 d4 y0 y1 d5,d=.agg [x0,x1,x2,x3,d4,.agg [y0,y1,d5]]∧agR d4 a.l∧as5 d5 a.rs
variable {e o c:TypeId} {f0 f1 f2 f3 f4 f5 p0 p1 p2 p3 p4 p5 s0 s1 s2 c0 c1 c2 g0 g1 g2:Field}
theorem ahn (T:xU P e o c f0 f1 f2 f3 f4 f5 p0 p1 p2 p3 p4 p5 s0 s1 s2 c0 c1 c2 g0 g1 g2){fuel:Nat}{cs:List Value}{x:DataW H×List MemPlace}(hl:cs.length=13)(h:DataW.trod enc P w base spare held fuel e cs=some x):
  ∃a:ik,cs=avc a∧yo w a∧yj x.1 a:=by
 obtain⟨y0,y1,y2,y3,y4,y5,k,hx,r0,r1,r2,r3,r4,r5⟩:=aqJ T.he h
 obtain⟨a0,a1,a2,a3,a4,a5⟩:=T.of
 obtain⟨b0,b1,b2,b3,b4,b5⟩:=T.cl
 match cs,hl with
 |[v0,v1,v2,v3,v4,v5,v6,v7,v8,v9,v10,v11,v12],_=>
  simp[a0,a1,a2,a3,a4,a5,b0,b1,b2,b3,b4,b5]at r0 r1 r2 r3 r4 r5
  obtain⟨z0,hz0,_,w0⟩:=DataW.trod_int T.u.1 r0
  obtain⟨z1,hz1,_,w1⟩:=DataW.trod_int T.u.2.1 r1
  obtain⟨z2,hz2,_,w2⟩:=DataW.trod_int T.u.2.2 r2
  obtain⟨q0,q1,q2,q3,q4,q5,n3,h0,h1,h2,h3,h4,h5⟩:=agH T.pg r3
  obtain⟨o0,k0⟩:=hone_of T.po 0 p0 rfl
  obtain⟨o1,k1⟩:=hone_of T.po 1 p1 rfl
  obtain⟨o2,k2⟩:=hone_of T.po 2 p2 rfl
  obtain⟨o3,k3⟩:=hone_of T.po 3 p3 rfl
  obtain⟨o4,k4⟩:=hone_of T.po 4 p4 rfl
  obtain⟨o5,k5⟩:=hone_of T.po 5 p5 rfl
  simp[o0,o1,o2,o3,o4,o5,k0,k1,k2,k3,k4,k5]at h0 h1 h2 h3 h4 h5
  obtain⟨t0,e0,_,x0⟩:=DataW.trod_int T.pu.1 h0
  obtain⟨t1,e1,_,x1⟩:=DataW.trod_int T.pu.2.1 h1
  obtain⟨t2,e2,_,x2⟩:=DataW.trod_int T.pu.2.2.1 h2
  obtain⟨t3,e3,_,x3⟩:=DataW.trod_int T.pu.2.2.2.1 h3
  obtain⟨t4,e4,_,x4⟩:=DataW.trod_int T.pu.2.2.2.2.1 h4
  obtain⟨t5,e5,_,x5⟩:=DataW.trod_int T.pu.2.2.2.2.2 h5
  obtain⟨l,hl2,hd2⟩:=aaW T.ops T.ho T.oo T.co T.ou.1 T.ou.2.1 T.ou.2.2 r4
  obtain⟨m0,m1,m2,n5,hm,_,j0,j1,j2⟩:=trod_struct3 T.se r5
  obtain⟨q0',k0'⟩:=hone_of T.so 0 s0 rfl
  obtain⟨q1',k1'⟩:=hone_of T.so 1 s1 rfl
  obtain⟨q2',k2'⟩:=hone_of T.so 2 s2 rfl
  simp[q0',q1',q2',k0',k1',k2']at j0 j1 j2
  obtain⟨i0,f0',_,x6⟩:=DataW.trod_int T.su.1 j0
  obtain⟨i1,f1',_,x7⟩:=DataW.trod_int T.su.2.1 j1
  obtain⟨rs,hrs,hdr⟩:=anX T.su.2.2 T.hc T.cc T.cn T.cu.1 T.cu.2.1 T.cu.2.2 T.ho T.oo T.co T.ou.1 T.ou.2.1 T.ou.2.2 j2
  simp at hz0 hz1 hz2 e0 e1 e2 e3 e4 e5 f0' f1'
  subst hz0 hz1 hz2 e0 e1 e2 e3 e4 e5 f0' f1'
  refine⟨⟨z0,z1,z2,⟨t0,t1,t2,t3,t4,t5⟩,v9,l,i0,i1,v12,rs⟩,rfl,⟨hl2,hrs,⟨abp w0,abp w1,abp w2⟩,avH x0 x1 x2 x3 x4 x5,abp x6,abp x7⟩,y0.1,y1.1,y2.1,y3.1,y4.1,m0.1,m1.1,m2.1,?_,hd2,hdr⟩
  rw[hx,hm]
theorem akZ (T:xU P e o c f0 f1 f2 f3 f4 f5 p0 p1 p2 p3 p4 p5 s0 s1 s2 c0 c1 c2 g0 g1 g2){r:Reach}{b0:Nat}{v:Value}{d:DataW H}{p:List MemPlace}(hC:P.cellsOf e=13)(hv:Value.okWide P w r b0 e v)(h:DataW.Trod enc P w base spare held e v d p):∃a:ik,v=avv a∧yo w a:=by
 obtain⟨cs,rfl,hsz⟩:=okWide_struct T.he hv
 obtain⟨fuel,hf⟩:=h
 obtain⟨a,ha,hok,_⟩:=ahn T (by simpa[Value.cells]using hsz.trans hC) hf
 refine⟨a,?_,hok⟩
 obtain⟨l⟩:=cs
 have hl:l=avc a:=by simpa[Value.cells]using ha
 rw[hl]
 rfl
theorem agW (T:xU P e o c f0 f1 f2 f3 f4 f5 p0 p1 p2 p3 p4 p5 s0 s1 s2 c0 c1 c2 g0 g1 g2){t:TypeId}{fuel:Nat}{v:Value}{x:DataW H×List MemPlace}(ht:P.underlying t=some (.slice e))(ce:P.cellsOf e=13)
  (h:DataW.trod enc P w base spare held fuel t [v]=some x):∃r:List ik,kW w v r∧((x.1=.nil∧r=[])∨∃ds sp,x.1=.slice ds sp∧ds.length=r.length∧∀(i:Nat) (a:ik),r[i]? =some a→∃d,ds[i]? =some d∧yj d a):=by
 rcases open_slice ht h with⟨hv,hx⟩|⟨a,len,cap,m,n,D,Pl,hv,hb,hl,hm,hmm,rfl,hx⟩
 ·simp at hv
  subst hv hx
  exact⟨[],⟨iJ.nil _ _,fun a ha=>by simp at ha⟩,.inl ⟨rfl,rfl⟩⟩
 ·simp at hv
  subst hv
  have hlm:len≤m:=by rw[hmm];split<;>omega
  have each:∀i,i<len→∃c:ik,(∀m u,(avc c)[m]? =some u→w.cell? (a.add (i*13+m))=some u)∧yo w c∧yj (D i) c:=by
   intro i hi
   obtain⟨cs',h1,h2⟩:=hx i (by omega)
   rw[ce]at h1
   obtain⟨_,hlen,hcell⟩:=World.cells?_some h1
   obtain⟨b,rfl,hok,hd⟩:=ahn T hlen h2
   refine⟨b,fun m u hu=>?_,hok,hd⟩
   have hm6:m<13:=(List.getElem?_eq_some_iff.1 hu).1
   have hc':=hcell m (by omega)
   rw[Go.Deep.add_add]at hc'
   rw[hc']
   exact hu
  have:Inhabited ik:=⟨⟨0,0,0,⟨0,0,0,0,0,0⟩,.slice none 0 0,[],0,0,.slice none 0 0,[]⟩⟩
  obtain⟨f,hf⟩:=choose_lt each
  refine⟨(List.range len).map f,⟨.inr ⟨a,cap,by simp,by simpa using hl,hm,fun j u hj=>?_⟩,fun c hc=>?_⟩,.inr ⟨(List.range len).map D,(List.range (m-len)).map fun j=>D (len+j),rfl,by simp,fun i c hic=>?_⟩⟩
  ·obtain⟨i,c,m',hic,rfl,hu⟩:=qo aji (by decide) _ j u hj
   obtain⟨hi,e⟩:=List.getElem?_eq_some_iff.1 hic
   simp at hi e
   subst e
   exact(hf i hi).1 m' u hu
  ·obtain⟨i,hi,rfl⟩:=List.mem_map.1 hc
   exact(hf i (by simpa using hi)).2.1
  ·obtain⟨hi,e⟩:=List.getElem?_eq_some_iff.1 hic
   simp at hi e
   subst e
   exact⟨D i,by simp[hi],(hf i hi).2.2⟩
theorem aza {x0 x1 x2 x3 x5 d:DataW H}{n:Nat}(hu:P.underlying e=some (.struct #[f0,f1,f2,f3,f4,f5]))(hn:n∈d.weights P f4.type):n∈(DataW.agg [x0,x1,x2,x3,d,x5]).weights P e:=by
 simp only[DataW.weights,hu]
 simp[DataW.weightsEach,hn]
theorem axZ {x0 x1 x2 x3 x4 d:DataW H}{n:Nat}(hu:P.underlying e=some (.struct #[f0,f1,f2,f3,f4,f5]))(hn:n∈d.weights P f5.type):n∈(DataW.agg [x0,x1,x2,x3,x4,d]).weights P e:=by
 simp only[DataW.weights,hu]
 simp[DataW.weightsEach,hn]
theorem avg (T:xU P e o c f0 f1 f2 f3 f4 f5 p0 p1 p2 p3 p4 p5 s0 s1 s2 c0 c1 c2 g0 g1 g2)(hbo:P.bytesOf o=40)(hbc:P.bytesOf c=40){d:DataW H}{a:ik}(h:∀n∈d.weights P e,n≤reachBytes)(hd:yj d a):
  (fG a.l∧a.l.length*40≤140737488351232)∧fF a.rs∧a.rs.length*40≤140737488351232:=by
 obtain⟨x0,x1,x2,x3,d4,y0,y1,d5,rfl,h4,h5⟩:=hd
 refine⟨aiX (fun n hn=>h n (aza T.he hn)) h4 T.ops T.ho hbo,anl (fun n hn=>h n (axZ T.he (aaq T.se hn))) h5 T.su.2.2 T.hc hbc T.cu.2.2 T.ho hbo⟩
theorem ad3 (T:xU P e o c f0 f1 f2 f3 f4 f5 p0 p1 p2 p3 p4 p5 s0 s1 s2 c0 c1 c2 g0 g1 g2)(hbo:P.bytesOf o=40)(hbc:P.bytesOf c=40)(hbe:P.bytesOf e=136){ts:List TypeId}{ds:List (DataW H)}(h:(DataW.weightsEach P ts ds).all (·≤reachBytes)=true){j:Nat}{t:TypeId}{r:List ik}{es sp:List (DataW H)}(ht:ts[j]? =some t)(hd:ds[j]? =some (.slice es sp))(hlen:es.length=r.length)(hr:∀(i:Nat) (a:ik),r[i]? =some a→∃d,es[i]? =some d∧yj d a)
  (hu:P.underlying t=some (.slice e)):yu r∧r.length*136≤140737488351232:=by
 have hall:=List.all_eq_true.1 h
 refine⟨fun a ha=>?_,?_⟩
 ·obtain⟨i,hi⟩:=List.getElem?_of_mem ha
  obtain⟨d,hd1,hd2⟩:=hr i a hi
  exact avg T hbo hbc (fun n hn=>of_decide_eq_true (hall n (DataW.weights_mem_each ht hd n (by
   simp only[DataW.weights,hu]
   exact List.mem_cons_of_mem _ (List.mem_append_left _ (lu (List.mem_of_getElem? hd1) hn)))))) hd2
 ·have:=sized_slice h ht hd hu
  rw[hbe]at this
  simp only[reachBytes]at this
  omega
end
end Go.Proofs.YtpifdeoepppadaaGreatDoor
