/- Texts. -/
import Derived.Test.YtlmkaljjocflmaaGreatDoorBG2
import Derived.Test.YtlmkaljjocflmaaGreatDoorBH2
set_option maxRecDepth 100000
set_option maxHeartbeats 8000000
set_option linter.unusedVariables false
namespace Go.Proofs.YtlmkaljjocflmaaGreatDoor.Mm
def Sh (m:Msg):Prop:=(∀z∈hd m,0≤z)∧((m.k=1∧m.f=0∧m.p=0∧m.cs=[])∨(m.k=2∧m.r=0∧m.n=0∧m.ss=[]∧∀c∈m.cs,Cm.chk c.e c.n c.l=0)∨(m.k=3∧m.r=0∧m.ss=[]∧m.f=0∧m.p=0∧m.cs=[]))
theorem aeM {m:Msg}(h:Ok m):Sh m:=by
 refine⟨qR h,?_⟩
 have hc:=yN h
 rcases h.2.2 with⟨k,_,_,_,_,h5,h6,h7⟩|⟨k,_,_,_,_,_,_,_,_,h9,h10,h11⟩|⟨k,_,_,h3,h4,h5,h6,h7⟩
 ·exact .inl ⟨k,h5,h6,h7⟩
 ·exact .inr (.inl ⟨k,h9,h10,h11,hc⟩)
 ·exact .inr (.inr ⟨k,h3,h4,h5,h6,h7⟩)
theorem yA {m:Msg}(h:Sh m):m.k=1∨m.k=2∨m.k=3:=by
 rcases h.2 with⟨k,_⟩|⟨k,_⟩|⟨k,_⟩<;>simp[k]
theorem arN {m:Msg}(h:Sh m):∀c∈m.cs,Cm.chk c.e c.n c.l=0:=by
 rcases h.2 with⟨_,_,_,e⟩|⟨_,_,_,_,e⟩|⟨_,_,_,_,_,e⟩
 ·rw[e];simp
 ·exact e
 ·rw[e];simp
theorem abU {m:Msg}(h:m.k=1∨m.k=2∨m.k=3):3≤(hd m).length∧(hd m).getD 0 0=m.k∧(hd m).getD 1 0=m.e∧
  (m.k=1→(hd m).length=5+2*m.ss.length∧(hd m).getD 4 0=(m.ss.length:Int))∧(m.k=2→(hd m).length=5)∧(m.k=3→(hd m).length=3):=by
 rcases h with k|k|k
 ·rw[qj k]
  exact⟨by simp,by simp,by simp,fun _=>⟨by simp[tC];omega,by simp⟩,fun h=>by omega,fun h=>by omega⟩
 ·rw[qi k]
  exact⟨by simp,by simp,by simp,fun h=>by omega,fun _=>by simp,fun h=>by omega⟩
 ·rw[sJ k]
  exact⟨by simp,by simp,by simp,fun h=>by omega,fun h=>by omega,fun _=>by simp⟩
theorem aiK {m m':Msg}(h:Sh m)(h':Sh m')(hp:hd m<+:hd m'):hd m=hd m':=by
 obtain⟨a1,a2,a3,a6,a7,a8⟩:=abU (yA h)
 obtain⟨b1,b2,b3,b6,b7,b8⟩:=abU (yA h')
 have e0:=oz hp (i:=0) (by omega)
 rw[a2,b2]at e0
 refine hp.eq_of_length ?_
 rcases yA h with k|k|k
 ·have a:=a6 k
  have b:=b6 (by omega)
  have e4:=oz hp (i:=4) (by omega)
  rw[a.2,b.2]at e4
  omega
 ·have a:=a7 k
  have b:=b7 (by omega)
  omega
 ·have a:=a8 k
  have b:=b8 (by omega)
  omega
theorem Msg.eq {a b:Msg}(h1:a.k=b.k)(h2:a.e=b.e)(h3:a.r=b.r)(h4:a.n=b.n)(h5:a.ss=b.ss)(h6:a.f=b.f)(h7:a.p=b.p)(h8:a.cs=b.cs):a=b:=by
 cases a;cases b;simp at*;exact⟨h1,h2,h3,h4,h5,h6,h7,h8⟩
theorem auX {m m':Msg}{bs:List Int}(h:Sh m)(h':Sh m')(h1:enc m<+:bs)(h2:enc m'<+:bs):m=m':=by
 have g1:Pm.encs (hd m)<+:bs:=(List.prefix_append _ _).trans h1
 have g2:Pm.encs (hd m')<+:bs:=(List.prefix_append _ _).trans h2
 have e:hd m=hd m':=by
  rcases nV h.1 h'.1 g1 g2 with g|g
  ·exact aiK h h' g
  ·exact(aiK h' h g).symm
 have hcl:m.cs.length=m'.cs.length→m.cs=m'.cs:=fun hl=>by
  have c1:=Fm.jW h1
  have c2:=Fm.jW h2
  rw[←e]at c2
  exact afq (arN h) (arN h') (vC (by simpa using hl) c1 c2)
 obtain⟨_,a2,a3,_⟩:=abU (yA h)
 obtain⟨_,b2,b3,_⟩:=abU (yA h')
 rw[e]at a2 a3
 have ek:m.k=m'.k:=a2.symm.trans b2
 have ee:m.e=m'.e:=a3.symm.trans b3
 rcases h.2 with⟨k,f1,p1,c1⟩|⟨k,r1,n1,s1,_⟩|⟨k,r1,s1,f1,p1,c1⟩
 ·rcases h'.2 with⟨k',f2,p2,c2⟩|⟨k',_⟩|⟨k',_⟩
  ·have e2:=e
   rw[qj k,qj k']at e2
   simp at e2
   exact Msg.eq ek ee e2.2.2.1 e2.2.2.2.1 (agl e2.2.2.2.2.2) (by omega) (by omega) (by rw[c1,c2])
  ·omega
  ·omega
 ·rcases h'.2 with⟨k',_⟩|⟨k',r2,n2,s2,_⟩|⟨k',_⟩
  ·omega
  ·have e2:=e
   rw[qi k,qi k']at e2
   simp at e2
   exact Msg.eq ek ee (by omega) (by omega) (by rw[s1,s2]) e2.2.2.1 e2.2.2.2.1 (hcl (by omega))
  ·omega
 ·rcases h'.2 with⟨k',_⟩|⟨k',_⟩|⟨k',r2,s2,f2,p2,c2⟩
  ·omega
  ·omega
  ·have e2:=e
   rw[sJ k,sJ k']at e2
   simp at e2
   exact Msg.eq ek ee (by omega) e2.2.2 (by rw[s1,s2]) (by omega) (by omega) (by rw[c1,c2])
def Go (bs l:List Int) (a:Nat) (b:Bool):Prop:=
 (b=false∧(∀z∈l,0≤z)∧Pm.encs l<+:bs∧a=(Pm.encs l).length)∨(b=true∧Dc bs no 5)
theorem uS (bs:List Int):Go bs [] 0 false:=.inl ⟨rfl,by simp,by simp[Pm.encs],rfl⟩
def Nx (l:List Int) (mx:Nat):Prop:=∀m,Ok m→(l<+:hd m∨hd m<+:l)→l.length<(hd m).length∧(hd m).getD l.length 0≤mx
theorem fE {bs l:List Int}{a u a' mx:Nat}{b b':Bool}(h:Go bs l a b)(s:jO bs mx a b u a' b')(hq:Nx l mx):Go bs (l++[(u:Int)]) a' b':=by
 rcases h with⟨rfl,h1,h2,rfl⟩|⟨rfl,h⟩
 ·rcases s with⟨h,_⟩|⟨_,rfl,_,_,h⟩|⟨_,rfl,_,h3,rfl⟩
  ·simp at h
  ·exact .inr ⟨rfl,atd h1 h2 h hq⟩
  ·refine .inl ⟨rfl,fun z hz=>?_,?_,?_⟩
   ·rcases List.mem_append.1 hz with hz|hz
    ·exact h1 z hz
    ·simp at hz;omega
   ·rw[Pm.jT]
    refine Fm.agp h2 ?_
    simpa[Pm.encs]using h3
   ·rw[Pm.jT,List.length_append]
    simp[Pm.encs,Vm.sz]
 ·rcases s with⟨_,rfl,_⟩|⟨h,_⟩|⟨h,_⟩
  ·exact .inr ⟨rfl,h⟩
  ·simp at h
  ·simp at h
theorem rT {l:List Int}{k:Int}{m:Msg}(hm:Ok m)(h:(k::l)<+:hd m∨hd m<+:(k::l)):m.k=k:=by
 obtain⟨a1,a2,_⟩:=abU (yA (aeM hm))
 rcases h with h|h
 ·have:=oz h (i:=0) (by simp)
  rw[a2]at this
  simpa using this
 ·have:=oz h (i:=0) (by omega)
  rw[a2]at this
  simpa using this.symm
theorem uL {l:List Int}{mx:Nat}(hmx:1048576≤mx)(h:∀m,Ok m→(l<+:hd m∨hd m<+:l)→l.length<(hd m).length):Nx l mx:=fun m hm hp=>by
 have hl:=h m hm hp
 refine⟨hl,?_⟩
 have:(hd m).getD l.length 0∈hd m:=by rw[List.getD_eq_getElem?_getD,List.getElem?_eq_getElem hl];simp
 have:=((gM hm).1 _ this).2
 omega
theorem ajD:Nx [] 3:=fun m hm _=>by
 obtain⟨_,h3,h0,_,h1,h2,_⟩:=gM hm
 exact⟨by simp;omega,by simp only[List.length_nil];rw[h0];omega⟩
theorem ajv (k:Int):Nx [k] 1048576:=uL (by omega) fun m hm _=>by have:=(gM hm).2.1;simp;omega
theorem azM (e:Int):Nx [3,e] 1048576:=uL (by omega) fun m hm _=>by have:=(gM hm).2.1;simp;omega
theorem azc (e:Int):Nx [1,e] 3:=fun m hm hp=>by
 have hk:=rT hm hp
 obtain⟨_,h3,_,_,_,_,h6,_⟩:=gM hm
 obtain⟨_,h7,h8,_⟩:=h6 hk
 refine⟨by simp;omega,?_⟩
 simp only[List.length_cons,List.length_nil]
 rw[h7]
 exact h8
theorem azk (e r:Int):Nx [1,e,r] 1048576:=uL (by omega) fun m hm hp=>by
 have:=((gM hm).2.2.2.2.2.2.1 (rT hm hp)).1
 simp;omega
theorem ayX (e r n:Int):Nx [1,e,r,n] 1048576:=uL (by omega) fun m hm hp=>by
 have:=((gM hm).2.2.2.2.2.2.1 (rT hm hp)).1
 simp;omega
theorem asP (e r n:Int)(c:Nat)(fs:List Int)(hf:fs.length<2*c):Nx ([1,e,r,n,(c:Int)]++fs) 1048576:=uL (by omega) fun m hm hp=>by
 have hk:=rT hm (by simpa using hp)
 obtain⟨h5,_,_,_,h4,hl⟩:=(gM hm).2.2.2.2.2.2.1 hk
 have e4:(hd m).getD 4 0=(c:Int):=by
  rcases hp with hp|hp
  ·have:=oz hp (i:=4) (by simp)
   simpa using this
  ·have:=oz hp (i:=4) (by omega)
   simpa using this.symm
 rw[h4]at e4
 simp
 omega
theorem ay0 (e:Int):Nx [2,e] 1048576:=uL (by omega) fun m hm _=>by have:=(gM hm).2.1;simp;omega
theorem aza (e f:Int):Nx [2,e,f] 1048576:=uL (by omega) fun m hm hp=>by
 have:=((gM hm).2.2.2.2.2.2.2.1 (rT hm hp)).1
 simp;omega
theorem ay9 (e f p:Int):Nx [2,e,f,p] 4:=fun m hm hp=>by
 obtain⟨h1,_,_,h4,h5⟩:=(gM hm).2.2.2.2.2.2.2.1 (rT hm hp)
 refine⟨by simp;omega,?_⟩
 simp only[List.length_cons,List.length_nil]
 rw[h4]
 omega
def wm (bs l:List Int) (cs:List Cm.Cv) (a:Nat) (b:Bool):Prop:=
 (b=false∧(∀z∈l,0≤z)∧(∀c∈cs,Cm.chk c.e c.n c.l=0)∧Pm.encs l++Fm.cat (cs.map cb)<+:bs∧a=(Pm.encs l++Fm.cat (cs.map cb)).length)∨(b=true∧Dc bs no 5)
theorem Go.c {bs l:List Int}{a:Nat}{b:Bool}(h:Go bs l a b):wm bs l [] a b:=by
 rcases h with⟨rfl,h1,h2,h3⟩|h
 ·exact .inl ⟨rfl,h1,by simp,by simpa[Fm.cat]using h2,by simpa[Fm.cat]using h3⟩
 ·exact .inr h
def vM (bs:List Int) (a:Nat) (b:Bool) (c:Cm.Cv) (a':Nat) (b':Bool):Prop:=
 (b=true∧b'=true)∨(b=false∧b'=true∧∀c':Cm.Cv,Cm.chk c'.e c'.n c'.l=0→¬Fm.dK (cb c')<+:bs.drop a)∨(b=false∧b'=false∧Cm.chk c.e c.n c.l=0∧Fm.dK (cb c)<+:bs.drop a∧a'=a+(Fm.dK (cb c)).length)
theorem nk (l:List (List Int))(r:List Int):Fm.cat (l++[r])=Fm.cat l++Fm.dK r:=by rw[Fm.pY,Fm.zn]
theorem aoy {bs:List Int}{e f p:Int}{n:Nat}{cs:List Cm.Cv}{c:Cm.Cv}{a a':Nat}{b b':Bool}(h:wm bs [2,e,f,p,(n:Int)] cs a b)(s:vM bs a b c a' b')(hn:cs.length<n):wm bs [2,e,f,p,(n:Int)] (cs++[c]) a' b':=by
 rcases h with⟨rfl,h1,h2,h3,rfl⟩|⟨rfl,h⟩
 ·rcases s with⟨h,_⟩|⟨_,rfl,hx⟩|⟨_,rfl,hc,h4,rfl⟩
  ·simp at h
  ·refine .inr ⟨rfl,.inr ⟨rfl,rfl,fun m hm eb=>?_⟩⟩
   have hl:Pm.encs [2,e,f,p,(n:Int)]<+:bs:=(List.prefix_append _ _).trans h3
   have hm1:Pm.encs (hd m)<+:bs:=by rw[eb];exact List.prefix_append _ _
   have hp:=nV h1 (qR hm) hl hm1
   have hk:=rT hm hp
   obtain⟨k5,_,_,k4,_⟩:=(gM hm).2.2.2.2.2.2.2.1 hk
   have eh:[2,e,f,p,(n:Int)]=hd m:=by
    rcases hp with hp|hp
    ·exact hp.eq_of_length (by simp[k5])
    ·exact(hp.eq_of_length (by simp[k5])).symm
   have en:(m.cs.length:Int)=n:=by rw[←k4,←eh];simp
   have hlt:cs.length<m.cs.length:=by omega
   have hsplit:m.cs=m.cs.take cs.length++(m.cs[cs.length]::m.cs.drop (cs.length+1)):=by
    rw[←List.drop_eq_getElem_cons hlt,List.take_append_drop]
   have hall:=yN hm
   have eb2:bs=Pm.encs [2,e,f,p,(n:Int)]++(Fm.cat ((m.cs.take cs.length).map cb)++(Fm.dK (cb m.cs[cs.length])++Fm.cat ((m.cs.drop (cs.length+1)).map cb))):=by
    rw[eb]
    unfold enc
    rw[eh]
    conv=>lhs;rw[hsplit]
    rw[List.map_append,Fm.pY,List.map_cons]
    rfl
   have c1:Fm.cat (cs.map cb)<+:bs.drop (Pm.encs [2,e,f,p,(n:Int)]).length:=Fm.jW h3
   have c2:Fm.cat ((m.cs.take cs.length).map cb)<+:bs.drop (Pm.encs [2,e,f,p,(n:Int)]).length:=by
    rw[eb2,List.drop_left]
    exact List.prefix_append _ _
   have ec:cs.map cb=(m.cs.take cs.length).map cb:=vC (by simp;omega) c1 c2
   refine hx m.cs[cs.length] (hall _ (List.getElem_mem hlt)) ?_
   rw[ec]
   have:bs.drop (Pm.encs [2,e,f,p,(n:Int)]++Fm.cat ((m.cs.take cs.length).map cb)).length=Fm.dK (cb m.cs[cs.length])++Fm.cat ((m.cs.drop (cs.length+1)).map cb):=by
    conv=>lhs;rw[eb2]
    rw[←List.append_assoc,List.drop_left]
   rw[this]
   exact List.prefix_append _ _
  ·refine .inl ⟨rfl,h1,fun x hx=>?_,?_,?_⟩
   ·rcases List.mem_append.1 hx with hx|hx
    ·exact h2 x hx
    ·rw[List.mem_singleton.1 hx];exact hc
   ·rw[List.map_append,List.map_singleton,nk,←List.append_assoc]
    exact Fm.agp h3 h4
   ·rw[List.map_append,List.map_singleton,nk,←List.append_assoc];exact(List.length_append).symm
 ·rcases s with⟨_,rfl⟩|⟨h,_⟩|⟨h,_⟩
  ·exact .inr ⟨rfl,h⟩
  ·simp at h
  ·simp at h
theorem awk {bs:List Int}{m:Msg}{a:Nat}{b:Bool}(h:wm bs (hd m) m.cs a b)(hs:b=false→Sh m):((b=false∧a=bs.length∧Ok m)∧Dc bs m 0)∨(¬(b=false∧a=bs.length∧Ok m)∧Dc bs no 5):=by
 by_cases hb:b=false∧a=bs.length∧Ok m
 ·refine .inl ⟨hb,?_⟩
  obtain⟨rfl,rfl,hm⟩:=hb
  rcases h with⟨_,_,_,h3,h4⟩|⟨h,_⟩
  ·exact .inl ⟨rfl,hm,(h3.eq_of_length h4.symm).symm⟩
  ·simp at h
 ·refine .inr ⟨hb,?_⟩
  rcases h with⟨rfl,h1,h2,h3,h4⟩|⟨_,h⟩
  ·refine .inr ⟨rfl,rfl,fun m' hm' e=>?_⟩
   have:=auX (hs rfl) (aeM hm') (bs:=bs) h3 (by rw[e];exact List.prefix_refl _)
   subst this
   refine hb ⟨rfl,?_,hm'⟩
   rw[h4,e]
   rfl
  ·exact h
theorem atZ {bs l:List Int}{a:Nat}{b:Bool}(h:Go bs (0::l) a b):Dc bs no 5:=by
 rcases h with⟨rfl,h1,h2,h4⟩|⟨_,h⟩
 ·refine .inr ⟨rfl,rfl,fun m' hm' e=>?_⟩
  have hm1:Pm.encs (hd m')<+:bs:=by rw[e];exact List.prefix_append _ _
  have:=rT hm' (nV h1 (qR hm') h2 hm1)
  have:=yA (aeM hm')
  omega
 ·exact h
end Go.Proofs.YtlmkaljjocflmaaGreatDoor.Mm
namespace Go.Proofs.YtlmkaljjocflmaaGreatDoor
open Go.RowKit
theorem afr {V:World}{p q:Nat}{t:TypeId}{off:Bool}{y:Pm.Pg}{vw vr vs:Value}{en:Int}(hP:V.heap[p]? =some (.cells (fo q off y vw en vr vs) t (0,0)))(x:Pm.Pg):
  ∃V',((((((V.setCell ⟨p,2,none⟩ (.int .i64 x.e)).setCell ⟨p,3,none⟩ (.int .u8 x.r)).setCell ⟨p,4,none⟩ (.int .i64 x.a)).setCell ⟨p,5,none⟩ (.int .u8 x.p)).setCell ⟨p,6,none⟩ (.int .i64 x.f)).setCell ⟨p,7,none⟩ (.int .i64 x.b))=V'∧V'.heap[p]? =some (.cells (fo q off x vw en vr vs) t (0,0))∧V.grownBy V' (some p)∧∀j,V.frozen? ⟨p,j,none⟩=false:=by
 have q0:(V.setCell ⟨p,2,none⟩ (.int .i64 x.e)).heap[p]? =some (.cells #[.pointer (some ⟨q,0,none⟩),.bool off,.int .i64 x.e,.int .u8 y.r,.int .i64 y.a,.int .u8 y.p,.int .i64 y.f,.int .i64 y.b,vw,.int .i64 en,.slice none 0 0,vr,vs] t (0,0)):=aF hP 2 (.int .i64 x.e)
 have q1:((V.setCell ⟨p,2,none⟩ (.int .i64 x.e)).setCell ⟨p,3,none⟩ (.int .u8 x.r)).heap[p]? =some (.cells #[.pointer (some ⟨q,0,none⟩),.bool off,.int .i64 x.e,.int .u8 x.r,.int .i64 y.a,.int .u8 y.p,.int .i64 y.f,.int .i64 y.b,vw,.int .i64 en,.slice none 0 0,vr,vs] t (0,0)):=aF q0 3 (.int .u8 x.r)
 have q2:(((V.setCell ⟨p,2,none⟩ (.int .i64 x.e)).setCell ⟨p,3,none⟩ (.int .u8 x.r)).setCell ⟨p,4,none⟩ (.int .i64 x.a)).heap[p]? =some (.cells #[.pointer (some ⟨q,0,none⟩),.bool off,.int .i64 x.e,.int .u8 x.r,.int .i64 x.a,.int .u8 y.p,.int .i64 y.f,.int .i64 y.b,vw,.int .i64 en,.slice none 0 0,vr,vs] t (0,0)):=aF q1 4 (.int .i64 x.a)
 have q3:((((V.setCell ⟨p,2,none⟩ (.int .i64 x.e)).setCell ⟨p,3,none⟩ (.int .u8 x.r)).setCell ⟨p,4,none⟩ (.int .i64 x.a)).setCell ⟨p,5,none⟩ (.int .u8 x.p)).heap[p]? =some (.cells #[.pointer (some ⟨q,0,none⟩),.bool off,.int .i64 x.e,.int .u8 x.r,.int .i64 x.a,.int .u8 x.p,.int .i64 y.f,.int .i64 y.b,vw,.int .i64 en,.slice none 0 0,vr,vs] t (0,0)):=aF q2 5 (.int .u8 x.p)
 have q4:(((((V.setCell ⟨p,2,none⟩ (.int .i64 x.e)).setCell ⟨p,3,none⟩ (.int .u8 x.r)).setCell ⟨p,4,none⟩ (.int .i64 x.a)).setCell ⟨p,5,none⟩ (.int .u8 x.p)).setCell ⟨p,6,none⟩ (.int .i64 x.f)).heap[p]? =some (.cells #[.pointer (some ⟨q,0,none⟩),.bool off,.int .i64 x.e,.int .u8 x.r,.int .i64 x.a,.int .u8 x.p,.int .i64 x.f,.int .i64 y.b,vw,.int .i64 en,.slice none 0 0,vr,vs] t (0,0)):=aF q3 6 (.int .i64 x.f)
 have q5:((((((V.setCell ⟨p,2,none⟩ (.int .i64 x.e)).setCell ⟨p,3,none⟩ (.int .u8 x.r)).setCell ⟨p,4,none⟩ (.int .i64 x.a)).setCell ⟨p,5,none⟩ (.int .u8 x.p)).setCell ⟨p,6,none⟩ (.int .i64 x.f)).setCell ⟨p,7,none⟩ (.int .i64 x.b)).heap[p]? =some (.cells #[.pointer (some ⟨q,0,none⟩),.bool off,.int .i64 x.e,.int .u8 x.r,.int .i64 x.a,.int .u8 x.p,.int .i64 x.f,.int .i64 x.b,vw,.int .i64 en,.slice none 0 0,vr,vs] t (0,0)):=aF q4 7 (.int .i64 x.b)
 exact⟨_,rfl,q5,aH (aH (aH (aH (aH (ax V ⟨p,2,none⟩ (.int .i64 x.e)) (ax _ ⟨p,3,none⟩ (.int .u8 x.r))) (ax _ ⟨p,4,none⟩ (.int .i64 x.a))) (ax _ ⟨p,5,none⟩ (.int .u8 x.p))) (ax _ ⟨p,6,none⟩ (.int .i64 x.f))) (ax _ ⟨p,7,none⟩ (.int .i64 x.b)),aA hP⟩
structure Sam (w:World) (g:Nat) (a b c d e f:Value):Prop where
 s0:w.setCell ⟨g,0,none⟩ a=w
 s1:w.setCell ⟨g,1,none⟩ b=w
 s2:w.setCell ⟨g,2,none⟩ c=w
 s3:w.setCell ⟨g,3,none⟩ d=w
 s4:w.setCell ⟨g,4,none⟩ e=w
 s5:w.setCell ⟨g,5,none⟩ f=w
 f0:w.frozen? ⟨g,0,none⟩=false
 f1:w.frozen? ⟨g,1,none⟩=false
 f2:w.frozen? ⟨g,2,none⟩=false
 f3:w.frozen? ⟨g,3,none⟩=false
 f4:w.frozen? ⟨g,4,none⟩=false
 f5:w.frozen? ⟨g,5,none⟩=false
theorem axU {w:World}{g:Nat}{t:TypeId}{a b c d e f:Value}(h:w.heap[g]? =some (.cells #[a,b,c,d,e,f] t (0,0))):Sam w g a b c d e f:=
 ⟨aK h (j:=0) rfl,aK h (j:=1) rfl,aK h (j:=2) rfl,aK h (j:=3) rfl,aK h (j:=4) rfl,aK h (j:=5) rfl,aA h 0,aA h 1,aA h 2,aA h 3,aA h 4,aA h 5⟩
def apj (w:World) (g:Nat) (x:Pm.Pg):Prop:=w.heap[g]? =some (.cells (cp x) 46 (0,0))
theorem apj.six {w:World}{g:Nat}{x:Pm.Pg}(h:apj w g x):Six w g (.int .i64 x.e) (.int .u8 x.r) (.int .i64 x.a) (.int .u8 x.p) (.int .i64 x.f) (.int .i64 x.b):=aR h
theorem nO {w:World}{g:Nat}{x:Pm.Pg}(h:apj w g x):(w.cell? ⟨g,0,none⟩=some (.int .i64 x.e)∧w.cell? ⟨g,1,none⟩=some (.int .u8 x.r)∧w.cell? ⟨g,2,none⟩=some (.int .i64 x.a)∧w.cell? ⟨g,3,none⟩=some (.int .u8 x.p)∧w.cell? ⟨g,4,none⟩=some (.int .i64 x.f)∧w.cell? ⟨g,5,none⟩=some (.int .i64 x.b)):=
 ⟨h.six.c0,h.six.c1,h.six.c2,h.six.c3,h.six.c4,h.six.c5⟩
end Go.Proofs.YtlmkaljjocflmaaGreatDoor
