/- Texts. -/
import Derived.Test.YtlmkaljjocflmaaGreatDoorBH20
import Derived.Test.YtlmkaljjocflmaaGreatDoorBH2
import Derived.Test.YtlmkaljjocflmaaGreatDoorBH6
import Derived.Test.YtlmkaljjocflmaaGreatDoorBH3
import Derived.SizedLaws
import Derived.Lib.SmallJoins
import Derived.Deep.Slices
import Derived.Test.YtlmkaljjocflmaaGreatDoorBH1
set_option maxRecDepth 100000
set_option maxHeartbeats 8000000
set_option linter.unusedVariables false
open Go.Proofs.Tryz
namespace Go.Proofs.YtlmkaljjocflmaaGreatDoor
open Go.RowKit
theorem lT (p q:Nat)(w:World)(hc:w.cell? ⟨p,0,none⟩=some (.pointer (some ⟨q,0,none⟩))):
  Calls prog 59 #[.pointer (some ⟨p,0,none⟩)] w fun E w'=>E=.returned (.bool true)∧w=w':=by
 go_enter func59,ntmps59
 go_wp2
 go_ret
 exact⟨rfl,rfl⟩
theorem akr (p q:Nat)(F:Nat→Prop)(w:World)(st:Dm.Ds)(off:Bool)(h:Pk q F w st)(h0:w.cell? ⟨p,0,none⟩=some (.pointer (some ⟨q,0,none⟩)))(h1:w.cell? ⟨p,1,none⟩=some (.bool off)):
  Calls prog 110 #[.pointer (some ⟨p,0,none⟩)] w fun E w'=>E=.returned (.int .i64 (if (off|| !st.on)=true then 6 else 0))∧w=w':=by
 have HM:=hide (lT p q w h0)
 have HO:=hide (xU q F w st h)
 clear h
 generalize st.on=on at*
 cases off
 ·cases on
  all_goals
   simp only[Bool.false_or,Bool.not_true,Bool.not_false,if_true,Bool.false_eq_true,if_false]
   go_enter func110,ntmps110
   go_wp2_with fail
   refine HM.out.mono ?_
   rintro E w1 ⟨rfl,rfl⟩
   clear HM
   go_wp2_with fail
   refine HO.out.mono ?_
   rintro E w1 ⟨rfl,rfl⟩
   clear HO
   go_wp2
   go_ret
   exact⟨rfl,rfl⟩
 ·simp only[Bool.true_or,if_true]
  go_enter func110,ntmps110
  go_wp2_with fail
  refine HM.out.mono ?_
  rintro E w1 ⟨rfl,rfl⟩
  clear HM HO
  go_wp2
  go_ret
  exact⟨rfl,rfl⟩
theorem anr (v:Value)(p B n:Nat)(fs:List Value)(w:World)(Q:Int→World→Prop)(hn:fs.length=n)(hl:n≤100)(hB:w.heap[B]? =some (.cells fs.toArray 228 (0,0)))(h:Run B Q fs w)(hst:∀W,Q 6 W→v=.pointer (some ⟨p,0,none⟩)∧∃cs b,W.heap[p]? =some (.cells cs 137 (0,0))∧cs[1]? =some (.bool b)):
  Calls prog 109 #[v,.slice (some ⟨B,0,none⟩) n n] w fun E w'=>∃e W,E=.returned (.int .i64 e)∧Q e W∧((e≠6∧w'=W)∨(e=6∧w'=W.setCell ⟨p,1,none⟩ (.bool true))):=by
 have HO:=hide (sH B n fs w Q hn hl hB h)
 have HS:=hide hst
 clear h hB hst hn hl
 go_enter func109,ntmps109
 go_wp2_with fail
 refine HO.out.mono ?_
 rintro E W ⟨e,rfl,hq⟩
 clear HO
 by_cases he:e=6
 ·subst he
  obtain⟨rfl,cs,b,x1,x2⟩:=HS.out W hq
  have c1:=ai x1 1 x2
  have f1:=aA x1 1
  have HQ:=hide hq
  clear hq x1 x2 HS
  go_wp2
  go_ret
  exact⟨6,W,rfl,HQ.out,.inr ⟨rfl,rfl⟩⟩
 ·have he':(e==6)=false:=by simpa using he
  have HQ:=hide hq
  clear hq HS
  go_wp2
  go_ret
  exact⟨e,_,rfl,HQ.out,.inl ⟨he,rfl⟩⟩
theorem aiL (vl:Value)(r:List Cw)(w:World)(h:eD w vl r)(hone:∀c∈r,c.v.oneCell'=true)(hl:r.length≤1048576):
  Calls prog 140 #[vl] w fun e w'=>∃v,e=.returned v∧bD 35 w.heap.size w' v r∧Bq w w':=by
 have q:∀(w:World) (a:Option Addr) (n c n' c':Nat),(binOp .eql 22 (.slice a n c) (.slice none n' c')).run prog w=.ok (.bool a.isNone) w:=fun w a n c n' c'=>Lib.run_eql_slice_nil w _ _ a n c n' c' underlying22
 by_cases hn:vl=.slice none 0 0
 ·subst hn
  have:r=[]:=by
   rcases h with⟨_,h⟩|⟨ad,cap,h,_⟩
   ·exact h
   ·simp at h
  subst this
  clear h hl
  go_enter func140,ntmps140
  go_wp2
  go_ret
  exact⟨_,rfl,bD.nil _ _ _,Below.refl _ _⟩
 ·obtain⟨ad,cap,rfl⟩:∃ad cap,vl=.slice (some ad) r.length cap:=by
   rcases h with⟨h,_⟩|⟨ad,cap,h,_⟩
   ·exact absurd h hn
   ·exact⟨ad,cap,h⟩
  clear hn
  obtain⟨w1,hw1,aV,aj,aX⟩:=kE 35 w #[] 0 [] rfl rfl (by simp[maxLen])
  have h1:=h.below aj
  go_enter func140,ntmps140
  go_wp2_with (at_builtin;refine nT rfl (.tmp 5) (.tmp 6) 22 rfl 35 w.heap.size underlying22 Tryz.abH _ [] rfl aX _ r rfl h1 hone (by simp;omega) (by omega) ?_)
  intro v2 w2 aW az _
  go_wp2
  go_ret
  exact⟨_,rfl,by simpa using aW,aj.trans az⟩
end Go.Proofs.YtlmkaljjocflmaaGreatDoor
namespace Go.Proofs.YtlmkaljjocflmaaGreatDoor
open Go.RowKit Go.ChangeShapes Go.WideShapes Go.Deep
def opd {H:Type} (o:Bm.Ov):DataW H:=.agg [.lit (.bool o.p),.lit (.string o.k.data.toList),.lit (.string o.v.data.toList)]
theorem abQ:∀(l:List Bm.Ov) (j:Nat) (u:Value),(ocells l)[j]? =some u→∃i o,l[i]? =some o∧((j=i*3∧u=.bool o.p)∨(j=i*3+1∧u=.string o.k)∨(j=i*3+2∧u=.string o.v))
 |[],j,u,h=>by simp[ocells]at h
 |o::r,0,u,h=>⟨0,o,rfl,.inl ⟨rfl,by simpa[ocells,pI]using h.symm⟩⟩
 |o::r,1,u,h=>⟨0,o,rfl,.inr (.inl ⟨rfl,by simpa[ocells,pI]using h.symm⟩)⟩
 |o::r,2,u,h=>⟨0,o,rfl,.inr (.inr ⟨rfl,by simpa[ocells,pI]using h.symm⟩)⟩
 |o::r,j+3,u,h=>by
  have h':(ocells r)[j]? =some u:=by simpa[ocells,pI]using h
  obtain⟨i,q,hq,hc⟩:=abQ r j u h'
  refine⟨i+1,q,by simpa using hq,?_⟩
  rcases hc with⟨rfl,hu⟩|⟨rfl,hu⟩|⟨rfl,hu⟩
  ·exact .inl ⟨by omega,hu⟩
  ·exact .inr (.inl ⟨by omega,hu⟩)
  ·exact .inr (.inr ⟨by omega,hu⟩)
section
variable {H:Type} {enc:TypeId×Value→H} {P:Program} {w:World} {base:Nat} {spare:Nat→Bool} {held:Bool}
theorem aaC {t e:TypeId}{f0 f1 f2:Field}{fuel:Nat}{v:Value}{x:DataW H×List MemPlace}(ht:P.underlying t=some (.slice e))(he:P.underlying e=some (.struct #[f0,f1,f2]))
  (hone:oneCellFields P #[f0,f1,f2]=true) (ce:P.cellsOf e=3) (u0:P.underlying f0.type=some .bool) (u1:P.underlying f1.type=some .string) (u2:P.underlying f2.type=some .string)
  (h:DataW.trod enc P w base spare held fuel t [v]=some x):∃l:List Bm.Ov,bM w v l∧((x.1=.nil∧l=[])∨∃sp,x.1=.slice (l.map opd) sp):=by
 rcases open_slice ht h with⟨hv,hx⟩|⟨a,len,cap,m,n,D,Pl,hv,hb,hl,hm,hmm,rfl,hx⟩
 ·simp at hv
  subst hv hx
  exact⟨[],bM.nil _,.inl ⟨rfl,rfl⟩⟩
 ·simp at hv
  subst hv
  have hlm:len≤m:=by rw[hmm];split<;>omega
  obtain⟨o0,c0⟩:=hone_of hone 0 f0 rfl
  obtain⟨o1,c1⟩:=hone_of hone 1 f1 rfl
  obtain⟨o2,c2⟩:=hone_of hone 2 f2 rfl
  have each:∀i,i<len→∃o:Bm.Ov,w.cell? (a.add (i*3))=some (.bool o.p)∧w.cell? (a.add (i*3+1))=some (.string o.k)∧w.cell? (a.add (i*3+2))=some (.string o.v)∧D i=opd o:=by
   intro i hi
   obtain⟨cs',h1,h2⟩:=hx i (by omega)
   rw[ce]at h1
   obtain⟨_,hlen,hcell⟩:=World.cells?_some h1
   obtain⟨y0,y1,y2,k,hxy,_,g0,g1,g2⟩:=trod_struct3 he h2
   match cs',hlen with
   |[v0,v1,v2],_=>
    simp[o0,o1,o2,c0,c1,c2]at g0 g1 g2
    obtain⟨p,hp,rfl⟩:=DataW.trod_bool u0 g0
    obtain⟨s,hs,rfl,_⟩:=DataW.trod_string u1 g1
    obtain⟨r,hr,rfl,_⟩:=DataW.trod_string u2 g2
    simp at hp hs hr
    subst hp hs hr
    have e0:=hcell 0 (by omega)
    have e1:=hcell 1 (by omega)
    have e2:=hcell 2 (by omega)
    rw[Go.Deep.add_add]at e0 e1 e2
    simp only[Prod.mk.injEq]at hxy
    exact⟨⟨p,s,r⟩,by simpa using e0,by simpa using e1,by simpa using e2,hxy.1⟩
  have:Inhabited Bm.Ov:=⟨⟨false,⟨#[]⟩,⟨#[]⟩⟩⟩
  obtain⟨f,hf⟩:=choose_lt each
  refine⟨(List.range len).map f,.inr ⟨a,cap,by simp,by simpa using hl,hm,fun j u hj=>?_⟩,.inr ⟨(List.range (m-len)).map fun j=>D (len+j),?_⟩⟩
  ·obtain⟨i,o,ho,hc⟩:=abQ _ j u hj
   obtain⟨hi,e⟩:=List.getElem?_eq_some_iff.1 ho
   simp at hi e
   obtain⟨k0,k1,k2,_⟩:=hf i hi
   subst e
   rcases hc with⟨rfl,rfl⟩|⟨rfl,rfl⟩|⟨rfl,rfl⟩
   ·exact k0
   ·exact k1
   ·exact k2
  ·show DataW.slice _ _=DataW.slice _ _
   congr 1
   rw[List.map_map]
   exact List.map_congr_left fun i hi=>(hf i (by simpa using hi)).2.2.2
theorem nI {e:TypeId}{n:Nat}{d:DataW H}:∀{ds:List (DataW H)},d∈ds→n∈d.weights P e→n∈DataW.weightsAll P e ds
 |[],h,_=>by simp at h
 |q::r,h,hn=>by
  simp only[DataW.weightsAll,List.mem_append]
  rcases List.mem_cons.1 h with rfl|h
  ·exact .inl hn
  ·exact .inr (nI h hn)
def agI (d:DataW H) (l:List Bm.Ov):Prop:=(d=.nil∧l=[])∨∃sp,d=.slice (l.map opd) sp
theorem auu {t e:TypeId}{f0 f1 f2:Field}{l:List Bm.Ov}{d:DataW H}(h:∀n∈d.weights P t,n≤reachBytes)(hd:agI d l)(hu:P.underlying t=some (.slice e))(he:P.underlying e=some (.struct #[f0,f1,f2]))(hb:P.bytesOf e=40):
  dZ l∧l.length*40≤140737488351232:=by
 rcases hd with⟨_,rfl⟩|⟨sp,rfl⟩
 ·exact⟨fun o ho=>by simp at ho,by simp⟩
 refine⟨fun o ho=>?_,?_⟩
 ·have key:∀n∈(opd (H:=H) o).weights P e,n≤140737488351232:=by
   intro n hn
   exact h n (by
    simp only[DataW.weights,hu]
    exact List.mem_cons_of_mem _ (List.mem_append_left _ (nI (List.mem_map_of_mem ho) hn)))
  constructor
  ·have:=key o.k.data.toList.length (by simp[opd,DataW.weights,he,DataW.weightsEach])
   rw[Lib.size_eq];exact this
  ·have:=key o.v.data.toList.length (by simp[opd,DataW.weights,he,DataW.weightsEach])
   rw[Lib.size_eq];exact this
 ·have:=h ((l.map (opd (H:=H))).length+sp.length|>(·*P.bytesOf e)) (by simp[DataW.weights,hu])
  rw[hb]at this
  simp only[List.length_map,reachBytes]at this
  omega
end
end Go.Proofs.YtlmkaljjocflmaaGreatDoor
namespace Go.Proofs.YtlmkaljjocflmaaGreatDoor
open Go.RowKit
open Bm (Ov)
structure Rw where
 v:Value
 l:List Ov
def rwc (a:Rw):List Value:=[a.v]
theorem atD (a:Rw):(rwc a).length=1:=rfl
def azG (w:World) (v:Value) (r:List Rw):Prop:=fP rwc w v r∧∀a∈r,bM w a.v a.l
end Go.Proofs.YtlmkaljjocflmaaGreatDoor
namespace Go.Proofs.YtlmkaljjocflmaaGreatDoor
open Go.RowKit Go.ChangeShapes Go.WideShapes Go.Deep
def ajJ (s:ByteArray):List Value:=[.string s]
theorem ae3 (s:ByteArray):(ajJ s).length=1:=rfl
def IsS (w:World) (v:Value) (ks:List ByteArray):Prop:=fP ajJ w v ks
def aqV (ks:List ByteArray):Prop:=∀s∈ks,s.size≤140737488351232
theorem IsS.full {w:World}{v:Value}{r:List ByteArray}(h:IsS w v r)(hne:0<r.length):
  ∃b off cap,v=.slice (some ⟨b,off,none⟩) r.length cap∧r.length≤cap∧cap≤maxLen∧b<w.heap.size∧∀i a,r[i]? =some a→w.cell? ⟨b,off+i,none⟩=some (.string a):=by
 obtain⟨b,off,cap,h1,h2,h3,h4,h5⟩:=fP.full ae3 (by decide) h hne
 refine⟨b,off,cap,h1,h2,h3,h4,fun i a ha=>?_⟩
 have:=h5 i a ha 0 (.string a) rfl
 simpa using this
section
variable {H:Type} {enc:TypeId×Value→H} {P:Program} {w:World} {base:Nat} {spare:Nat→Bool} {held:Bool}
theorem azj {t e o:TypeId}{g0 g1 g2:Field}{fuel:Nat}{v:Value}{x:DataW H×List MemPlace}(ht:P.underlying t=some (.slice e))(he:P.underlying e=some (.slice o))(ce:P.cellsOf e=1)
  (ho:P.underlying o=some (.struct #[g0,g1,g2])) (hone':oneCellFields P #[g0,g1,g2]=true) (co:P.cellsOf o=3) (k0:P.underlying g0.type=some .bool) (k1:P.underlying g1.type=some .string) (k2:P.underlying g2.type=some .string)
  (h:DataW.trod enc P w base spare held fuel t [v]=some x):∃r:List Rw,azG w v r∧((x.1=.nil∧r=[])∨∃ds sp,x.1=.slice ds sp∧ds.length=r.length∧∀(i:Nat) (c:Rw),r[i]? =some c→∃d,ds[i]? =some d∧agI d c.l):=by
 rcases open_slice ht h with⟨hv,hx⟩|⟨a,len,cap,m,n,D,Pl,hv,hb,hl,hm,hmm,rfl,hx⟩
 ·simp at hv
  subst hv hx
  exact⟨[],⟨fP.nil _ _,fun a ha=>by simp at ha⟩,.inl ⟨rfl,rfl⟩⟩
 ·simp at hv
  subst hv
  have hlm:len≤m:=by rw[hmm];split<;>omega
  have each:∀i,i<len→∃c:Rw,w.cell? (a.add i)=some c.v∧bM w c.v c.l∧agI (D i) c.l:=by
   intro i hi
   obtain⟨cs',h1,h2⟩:=hx i (by omega)
   rw[ce]at h1
   obtain⟨_,hlen,hcell⟩:=World.cells?_some h1
   match cs',hlen with
   |[v0],_=>
    obtain⟨l,hl2,hd2⟩:=aaC he ho hone' co k0 k1 k2 h2
    have e0:=hcell 0 (by omega)
    rw[Go.Deep.add_add]at e0
    exact⟨⟨v0,l⟩,by simpa using e0,hl2,hd2⟩
  have:Inhabited Rw:=⟨⟨.slice none 0 0,[]⟩⟩
  obtain⟨f,hf⟩:=choose_lt each
  refine⟨(List.range len).map f,⟨.inr ⟨a,cap,by simp,by simpa using hl,hm,fun j u hj=>?_⟩,fun c hc=>?_⟩,.inr ⟨(List.range len).map D,(List.range (m-len)).map fun j=>D (len+j),rfl,by simp,fun i c hic=>?_⟩⟩
  ·obtain⟨i,c,m',hic,rfl,hu⟩:=mi atD (by decide) _ j u hj
   obtain⟨hi,e⟩:=List.getElem?_eq_some_iff.1 hic
   simp at hi e
   subst e
   have hm0:m'=0:=by
    have:=(List.getElem?_eq_some_iff.1 hu).1
    simp[rwc]at this
    exact this
   subst hm0
   simp[rwc]at hu
   subst hu
   simpa using(hf i hi).1
  ·obtain⟨i,hi,rfl⟩:=List.mem_map.1 hc
   exact(hf i (by simpa using hi)).2.1
  ·obtain⟨hi,e⟩:=List.getElem?_eq_some_iff.1 hic
   simp at hi e
   subst e
   exact⟨D i,by simp[hi],(hf i hi).2.2⟩
def aeS (d:DataW H) (s:ByteArray):Prop:=d=.lit (.string s.data.toList)
theorem open_strs {t e:TypeId}{fuel:Nat}{v:Value}{x:DataW H×List MemPlace}(ht:P.underlying t=some (.slice e))(he:P.underlying e=some .string)(ce:P.cellsOf e=1)
  (h:DataW.trod enc P w base spare held fuel t [v]=some x):∃r:List ByteArray,IsS w v r∧((x.1=.nil∧r=[])∨∃ds sp,x.1=.slice ds sp∧ds.length=r.length∧∀(i:Nat) (c:ByteArray),r[i]? =some c→∃d,ds[i]? =some d∧aeS d c):=by
 rcases open_slice ht h with⟨hv,hx⟩|⟨a,len,cap,m,n,D,Pl,hv,hb,hl,hm,hmm,rfl,hx⟩
 ·simp at hv
  subst hv hx
  exact⟨[],fP.nil _ _,.inl ⟨rfl,rfl⟩⟩
 ·simp at hv
  subst hv
  have hlm:len≤m:=by rw[hmm];split<;>omega
  have each:∀i,i<len→∃c:ByteArray,w.cell? (a.add i)=some (.string c)∧aeS (D i) c:=by
   intro i hi
   obtain⟨cs',h1,h2⟩:=hx i (by omega)
   rw[ce]at h1
   obtain⟨_,hlen,hcell⟩:=World.cells?_some h1
   match cs',hlen with
   |[v0],_=>
    obtain⟨s,hs,hsd,_⟩:=DataW.trod_string he h2
    simp at hs
    subst hs
    have e0:=hcell 0 (by omega)
    rw[Go.Deep.add_add]at e0
    exact⟨s,by simpa using e0,by unfold aeS;simpa using congrArg Prod.fst hsd⟩
  have:Inhabited ByteArray:=⟨⟨#[]⟩⟩
  obtain⟨f,hf⟩:=choose_lt each
  refine⟨(List.range len).map f,.inr ⟨a,cap,by simp,by simpa using hl,hm,fun j u hj=>?_⟩,.inr ⟨(List.range len).map D,(List.range (m-len)).map fun j=>D (len+j),rfl,by simp,fun i c hic=>?_⟩⟩
  ·obtain⟨i,c,m',hic,rfl,hu⟩:=mi ae3 (by decide) _ j u hj
   obtain⟨hi,e⟩:=List.getElem?_eq_some_iff.1 hic
   simp at hi e
   subst e
   have hm0:m'=0:=by
    have:=(List.getElem?_eq_some_iff.1 hu).1
    simp[ajJ]at this
    exact this
   subst hm0
   simp[ajJ]at hu
   subst hu
   simpa using(hf i hi).1
  ·obtain⟨hi,e⟩:=List.getElem?_eq_some_iff.1 hic
   simp at hi e
   subst e
   exact⟨D i,by simp[hi],(hf i hi).2⟩
theorem ajt {ts:List TypeId}{ds:List (DataW H)}(h:(DataW.weightsEach P ts ds).all (·≤reachBytes)=true){j:Nat}{t e:TypeId}{r:List ByteArray}{es sp:List (DataW H)}(ht:ts[j]? =some t)(hd:ds[j]? =some (.slice es sp))(hlen:es.length=r.length)(hr:∀(i:Nat) (c:ByteArray),r[i]? =some c→∃d,es[i]? =some d∧aeS d c)
  (hu:P.underlying t=some (.slice e)) (he:P.underlying e=some .string) (hb:P.bytesOf e=16):
  aqV r∧r.length*16≤140737488351232:=by
 have hall:=List.all_eq_true.1 h
 refine⟨fun c hc=>?_,?_⟩
 ·obtain⟨i,hi⟩:=List.getElem?_of_mem hc
  obtain⟨d,hd1,hd2⟩:=hr i c hi
  have key:c.data.toList.length≤reachBytes:=of_decide_eq_true (hall _ (DataW.weights_mem_each ht hd _ (by
   simp only[DataW.weights,hu]
   refine List.mem_cons_of_mem _ (List.mem_append_left _ (nI (List.mem_of_getElem? hd1) ?_))
   unfold aeS at hd2
   subst hd2
   simp[DataW.weights])))
  rw[Lib.size_eq]
  exact key
 ·have:=sized_slice h ht hd hu
  rw[hb]at this
  simp only[reachBytes]at this
  omega
end
end Go.Proofs.YtlmkaljjocflmaaGreatDoor
namespace Go.Proofs.YtlmkaljjocflmaaGreatDoor
open Go.RowKit Go.ChangeShapes Go.WideShapes Go.Deep
theorem agt {z:Int}(h:(Lit.int .i64 z).wf=true):In64 z:=by
 have:=range_i64 (zs:=[z]) (by simpa using h) 0
 simp at this
 exact⟨by omega,by omega⟩
theorem abw:∀(l:List Cw) (j:Nat) (u:Value),(ccells l)[j]? =some u→∃i c,l[i]? =some c∧((j=i*3∧u=.int .i64 c.e)∨(j=i*3+1∧u=.int .i64 c.n)∨(j=i*3+2∧u=c.v))
 |[],j,u,h=>by simp[ccells]at h
 |o::r,0,u,h=>⟨0,o,rfl,.inl ⟨rfl,by simpa[ccells,iF]using h.symm⟩⟩
 |o::r,1,u,h=>⟨0,o,rfl,.inr (.inl ⟨rfl,by simpa[ccells,iF]using h.symm⟩)⟩
 |o::r,2,u,h=>⟨0,o,rfl,.inr (.inr ⟨rfl,by simpa[ccells,iF]using h.symm⟩)⟩
 |o::r,j+3,u,h=>by
  have h':(ccells r)[j]? =some u:=by simpa[ccells,iF]using h
  obtain⟨i,q,hq,hc⟩:=abw r j u h'
  refine⟨i+1,q,by simpa using hq,?_⟩
  rcases hc with⟨rfl,hu⟩|⟨rfl,hu⟩|⟨rfl,hu⟩
  ·exact .inl ⟨by omega,hu⟩
  ·exact .inr (.inl ⟨by omega,hu⟩)
  ·exact .inr (.inr ⟨by omega,hu⟩)
section
variable {H:Type} {enc:TypeId×Value→H} {P:Program} {w:World} {base:Nat} {spare:Nat→Bool} {held:Bool}
def ayK (d:DataW H) (c:Cw):Prop:=∃x0 x1 d2,d=.agg [x0,x1,d2]∧agI d2 c.l
theorem alH {t e o:TypeId}{f0 f1 f2 g0 g1 g2:Field}{fuel:Nat}{v:Value}{x:DataW H×List MemPlace}(ht:P.underlying t=some (.slice e))(he:P.underlying e=some (.struct #[f0,f1,f2]))
  (hone:oneCellFields P #[f0,f1,f2]=true) (ce:P.cellsOf e=3) (u0:P.underlying f0.type=some (.int .i64)) (u1:P.underlying f1.type=some (.int .i64)) (u2:P.underlying f2.type=some (.slice o))
  (ho:P.underlying o=some (.struct #[g0,g1,g2])) (hone':oneCellFields P #[g0,g1,g2]=true) (co:P.cellsOf o=3) (k0:P.underlying g0.type=some .bool) (k1:P.underlying g1.type=some .string) (k2:P.underlying g2.type=some .string)
  (h:DataW.trod enc P w base spare held fuel t [v]=some x):∃r:List Cw,gD w v r∧((x.1=.nil∧r=[])∨∃ds sp,x.1=.slice ds sp∧ds.length=r.length∧∀(i:Nat) (c:Cw),r[i]? =some c→∃d,ds[i]? =some d∧ayK d c):=by
 rcases open_slice ht h with⟨hv,hx⟩|⟨a,len,cap,m,n,D,Pl,hv,hb,hl,hm,hmm,rfl,hx⟩
 ·simp at hv
  subst hv hx
  exact⟨[],gD.nil _,.inl ⟨rfl,rfl⟩⟩
 ·simp at hv
  subst hv
  have hlm:len≤m:=by rw[hmm];split<;>omega
  obtain⟨o0,c0⟩:=hone_of hone 0 f0 rfl
  obtain⟨o1,c1⟩:=hone_of hone 1 f1 rfl
  obtain⟨o2,c2⟩:=hone_of hone 2 f2 rfl
  have each:∀i,i<len→∃c:Cw,(w.cell? (a.add (i*3))=some (.int .i64 c.e)∧w.cell? (a.add (i*3+1))=some (.int .i64 c.n)∧w.cell? (a.add (i*3+2))=some c.v)∧(bM w c.v c.l∧In64 c.e∧In64 c.n)∧ayK (D i) c:=by
   intro i hi
   obtain⟨cs',h1,h2⟩:=hx i (by omega)
   rw[ce]at h1
   obtain⟨_,hlen,hcell⟩:=World.cells?_some h1
   obtain⟨y0,y1,y2,k,hxy,_,q0,q1,q2⟩:=trod_struct3 he h2
   match cs',hlen with
   |[v0,v1,v2],_=>
    simp[o0,o1,o2,c0,c1,c2]at q0 q1 q2
    obtain⟨p,hp,rfl,wp⟩:=DataW.trod_int u0 q0
    obtain⟨s,hs,rfl,ws⟩:=DataW.trod_int u1 q1
    obtain⟨l,hl2,hd2⟩:=aaC u2 ho hone' co k0 k1 k2 q2
    simp at hp hs
    subst hp hs
    have e0:=hcell 0 (by omega)
    have e1:=hcell 1 (by omega)
    have e2:=hcell 2 (by omega)
    rw[Go.Deep.add_add]at e0 e1 e2
    simp only[Prod.mk.injEq]at hxy
    exact⟨⟨p,s,v2,l⟩,⟨by simpa using e0,by simpa using e1,by simpa using e2⟩,⟨hl2,agt wp,agt ws⟩,_,_,_,hxy.1,hd2⟩
  have:Inhabited Cw:=⟨⟨0,0,.slice none 0 0,[]⟩⟩
  obtain⟨f,hf⟩:=choose_lt each
  refine⟨(List.range len).map f,⟨.inr ⟨a,cap,by simp,by simpa using hl,hm,fun j u hj=>?_⟩,fun c hc=>?_⟩,.inr ⟨(List.range len).map D,(List.range (m-len)).map fun j=>D (len+j),?_,by simp,fun i c hic=>?_⟩⟩
  ·obtain⟨i,o,ho,hc⟩:=abw _ j u hj
   obtain⟨hi,e⟩:=List.getElem?_eq_some_iff.1 ho
   simp at hi e
   obtain⟨⟨k0,k1,k2⟩,_⟩:=hf i hi
   subst e
   rcases hc with⟨rfl,rfl⟩|⟨rfl,rfl⟩|⟨rfl,rfl⟩
   ·exact k0
   ·exact k1
   ·exact k2
  ·obtain⟨i,hi,rfl⟩:=List.mem_map.1 hc
   exact(hf i (by simpa using hi)).2.1
  ·rfl
  ·obtain⟨hi,e⟩:=List.getElem?_eq_some_iff.1 hic
   simp at hi e
   subst e
   exact⟨D i,by simp[hi],(hf i hi).2.2⟩
end
end Go.Proofs.YtlmkaljjocflmaaGreatDoor
