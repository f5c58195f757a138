/- Texts. -/
import Derived.Test.YtlmkaljjocflmaaGreatDoorBM1
import Derived.Test.YtlmkaljjocflmaaGreatDoorBG1
import Derived.Test.YtlmkaljjocflmaaGreatDoorBG2
set_option maxRecDepth 100000
set_option maxHeartbeats 8000000
set_option linter.unusedVariables false
namespace Go.Proofs.YtlmkaljjocflmaaGreatDoor
namespace Rl
open Dm
open Cm (Cv lastN)
def Good (nu:Int):List Cv→Prop
 |[]=>True
 |c::r=>Rn.chk c.e c.n c.l=0∧c.e-1=nu∧Good c.n r
theorem fB:∀(l m:List Cv) (nu:Int),Good nu (l++m)↔Good nu l∧Good (lastN nu l) m
 |[],m,_=>by simp[Good,lastN]
 |c::r,m,nu=>by
  simp only[List.cons_append,Good,lastN,fB r m]
  constructor
  ·rintro⟨h1,h2,h4,h5⟩;exact⟨⟨h1,h2,h4⟩,h5⟩
  ·rintro⟨⟨h1,h2,h4⟩,h5⟩;exact⟨h1,h2,h4,h5⟩
theorem dU:∀(l:List Cv) (c:Cv) (nu:Int),lastN nu (l++[c])=c.n
 |[],_,_=>rfl
 |d::r,c,nu=>by simpa[lastN]using dU r c d.n
theorem nU {l:List Cv}{c:Cv}{nu:Int}(h:Good nu l):Good nu (l++[c])↔Rn.chk c.e c.n c.l=0∧c.e-1=lastN nu l:=by
 rw[fB]
 simp[Good,h]
theorem gI:∀{l:List Cv} {nu:Int},Good nu l→∀c∈l,Rn.chk c.e c.n c.l=0
 |[],_,_,c,hc=>by simp at hc
 |d::r,nu,h,c,hc=>by
  rcases List.mem_cons.1 hc with rfl|hc
  ·exact h.1
  ·exact gI h.2.2 c hc
theorem adk:∀{l:List Cv} {nu:Int},Good nu l→nu+l.length≤lastN nu l∧(l=[]∨lastN nu l≤1048576)
 |[],_,_=>by simp[lastN]
 |c::r,nu,⟨h1,h2,h3⟩=>by
  obtain⟨_,g1,g2,g3,_⟩:=Rn.bJ h1
  obtain⟨k1,k2⟩:=adk h3
  refine⟨?_,.inr ?_⟩
  ·simp only[lastN,List.length_cons]
   omega
  ·rcases k2 with rfl|k2
   ·exact g3
   ·exact k2
theorem fM {l:List Cv}(h:Good 0 l):l.length≤1048576∧0≤lastN 0 l∧lastN 0 l≤1048576:=by
 obtain⟨h1,h2⟩:=adk h
 rcases h2 with rfl|h2
 ·simp[lastN]
 ·omega
def rec (c:Cv):List Int:=Rn.encR c.e c.n c.l
def fr (c:Cv):List Int:=Fm.dK (rec c)
def dE (l:List Cv):List Int:=Fm.cat (l.map rec)
theorem qd (l m:List Cv):dE (l++m)=dE l++dE m:=by unfold dE;rw[List.map_append,Fm.pY]
theorem zh (c:Cv):dE [c]=fr c:=by unfold dE fr;exact Fm.zn _
theorem xK {c:Cv}(h:Rn.chk c.e c.n c.l=0):(rec c).length≤52233:=Rn.abL h
theorem lG {c:Cv}(h:Rn.chk c.e c.n c.l=0):(fr c).length≤52236:=by
 have:=xK h
 unfold fr
 rw[Fm.nA]
 have:=Fm.bO (n:=(rec c).length) (by omega)
 omega
def Lg (nu:Int) (bs:List Int) (l:List Cv):Prop:=
 Good nu l∧dE l<+:bs∧∀c,Good (lastN nu l) [c]→¬fr c<+:bs.drop (dE l).length
def hld (st:Ds):List Int:=hold 2 (st.sure 2) st.wait
def App (l:List Rw):Prop:=∀r∈l,r.cut=false
structure Rs where
 d:Ds
 l:List Cv
 bk:Bool
def ask (s:Rs):Bool:=s.bk|| !s.d.on
def brk (s:Rs):Rs:=⟨s.d,s.l,true⟩
def ext (d:Ds) (bs:List Int):Int×Ds:=if (write d 2 bs).1≠0 then write d 2 bs else sync (write d 2 bs).2
def aN (s:Rs) (c:Cv):Int×Rs:=
 if ask s then(6,brk s)else if Rn.chk c.e c.n c.l≠0 then(Rn.chk c.e c.n c.l,s)else if c.e-1≠lastN 0 s.l then(15,s)
 else if (ext s.d (fr c)).1≠0 then((ext s.d (fr c)).1,⟨(ext s.d (fr c)).2,s.l,true⟩)else(0,⟨(ext s.d (fr c)).2,s.l++[c],false⟩)
theorem uj (st:Ds):(sync st).1=0∨(sync st).1=6:=by
 unfold sync
 split
 ·exact .inr rfl
 split
 ·exact .inr rfl
 ·exact .inl rfl
theorem abo:∀(n:Nat) (st:Ds) (bs:List Int),(wrt 2 n st bs).1=0∨(wrt 2 n st bs).1=6
 |0,_,_=>.inl rfl
 |n+1,st,bs=>by
  unfold wrt
  split
  ·exact .inl rfl
  split
  ·exact .inr rfl
  ·exact abo n _ _
theorem yH {st:Ds}(bs:List Int):(write st 2 bs).1=0∨(write st 2 bs).1=6:=by
 unfold write
 split
 ·exact .inr rfl
 split
 ·rename_i h
  simp[kS]at h
 ·exact abo _ _ _
theorem azq (st:Ds)(bs:List Int):(ext st bs).1=0∨(ext st bs).1=6:=by
 unfold ext
 split
 ·exact yH bs
 ·exact uj _
structure Kin (s:Rs) (all:List Cv):Prop where
 on:s.d.on=true
 bk:s.bk=false
 l:s.l=all
 good:Good 0 all
 wait:s.d.wait=[]
 sure:s.d.sure 2=dE all
structure azU (d:Ds) (sure all:List Cv):Prop where
 good:Good 0 all
 app:App d.wait
 hld:hld d<+:dE all
 dur:dE sure<+:d.sure 2
 gs:Good 0 sure
end Rl
end Go.Proofs.YtlmkaljjocflmaaGreatDoor
namespace Go.Proofs.YtlmkaljjocflmaaGreatDoor
namespace Rl
open Bm
open Cm (Cv)
theorem acd {t:List Ov}(o:Ov)(k:ByteArray)(h:Tm.Up t):Tm.get (Tm.one t o) k=if o.k=k then some o else Tm.get t k:=by
 have hu:=Tm.tN o h
 by_cases hk:o.k=k
 ·rw[if_pos hk,←hk]
  exact Tm.get_mem hu ((Tm.qf o o h).2 (.inl rfl))
 ·rw[if_neg hk]
  cases hg:Tm.get t k with
  |none=>
   refine List.find?_eq_none.2 fun x hx=>?_
   rcases(Tm.qf o x h).1 hx with rfl|⟨hx,_⟩
   ·simpa using hk
   ·simpa using Tm.get_none hg x hx
  |some x=>
   obtain⟨hx,rfl⟩:=Tm.get_some hg
   exact Tm.get_mem hu ((Tm.qf o x h).2 (.inr ⟨hx,fun e=>hk e.symm⟩))
theorem aqI (o:Ov)(l:List Ov)(k:ByteArray):Tm.get (o::l) k=if o.k=k then some o else Tm.get l k:=by
 unfold Tm.get
 rw[List.find?_cons]
 by_cases h:o.k=k<;>simp[h]
theorem acT:∀(l t:List Ov) (k:ByteArray),Tm.Up t→Tm.Up l→Tm.get (Tm.app t l) k=match Tm.get l k with|some o=>some o|none=>Tm.get t k
 |[],t,k,_,_=>rfl
 |o::l,t,k,ht,hl=>by
  obtain⟨h1,h2⟩:=List.pairwise_cons.1 hl
  rw[Tm.afC,acT l (Tm.one t o) k (Tm.tN o ht) h2,aqI,acd o k ht]
  by_cases hk:o.k=k
  ·rw[if_pos hk,if_pos hk]
   have:Tm.get l k=none:=List.find?_eq_none.2 fun x hx=>by
    have:=Tm.uA (h1 x hx)
    simp
    intro e
    exact this (hk.trans e.symm)
   rw[this]
  ·rw[if_neg hk,if_neg hk]
def ops (l:List Cv):List Ov:=l.flatMap Cv.l
def tab (l:List Cv):List Ov:=Tm.app [] (ops l)
theorem afy (l:List Cv)(c:Cv):ops (l++[c])=ops l++c.l:=by simp[ops]
theorem aaZ:Tm.Up []:=List.Pairwise.nil
theorem abE (l:List Cv):Tm.Up (tab l):=Tm.qU _ aaZ
theorem aad (l:List Cv)(c:Cv):tab (l++[c])=Tm.app (tab l) c.l:=by unfold tab;rw[afy,Tm.yG]
theorem ni {l:List Cv}{nu:Int}(h:Good nu l):∀c∈l,Tm.Up c.l∧(∀o∈c.l,o.c=0)∧c.l.length≤1024:=fun c hc=>by
 obtain⟨h1,_,_,_,h5⟩:=Rn.bJ (gI h c hc)
 exact⟨(Rn.ank h5).1,Rn.yP h5,h1⟩
theorem aeO {l:List Cv}{c:Cv}{n:Nat}(k:ByteArray)(hu:Tm.Up c.l)(hc:l[n]? =some c):Tm.get (tab (l.take (n+1))) k=match Tm.get c.l k with|some o=>some o|none=>Tm.get (tab (l.take n)) k:=by
 have e:l.take (n+1)=l.take n++[c]:=by
  obtain⟨h1,h2⟩:=List.getElem?_eq_some_iff.1 hc
  rw[List.take_add_one,hc]
  rfl
 rw[e,aad,acT _ _ _ (abE _) hu]
theorem acI:∀{l:List Cv} {n:Nat},(∀c∈l,c.l.length≤n)→(ops l).length≤l.length*n
 |[],_,_=>by simp[ops]
 |c::l,n,h=>by
  have h1:=acI fun d hd=>h d (List.mem_cons_of_mem _ hd)
  have h2:=h c List.mem_cons_self
  have e:ops (c::l)=c.l++ops l:=by simp[ops]
  rw[e,List.length_append,List.length_cons,Nat.succ_mul]
  omega
end Rl
end Go.Proofs.YtlmkaljjocflmaaGreatDoor
namespace Go.Proofs.YtlmkaljjocflmaaGreatDoor
namespace Sto
open Bm
open Cm (Cv lastN lastE)
theorem arB:∀{l:List Cv} {e e' nu:Int},Cm.Good e nu l→e'≤e→Cm.Good e' nu l
 |[],_,_,_,_,_=>trivial
 |c::r,e,e',nu,h,he=>by
  simp only[Cm.Good]at h⊢
  obtain⟨h1,h2,h3,h4⟩:=h
  exact⟨h1,h2,by omega,h4⟩
theorem vg:∀{l:List Cv} {e nu:Int},Cm.Good e nu l→lastN nu l=nu+l.length
 |[],_,_,_=>by simp[lastN]
 |c::r,e,nu,h=>by
  simp only[Cm.Good]at h
  obtain⟨h1,h2,h3,h4⟩:=h
  have:=vg h4
  simp only[lastN,List.length_cons]
  omega
theorem afe:∀{l:List Cv} {e nu:Int},Cm.Good e nu l→e≤lastE e l
 |[],_,_,_=>by simp[lastE]
 |c::r,e,nu,h=>by
  simp only[Cm.Good]at h
  obtain⟨h1,h2,h3,h4⟩:=h
  have:=afe h4
  simp only[lastE]
  omega
theorem nQ {l:List Cv}{nu:Int}(h:Cm.Good 1 nu l)(k:Nat)(hk:k≤l.length):Cm.Good 1 (nu+k) (l.drop k):=by
 have h':Cm.Good 1 nu (l.take k++l.drop k):=by rw[List.take_append_drop];exact h
 obtain⟨h1,h2⟩:=(Cm.fB _ _ _ _).1 h'
 have e:=vg h1
 rw[List.length_take,Nat.min_eq_left hk]at e
 rw[e]at h2
 exact arB h2 (afe h1)
theorem gI {l:List Cv}{e nu:Int}(h:Cm.Good e nu l):∀c∈l,Cm.chk c.e c.n c.l=0∧nu+1≤c.n∧c.n≤nu+l.length∧c.n≤1048576:=fun c hc=>by
 obtain⟨k,hk⟩:=List.getElem?_of_mem hc
 obtain⟨h1,h2,_,_⟩:=Cm.pU _ _ _ _ _ h hk
 have hl:=(List.getElem?_eq_some_iff.1 hk).1
 have:=(Cm.bJ h1).2.2.2.1
 exact⟨h1,by omega,by omega,this⟩
theorem arb {l:List Cv}{nu:Int}(h:Cm.Good 1 nu l)(h0:nu≤1048576):nu+l.length≤1048576:=by
 rcases List.eq_nil_or_concat l with rfl|⟨r,c,rfl⟩
 ·simpa using h0
 ·rw[List.concat_eq_append]at h⊢
  have e:=vg h
  rw[Rl.dU]at e
  have:=(gI h c (by simp)).2.2.2
  omega
theorem agx {l:List Cv}{e nu:Int}(h:Cm.Good e nu l):∀c∈l,1≤c.l.length∧c.l.length≤8∧∀o∈c.l,o.c=0:=fun c hc=>dM (Cm.bJ (gI h c hc).1).2.2.2.2
theorem ayT {l:List Cv}{e nu:Int}(h:Cm.Good e nu l):∀o∈Rl.ops l,o.c=0:=fun o ho=>by
 obtain⟨c,hc,ho⟩:=List.mem_flatMap.1 ho
 exact(agx h c hc).2.2 o ho
theorem atO (l m:List Cv):Rl.ops (l++m)=Rl.ops l++Rl.ops m:=by simp[Rl.ops]
theorem awf {a b:List Ov}(ha:Tm.Up a)(hb:Tm.Up b)(h:∀k,Tm.get a k=Tm.get b k):a=b:=by
 refine Tm.alD ha hb fun x=>⟨fun hx=>?_,fun hx=>?_⟩
 ·have:=Tm.get_mem ha hx
  rw[h]at this
  exact(Tm.get_some this).1
 ·have:=Tm.get_mem hb hx
  rw[←h]at this
  exact(Tm.get_some this).1
theorem aqT {P:List Ov→Prop}(h0:P [])(h1:∀l o,P l→P (l++[o])):∀l,P l:=fun l=>by
 suffices h:∀n (l:List Ov),l.length=n→P l from h _ l rfl
 intro n
 induction n with
 |zero=>intro l hl;rw[List.eq_nil_of_length_eq_zero hl];exact h0
 |succ n ih=>
  intro l hl
  rcases List.eq_nil_or_concat l with rfl|⟨r,o,rfl⟩
  ·simp at hl
  ·rw[List.concat_eq_append]at hl⊢
   refine h1 r o (ih r ?_)
   rw[List.length_append,List.length_singleton]at hl
   omega
theorem agz {t:List Ov}(ht:Tm.Up t)(k:ByteArray):∀l:List Ov,Tm.get (Tm.app t l) k=match Tm.get (Tm.app [] l) k with|some o=>some o|none=>Tm.get t k:=by
 refine aqT rfl fun l o ih=>?_
 rw[Tm.qJ,Tm.qJ,Rl.acd o k (Tm.qU l ht),Rl.acd o k (Tm.qU l Rl.aaZ),ih]
 by_cases h:o.k=k
 ·rw[if_pos h,if_pos h]
 ·rw[if_neg h,if_neg h]
theorem as5 {t:List Ov}(ht:Tm.Up t)(l:List Ov):Tm.app t (Tm.app [] l)=Tm.app t l:=by
 refine awf (Tm.qU _ ht) (Tm.qU _ ht) fun k=>?_
 rw[Rl.acT _ _ _ ht (Tm.qU l Rl.aaZ),agz ht k l]
 all_goals (cases Tm.get (Tm.app [] l) k<;>rfl)
structure Ss where
 r:Rl.Rs
 l:List Cv
def fold (s:Ss):List Ov:=Tm.app (Rl.tab s.r.l) (Rl.ops s.l)
def fin (s:Ss):Int:=lastN 0 s.r.l+s.l.length
structure Ok (s:Ss):Prop where
 run:Rl.Good 0 s.r.l
 rest:Cm.Good 1 (lastN 0 s.r.l) s.l
theorem apM (s:Ss)(k:ByteArray):Tm.get (fold s) k=match Tm.get (Rl.tab s.l) k with|some o=>some o|none=>Tm.get (Rl.tab s.r.l) k:=agz (Rl.abE _) k _
theorem Ok.bound {s:Ss}(h:Ok s):0≤lastN 0 s.r.l∧lastN 0 s.r.l≤1048576∧fin s≤1048576∧s.l.length≤1048576:=by
 obtain⟨_,h2,h3⟩:=Rl.fM h.run
 have:=arb h.rest h3
 unfold fin
 omega
theorem ase {l:List Cv}{e nu:Int}(h:Cm.Good e nu l):∀o∈Rl.tab l,o.c=0:=fun o ho=>by
 rcases Tm.ais _ o Rl.aaZ ho with h1|h1
 ·simp at h1
 ·exact ayT h o h1
theorem zb {l:List Cv}{e nu:Int}(h:Cm.Good e nu l):(Rl.tab l).length≤l.length*8:=by
 have h1:=Tm.sQ (Rl.ops l) []
 have h2:=Rl.acI (l:=l) (n:=8) fun c hc=>(agx h c hc).2.1
 unfold Rl.tab
 simp only[List.length_nil,Nat.zero_add]at h1
 omega
def zO (s:Ss) (c:Cv):Int×Ss:=if (Cm.fol (lastE 1 s.l) (fin s) 0 [c]).1≠0 then((Cm.fol (lastE 1 s.l) (fin s) 0 [c]).1,s)else(0,⟨s.r,s.l++[c]⟩)
theorem awD {s:Ss}(h:Ok s)(c:Cv):Ok (zO s c).2:=by
 unfold zO
 split
 ·exact h
 ·rename_i hf
  refine⟨h.run,(Cm.fB _ _ _ _).2 ⟨h.rest,?_⟩⟩
  rw[vg h.rest]
  exact(Cm.iN _ _ _ 0).1 (by simpa[fin]using hf)
def dW (s:Ss) (u:Int):Cv:=⟨lastN 0 s.r.l+1,u,Rl.tab (s.l.take (u-lastN 0 s.r.l).toNat)⟩
def aN (s:Ss) (u:Int):Int×Ss:=
 if u<lastN 0 s.r.l∨fin s<u then(2,s)else if u=lastN 0 s.r.l then(0,s)else if 1024<(dW s u).l.length then(3,s)
 else if (Rl.aN s.r (dW s u)).1≠0 then((Rl.aN s.r (dW s u)).1,⟨(Rl.aN s.r (dW s u)).2,s.l⟩)else(0,⟨(Rl.aN s.r (dW s u)).2,s.l.drop (u-lastN 0 s.r.l).toNat⟩)
theorem agk {s:Ss}(h:Ok s){u:Int}(h1:¬(u<lastN 0 s.r.l∨fin s<u))(h2:¬u=lastN 0 s.r.l)(h3:¬1024<(dW s u).l.length):Rn.chk (dW s u).e (dW s u).n (dW s u).l=0∧(dW s u).e-1=lastN 0 s.r.l:=by
 obtain⟨b1,b2,b3,b4⟩:=h.bound
 refine⟨Rn.iV (by omega) ⟨?_,?_,?_,?_⟩,?_⟩
 ·show 1≤lastN 0 s.r.l+1;omega
 ·show lastN 0 s.r.l+1≤u;omega
 ·show u≤1048576;omega
 ·exact Rn.awj (ase (Cm.kr h.rest _)) (Rl.abE _)
 ·show lastN 0 s.r.l+1-1=lastN 0 s.r.l;omega
theorem abP {s:Rl.Rs}{c:Cv}:(Rl.aN s c).1=0→(Rl.aN s c).2.l=s.l++[c]:=by
 unfold Rl.aN
 split
 ·intro h;simp at h
 split
 ·intro h;rename_i h1;exact absurd h h1
 split
 ·intro h;simp at h
 split
 ·intro h;rename_i h1;exact absurd h h1
 ·intro _;rfl
theorem aeW {s:Rl.Rs}{c:Cv}:(Rl.aN s c).1≠0→(Rl.aN s c).2.l=s.l:=by
 unfold Rl.aN
 split
 ·intro h;rfl
 split
 ·intro h;rfl
 split
 ·intro h;rfl
 split
 ·intro h;rfl
 ·intro h;simp at h
theorem ag0 {s:Ss}(h:Ok s)(u:Int):Ok (aN s u).2∧fold (aN s u).2=fold s∧fin (aN s u).2=fin s:=by
 unfold aN
 split
 ·exact⟨h,rfl,rfl⟩
 rename_i h1
 split
 ·exact⟨h,rfl,rfl⟩
 rename_i h2
 split
 ·exact⟨h,rfl,rfl⟩
 rename_i h3
 obtain⟨k1,k2⟩:=agk h h1 h2 h3
 split
 ·rename_i h4
  have e:=aeW h4
  refine⟨⟨?_,?_⟩,?_,?_⟩
  ·show Rl.Good 0 (Rl.aN s.r (dW s u)).2.l
   rw[e];exact h.run
  ·show Cm.Good 1 (lastN 0 (Rl.aN s.r (dW s u)).2.l) s.l
   rw[e];exact h.rest
  ·unfold fold
   simp only
   rw[e]
  ·unfold fin
   simp only
   rw[e]
 ·rename_i h4
  have e:=abP (s:=s.r) (c:=dW s u) (by simpa using h4)
  have en:lastN 0 (s.r.l++[dW s u])=u:=Rl.dU _ _ _
  have hkl:(u-lastN 0 s.r.l).toNat≤s.l.length:=by unfold fin at h1;omega
  refine⟨⟨?_,?_⟩,?_,?_⟩
  ·show Rl.Good 0 (Rl.aN s.r (dW s u)).2.l
   rw[e]
   exact(Rl.nU h.run).2 ⟨k1,k2⟩
  ·show Cm.Good 1 (lastN 0 (Rl.aN s.r (dW s u)).2.l) (s.l.drop (u-lastN 0 s.r.l).toNat)
   rw[e,en]
   have:=nQ h.rest (u-lastN 0 s.r.l).toNat hkl
   rwa[show lastN 0 s.r.l+((u-lastN 0 s.r.l).toNat:Int)=u by omega]at this
  ·unfold fold
   simp only
   rw[e,Rl.aad]
   show Tm.app (Tm.app (Rl.tab s.r.l) (Rl.tab (s.l.take (u-lastN 0 s.r.l).toNat))) _=_
   have e2:Rl.ops s.l=Rl.ops (s.l.take (u-lastN 0 s.r.l).toNat)++Rl.ops (s.l.drop (u-lastN 0 s.r.l).toNat):=by rw[←atO,List.take_append_drop]
   rw[show Rl.tab (s.l.take (u-lastN 0 s.r.l).toNat)=Tm.app [] (Rl.ops (s.l.take (u-lastN 0 s.r.l).toNat))from rfl,as5 (Rl.abE _),←Tm.yG,←e2]
  ·unfold fin
   simp only
   rw[e,en,List.length_drop]
   unfold fin at h1
   omega
end Sto
end Go.Proofs.YtlmkaljjocflmaaGreatDoor
