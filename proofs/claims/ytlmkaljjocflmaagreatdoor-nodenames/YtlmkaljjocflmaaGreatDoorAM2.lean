/- Texts of one layer, one behind the other. -/
import Derived.Test.YtlmkaljjocflmaaGreatDoorAM1
import Derived.Test.YtlmkaljjocflmaaGreatDoorAG1
import Derived.Test.YtlmkaljjocflmaaGreatDoorAG2
set_option maxRecDepth 100000
set_option maxHeartbeats 8000000
namespace Go.Proofs.YtlmkaljjocflmaaGreatDoor
set_option linter.unusedVariables false
namespace Rl
open Dm
open Cm (Cv lastN)
def Good (nu:Int):List Cv→Prop
 |[]=>True
 |c::r=>Rn.chk c.e c.n c.l=0∧c.e-1=nu∧Good c.n r
theorem dL:∀(l m:List Cv) (nu:Int),Good nu (l++m)↔Good nu l∧Good (lastN nu l) m
 |[],m,_=>by simp[Good,lastN]
 |c::r,m,nu=>by
  simp only[List.cons_append,Good,lastN,dL r m]
  constructor
  ·rintro⟨h1,h2,h4,h5⟩;exact⟨⟨h1,h2,h4⟩,h5⟩
  ·rintro⟨⟨h1,h2,h4⟩,h5⟩;exact⟨h1,h2,h4,h5⟩
theorem iF:∀(l:List Cv) (c:Cv) (nu:Int),lastN nu (l++[c])=c.n
 |[],_,_=>rfl
 |d::r,c,nu=>by simpa[lastN]using iF r c d.n
theorem abU {l:List Cv}{c:Cv}{nu:Int}(h:Good nu l):Good nu (l++[c])↔Rn.chk c.e c.n c.l=0∧c.e-1=lastN nu l:=by
 rw[dL]
 simp[Good,h]
theorem iJ:∀{l:List Cv} {nu:Int},Good nu l→∀c∈l,Rn.chk c.e c.n c.l=0
 |[],_,_,c,hc=>by simp at hc
 |d::r,nu,h,c,hc=>by
  rcases List.mem_cons.1 hc with rfl|hc
  ·exact h.1
  ·exact iJ h.2.2 c hc
theorem acC:∀{l:List Cv} {nu:Int},Good nu l→nu+l.length≤lastN nu l∧(l=[]∨lastN nu l≤1048576)
 |[],_,_=>by simp[lastN]
 |c::r,nu,⟨h1,h2,h3⟩=>by
  obtain⟨_,g1,g2,g3,_⟩:=Rn.aV h1
  obtain⟨k1,k2⟩:=acC h3
  refine⟨?_,.inr ?_⟩
  ·simp only[lastN,List.length_cons]
   omega
  ·rcases k2 with rfl|k2
   ·exact g3
   ·exact k2
theorem eU {l:List Cv}(h:Good 0 l):l.length≤1048576∧0≤lastN 0 l∧lastN 0 l≤1048576:=by
 obtain⟨h1,h2⟩:=acC h
 rcases h2 with rfl|h2
 ·simp[lastN]
 ·omega
def rec (c:Cv):List Int:=Rn.encR c.e c.n c.l
def fr (c:Cv):List Int:=Fm.dB (rec c)
def bD (l:List Cv):List Int:=Fm.cat (l.map rec)
theorem fO (c:Cv)(l:List Cv):bD (c::l)=fr c++bD l:=rfl
theorem wK (l m:List Cv):bD (l++m)=bD l++bD m:=by unfold bD;rw[List.map_append,Fm.oG]
theorem agU (c:Cv):bD [c]=fr c:=by unfold bD fr;exact Fm.wO _
theorem afM (c:Cv):1≤(fr c).length:=Fm.agi _
theorem uN {c:Cv}(h:Rn.chk c.e c.n c.l=0):(rec c).length≤52233:=Rn.zP h
theorem mi {c:Cv}(h:Rn.chk c.e c.n c.l=0):(fr c).length≤52236:=by
 have:=uN h
 unfold fr
 rw[Fm.lh]
 have:=Fm.bJ (n:=(rec c).length) (by omega)
 omega
theorem uZ {c d:Cv}{bs:List Int}(hc:Rn.chk c.e c.n c.l=0)(hd:Rn.chk d.e d.n d.l=0)(h:fr c<+:bs)(h':fr d<+:bs):c=d:=by
 obtain⟨e1,e2,e3⟩:=Rn.aeT hd hc (bs:=rec c) (Fm.wM h' h▸List.prefix_rfl) List.prefix_rfl
 cases c
 cases d
 simp only at e1 e2 e3
 rw[e1,e2,e3]
def Lg (nu:Int) (bs:List Int) (l:List Cv):Prop:=
 Good nu l∧bD l<+:bs∧∀c,Good (lastN nu l) [c]→¬fr c<+:bs.drop (bD l).length
theorem gU {nu:Int}{c:Cv}{l:List Cv}:Good nu (c::l)↔Good nu [c]∧Good c.n l:=by
 have:=dL [c] l nu
 rw[List.singleton_append]at this
 exact this
theorem fM {nu:Int}{c:Cv}{l:List Cv}(h:Good nu (c::l)):Rn.chk c.e c.n c.l=0:=h.1
theorem mg {nu:Int}{bs:List Int}{c:Cv}{l:List Cv}(h:Lg nu bs (c::l)):Good nu [c]∧fr c<+:bs∧Lg c.n (bs.drop (fr c).length) l:=by
 obtain⟨h1,h2,h3⟩:=h
 rw[fO]at h2
 obtain⟨g1,g2⟩:=gU.1 h1
 refine⟨g1,(List.prefix_append _ _).trans h2,g2,Fm.fE h2,fun d hd=>?_⟩
 rw[List.drop_drop,←List.length_append,←fO]
 exact h3 d hd
theorem aak:∀{l m:List Cv} {nu:Int} {bs:List Int},Good nu l→bD l<+:bs→Lg nu bs m→l<+:m
 |[],_,_,_,_,_,_=>List.nil_prefix
 |c::l,[],nu,bs,h,h2,hm=>by
  exact absurd ((List.prefix_append _ _).trans h2) (hm.2.2 c (gU.1 h).1)
 |c::l,d::m,nu,bs,h,h2,hm=>by
  obtain⟨g1,g2,g3⟩:=mg hm
  rw[fO]at h2
  have e:=uZ (fM h) (fM g1) ((List.prefix_append _ _).trans h2) g2
  subst e
  have:=aak (gU.1 h).2 (Fm.fE h2) g3
  exact List.cons_prefix_cons.2 ⟨rfl,this⟩
theorem adr:∀{l m:List Cv} {nu:Int} {bs:List Int},Good nu l→bs<+:bD l→Lg nu bs m→m<+:l
 |_,[],_,_,_,_,_=>List.nil_prefix
 |[],d::m,nu,bs,h,h2,hm=>by
  obtain⟨_,g2,_⟩:=mg hm
  have h1:=(g2.trans h2).length_le
  have h3:=afM d
  have h4:(bD []).length=0:=rfl
  omega
 |c::l,d::m,nu,bs,h,h2,hm=>by
  obtain⟨g1,g2,g3⟩:=mg hm
  rw[fO]at h2
  have e:=uZ (fM h) (fM g1) (List.prefix_append _ _) (g2.trans h2)
  subst e
  obtain⟨t,rfl⟩:=g2
  rw[List.drop_left]at g3
  have ht:t<+:bD l:=by
   obtain⟨u,hu⟩:=h2
   rw[List.append_assoc]at hu
   exact⟨u,List.append_cancel_left hu⟩
  exact List.cons_prefix_cons.2 ⟨rfl,adr (gU.1 h).2 ht g3⟩
def hld (st:Ds):List Int:=hold 2 (st.sure 2) st.wait
def App (l:List Rw):Prop:=∀r∈l,r.cut=false
theorem xy:App []:=fun r h=>by simp at h
theorem lY {l:List Rw}{r:Rw}(h:App l)(hr:r.cut=false):App (l++[r]):=fun x hx=>by
 rcases List.mem_append.1 hx with hx|hx
 ·exact h x hx
 ·rw[List.mem_singleton.1 hx];exact hr
theorem fB:∀(l:List Rw) (b:List Int) (f:Nat),App l→b<+:hold f b l
 |[],b,_,_=>List.prefix_rfl
 |r::l,b,f,h=>by
  have ih:=fB l (if r.file=f then iT b r else b) f (fun x hx=>h x (List.mem_cons_of_mem _ hx))
  refine List.IsPrefix.trans ?_ ih
  split
  ·unfold iT
   rw[h r List.mem_cons_self]
   exact List.prefix_append _ _
  ·exact List.prefix_rfl
theorem ahe {st:Ds}(h:App st.wait)(k t:Nat):st.sure 2<+:kept st k t 2∧kept st k t 2<+:hld st:=by
 have h1:App (st.wait.take k):=fun r hr=>h r (List.mem_of_mem_take hr)
 have a1:=fB (st.wait.take k) (st.sure 2) 2 h1
 have e1:hld st=hold 2 (hold 2 (st.sure 2) (st.wait.take k)) (st.wait.drop k):=by
  unfold hld
  rw[←tN,List.take_append_drop]
 unfold kept
 cases hr:st.wait[k]? with
 |none=>
  simp only
  rw[←gJ]
  refine⟨a1,?_⟩
  rw[e1]
  exact fB _ _ _ (fun r hr=>h r (List.mem_of_mem_drop hr))
 |some r=>
  have hlt:=(List.getElem?_eq_some_iff.1 hr).1
  have hrr:=(List.getElem?_eq_some_iff.1 hr).2
  have hc:=h r (List.mem_of_getElem? hr)
  have e2:st.wait.drop k=r::st.wait.drop (k+1):=by rw[List.drop_eq_getElem_cons hlt,hrr]
  have h2:App (st.wait.drop (k+1)):=fun x hx=>h x (List.mem_of_mem_drop hx)
  simp only[hc,Bool.false_eq_true,if_false]
  rw[e2,hold]at e1
  unfold one
  by_cases hf:r.file=2
  ·rw[hf,uf,←gJ]
   rw[if_pos hf]at e1
   have e3:iT (hold 2 (st.sure 2) (st.wait.take k)) ⟨2,false,0,r.bytes.take (min t (r.bytes.length-1))⟩=hold 2 (st.sure 2) (st.wait.take k)++r.bytes.take (min t (r.bytes.length-1)):=rfl
   have e4:iT (hold 2 (st.sure 2) (st.wait.take k)) r=hold 2 (st.sure 2) (st.wait.take k)++r.bytes:=by
    unfold iT
    rw[hc]
    rfl
   rw[e3]
   refine⟨a1.trans (List.prefix_append _ _),?_⟩
   rw[e1,e4]
   refine List.IsPrefix.trans ?_ (fB _ _ _ h2)
   exact(List.prefix_append_right_inj _).2 (List.take_prefix _ _)
  ·rw[vX (fun e=>hf e.symm),←gJ]
   rw[if_neg hf]at e1
   refine⟨a1,?_⟩
   rw[e1]
   exact fB _ _ _ h2
structure Rs where
 d:Ds
 l:List Cv
 bk:Bool
def trm (d:Ds) (good:Nat):Int×Ds:=
 if (hld d).length=good then(0,d)else if (dX d 2 good).1≠0 then(6,(dX d 2 good).2)else if (sync (dX d 2 good).2).1≠0 then(6,(sync (dX d 2 good).2).2)else(0,(sync (dX d 2 good).2).2)
def ask (s:Rs):Bool:=s.bk|| !s.d.on
def brk (s:Rs):Rs:=⟨s.d,s.l,true⟩
def ext (d:Ds) (bs:List Int):Int×Ds:=if (write d 2 bs).1≠0 then write d 2 bs else sync (write d 2 bs).2
theorem aap (st:Ds):(sync st).1=0∨(sync st).1=6:=by
 unfold sync
 split
 ·exact .inr rfl
 split
 ·exact .inr rfl
 ·exact .inl rfl
theorem aaG:∀(n:Nat) (st:Ds) (bs:List Int),(wrt 2 n st bs).1=0∨(wrt 2 n st bs).1=6
 |0,_,_=>.inl rfl
 |n+1,st,bs=>by
  unfold wrt
  split
  ·exact .inl rfl
  split
  ·exact .inr rfl
  ·exact aaG n _ _
theorem abK {st:Ds}(bs:List Int):(write st 2 bs).1=0∨(write st 2 bs).1=6:=by
 unfold write
 split
 ·exact .inr rfl
 split
 ·rename_i h
  simp[jR]at h
 ·exact aaG _ _ _
structure Kin (s:Rs) (all:List Cv):Prop where
 on:s.d.on=true
 bk:s.bk=false
 l:s.l=all
 good:Good 0 all
 wait:s.d.wait=[]
 sure:s.d.sure 2=bD all
structure awI (d:Ds) (sure all:List Cv):Prop where
 good:Good 0 all
 app:App d.wait
 hld:hld d<+:bD all
 dur:bD sure<+:d.sure 2
 gs:Good 0 sure
end Rl
end Go.Proofs.YtlmkaljjocflmaaGreatDoor
namespace Go.Proofs.YtlmkaljjocflmaaGreatDoor
set_option linter.unusedVariables false
namespace Rl
open Bm
open Cm (Cv)
theorem abg {t:List Ov}(o:Ov)(k:ByteArray)(h:Tm.Up t):Tm.get (Tm.one t o) k=if o.k=k then some o else Tm.get t k:=by
 have hu:=Tm.uJ o h
 by_cases hk:o.k=k
 ·rw[if_pos hk,←hk]
  exact Tm.get_mem hu ((Tm.rq o o h).2 (.inl rfl))
 ·rw[if_neg hk]
  cases hg:Tm.get t k with
  |none=>
   refine List.find?_eq_none.2 fun x hx=>?_
   rcases(Tm.rq o x h).1 hx with rfl|⟨hx,_⟩
   ·simpa using hk
   ·simpa using Tm.get_none hg x hx
  |some x=>
   obtain⟨hx,rfl⟩:=Tm.get_some hg
   exact Tm.get_mem hu ((Tm.rq o x h).2 (.inr ⟨hx,fun e=>hk e.symm⟩))
theorem aou (o:Ov)(l:List Ov)(k:ByteArray):Tm.get (o::l) k=if o.k=k then some o else Tm.get l k:=by
 unfold Tm.get
 rw[List.find?_cons]
 by_cases h:o.k=k<;>simp[h]
theorem agC:∀(l t:List Ov) (k:ByteArray),Tm.Up t→Tm.Up l→Tm.get (Tm.app t l) k=match Tm.get l k with|some o=>some o|none=>Tm.get t k
 |[],t,k,_,_=>rfl
 |o::l,t,k,ht,hl=>by
  obtain⟨h1,h2⟩:=List.pairwise_cons.1 hl
  rw[Tm.aex,agC l (Tm.one t o) k (Tm.uJ o ht) h2,aou,abg o k ht]
  by_cases hk:o.k=k
  ·rw[if_pos hk,if_pos hk]
   have:Tm.get l k=none:=List.find?_eq_none.2 fun x hx=>by
    have:=Tm.tL (h1 x hx)
    simp
    intro e
    exact this (hk.trans e.symm)
   rw[this]
  ·rw[if_neg hk,if_neg hk]
def ops (l:List Cv):List Ov:=l.flatMap Cv.l
def tab (l:List Cv):List Ov:=Tm.app [] (ops l)
theorem ae3 (l:List Cv)(c:Cv):ops (l++[c])=ops l++c.l:=by simp[ops]
theorem aje:Tm.Up []:=List.Pairwise.nil
theorem ajv (l:List Cv):Tm.Up (tab l):=Tm.aaQ _ aje
theorem adZ (l:List Cv)(c:Cv):tab (l++[c])=Tm.app (tab l) c.l:=by unfold tab;rw[ae3,Tm.abu]
theorem l8 {l:List Cv}{nu:Int}(h:Good nu l):∀c∈l,Tm.Up c.l∧(∀o∈c.l,o.c=0)∧c.l.length≤1024:=fun c hc=>by
 obtain⟨h1,_,_,_,h5⟩:=Rn.aV (iJ h c hc)
 exact⟨(Rn.aju h5).1,Rn.tH h5,h1⟩
theorem aea {l:List Cv}{c:Cv}{n:Nat}(k:ByteArray)(hu:Tm.Up c.l)(hc:l[n]? =some c):Tm.get (tab (l.take (n+1))) k=match Tm.get c.l k with|some o=>some o|none=>Tm.get (tab (l.take n)) k:=by
 have e:l.take (n+1)=l.take n++[c]:=by
  obtain⟨h1,h2⟩:=List.getElem?_eq_some_iff.1 hc
  rw[List.take_add_one,hc]
  rfl
 rw[e,adZ,agC _ _ _ (ajv _) hu]
theorem agM:∀{l:List Cv} {n:Nat},(∀c∈l,c.l.length≤n)→(ops l).length≤l.length*n
 |[],_,_=>by simp[ops]
 |c::l,n,h=>by
  have h1:=agM fun d hd=>h d (List.mem_cons_of_mem _ hd)
  have h2:=h c List.mem_cons_self
  have e:ops (c::l)=c.l++ops l:=by simp[ops]
  rw[e,List.length_append,List.length_cons,Nat.succ_mul]
  omega
end Rl
end Go.Proofs.YtlmkaljjocflmaaGreatDoor
namespace Go.Proofs.YtlmkaljjocflmaaGreatDoor
set_option linter.unusedVariables false
namespace Sto
open Bm
open Cm (Cv lastN lastE)
theorem alT:∀{l:List Cv} {e e' nu:Int},Cm.Good e nu l→e'≤e→Cm.Good e' nu l
 |[],_,_,_,_,_=>trivial
 |c::r,e,e',nu,h,he=>by
  simp only[Cm.Good]at h⊢
  obtain⟨h1,h2,h3,h4⟩:=h
  exact⟨h1,h2,by omega,h4⟩
theorem sP:∀{l:List Cv} {e nu:Int},Cm.Good e nu l→lastN nu l=nu+l.length
 |[],_,_,_=>by simp[lastN]
 |c::r,e,nu,h=>by
  simp only[Cm.Good]at h
  obtain⟨h1,h2,h3,h4⟩:=h
  have:=sP h4
  simp only[lastN,List.length_cons]
  omega
theorem afv:∀{l:List Cv} {e nu:Int},Cm.Good e nu l→e≤lastE e l
 |[],_,_,_=>by simp[lastE]
 |c::r,e,nu,h=>by
  simp only[Cm.Good]at h
  obtain⟨h1,h2,h3,h4⟩:=h
  have:=afv h4
  simp only[lastE]
  omega
theorem qx {l:List Cv}{nu:Int}(h:Cm.Good 1 nu l)(k:Nat)(hk:k≤l.length):Cm.Good 1 (nu+k) (l.drop k):=by
 have h':Cm.Good 1 nu (l.take k++l.drop k):=by rw[List.take_append_drop];exact h
 obtain⟨h1,h2⟩:=(Cm.dL _ _ _ _).1 h'
 have e:=sP h1
 rw[List.length_take,Nat.min_eq_left hk]at e
 rw[e]at h2
 exact alT h2 (afv h1)
theorem iJ {l:List Cv}{e nu:Int}(h:Cm.Good e nu l):∀c∈l,Cm.chk c.e c.n c.l=0∧nu+1≤c.n∧c.n≤nu+l.length∧c.n≤1048576:=fun c hc=>by
 obtain⟨k,hk⟩:=List.getElem?_of_mem hc
 obtain⟨h1,h2,_,_⟩:=Cm.ma _ _ _ _ _ h hk
 have hl:=(List.getElem?_eq_some_iff.1 hk).1
 have:=(Cm.aV h1).2.2.2.1
 exact⟨h1,by omega,by omega,this⟩
theorem amQ {l:List Cv}{nu:Int}(h:Cm.Good 1 nu l)(h0:nu≤1048576):nu+l.length≤1048576:=by
 rcases List.eq_nil_or_concat l with rfl|⟨r,c,rfl⟩
 ·simpa using h0
 ·rw[List.concat_eq_append]at h⊢
  have e:=sP h
  rw[Rl.iF]at e
  have:=(iJ h c (by simp)).2.2.2
  omega
theorem alS {l:List Cv}{e nu:Int}(h:Cm.Good e nu l):∀c∈l,1≤c.l.length∧c.l.length≤8∧∀o∈c.l,o.c=0:=fun c hc=>dJ (Cm.aV (iJ h c hc).1).2.2.2.2
theorem anv {P:List Ov→Prop}(h0:P [])(h1:∀l o,P l→P (l++[o])):∀l,P l:=fun l=>by
 suffices h:∀n (l:List Ov),l.length=n→P l from h _ l rfl
 intro n
 induction n with
 |zero=>intro l hl;rw[List.eq_nil_of_length_eq_zero hl];exact h0
 |succ n ih=>
  intro l hl
  rcases List.eq_nil_or_concat l with rfl|⟨r,o,rfl⟩
  ·simp at hl
  ·rw[List.concat_eq_append]at hl⊢
   refine h1 r o (ih r ?_)
   rw[List.length_append,List.length_singleton]at hl
   omega
theorem amH {t:List Ov}(ht:Tm.Up t)(k:ByteArray):∀l:List Ov,Tm.get (Tm.app t l) k=match Tm.get (Tm.app [] l) k with|some o=>some o|none=>Tm.get t k:=by
 refine anv rfl fun l o ih=>?_
 rw[Tm.lY,Tm.lY,Rl.abg o k (Tm.aaQ l ht),Rl.abg o k (Tm.aaQ l Rl.aje),ih]
 by_cases h:o.k=k
 ·rw[if_pos h,if_pos h]
 ·rw[if_neg h,if_neg h]
structure Ss where
 r:Rl.Rs
 l:List Cv
def fold (s:Ss):List Ov:=Tm.app (Rl.tab s.r.l) (Rl.ops s.l)
def fin (s:Ss):Int:=lastN 0 s.r.l+s.l.length
structure Ok (s:Ss):Prop where
 run:Rl.Good 0 s.r.l
 rest:Cm.Good 1 (lastN 0 s.r.l) s.l
theorem aoT (s:Ss)(k:ByteArray):Tm.get (fold s) k=match Tm.get (Rl.tab s.l) k with|some o=>some o|none=>Tm.get (Rl.tab s.r.l) k:=amH (Rl.ajv _) k _
theorem Ok.bound {s:Ss}(h:Ok s):0≤lastN 0 s.r.l∧lastN 0 s.r.l≤1048576∧fin s≤1048576∧s.l.length≤1048576:=by
 obtain⟨_,h2,h3⟩:=Rl.eU h.run
 have:=amQ h.rest h3
 unfold fin
 omega
theorem agQ {l:List Cv}{e nu:Int}(h:Cm.Good e nu l):(Rl.tab l).length≤l.length*8:=by
 have h1:=Tm.aa4 (Rl.ops l) []
 have h2:=Rl.agM (l:=l) (n:=8) fun c hc=>(alS h c hc).2.1
 unfold Rl.tab
 simp only[List.length_nil,Nat.zero_add]at h1
 omega
def yh (s:Ss) (c:Cv):Int×Ss:=if (Cm.fol (lastE 1 s.l) (fin s) 0 [c]).1≠0 then((Cm.fol (lastE 1 s.l) (fin s) 0 [c]).1,s)else(0,⟨s.r,s.l++[c]⟩)
theorem atL {s:Ss}(h:Ok s)(c:Cv):Ok (yh s c).2:=by
 unfold yh
 split
 ·exact h
 ·rename_i hf
  refine⟨h.run,(Cm.dL _ _ _ _).2 ⟨h.rest,?_⟩⟩
  rw[sP h.rest]
  exact(Cm.gH _ _ _ 0).1 (by simpa[fin]using hf)
end Sto
end Go.Proofs.YtlmkaljjocflmaaGreatDoor
