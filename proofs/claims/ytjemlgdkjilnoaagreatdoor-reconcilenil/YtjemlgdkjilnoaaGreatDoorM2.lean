/- Texts of one layer, one behind the other. -/
import Derived.Test.YtjemlgdkjilnoaaGreatDoorM1
import Derived.Test.YtjemlgdkjilnoaaGreatDoorG2
import Derived.Test.YtjemlgdkjilnoaaGreatDoorG3
set_option maxRecDepth 100000
set_option maxHeartbeats 8000000
namespace Go.Proofs.YtjemlgdkjilnoaaGreatDoor
set_option linter.unusedVariables false
namespace Rl
open Dm
open Cm (Cv lastN)
def Good (nu:Int):List Cv→Prop
 |[]=>True
 |c::r=>Rn.chk c.e c.n c.l=0∧c.e-1=nu∧Good c.n r
theorem dX:∀(l m:List Cv) (nu:Int),Good nu (l++m)↔Good nu l∧Good (lastN nu l) m
 |[],m,_=>by simp[Good,lastN]
 |c::r,m,nu=>by
  simp only[List.cons_append,Good,lastN,dX r m]
  constructor
  ·rintro⟨h1,h2,h4,h5⟩;exact⟨⟨h1,h2,h4⟩,h5⟩
  ·rintro⟨⟨h1,h2,h4⟩,h5⟩;exact⟨h1,h2,h4,h5⟩
theorem iI:∀(l:List Cv) (c:Cv) (nu:Int),lastN nu (l++[c])=c.n
 |[],_,_=>rfl
 |d::r,c,nu=>by simpa[lastN]using iI r c d.n
theorem acT {l:List Cv}{c:Cv}{nu:Int}(h:Good nu l):Good nu (l++[c])↔Rn.chk c.e c.n c.l=0∧c.e-1=lastN nu l:=by
 rw[dX]
 simp[Good,h]
theorem fV:∀{l:List Cv} {nu:Int},Good nu l→∀c∈l,Rn.chk c.e c.n c.l=0
 |[],_,_,c,hc=>by simp at hc
 |d::r,nu,h,c,hc=>by
  rcases List.mem_cons.1 hc with rfl|hc
  ·exact h.1
  ·exact fV h.2.2 c hc
theorem ac3:∀{l:List Cv} {nu:Int},Good nu l→nu+l.length≤lastN nu l∧(l=[]∨lastN nu l≤1048576)
 |[],_,_=>by simp[lastN]
 |c::r,nu,⟨h1,h2,h3⟩=>by
  obtain⟨_,g1,g2,g3,_⟩:=Rn.aQ h1
  obtain⟨k1,k2⟩:=ac3 h3
  refine⟨?_,.inr ?_⟩
  ·simp only[lastN,List.length_cons]
   omega
  ·rcases k2 with rfl|k2
   ·exact g3
   ·exact k2
theorem eG {l:List Cv}(h:Good 0 l):l.length≤1048576∧0≤lastN 0 l∧lastN 0 l≤1048576:=by
 obtain⟨h1,h2⟩:=ac3 h
 rcases h2 with rfl|h2
 ·simp[lastN]
 ·omega
def rec (c:Cv):List Int:=Rn.encR c.e c.n c.l
def fr (c:Cv):List Int:=Fm.cB (rec c)
def aR (l:List Cv):List Int:=Fm.cat (l.map rec)
theorem fI (c:Cv)(l:List Cv):aR (c::l)=fr c++aR l:=rfl
theorem jk (l m:List Cv):aR (l++m)=aR l++aR m:=by unfold aR;rw[List.map_append,Fm.tC]
theorem rW (c:Cv):aR [c]=fr c:=by unfold aR fr;exact Fm.yu _
theorem aeK (c:Cv):1≤(fr c).length:=Fm.yf _
theorem nU {c:Cv}(h:Rn.chk c.e c.n c.l=0):(rec c).length≤52233:=Rn.aa8 h
theorem lG {c:Cv}(h:Rn.chk c.e c.n c.l=0):(fr c).length≤52236:=by
 have:=nU h
 unfold fr
 rw[Fm.jF]
 have:=Fm.bP (n:=(rec c).length) (by omega)
 omega
theorem oG {c d:Cv}{bs:List Int}(hc:Rn.chk c.e c.n c.l=0)(hd:Rn.chk d.e d.n d.l=0)(h:fr c<+:bs)(h':fr d<+:bs):c=d:=by
 obtain⟨e1,e2,e3⟩:=Rn.aom hd hc (bs:=rec c) (Fm.ny h' h▸List.prefix_rfl) List.prefix_rfl
 cases c
 cases d
 simp only at e1 e2 e3
 rw[e1,e2,e3]
def Lg (nu:Int) (bs:List Int) (l:List Cv):Prop:=
 Good nu l∧aR l<+:bs∧∀c,Good (lastN nu l) [c]→¬fr c<+:bs.drop (aR l).length
theorem iH {nu:Int}{c:Cv}{l:List Cv}:Good nu (c::l)↔Good nu [c]∧Good c.n l:=by
 have:=dX [c] l nu
 rw[List.singleton_append]at this
 exact this
theorem gL {nu:Int}{c:Cv}{l:List Cv}(h:Good nu (c::l)):Rn.chk c.e c.n c.l=0:=h.1
theorem nz {nu:Int}{bs:List Int}{c:Cv}{l:List Cv}(h:Lg nu bs (c::l)):Good nu [c]∧fr c<+:bs∧Lg c.n (bs.drop (fr c).length) l:=by
 obtain⟨h1,h2,h3⟩:=h
 rw[fI]at h2
 obtain⟨g1,g2⟩:=iH.1 h1
 refine⟨g1,(List.prefix_append _ _).trans h2,g2,Fm.iB h2,fun d hd=>?_⟩
 rw[List.drop_drop,←List.length_append,←fI]
 exact h3 d hd
theorem aaU:∀{l m:List Cv} {nu:Int} {bs:List Int},Good nu l→aR l<+:bs→Lg nu bs m→l<+:m
 |[],_,_,_,_,_,_=>List.nil_prefix
 |c::l,[],nu,bs,h,h2,hm=>by
  exact absurd ((List.prefix_append _ _).trans h2) (hm.2.2 c (iH.1 h).1)
 |c::l,d::m,nu,bs,h,h2,hm=>by
  obtain⟨g1,g2,g3⟩:=nz hm
  rw[fI]at h2
  have e:=oG (gL h) (gL g1) ((List.prefix_append _ _).trans h2) g2
  subst e
  have:=aaU (iH.1 h).2 (Fm.iB h2) g3
  exact List.cons_prefix_cons.2 ⟨rfl,this⟩
theorem adK:∀{l m:List Cv} {nu:Int} {bs:List Int},Good nu l→bs<+:aR l→Lg nu bs m→m<+:l
 |_,[],_,_,_,_,_=>List.nil_prefix
 |[],d::m,nu,bs,h,h2,hm=>by
  obtain⟨_,g2,_⟩:=nz hm
  have h1:=(g2.trans h2).length_le
  have h3:=aeK d
  have h4:(aR []).length=0:=rfl
  omega
 |c::l,d::m,nu,bs,h,h2,hm=>by
  obtain⟨g1,g2,g3⟩:=nz hm
  rw[fI]at h2
  have e:=oG (gL h) (gL g1) (List.prefix_append _ _) (g2.trans h2)
  subst e
  obtain⟨t,rfl⟩:=g2
  rw[List.drop_left]at g3
  have ht:t<+:aR l:=by
   obtain⟨u,hu⟩:=h2
   rw[List.append_assoc]at hu
   exact⟨u,List.append_cancel_left hu⟩
  exact List.cons_prefix_cons.2 ⟨rfl,adK (iH.1 h).2 ht g3⟩
theorem zN (l:List Cv)(k:Nat):aR (l.take k)=(aR l).take (aR (l.take k)).length:=by
 have:aR l=aR (l.take k)++aR (l.drop k):=by rw[←jk,List.take_append_drop]
 rw[this,List.take_left]
def hld (st:Ds):List Int:=hold 2 (st.sure 2) st.wait
def App (l:List Rw):Prop:=∀r∈l,r.cut=false
theorem yA:App []:=fun r h=>by simp at h
theorem uN {l:List Rw}{r:Rw}(h:App l)(hr:r.cut=false):App (l++[r]):=fun x hx=>by
 rcases List.mem_append.1 hx with hx|hx
 ·exact h x hx
 ·rw[List.mem_singleton.1 hx];exact hr
theorem gm:∀(l:List Rw) (b:List Int) (f:Nat),App l→b<+:hold f b l
 |[],b,_,_=>List.prefix_rfl
 |r::l,b,f,h=>by
  have ih:=gm l (if r.file=f then je b r else b) f (fun x hx=>h x (List.mem_cons_of_mem _ hx))
  refine List.IsPrefix.trans ?_ ih
  split
  ·unfold je
   rw[h r List.mem_cons_self]
   exact List.prefix_append _ _
  ·exact List.prefix_rfl
theorem agQ {st:Ds}(h:App st.wait)(k t:Nat):st.sure 2<+:kept st k t 2∧kept st k t 2<+:hld st:=by
 have h1:App (st.wait.take k):=fun r hr=>h r (List.mem_of_mem_take hr)
 have a1:=gm (st.wait.take k) (st.sure 2) 2 h1
 have e1:hld st=hold 2 (hold 2 (st.sure 2) (st.wait.take k)) (st.wait.drop k):=by
  unfold hld
  rw[←qD,List.take_append_drop]
 unfold kept
 cases hr:st.wait[k]? with
 |none=>
  simp only
  rw[←fG]
  refine⟨a1,?_⟩
  rw[e1]
  exact gm _ _ _ (fun r hr=>h r (List.mem_of_mem_drop hr))
 |some r=>
  have hlt:=(List.getElem?_eq_some_iff.1 hr).1
  have hrr:=(List.getElem?_eq_some_iff.1 hr).2
  have hc:=h r (List.mem_of_getElem? hr)
  have e2:st.wait.drop k=r::st.wait.drop (k+1):=by rw[List.drop_eq_getElem_cons hlt,hrr]
  have h2:App (st.wait.drop (k+1)):=fun x hx=>h x (List.mem_of_mem_drop hx)
  simp only[hc,Bool.false_eq_true,if_false]
  rw[e2,hold]at e1
  unfold one
  by_cases hf:r.file=2
  ·rw[hf,vD,←fG]
   rw[if_pos hf]at e1
   have e3:je (hold 2 (st.sure 2) (st.wait.take k)) ⟨2,false,0,r.bytes.take (min t (r.bytes.length-1))⟩=hold 2 (st.sure 2) (st.wait.take k)++r.bytes.take (min t (r.bytes.length-1)):=rfl
   have e4:je (hold 2 (st.sure 2) (st.wait.take k)) r=hold 2 (st.sure 2) (st.wait.take k)++r.bytes:=by
    unfold je
    rw[hc]
    rfl
   rw[e3]
   refine⟨a1.trans (List.prefix_append _ _),?_⟩
   rw[e1,e4]
   refine List.IsPrefix.trans ?_ (gm _ _ _ h2)
   exact(List.prefix_append_right_inj _).2 (List.take_prefix _ _)
  ·rw[wZ (fun e=>hf e.symm),←fG]
   rw[if_neg hf]at e1
   refine⟨a1,?_⟩
   rw[e1]
   exact gm _ _ _ h2
structure Rs where
 d:Ds
 l:List Cv
 bk:Bool
def trm (d:Ds) (good:Nat):Int×Ds:=
 if (hld d).length=good then(0,d)else if (bG d 2 good).1≠0 then(6,(bG d 2 good).2)else if (sync (bG d 2 good).2).1≠0 then(6,(sync (bG d 2 good).2).2)else(0,(sync (bG d 2 good).2).2)
def ask (s:Rs):Bool:=s.bk|| !s.d.on
def brk (s:Rs):Rs:=⟨s.d,s.l,true⟩
def ext (d:Ds) (bs:List Int):Int×Ds:=if (write d 2 bs).1≠0 then write d 2 bs else sync (write d 2 bs).2
theorem aay (st:Ds):(sync st).1=0∨(sync st).1=6:=by
 unfold sync
 split
 ·exact .inr rfl
 split
 ·exact .inr rfl
 ·exact .inl rfl
theorem abn:∀(n:Nat) (st:Ds) (bs:List Int),(wrt 2 n st bs).1=0∨(wrt 2 n st bs).1=6
 |0,_,_=>.inl rfl
 |n+1,st,bs=>by
  unfold wrt
  split
  ·exact .inl rfl
  split
  ·exact .inr rfl
  ·exact abn n _ _
theorem acj {st:Ds}(bs:List Int):(write st 2 bs).1=0∨(write st 2 bs).1=6:=by
 unfold write
 split
 ·exact .inr rfl
 split
 ·rename_i h
  simp[iU]at h
 ·exact abn _ _ _
structure Kin (s:Rs) (all:List Cv):Prop where
 on:s.d.on=true
 bk:s.bk=false
 l:s.l=all
 good:Good 0 all
 wait:s.d.wait=[]
 sure:s.d.sure 2=aR all
structure axq (d:Ds) (sure all:List Cv):Prop where
 good:Good 0 all
 app:App d.wait
 hld:hld d<+:aR all
 dur:aR sure<+:d.sure 2
 gs:Good 0 sure
end Rl
end Go.Proofs.YtjemlgdkjilnoaaGreatDoor
namespace Go.Proofs.YtjemlgdkjilnoaaGreatDoor
set_option linter.unusedVariables false
namespace Rl
open Bm
open Cm (Cv)
def ops (l:List Cv):List Ov:=l.flatMap Cv.l
def tab (l:List Cv):List Ov:=Tm.app [] (ops l)
theorem apC (l:List Cv)(c:Cv):ops (l++[c])=ops l++c.l:=by simp[ops]
theorem anM (l:List Cv)(c:Cv):tab (l++[c])=Tm.app (tab l) c.l:=by unfold tab;rw[apC,Tm.ag1]
theorem yx {l:List Cv}{nu:Int}(h:Good nu l):∀c∈l,Tm.Up c.l∧(∀o∈c.l,o.c=0)∧c.l.length≤1024:=fun c hc=>by
 obtain⟨h1,_,_,_,h5⟩:=Rn.aQ (fV h c hc)
 exact⟨(Rn.alX h5).1,Rn.vz h5,h1⟩
theorem agP:∀{l:List Cv} {n:Nat},(∀c∈l,c.l.length≤n)→(ops l).length≤l.length*n
 |[],_,_=>by simp[ops]
 |c::l,n,h=>by
  have h1:=agP fun d hd=>h d (List.mem_cons_of_mem _ hd)
  have h2:=h c List.mem_cons_self
  have e:ops (c::l)=c.l++ops l:=by simp[ops]
  rw[e,List.length_append,List.length_cons,Nat.succ_mul]
  omega
end Rl
end Go.Proofs.YtjemlgdkjilnoaaGreatDoor
namespace Go.Proofs.YtjemlgdkjilnoaaGreatDoor
set_option linter.unusedVariables false
namespace Sto
open Bm
open Cm (Cv lastN lastE)
theorem anS:∀{l:List Cv} {e e' nu:Int},Cm.Good e nu l→e'≤e→Cm.Good e' nu l
 |[],_,_,_,_,_=>trivial
 |c::r,e,e',nu,h,he=>by
  simp only[Cm.Good]at h⊢
  obtain⟨h1,h2,h3,h4⟩:=h
  exact⟨h1,h2,by omega,h4⟩
theorem uZ:∀{l:List Cv} {e nu:Int},Cm.Good e nu l→lastN nu l=nu+l.length
 |[],_,_,_=>by simp[lastN]
 |c::r,e,nu,h=>by
  simp only[Cm.Good]at h
  obtain⟨h1,h2,h3,h4⟩:=h
  have:=uZ h4
  simp only[lastN,List.length_cons]
  omega
theorem zP:∀{l:List Cv} {e nu:Int},Cm.Good e nu l→e≤lastE e l
 |[],_,_,_=>by simp[lastE]
 |c::r,e,nu,h=>by
  simp only[Cm.Good]at h
  obtain⟨h1,h2,h3,h4⟩:=h
  have:=zP h4
  simp only[lastE]
  omega
theorem wE {l:List Cv}{nu:Int}(h:Cm.Good 1 nu l)(k:Nat)(hk:k≤l.length):Cm.Good 1 (nu+k) (l.drop k):=by
 have h':Cm.Good 1 nu (l.take k++l.drop k):=by rw[List.take_append_drop];exact h
 obtain⟨h1,h2⟩:=(Cm.dX _ _ _ _).1 h'
 have e:=uZ h1
 rw[List.length_take,Nat.min_eq_left hk]at e
 rw[e]at h2
 exact anS h2 (zP h1)
theorem fV {l:List Cv}{e nu:Int}(h:Cm.Good e nu l):∀c∈l,Cm.chk c.e c.n c.l=0∧nu+1≤c.n∧c.n≤nu+l.length∧c.n≤1048576:=fun c hc=>by
 obtain⟨k,hk⟩:=List.getElem?_of_mem hc
 obtain⟨h1,h2,_,_⟩:=Cm.nk _ _ _ _ _ h hk
 have hl:=(List.getElem?_eq_some_iff.1 hk).1
 have:=(Cm.aQ h1).2.2.2.1
 exact⟨h1,by omega,by omega,this⟩
theorem aoQ {l:List Cv}{nu:Int}(h:Cm.Good 1 nu l)(h0:nu≤1048576):nu+l.length≤1048576:=by
 rcases List.eq_nil_or_concat l with rfl|⟨r,c,rfl⟩
 ·simpa using h0
 ·rw[List.concat_eq_append]at h⊢
  have e:=uZ h
  rw[Rl.iI]at e
  have:=(fV h c (by simp)).2.2.2
  omega
theorem aoz {l:List Cv}{e nu:Int}(h:Cm.Good e nu l):∀c∈l,1≤c.l.length∧c.l.length≤8∧∀o∈c.l,o.c=0:=fun c hc=>dI (Cm.aQ (fV h c hc).1).2.2.2.2
structure Ss where
 r:Rl.Rs
 l:List Cv
def fold (s:Ss):List Ov:=Tm.app (Rl.tab s.r.l) (Rl.ops s.l)
def fin (s:Ss):Int:=lastN 0 s.r.l+s.l.length
structure Ok (s:Ss):Prop where
 run:Rl.Good 0 s.r.l
 rest:Cm.Good 1 (lastN 0 s.r.l) s.l
theorem Ok.bound {s:Ss}(h:Ok s):0≤lastN 0 s.r.l∧lastN 0 s.r.l≤1048576∧fin s≤1048576∧s.l.length≤1048576:=by
 obtain⟨_,h2,h3⟩:=Rl.eG h.run
 have:=aoQ h.rest h3
 unfold fin
 omega
theorem ahw {l:List Cv}{e nu:Int}(h:Cm.Good e nu l):(Rl.tab l).length≤l.length*8:=by
 have h1:=Tm.ab9 (Rl.ops l) []
 have h2:=Rl.agP (l:=l) (n:=8) fun c hc=>(aoz h c hc).2.1
 unfold Rl.tab
 simp only[List.length_nil,Nat.zero_add]at h1
 omega
def zC (s:Ss) (c:Cv):Int×Ss:=if (Cm.fol (lastE 1 s.l) (fin s) 0 [c]).1≠0 then((Cm.fol (lastE 1 s.l) (fin s) 0 [c]).1,s)else(0,⟨s.r,s.l++[c]⟩)
theorem av1 {s:Ss}(h:Ok s)(c:Cv):Ok (zC s c).2:=by
 unfold zC
 split
 ·exact h
 ·rename_i hf
  refine⟨h.run,(Cm.dX _ _ _ _).2 ⟨h.rest,?_⟩⟩
  rw[uZ h.rest]
  exact(Cm.eY _ _ _ 0).1 (by simpa[fin]using hf)
end Sto
end Go.Proofs.YtjemlgdkjilnoaaGreatDoor
