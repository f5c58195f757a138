/- Texts of one layer, one behind the other. -/
import Derived.Test.YtpifdeoepppadaaGreatDoorG2
import Derived.Test.YtpifdeoepppadaaGreatDoorG1
set_option maxRecDepth 100000
set_option maxHeartbeats 8000000
namespace Go.Proofs.YtpifdeoepppadaaGreatDoor
set_option linter.unusedVariables false
namespace Rl
open Dm
open Cm (Cv lastN)
def Good (nu:Int):List Cv→Prop
 |[]=>True
 |c::r=>Rn.aJ c.e c.n c.l=0∧c.e-1=nu∧Good c.n r
theorem dG:∀(l m:List Cv) (nu:Int),Good nu (l++m)↔Good nu l∧Good (lastN nu l) m
 |[],m,_=>by simp[Good,lastN]
 |c::r,m,nu=>by
  simp only[List.cons_append,Good,lastN,dG r m]
  constructor
  ·rintro⟨h1,h2,h4,h5⟩;exact⟨⟨h1,h2,h4⟩,h5⟩
  ·rintro⟨⟨h1,h2,h4⟩,h5⟩;exact⟨h1,h2,h4,h5⟩
theorem dX:∀(l:List Cv) (c:Cv) (nu:Int),lastN nu (l++[c])=c.n
 |[],_,_=>rfl
 |d::r,c,nu=>by simpa[lastN]using dX r c d.n
theorem mF {l:List Cv}{c:Cv}{nu:Int}(h:Good nu l):Good nu (l++[c])↔Rn.aJ c.e c.n c.l=0∧c.e-1=lastN nu l:=by
 rw[dG]
 simp[Good,h]
theorem gF:∀{l:List Cv} {nu:Int},Good nu l→∀c∈l,Rn.aJ c.e c.n c.l=0
 |[],_,_,c,hc=>by simp at hc
 |d::r,nu,h,c,hc=>by
  rcases List.mem_cons.1 hc with rfl|hc
  ·exact h.1
  ·exact gF h.2.2 c hc
theorem aew:∀{l:List Cv} {nu:Int},Good nu l→nu+l.length≤lastN nu l∧(l=[]∨lastN nu l≤1048576)
 |[],_,_=>by simp[lastN]
 |c::r,nu,⟨h1,h2,h3⟩=>by
  obtain⟨_,g1,g2,g3,_⟩:=Rn.bu h1
  obtain⟨k1,k2⟩:=aew h3
  refine⟨?_,.inr ?_⟩
  ·simp only[lastN,List.length_cons]
   omega
  ·rcases k2 with rfl|k2
   ·exact g3
   ·exact k2
theorem eB {l:List Cv}(h:Good 0 l):l.length≤1048576∧0≤lastN 0 l∧lastN 0 l≤1048576:=by
 obtain⟨h1,h2⟩:=aew h
 rcases h2 with rfl|h2
 ·simp[lastN]
 ·omega
def rec (c:Cv):List Int:=Rn.encR c.e c.n c.l
def fr (c:Cv):List Int:=Fm.dh (rec c)
def aW (l:List Cv):List Int:=Fm.cat (l.map rec)
theorem eY (c:Cv)(l:List Cv):aW (c::l)=fr c++aW l:=rfl
theorem jC (l m:List Cv):aW (l++m)=aW l++aW m:=by unfold aW;rw[List.map_append,Fm.nV]
theorem lU (c:Cv):aW [c]=fr c:=by unfold aW fr;exact Fm.uS _
theorem lq (c:Cv):1≤(fr c).length:=Fm.qM _
theorem mh {c:Cv}(h:Rn.aJ c.e c.n c.l=0):(rec c).length≤52233:=Rn.aca h
theorem kR {c:Cv}(h:Rn.aJ c.e c.n c.l=0):(fr c).length≤52236:=by
 have:=mh h
 unfold fr
 rw[Fm.jF]
 have:=Fm.fZ (n:=(rec c).length) (by omega)
 omega
theorem pJ {c d:Cv}{bs:List Int}(hc:Rn.aJ c.e c.n c.l=0)(hd:Rn.aJ d.e d.n d.l=0)(h:fr c<+:bs)(h':fr d<+:bs):c=d:=by
 obtain⟨e1,e2,e3⟩:=Rn.agd hd hc (bs:=rec c) (Fm.iR h' h▸List.prefix_rfl) List.prefix_rfl
 cases c
 cases d
 simp only at e1 e2 e3
 rw[e1,e2,e3]
def Lg (nu:Int) (bs:List Int) (l:List Cv):Prop:=
 Good nu l∧aW l<+:bs∧∀c,Good (lastN nu l) [c]→¬fr c<+:bs.drop (aW l).length
theorem gM {nu:Int}{c:Cv}{l:List Cv}:Good nu (c::l)↔Good nu [c]∧Good c.n l:=by
 have:=dG [c] l nu
 rw[List.singleton_append]at this
 exact this
theorem fq {nu:Int}{c:Cv}{l:List Cv}(h:Good nu (c::l)):Rn.aJ c.e c.n c.l=0:=h.1
theorem iy {nu:Int}{bs:List Int}{c:Cv}{l:List Cv}(h:Lg nu bs (c::l)):Good nu [c]∧fr c<+:bs∧Lg c.n (bs.drop (fr c).length) l:=by
 obtain⟨h1,h2,h3⟩:=h
 rw[eY]at h2
 obtain⟨g1,g2⟩:=gM.1 h1
 refine⟨g1,(List.prefix_append _ _).trans h2,g2,Fm.jK h2,fun d hd=>?_⟩
 rw[List.drop_drop,←List.length_append,←eY]
 exact h3 d hd
theorem rA:∀{l m:List Cv} {nu:Int} {bs:List Int},Lg nu bs l→Lg nu bs m→l=m
 |[],[],_,_,_,_=>rfl
 |[],c::m,nu,bs,h,h'=>by
  obtain⟨h1,h2,_⟩:=iy h'
  exact absurd h2 (h.2.2 c h1)
 |c::l,[],nu,bs,h,h'=>by
  obtain⟨h1,h2,_⟩:=iy h
  exact absurd h2 (h'.2.2 c h1)
 |c::l,d::m,nu,bs,h,h'=>by
  obtain⟨h1,h2,h3⟩:=iy h
  obtain⟨g1,g2,g3⟩:=iy h'
  have e:=pJ (fq h1) (fq g1) h2 g2
  subst e
  rw[rA h3 g3]
theorem acY {nu:Int}{bs:List Int}{c:Cv}{l:List Cv}(h1:Good nu [c])(h2:fr c<+:bs)(h3:Lg c.n (bs.drop (fr c).length) l):Lg nu bs (c::l):=by
 obtain⟨g1,g2,g3⟩:=h3
 refine⟨gM.2 ⟨h1,g1⟩,Fm.og h2 g2,fun d hd=>?_⟩
 have:=g3 d hd
 rw[List.drop_drop,←List.length_append,←eY]at this
 exact this
theorem akn (nu:Int)(bs:List Int):∃l,Lg nu bs l:=by
 suffices h:∀n (nu:Int) (bs:List Int),bs.length≤n→∃l,Lg nu bs l from h _ nu bs (Nat.le_refl _)
 intro n
 induction n with
 |zero=>
  intro nu bs hb
  refine⟨[],trivial,List.nil_prefix,fun c _ h=>?_⟩
  have h1:=h.length_le
  have h2:=lq c
  rw[List.length_drop]at h1
  omega
 |succ n ih=>
  intro nu bs hb
  by_cases h:∃c,Good nu [c]∧fr c<+:bs
  ·obtain⟨c,h1,h2⟩:=h
   have hp:=lq c
   obtain⟨l,hl⟩:=ih c.n (bs.drop (fr c).length) (by rw[List.length_drop];omega)
   exact⟨c::l,acY h1 h2 hl⟩
  ·exact⟨[],trivial,List.nil_prefix,fun c h1 h2=>h ⟨c,h1,h2⟩⟩
theorem adz {nu:Int}{l:List Cv}(h:Good nu l):Lg nu (aW l) l:=by
 refine⟨h,List.prefix_rfl,fun c _ k=>?_⟩
 have h1:=k.length_le
 have h2:=lq c
 rw[List.drop_length,List.length_nil]at h1
 omega
theorem uA:∀{l m:List Cv} {nu:Int} {bs:List Int},Good nu l→aW l<+:bs→Lg nu bs m→l<+:m
 |[],_,_,_,_,_,_=>List.nil_prefix
 |c::l,[],nu,bs,h,h2,hm=>by
  exact absurd ((List.prefix_append _ _).trans h2) (hm.2.2 c (gM.1 h).1)
 |c::l,d::m,nu,bs,h,h2,hm=>by
  obtain⟨g1,g2,g3⟩:=iy hm
  rw[eY]at h2
  have e:=pJ (fq h) (fq g1) ((List.prefix_append _ _).trans h2) g2
  subst e
  have:=uA (gM.1 h).2 (Fm.jK h2) g3
  exact List.cons_prefix_cons.2 ⟨rfl,this⟩
theorem zy:∀{l m:List Cv} {nu:Int} {bs:List Int},Good nu l→bs<+:aW l→Lg nu bs m→m<+:l
 |_,[],_,_,_,_,_=>List.nil_prefix
 |[],d::m,nu,bs,h,h2,hm=>by
  obtain⟨_,g2,_⟩:=iy hm
  have h1:=(g2.trans h2).length_le
  have h3:=lq d
  have h4:(aW []).length=0:=rfl
  omega
 |c::l,d::m,nu,bs,h,h2,hm=>by
  obtain⟨g1,g2,g3⟩:=iy hm
  rw[eY]at h2
  have e:=pJ (fq h) (fq g1) (List.prefix_append _ _) (g2.trans h2)
  subst e
  obtain⟨t,rfl⟩:=g2
  rw[List.drop_left]at g3
  have ht:t<+:aW l:=by
   obtain⟨u,hu⟩:=h2
   rw[List.append_assoc]at hu
   exact⟨u,List.append_cancel_left hu⟩
  exact List.cons_prefix_cons.2 ⟨rfl,zy (gM.1 h).2 ht g3⟩
def hld (st:Ds):List Int:=hold 2 (st.sure 2) st.wait
def App (l:List Rw):Prop:=∀r∈l,r.cut=false
theorem qF:App []:=fun r h=>by simp at h
theorem nY {l:List Rw}{r:Rw}(h:App l)(hr:r.cut=false):App (l++[r]):=fun x hx=>by
 rcases List.mem_append.1 hx with hx|hx
 ·exact h x hx
 ·rw[List.mem_singleton.1 hx];exact hr
theorem dU:∀(l:List Rw) (b:List Int) (f:Nat),App l→b<+:hold f b l
 |[],b,_,_=>List.prefix_rfl
 |r::l,b,f,h=>by
  have ih:=dU l (if r.file=f then iC b r else b) f (fun x hx=>h x (List.mem_cons_of_mem _ hx))
  refine List.IsPrefix.trans ?_ ih
  split
  ·unfold iC
   rw[h r List.mem_cons_self]
   exact List.prefix_append _ _
  ·exact List.prefix_rfl
theorem ajg {st:Ds}(h:App st.wait)(k t:Nat):st.sure 2<+:kept st k t 2∧kept st k t 2<+:hld st:=by
 have h1:App (st.wait.take k):=fun r hr=>h r (List.mem_of_mem_take hr)
 have a1:=dU (st.wait.take k) (st.sure 2) 2 h1
 have e1:hld st=hold 2 (hold 2 (st.sure 2) (st.wait.take k)) (st.wait.drop k):=by
  unfold hld
  rw[←rO,List.take_append_drop]
 unfold kept
 cases hr:st.wait[k]? with
 |none=>
  simp only
  rw[←eX]
  refine⟨a1,?_⟩
  rw[e1]
  exact dU _ _ _ (fun r hr=>h r (List.mem_of_mem_drop hr))
 |some r=>
  have hlt:=(List.getElem?_eq_some_iff.1 hr).1
  have hrr:=(List.getElem?_eq_some_iff.1 hr).2
  have hc:=h r (List.mem_of_getElem? hr)
  have e2:st.wait.drop k=r::st.wait.drop (k+1):=by rw[List.drop_eq_getElem_cons hlt,hrr]
  have h2:App (st.wait.drop (k+1)):=fun x hx=>h x (List.mem_of_mem_drop hx)
  simp only[hc,Bool.false_eq_true,if_false]
  rw[e2,hold]at e1
  unfold one
  by_cases hf:r.file=2
  ·rw[hf,sG,←eX]
   rw[if_pos hf]at e1
   have e3:iC (hold 2 (st.sure 2) (st.wait.take k)) ⟨2,false,0,r.bytes.take (min t (r.bytes.length-1))⟩=hold 2 (st.sure 2) (st.wait.take k)++r.bytes.take (min t (r.bytes.length-1)):=rfl
   have e4:iC (hold 2 (st.sure 2) (st.wait.take k)) r=hold 2 (st.sure 2) (st.wait.take k)++r.bytes:=by
    unfold iC
    rw[hc]
    rfl
   rw[e3]
   refine⟨a1.trans (List.prefix_append _ _),?_⟩
   rw[e1,e4]
   refine List.IsPrefix.trans ?_ (dU _ _ _ h2)
   exact(List.prefix_append_right_inj _).2 (List.take_prefix _ _)
  ·rw[sW (fun e=>hf e.symm),←eX]
   rw[if_neg hf]at e1
   refine⟨a1,?_⟩
   rw[e1]
   exact dU _ _ _ h2
structure Rs where
 d:Ds
 l:List Cv
 bk:Bool
def bT (d:Ds) (good:Nat):Int×Ds:=
 if (hld d).length=good then(0,d)else if (bg d 2 good).1≠0 then(6,(bg d 2 good).2)else if (sync (bg d 2 good).2).1≠0 then(6,(sync (bg d 2 good).2).2)else(0,(sync (bg d 2 good).2).2)
def ask (s:Rs):Bool:=s.bk|| !s.d.on
def brk (s:Rs):Rs:=⟨s.d,s.l,true⟩
def ext (d:Ds) (bs:List Int):Int×Ds:=if (write d 2 bs).1≠0 then write d 2 bs else sync (write d 2 bs).2
def aR (s:Rs) (c:Cv):Int×Rs:=
 if ask s then(6,brk s)else if Rn.aJ c.e c.n c.l≠0 then(Rn.aJ c.e c.n c.l,s)else if c.e-1≠lastN 0 s.l then(15,s)
 else if (ext s.d (fr c)).1≠0 then((ext s.d (fr c)).1,⟨(ext s.d (fr c)).2,s.l,true⟩)else(0,⟨(ext s.d (fr c)).2,s.l++[c],false⟩)
theorem mJ (st:Ds):(sync st).1=0∨(sync st).1=6:=by
 unfold sync
 split
 ·exact .inr rfl
 split
 ·exact .inr rfl
 ·exact .inl rfl
theorem acL:∀(n:Nat) (st:Ds) (bs:List Int),(wrt 2 n st bs).1=0∨(wrt 2 n st bs).1=6
 |0,_,_=>.inl rfl
 |n+1,st,bs=>by
  unfold wrt
  split
  ·exact .inl rfl
  split
  ·exact .inr rfl
  ·exact acL n _ _
theorem zD {st:Ds}(bs:List Int):(write st 2 bs).1=0∨(write st 2 bs).1=6:=by
 unfold write
 split
 ·exact .inr rfl
 split
 ·rename_i h
  simp[iV]at h
 ·exact acL _ _ _
theorem az0 (st:Ds)(bs:List Int):(ext st bs).1=0∨(ext st bs).1=6:=by
 unfold ext
 split
 ·exact zD bs
 ·exact mJ _
structure Kin (s:Rs) (all:List Cv):Prop where
 on:s.d.on=true
 bk:s.bk=false
 l:s.l=all
 good:Good 0 all
 wait:s.d.wait=[]
 sure:s.d.sure 2=aW all
structure aAe (d:Ds) (sure all:List Cv):Prop where
 good:Good 0 all
 app:App d.wait
 hld:hld d<+:aW all
 dur:aW sure<+:d.sure 2
 gs:Good 0 sure
end Rl
end Go.Proofs.YtpifdeoepppadaaGreatDoor
namespace Go.Proofs.YtpifdeoepppadaaGreatDoor
set_option linter.unusedVariables false
namespace Rl
open Bm
open Cm (Cv)
theorem ads {t:List Ov}(o:Ov)(k:ByteArray)(h:Tm.Up t):Tm.get (Tm.one t o) k=if o.k=k then some o else Tm.get t k:=by
 have hu:=Tm.vG o h
 by_cases hk:o.k=k
 ·rw[if_pos hk,←hk]
  exact Tm.get_mem hu ((Tm.qI o o h).2 (.inl rfl))
 ·rw[if_neg hk]
  cases hg:Tm.get t k with
  |none=>
   refine List.find?_eq_none.2 fun x hx=>?_
   rcases(Tm.qI o x h).1 hx with rfl|⟨hx,_⟩
   ·simpa using hk
   ·simpa using Tm.get_none hg x hx
  |some x=>
   obtain⟨hx,rfl⟩:=Tm.get_some hg
   exact Tm.get_mem hu ((Tm.qI o x h).2 (.inr ⟨hx,fun e=>hk e.symm⟩))
theorem aqf (o:Ov)(l:List Ov)(k:ByteArray):Tm.get (o::l) k=if o.k=k then some o else Tm.get l k:=by
 unfold Tm.get
 rw[List.find?_cons]
 by_cases h:o.k=k<;>simp[h]
theorem ada:∀(l t:List Ov) (k:ByteArray),Tm.Up t→Tm.Up l→Tm.get (Tm.app t l) k=match Tm.get l k with|some o=>some o|none=>Tm.get t k
 |[],t,k,_,_=>rfl
 |o::l,t,k,ht,hl=>by
  obtain⟨h1,h2⟩:=List.pairwise_cons.1 hl
  rw[Tm.agi,ada l (Tm.one t o) k (Tm.vG o ht) h2,aqf,ads o k ht]
  by_cases hk:o.k=k
  ·rw[if_pos hk,if_pos hk]
   have:Tm.get l k=none:=List.find?_eq_none.2 fun x hx=>by
    have:=Tm.vS (h1 x hx)
    simp
    intro e
    exact this (hk.trans e.symm)
   rw[this]
  ·rw[if_neg hk,if_neg hk]
def ops (l:List Cv):List Ov:=l.flatMap Cv.l
def tab (l:List Cv):List Ov:=Tm.app [] (ops l)
theorem ahC (l:List Cv)(c:Cv):ops (l++[c])=ops l++c.l:=by simp[ops]
theorem acm:Tm.Up []:=List.Pairwise.nil
theorem abC (l:List Cv):Tm.Up (tab l):=Tm.qW _ acm
theorem abl (l:List Cv)(c:Cv):tab (l++[c])=Tm.app (tab l) c.l:=by unfold tab;rw[ahC,Tm.zJ]
theorem mI {l:List Cv}{nu:Int}(h:Good nu l):∀c∈l,Tm.Up c.l∧(∀o∈c.l,o.c=0)∧c.l.length≤1024:=fun c hc=>by
 obtain⟨h1,_,_,_,h5⟩:=Rn.bu (gF h c hc)
 exact⟨(Rn.ant h5).1,Rn.qD h5,h1⟩
theorem afZ {l:List Cv}{c:Cv}{n:Nat}(k:ByteArray)(hu:Tm.Up c.l)(hc:l[n]? =some c):Tm.get (tab (l.take (n+1))) k=match Tm.get c.l k with|some o=>some o|none=>Tm.get (tab (l.take n)) k:=by
 have e:l.take (n+1)=l.take n++[c]:=by
  obtain⟨h1,h2⟩:=List.getElem?_eq_some_iff.1 hc
  rw[List.take_add_one,hc]
  rfl
 rw[e,abl,ada _ _ _ (abC _) hu]
theorem adF:∀{l:List Cv} {n:Nat},(∀c∈l,c.l.length≤n)→(ops l).length≤l.length*n
 |[],_,_=>by simp[ops]
 |c::l,n,h=>by
  have h1:=adF fun d hd=>h d (List.mem_cons_of_mem _ hd)
  have h2:=h c List.mem_cons_self
  have e:ops (c::l)=c.l++ops l:=by simp[ops]
  rw[e,List.length_append,List.length_cons,Nat.succ_mul]
  omega
end Rl
end Go.Proofs.YtpifdeoepppadaaGreatDoor
namespace Go.Proofs.YtpifdeoepppadaaGreatDoor
set_option linter.unusedVariables false
namespace Sto
open Bm
open Cm (Cv lastN lastE)
theorem aoq:∀{l:List Cv} {e e' nu:Int},Cm.Good e nu l→e'≤e→Cm.Good e' nu l
 |[],_,_,_,_,_=>trivial
 |c::r,e,e',nu,h,he=>by
  simp only[Cm.Good]at h⊢
  obtain⟨h1,h2,h3,h4⟩:=h
  exact⟨h1,h2,by omega,h4⟩
theorem rz:∀{l:List Cv} {e nu:Int},Cm.Good e nu l→lastN nu l=nu+l.length
 |[],_,_,_=>by simp[lastN]
 |c::r,e,nu,h=>by
  simp only[Cm.Good]at h
  obtain⟨h1,h2,h3,h4⟩:=h
  have:=rz h4
  simp only[lastN,List.length_cons]
  omega
theorem aaU:∀{l:List Cv} {e nu:Int},Cm.Good e nu l→e≤lastE e l
 |[],_,_,_=>by simp[lastE]
 |c::r,e,nu,h=>by
  simp only[Cm.Good]at h
  obtain⟨h1,h2,h3,h4⟩:=h
  have:=aaU h4
  simp only[lastE]
  omega
theorem l8 {l:List Cv}{nu:Int}(h:Cm.Good 1 nu l)(k:Nat)(hk:k≤l.length):Cm.Good 1 (nu+k) (l.drop k):=by
 have h':Cm.Good 1 nu (l.take k++l.drop k):=by rw[List.take_append_drop];exact h
 obtain⟨h1,h2⟩:=(Cm.dG _ _ _ _).1 h'
 have e:=rz h1
 rw[List.length_take,Nat.min_eq_left hk]at e
 rw[e]at h2
 exact aoq h2 (aaU h1)
theorem gF {l:List Cv}{e nu:Int}(h:Cm.Good e nu l):∀c∈l,Cm.aJ c.e c.n c.l=0∧nu+1≤c.n∧c.n≤nu+l.length∧c.n≤1048576:=fun c hc=>by
 obtain⟨k,hk⟩:=List.getElem?_of_mem hc
 obtain⟨h1,h2,_,_⟩:=Cm.qK _ _ _ _ _ h hk
 have hl:=(List.getElem?_eq_some_iff.1 hk).1
 have:=(Cm.bu h1).2.2.2.1
 exact⟨h1,by omega,by omega,this⟩
theorem apH {l:List Cv}{nu:Int}(h:Cm.Good 1 nu l)(h0:nu≤1048576):nu+l.length≤1048576:=by
 rcases List.eq_nil_or_concat l with rfl|⟨r,c,rfl⟩
 ·simpa using h0
 ·rw[List.concat_eq_append]at h⊢
  have e:=rz h
  rw[Rl.dX]at e
  have:=(gF h c (by simp)).2.2.2
  omega
theorem agG {l:List Cv}{e nu:Int}(h:Cm.Good e nu l):∀c∈l,1≤c.l.length∧c.l.length≤8∧∀o∈c.l,o.c=0:=fun c hc=>dM (Cm.bu (gF h c hc).1).2.2.2.2
theorem av5 {l:List Cv}{e nu:Int}(h:Cm.Good e nu l):∀o∈Rl.ops l,o.c=0:=fun o ho=>by
 obtain⟨c,hc,ho⟩:=List.mem_flatMap.1 ho
 exact(agG h c hc).2.2 o ho
theorem auu (l m:List Cv):Rl.ops (l++m)=Rl.ops l++Rl.ops m:=by simp[Rl.ops]
theorem ayx {a b:List Ov}(ha:Tm.Up a)(hb:Tm.Up b)(h:∀k,Tm.get a k=Tm.get b k):a=b:=by
 refine Tm.anu ha hb fun x=>⟨fun hx=>?_,fun hx=>?_⟩
 ·have:=Tm.get_mem ha hx
  rw[h]at this
  exact(Tm.get_some this).1
 ·have:=Tm.get_mem hb hx
  rw[←h]at this
  exact(Tm.get_some this).1
theorem aq5 {P:List Ov→Prop}(h0:P [])(h1:∀l o,P l→P (l++[o])):∀l,P l:=fun l=>by
 suffices h:∀n (l:List Ov),l.length=n→P l from h _ l rfl
 intro n
 induction n with
 |zero=>intro l hl;rw[List.eq_nil_of_length_eq_zero hl];exact h0
 |succ n ih=>
  intro l hl
  rcases List.eq_nil_or_concat l with rfl|⟨r,o,rfl⟩
  ·simp at hl
  ·rw[List.concat_eq_append]at hl⊢
   refine h1 r o (ih r ?_)
   rw[List.length_append,List.length_singleton]at hl
   omega
theorem afN {t:List Ov}(ht:Tm.Up t)(k:ByteArray):∀l:List Ov,Tm.get (Tm.app t l) k=match Tm.get (Tm.app [] l) k with|some o=>some o|none=>Tm.get t k:=by
 refine aq5 rfl fun l o ih=>?_
 rw[Tm.nY,Tm.nY,Rl.ads o k (Tm.qW l ht),Rl.ads o k (Tm.qW l Rl.acm),ih]
 by_cases h:o.k=k
 ·rw[if_pos h,if_pos h]
 ·rw[if_neg h,if_neg h]
theorem atU {t:List Ov}(ht:Tm.Up t)(l:List Ov):Tm.app t (Tm.app [] l)=Tm.app t l:=by
 refine ayx (Tm.qW _ ht) (Tm.qW _ ht) fun k=>?_
 rw[Rl.ada _ _ _ ht (Tm.qW l Rl.acm),afN ht k l]
 all_goals (cases Tm.get (Tm.app [] l) k<;>rfl)
structure Ss where
 r:Rl.Rs
 l:List Cv
def fold (s:Ss):List Ov:=Tm.app (Rl.tab s.r.l) (Rl.ops s.l)
def fin (s:Ss):Int:=lastN 0 s.r.l+s.l.length
structure Ok (s:Ss):Prop where
 run:Rl.Good 0 s.r.l
 rest:Cm.Good 1 (lastN 0 s.r.l) s.l
theorem aq8 (s:Ss)(k:ByteArray):Tm.get (fold s) k=match Tm.get (Rl.tab s.l) k with|some o=>some o|none=>Tm.get (Rl.tab s.r.l) k:=afN (Rl.abC _) k _
theorem Ok.bound {s:Ss}(h:Ok s):0≤lastN 0 s.r.l∧lastN 0 s.r.l≤1048576∧fin s≤1048576∧s.l.length≤1048576:=by
 obtain⟨_,h2,h3⟩:=Rl.eB h.run
 have:=apH h.rest h3
 unfold fin
 omega
theorem ath {l:List Cv}{e nu:Int}(h:Cm.Good e nu l):∀o∈Rl.tab l,o.c=0:=fun o ho=>by
 rcases Tm.aju _ o Rl.acm ho with h1|h1
 ·simp at h1
 ·exact av5 h o h1
theorem ac4 {l:List Cv}{e nu:Int}(h:Cm.Good e nu l):(Rl.tab l).length≤l.length*8:=by
 have h1:=Tm.uZ (Rl.ops l) []
 have h2:=Rl.adF (l:=l) (n:=8) fun c hc=>(agG h c hc).2.1
 unfold Rl.tab
 simp only[List.length_nil,Nat.zero_add]at h1
 omega
def apl (s:Ss) (c:Cv):Int×Ss:=if (Cm.fol (lastE 1 s.l) (fin s) 0 [c]).1≠0 then((Cm.fol (lastE 1 s.l) (fin s) 0 [c]).1,s)else(0,⟨s.r,s.l++[c]⟩)
theorem awv {s:Ss}(h:Ok s)(c:Cv):Ok (apl s c).2:=by
 unfold apl
 split
 ·exact h
 ·rename_i hf
  refine⟨h.run,(Cm.dG _ _ _ _).2 ⟨h.rest,?_⟩⟩
  rw[rz h.rest]
  exact(Cm.il _ _ _ 0).1 (by simpa[fin]using hf)
def eG (s:Ss) (u:Int):Cv:=⟨lastN 0 s.r.l+1,u,Rl.tab (s.l.take (u-lastN 0 s.r.l).toNat)⟩
def aR (s:Ss) (u:Int):Int×Ss:=
 if u<lastN 0 s.r.l∨fin s<u then(2,s)else if u=lastN 0 s.r.l then(0,s)else if 1024<(eG s u).l.length then(3,s)
 else if (Rl.aR s.r (eG s u)).1≠0 then((Rl.aR s.r (eG s u)).1,⟨(Rl.aR s.r (eG s u)).2,s.l⟩)else(0,⟨(Rl.aR s.r (eG s u)).2,s.l.drop (u-lastN 0 s.r.l).toNat⟩)
theorem ah7 {s:Ss}(h:Ok s){u:Int}(h1:¬(u<lastN 0 s.r.l∨fin s<u))(h2:¬u=lastN 0 s.r.l)(h3:¬1024<(eG s u).l.length):Rn.aJ (eG s u).e (eG s u).n (eG s u).l=0∧(eG s u).e-1=lastN 0 s.r.l:=by
 obtain⟨b1,b2,b3,b4⟩:=h.bound
 refine⟨Rn.iD (by omega) ⟨?_,?_,?_,?_⟩,?_⟩
 ·show 1≤lastN 0 s.r.l+1;omega
 ·show lastN 0 s.r.l+1≤u;omega
 ·show u≤1048576;omega
 ·exact Rn.ayv (ath (Cm.lY h.rest _)) (Rl.abC _)
 ·show lastN 0 s.r.l+1-1=lastN 0 s.r.l;omega
theorem ab3 {s:Rl.Rs}{c:Cv}:(Rl.aR s c).1=0→(Rl.aR s c).2.l=s.l++[c]:=by
 unfold Rl.aR
 split
 ·intro h;simp at h
 split
 ·intro h;rename_i h1;exact absurd h h1
 split
 ·intro h;simp at h
 split
 ·intro h;rename_i h1;exact absurd h h1
 ·intro _;rfl
theorem ahs {s:Rl.Rs}{c:Cv}:(Rl.aR s c).1≠0→(Rl.aR s c).2.l=s.l:=by
 unfold Rl.aR
 split
 ·intro h;rfl
 split
 ·intro h;rfl
 split
 ·intro h;rfl
 split
 ·intro h;rfl
 ·intro h;simp at h
theorem afX {s:Ss}(h:Ok s)(u:Int):Ok (aR s u).2∧fold (aR s u).2=fold s∧fin (aR s u).2=fin s:=by
 unfold aR
 split
 ·exact⟨h,rfl,rfl⟩
 rename_i h1
 split
 ·exact⟨h,rfl,rfl⟩
 rename_i h2
 split
 ·exact⟨h,rfl,rfl⟩
 rename_i h3
 obtain⟨k1,k2⟩:=ah7 h h1 h2 h3
 split
 ·rename_i h4
  have e:=ahs h4
  refine⟨⟨?_,?_⟩,?_,?_⟩
  ·show Rl.Good 0 (Rl.aR s.r (eG s u)).2.l
   rw[e];exact h.run
  ·show Cm.Good 1 (lastN 0 (Rl.aR s.r (eG s u)).2.l) s.l
   rw[e];exact h.rest
  ·unfold fold
   simp only
   rw[e]
  ·unfold fin
   simp only
   rw[e]
 ·rename_i h4
  have e:=ab3 (s:=s.r) (c:=eG s u) (by simpa using h4)
  have en:lastN 0 (s.r.l++[eG s u])=u:=Rl.dX _ _ _
  have hkl:(u-lastN 0 s.r.l).toNat≤s.l.length:=by unfold fin at h1;omega
  refine⟨⟨?_,?_⟩,?_,?_⟩
  ·show Rl.Good 0 (Rl.aR s.r (eG s u)).2.l
   rw[e]
   exact(Rl.mF h.run).2 ⟨k1,k2⟩
  ·show Cm.Good 1 (lastN 0 (Rl.aR s.r (eG s u)).2.l) (s.l.drop (u-lastN 0 s.r.l).toNat)
   rw[e,en]
   have:=l8 h.rest (u-lastN 0 s.r.l).toNat hkl
   rwa[show lastN 0 s.r.l+((u-lastN 0 s.r.l).toNat:Int)=u by omega]at this
  ·unfold fold
   simp only
   rw[e,Rl.abl]
   show Tm.app (Tm.app (Rl.tab s.r.l) (Rl.tab (s.l.take (u-lastN 0 s.r.l).toNat))) _=_
   have e2:Rl.ops s.l=Rl.ops (s.l.take (u-lastN 0 s.r.l).toNat)++Rl.ops (s.l.drop (u-lastN 0 s.r.l).toNat):=by rw[←auu,List.take_append_drop]
   rw[show Rl.tab (s.l.take (u-lastN 0 s.r.l).toNat)=Tm.app [] (Rl.ops (s.l.take (u-lastN 0 s.r.l).toNat))from rfl,atU (Rl.abC _),←Tm.zJ,←e2]
  ·unfold fin
   simp only
   rw[e,en,List.length_drop]
   unfold fin at h1
   omega
end Sto
end Go.Proofs.YtpifdeoepppadaaGreatDoor
namespace Go.Proofs.YtpifdeoepppadaaGreatDoor
set_option linter.unusedVariables false
namespace Pm
structure Pg where
 e:Int
 r:Int
 a:Int
 p:Int
 f:Int
 b:Int
theorem Pg.eq {x y:Pg}(h1:x.e=y.e)(h2:x.r=y.r)(h3:x.a=y.a)(h4:x.p=y.p)(h5:x.f=y.f)(h6:x.b=y.b):x=y:=by
 cases x;cases y;simp at*;exact⟨h1,h2,h3,h4,h5,h6⟩
def no:Pg:=⟨0,0,0,0,0,0⟩
abbrev Bnd (x:Pg):Prop:=1≤x.e∧x.e≤1048576∧0≤x.a∧x.a≤1048576∧0≤x.f∧x.f≤1048576∧0≤x.b∧x.b≤1073741824
abbrev Own (x:Pg):Prop:=
 (x.r=1∧x.p=0∧x.f=0∧x.b=0)∨(x.r=2∧x.a=0∧x.p=0∧x.f=0∧x.b=0)∨(x.r=3∧x.a=0∧x.p=1∧x.f=0∧x.b=0)∨(x.r=3∧x.a=0∧2≤x.p∧x.p≤4)
abbrev Ok (x:Pg):Prop:=Bnd x∧Own x
def aJ (x:Pg):Int:=if Ok x then 0 else 2
theorem iD {x:Pg}(h:Ok x):aJ x=0:=if_pos h
theorem iW {x:Pg}(h:¬Ok x):aJ x=2:=if_neg h
theorem adw {x:Pg}:aJ x=0↔Ok x:=by
 by_cases h:Ok x
 ·exact⟨fun _=>h,fun _=>iD h⟩
 ·exact⟨fun k=>by rw[iW h]at k;exact absurd k (by decide),fun k=>absurd k h⟩
theorem nM {x:Pg}(h:Ok x):1≤x.e∧x.e≤1048576∧1≤x.r∧x.r≤3∧0≤x.a∧x.a≤1048576∧0≤x.p∧x.p≤4∧0≤x.f∧x.f≤1048576∧0≤x.b∧x.b≤1073741824:=by
 obtain⟨⟨h1,h2,h3,h4,h5,h6,h7,h8⟩,h9⟩:=h
 unfold Own at h9
 omega
def nums (x:Pg):List Int:=[x.e,x.r,x.a,x.p,x.f,x.b]
def encs:List Int→List Int
 |[]=>[]
 |z::l=>Vm.enc z.toNat++encs l
theorem si:∀l m:List Int,encs (l++m)=encs l++encs m
 |[],m=>rfl
 |z::l,m=>by simp[encs,si l m]
def enc (x:Pg):List Int:=encs (nums x)
theorem wT:∀{l m:List Int} {bs:List Int},l.length=m.length→(∀z∈l,0≤z)→(∀z∈m,0≤z)→encs l<+:bs→encs m<+:bs→l=m
 |[],[],_,_,_,_,_,_=>rfl
 |[],_::_,_,h,_,_,_,_=>by simp at h
 |_::_,[],_,h,_,_,_,_=>by simp at h
 |x::l,y::m,bs,h,hx,hy,h1,h2=>by
  have e:=Vm.bI bs _ _ ((List.prefix_append _ _).trans h1) ((List.prefix_append _ _).trans h2)
  have ex:x=y:=by
   have:=hx x (by simp)
   have:=hy y (by simp)
   omega
  subst ex
  have:=wT (by simpa using h) (fun z hz=>hx z (by simp[hz])) (fun z hz=>hy z (by simp[hz])) (Fm.jK h1) (Fm.jK h2)
  rw[this]
theorem wD {x:Pg}(h:Ok x):∀z∈nums x,0≤z:=by
 have:=nM h
 intro z hz
 simp[nums]at hz
 omega
theorem agO {x y:Pg}(h:nums x=nums y):x=y:=by
 unfold nums at h
 simp at h
 exact Pg.eq h.1 h.2.1 h.2.2.1 h.2.2.2.1 h.2.2.2.2.1 h.2.2.2.2.2
theorem zw {x y:Pg}{bs:List Int}(h:Ok x)(h':Ok y)(h1:enc x<+:bs)(h2:enc y<+:bs):x=y:=
 agO (wT rfl (wD h) (wD h') h1 h2)
theorem aga:∀{l:List Int},(∀z∈l,z<18446744073709551616)→(encs l).length≤10*l.length∧l.length≤(encs l).length
 |[],_=>by simp[encs]
 |z::l,h=>by
  have h1:=aga (l:=l) (fun y hy=>h y (by simp[hy]))
  have h2:=h z (by simp)
  have h3:=Vm.gK (x:=z.toNat) (by omega)
  have h4:=Vm.sJ z.toNat
  unfold Vm.sz at h3 h4
  simp[encs]
  omega
theorem qG {x:Pg}(h:Ok x):(enc x).length≤60:=by
 have:=nM h
 have:=(aga (l:=nums x) (fun z hz=>by simp[nums]at hz;omega)).1
 exact this
def Dc (bs:List Int) (x:Pg) (e:Int):Prop:=
 (e=0∧Ok x∧bs=enc x)∨(e=5∧x=no∧∀y,Ok y→bs≠enc y)
def Run (bs:List Int) (l:List Int):Prop:=encs l<+:bs
theorem auG {bs l:List Int}{k:Nat}{m:Nat}(hk:k<6)(hl:l.length=k)(hp:∀z∈l,0≤z)(h:encs l<+:bs)(hm:∀x:Pg,Ok x→(nums x).getD k 0≤m)
  (hn:∀u:Nat,u≤m→¬Vm.enc u<+:bs.drop (encs l).length):Dc bs no 5:=by
 refine .inr ⟨rfl,rfl,fun y hy e=>?_⟩
 have hlen:(nums y).length=6:=rfl
 have es:nums y=(nums y).take k++((nums y).getD k 0::(nums y).drop (k+1)):=by
  have h1:k<(nums y).length:=by omega
  rw[List.getD_eq_getElem?_getD,List.getElem?_eq_getElem h1,Option.getD_some,←List.drop_eq_getElem_cons h1,List.take_append_drop]
 have hpy:=wD hy
 have h1:encs ((nums y).take k)<+:bs:=by
  rw[e]
  unfold enc
  have:nums y=(nums y).take k++(nums y).drop k:=(List.take_append_drop _ _).symm
  conv=>rhs;rw[this,si]
  exact List.prefix_append _ _
 have h2:l=(nums y).take k:=wT (by rw[List.length_take];omega) hp (fun z hz=>hpy z (List.mem_of_mem_take hz)) h h1
 have h3:=hm y hy
 have h4:0≤(nums y).getD k 0:=by
  have h1:k<(nums y).length:=by omega
  rw[List.getD_eq_getElem?_getD,List.getElem?_eq_getElem h1,Option.getD_some]
  exact hpy _ (List.getElem_mem h1)
 refine hn ((nums y).getD k 0).toNat (by omega) ?_
 have h5:bs=encs l++(Vm.enc ((nums y).getD k 0).toNat++encs ((nums y).drop (k+1))):=by
  rw[e]
  unfold enc
  conv=>lhs;rw[es,si,←h2]
  rfl
 rw[h5,List.drop_left]
 exact List.prefix_append _ _
theorem axB {bs:List Int}{x:Pg}(hp:∀z∈nums x,0≤z)(h:enc x<+:bs):(Ok x→(enc x).length=bs.length→Dc bs x 0)∧((¬Ok x∨(enc x).length≠bs.length)→Dc bs no 5):=by
 refine⟨fun h1 h2=>.inl ⟨rfl,h1,(h.eq_of_length h2).symm⟩,fun h1=>.inr ⟨rfl,rfl,fun y hy e=>?_⟩⟩
 have:nums x=nums y:=wT rfl hp (wD hy) (bs:=bs) h (by rw[e];exact List.prefix_refl _)
 have:=agO this
 subst this
 rcases h1 with h1|h1
 ·exact h1 hy
 ·exact h1 (by rw[e])
def Ls (bs:List Int) (z x:Pg) (n:Nat):Prop:=
 ∃l:List Pg,(∀y∈l,Ok y)∧Fm.cat (l.map enc)<+:bs∧n=(Fm.cat (l.map enc)).length∧x=l.getLast?.getD z∧∀y,Ok y→¬Fm.dh (enc y)<+:bs.drop n
theorem aiR:∀{l m:List Pg} {bs:List Int},(∀y∈l,Ok y)→(∀y∈m,Ok y)→Fm.cat (l.map enc)<+:bs→Fm.cat (m.map enc)<+:bs→
  (∀y,Ok y→¬Fm.dh (enc y)<+:bs.drop (Fm.cat (l.map enc)).length)→(∀y,Ok y→¬Fm.dh (enc y)<+:bs.drop (Fm.cat (m.map enc)).length)→l=m
 |[],[],_,_,_,_,_,_,_=>rfl
 |[],y::m,bs,h1,h2,h3,h4,h5,h6=>by
  have:=h5 y (h2 y (by simp))
  simp[Fm.cat]at this
  exact absurd ((List.prefix_append _ _).trans h4) this
 |x::l,[],bs,h1,h2,h3,h4,h5,h6=>by
  have:=h6 x (h1 x (by simp))
  simp[Fm.cat]at this
  exact absurd ((List.prefix_append _ _).trans h3) this
 |x::l,y::m,bs,h1,h2,h3,h4,h5,h6=>by
  have e:=Fm.iR ((List.prefix_append _ _).trans h3) ((List.prefix_append _ _).trans h4)
  have ox:=h1 x (by simp)
  have oy:=h2 y (by simp)
  have ex:x=y:=zw ox oy (bs:=enc y) (by rw[e];exact List.prefix_refl _) (List.prefix_refl _)
  subst ex
  have:=aiR (l:=l) (m:=m) (bs:=bs.drop (Fm.dh (enc x)).length) (fun z hz=>h1 z (by simp[hz])) (fun z hz=>h2 z (by simp[hz])) (Fm.jK h3) (Fm.jK h4)
   (fun z hz=>by have:=h5 z hz;simp only[List.map_cons,Fm.cat,List.length_append]at this;rw[List.drop_drop];exact this)
   (fun z hz=>by have:=h6 z hz;simp only[List.map_cons,Fm.cat,List.length_append]at this;rw[List.drop_drop];exact this)
  rw[this]
theorem aby {bs:List Int}{z x y:Pg}{n m:Nat}(h:Ls bs z x n)(h':Ls bs z y m):x=y∧n=m:=by
 obtain⟨l,h1,h2,h3,h4,h5⟩:=h
 obtain⟨k,g1,g2,g3,g4,g5⟩:=h'
 have:l=k:=aiR h1 g1 h2 g2 (by rw[←h3];exact h5) (by rw[←g3];exact g5)
 subst this
 exact⟨h4.trans g4.symm,h3.trans g3.symm⟩
def Go (bs:List Int) (z x:Pg) (n:Nat):Prop:=
 ∃l:List Pg,(∀y∈l,Ok y)∧Fm.cat (l.map enc)<+:bs∧n=(Fm.cat (l.map enc)).length∧x=l.getLast?.getD z
theorem apS (bs:List Int)(z:Pg):Go bs z z 0:=⟨[],by simp,by simp[Fm.cat],by simp[Fm.cat],rfl⟩
theorem akN {bs:List Int}{z x:Pg}{n:Nat}(h:Go bs z x n):n≤bs.length:=by
 obtain⟨l,h1,h2,h3,h4⟩:=h
 rw[h3]
 exact h2.length_le
theorem au0 {bs r:List Int}{z x y:Pg}{n m:Nat}(h:Go bs z x n)(hr:Fm.Rd (bs.drop n) r m 0)(hd:Dc r y 0):Go bs z y (n+m)∧1≤m:=by
 obtain⟨l,h1,h2,h3,h4⟩:=h
 rcases hr with⟨_,g1,g2,g3⟩|⟨h0,_⟩
 ·rcases hd with⟨_,k1,k2⟩|⟨h0,_⟩
  ·subst h3 k2
   obtain⟨e1,e2⟩:=Fm.atV h2 g3
   refine⟨⟨l++[y],?_,by simpa using e1,by rw[List.map_append,List.map_cons,List.map_nil,e2,g2],by simp⟩,?_⟩
   ·intro q hq
    rcases List.mem_append.1 hq with hq|hq
    ·exact h1 q hq
    ·simp at hq;subst hq;exact k1
   ·have:=Vm.sJ (enc y).length
    omega
  ·cases h0
 ·cases h0
theorem at6 {bs r:List Int}{z x:Pg}{n m:Nat}(h:Go bs z x n)(hr:Fm.Rd (bs.drop n) r m 5):Ls bs z x n:=by
 obtain⟨l,h1,h2,h3,h4⟩:=h
 refine⟨l,h1,h2,h3,h4,fun y hy=>?_⟩
 rcases hr with⟨h0,_⟩|⟨_,_,_,h5⟩
 ·cases h0
 ·exact h5 _ (by have:=qG hy;omega)
theorem atE {bs r:List Int}{z x y:Pg}{n m:Nat}(h:Go bs z x n)(hr:Fm.Rd (bs.drop n) r m 0)(hd:Dc r y 5):Ls bs z x n:=by
 obtain⟨l,h1,h2,h3,h4⟩:=h
 refine⟨l,h1,h2,h3,h4,fun q hq hp=>?_⟩
 rcases hr with⟨_,_,_,g3⟩|⟨h0,_⟩
 ·rcases hd with⟨h0,_⟩|⟨_,_,k2⟩
  ·cases h0
  ·exact k2 q hq (Fm.iR g3 hp)
 ·cases h0
theorem aho {l:List Pg}{z:Pg}{k n:Nat}(hw:∀y∈l,Ok y)(hn:n≤l.length)(hk:(Fm.cat ((l.take n).map enc)).length≤k)(hk':n<l.length→k<(Fm.cat ((l.take (n+1)).map enc)).length)(hkl:k≤(Fm.cat (l.map enc)).length):
  Ls ((Fm.cat (l.map enc)).take k) z ((l.take n).getLast?.getD z) (Fm.cat ((l.take n).map enc)).length:=by
 have:=Fm.ayX (l:=l.map enc) (k:=k) (n:=n) (by
  intro r hr
  obtain⟨y,hy,rfl⟩:=List.mem_map.1 hr
  have:=qG (hw y hy)
  omega) (by simpa using hn) (by rw[←List.map_take];exact hk) (by intro h;rw[←List.map_take];exact hk' (by simpa using h)) hkl
 obtain⟨_,h2,h3⟩:=this
 rw[←List.map_take]at h2 h3
 exact⟨l.take n,fun y hy=>hw y (List.mem_of_mem_take hy),h2,rfl,rfl,fun y hy=>h3 _ (by have:=qG hy;omega)⟩
end Pm
end Go.Proofs.YtpifdeoepppadaaGreatDoor
