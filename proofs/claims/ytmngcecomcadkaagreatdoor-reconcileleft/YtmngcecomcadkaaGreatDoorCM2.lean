/- Texts of one layer, one behind the other. -/
import Derived.Test.YtmngcecomcadkaaGreatDoorCM1
import Derived.Test.YtmngcecomcadkaaGreatDoorCG2
set_option maxRecDepth 100000
set_option maxHeartbeats 8000000
namespace Go.Proofs.YtmngcecomcadkaaGreatDoor
set_option linter.unusedVariables false
namespace Rl
open Dm
open Cm (Cv lastN)
def Good (nu:Int):List Cv→Prop
 |[]=>True
 |c::r=>Rn.chk c.e c.n c.l=0∧c.e-1=nu∧Good c.n r
theorem iE:∀(l:List Cv) (c:Cv) (nu:Int),lastN nu (l++[c])=c.n
 |[],_,_=>rfl
 |d::r,c,nu=>by simpa[lastN]using iE r c d.n
theorem aco:∀{l:List Cv} {nu:Int},Good nu l→nu+l.length≤lastN nu l∧(l=[]∨lastN nu l≤1048576)
 |[],_,_=>by simp[lastN]
 |c::r,nu,⟨h1,h2,h3⟩=>by
  obtain⟨_,g1,g2,g3,_⟩:=Rn.aO h1
  obtain⟨k1,k2⟩:=aco h3
  refine⟨?_,.inr ?_⟩
  ·simp only[lastN,List.length_cons]
   omega
  ·rcases k2 with rfl|k2
   ·exact g3
   ·exact k2
theorem eO {l:List Cv}(h:Good 0 l):l.length≤1048576∧0≤lastN 0 l∧lastN 0 l≤1048576:=by
 obtain⟨h1,h2⟩:=aco h
 rcases h2 with rfl|h2
 ·simp[lastN]
 ·omega
def rec (c:Cv):List Int:=Rn.encR c.e c.n c.l
def fr (c:Cv):List Int:=Fm.bT (rec c)
def aR (l:List Cv):List Int:=Fm.cat (l.map rec)
def Lg (nu:Int) (bs:List Int) (l:List Cv):Prop:=
 Good nu l∧aR l<+:bs∧∀c,Good (lastN nu l) [c]→¬fr c<+:bs.drop (aR l).length
def hld (st:Ds):List Int:=hold 2 (st.sure 2) st.wait
def App (l:List Rw):Prop:=∀r∈l,r.cut=false
structure Rs where
 d:Ds
 l:List Cv
 bk:Bool
def ask (s:Rs):Bool:=s.bk|| !s.d.on
def brk (s:Rs):Rs:=⟨s.d,s.l,true⟩
def ext (d:Ds) (bs:List Int):Int×Ds:=if (write d 2 bs).1≠0 then write d 2 bs else sync (write d 2 bs).2
def flu (s:Rs) (c:Cv):Int×Rs:=
 if ask s then(6,brk s)else if Rn.chk c.e c.n c.l≠0 then(Rn.chk c.e c.n c.l,s)else if c.e-1≠lastN 0 s.l then(15,s)
 else if (ext s.d (fr c)).1≠0 then((ext s.d (fr c)).1,⟨(ext s.d (fr c)).2,s.l,true⟩)else(0,⟨(ext s.d (fr c)).2,s.l++[c],false⟩)
structure Kin (s:Rs) (all:List Cv):Prop where
 on:s.d.on=true
 bk:s.bk=false
 l:s.l=all
 good:Good 0 all
 wait:s.d.wait=[]
 sure:s.d.sure 2=aR all
structure ayy (d:Ds) (sure all:List Cv):Prop where
 good:Good 0 all
 app:App d.wait
 hld:hld d<+:aR all
 dur:aR sure<+:d.sure 2
 gs:Good 0 sure
end Rl
end Go.Proofs.YtmngcecomcadkaaGreatDoor
namespace Go.Proofs.YtmngcecomcadkaaGreatDoor
set_option linter.unusedVariables false
namespace Rl
open Bm
open Cm (Cv)
def ops (l:List Cv):List Ov:=l.flatMap Cv.l
def tab (l:List Cv):List Ov:=Tm.app [] (ops l)
theorem amP (l:List Cv)(c:Cv):ops (l++[c])=ops l++c.l:=by simp[ops]
theorem ann (l:List Cv)(c:Cv):tab (l++[c])=Tm.app (tab l) c.l:=by unfold tab;rw[amP,Tm.ahN]
theorem ahj:∀{l:List Cv} {n:Nat},(∀c∈l,c.l.length≤n)→(ops l).length≤l.length*n
 |[],_,_=>by simp[ops]
 |c::l,n,h=>by
  have h1:=ahj fun d hd=>h d (List.mem_cons_of_mem _ hd)
  have h2:=h c List.mem_cons_self
  have e:ops (c::l)=c.l++ops l:=by simp[ops]
  rw[e,List.length_append,List.length_cons,Nat.succ_mul]
  omega
end Rl
end Go.Proofs.YtmngcecomcadkaaGreatDoor
namespace Go.Proofs.YtmngcecomcadkaaGreatDoor
set_option linter.unusedVariables false
namespace Sto
open Bm
open Cm (Cv lastN lastE)
theorem aoZ:∀{l:List Cv} {e e' nu:Int},Cm.Good e nu l→e'≤e→Cm.Good e' nu l
 |[],_,_,_,_,_=>trivial
 |c::r,e,e',nu,h,he=>by
  simp only[Cm.Good]at h⊢
  obtain⟨h1,h2,h3,h4⟩:=h
  exact⟨h1,h2,by omega,h4⟩
theorem uy:∀{l:List Cv} {e nu:Int},Cm.Good e nu l→lastN nu l=nu+l.length
 |[],_,_,_=>by simp[lastN]
 |c::r,e,nu,h=>by
  simp only[Cm.Good]at h
  obtain⟨h1,h2,h3,h4⟩:=h
  have:=uy h4
  simp only[lastN,List.length_cons]
  omega
theorem aaf:∀{l:List Cv} {e nu:Int},Cm.Good e nu l→e≤lastE e l
 |[],_,_,_=>by simp[lastE]
 |c::r,e,nu,h=>by
  simp only[Cm.Good]at h
  obtain⟨h1,h2,h3,h4⟩:=h
  have:=aaf h4
  simp only[lastE]
  omega
theorem wK {l:List Cv}{nu:Int}(h:Cm.Good 1 nu l)(k:Nat)(hk:k≤l.length):Cm.Good 1 (nu+k) (l.drop k):=by
 have h':Cm.Good 1 nu (l.take k++l.drop k):=by rw[List.take_append_drop];exact h
 obtain⟨h1,h2⟩:=(Cm.fI _ _ _ _).1 h'
 have e:=uy h1
 rw[List.length_take,Nat.min_eq_left hk]at e
 rw[e]at h2
 exact aoZ h2 (aaf h1)
theorem iG {l:List Cv}{e nu:Int}(h:Cm.Good e nu l):∀c∈l,Cm.chk c.e c.n c.l=0∧nu+1≤c.n∧c.n≤nu+l.length∧c.n≤1048576:=fun c hc=>by
 obtain⟨k,hk⟩:=List.getElem?_of_mem hc
 obtain⟨h1,h2,_,_⟩:=Cm.nI _ _ _ _ _ h hk
 have hl:=(List.getElem?_eq_some_iff.1 hk).1
 have:=(Cm.aO h1).2.2.2.1
 exact⟨h1,by omega,by omega,this⟩
theorem anM {l:List Cv}{nu:Int}(h:Cm.Good 1 nu l)(h0:nu≤1048576):nu+l.length≤1048576:=by
 rcases List.eq_nil_or_concat l with rfl|⟨r,c,rfl⟩
 ·simpa using h0
 ·rw[List.concat_eq_append]at h⊢
  have e:=uy h
  rw[Rl.iE]at e
  have:=(iG h c (by simp)).2.2.2
  omega
theorem anj {l:List Cv}{e nu:Int}(h:Cm.Good e nu l):∀c∈l,1≤c.l.length∧c.l.length≤8∧∀o∈c.l,o.c=0:=fun c hc=>dO (Cm.aO (iG h c hc).1).2.2.2.2
structure Ss where
 r:Rl.Rs
 l:List Cv
def fin (s:Ss):Int:=lastN 0 s.r.l+s.l.length
structure Ok (s:Ss):Prop where
 run:Rl.Good 0 s.r.l
 rest:Cm.Good 1 (lastN 0 s.r.l) s.l
theorem Ok.bound {s:Ss}(h:Ok s):0≤lastN 0 s.r.l∧lastN 0 s.r.l≤1048576∧fin s≤1048576∧s.l.length≤1048576:=by
 obtain⟨_,h2,h3⟩:=Rl.eO h.run
 have:=anM h.rest h3
 unfold fin
 omega
theorem agP {l:List Cv}{e nu:Int}(h:Cm.Good e nu l):(Rl.tab l).length≤l.length*8:=by
 have h1:=Tm.abt (Rl.ops l) []
 have h2:=Rl.ahj (l:=l) (n:=8) fun c hc=>(anj h c hc).2.1
 unfold Rl.tab
 simp only[List.length_nil,Nat.zero_add]at h1
 omega
def zk (s:Ss) (c:Cv):Int×Ss:=if (Cm.fol (lastE 1 s.l) (fin s) 0 [c]).1≠0 then((Cm.fol (lastE 1 s.l) (fin s) 0 [c]).1,s)else(0,⟨s.r,s.l++[c]⟩)
theorem aur {s:Ss}(h:Ok s)(c:Cv):Ok (zk s c).2:=by
 unfold zk
 split
 ·exact h
 ·rename_i hf
  refine⟨h.run,(Cm.fI _ _ _ _).2 ⟨h.rest,?_⟩⟩
  rw[uy h.rest]
  exact(Cm.dZ _ _ _ 0).1 (by simpa[fin]using hf)
end Sto
end Go.Proofs.YtmngcecomcadkaaGreatDoor
