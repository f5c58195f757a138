/- Texts of one layer, one behind the other. -/
import Derived.Test.YtmngcecomcadkaaGreatDoorCG2
set_option maxRecDepth 100000
set_option maxHeartbeats 8000000
namespace Go.Proofs.YtmngcecomcadkaaGreatDoor
set_option linter.unusedVariables false
namespace Wl
open Dm
def hld (st:Ds):List Int:=hold 0 (st.sure 0) st.wait
def App (l:List Rw):Prop:=∀r∈l,r.cut=false
theorem ahd:App []:=fun r h=>by simp at h
theorem zu {l:List Rw}{r:Rw}(h:App l)(hr:r.cut=false):App (l++[r]):=fun x hx=>by
 rcases List.mem_append.1 hx with hx|hx
 ·exact h x hx
 ·rw[List.mem_singleton.1 hx];exact hr
end Wl
end Go.Proofs.YtmngcecomcadkaaGreatDoor
namespace Go.Proofs.YtmngcecomcadkaaGreatDoor
set_option linter.unusedVariables false
namespace Wl
open Dm Cm
structure Ws where
 d:Ds
 l:List Cv
 bk:Bool
def ask (s:Ws):Bool:=s.bk|| !s.d.on
def brk (s:Ws):Ws:=⟨s.d,s.l,true⟩
def mO (s:Ws) (c:Cv):Int×Ws:=
 if ask s then(6,brk s)else if chk c.e c.n c.l≠0 then(chk c.e c.n c.l,s)else if c.n-1≠s.l.length∨c.e<lastE 0 s.l then(15,s)
 else if (write s.d 0 (fr c)).1≠0 then((write s.d 0 (fr c)).1,⟨(write s.d 0 (fr c)).2,s.l,true⟩)else(0,⟨(write s.d 0 (fr c)).2,s.l++[c],false⟩)
def rY (s:Ws):Int×Ws:=if ask s then(6,brk s)else((sync s.d).1,⟨(sync s.d).2,s.l,decide ((sync s.d).1≠0)⟩)
def iM (s:Ws) (to:Int):Int×Ws:=
 if ask s then(6,brk s)else if to<0∨(s.l.length:Int)<to then(2,s)
 else if (cK s.d 0 (aR (s.l.take to.toNat)).length).1≠0 then((cK s.d 0 (aR (s.l.take to.toNat)).length).1,⟨(cK s.d 0 (aR (s.l.take to.toNat)).length).2,s.l,true⟩)
 else(0,⟨(cK s.d 0 (aR (s.l.take to.toNat)).length).2,s.l.take to.toNat,false⟩)
theorem kI {l:List Cv}(h:Cm.Good 0 0 l):lastN 0 l=l.length:=by
 rcases List.eq_nil_or_concat l with rfl|⟨r,c,rfl⟩
 ·rfl
 ·have hk:(r.concat c)[r.length]? =some c:=by rw[List.concat_eq_append];simp
  have:=nI (r.concat c) 0 0 r.length c h hk
  rw[List.concat_eq_append,(iE r c 0 0).2,List.length_append,List.length_singleton]
  omega
theorem amh {l:List Cv}{c:Cv}(h:Cm.Good 0 0 l):Cm.Good 0 0 (l++[c])↔chk c.e c.n c.l=0∧¬(c.n-1≠l.length∨c.e<lastE 0 l):=by
 rw[fI]
 constructor
 ·rintro⟨_,h1,h2,h3,_⟩
  rw[kI h]at h2
  exact⟨h1,by omega⟩
 ·rintro⟨h1,h2⟩
  refine⟨h,h1,?_,?_,trivial⟩
  ·rw[kI h];omega
  ·omega
theorem ac7:∀{l:List Cv} {ep nu:Int},Cm.Good ep nu l→(aR l).length≤433*l.length
 |[],_,_,_=>Nat.le_refl _
 |c::l,ep,nu,h=>by
  have h1:=nN (amD h)
  have h2:=ac7 (akN.1 h).2
  rw[nK,List.length_append,List.length_cons]
  omega
end Wl
end Go.Proofs.YtmngcecomcadkaaGreatDoor
namespace Go.Proofs.YtmngcecomcadkaaGreatDoor
set_option linter.unusedVariables false
namespace Wl
open Dm Cm
structure Kin (s:Ws) (all sure:List Cv):Prop where
 on:s.d.on=true
 bk:s.bk=false
 l:s.l=all
 good:Cm.Good 0 0 all
 app:App s.d.wait
 hld:hld s.d=aR all
 dur:aR sure<+:s.d.sure 0
 gs:Cm.Good 0 0 sure
structure ayy (d:Ds) (all sure:List Cv):Prop where
 good:Cm.Good 0 0 all
 app:App d.wait
 hld:hld d<+:aR all
 dur:aR sure<+:d.sure 0
 gs:Cm.Good 0 0 sure
end Wl
end Go.Proofs.YtmngcecomcadkaaGreatDoor
namespace Go.Proofs.YtmngcecomcadkaaGreatDoor
set_option linter.unusedVariables false
theorem al5 {st:Dm.Ds}{s:Orp.Se}(h:(Dm.write st 3 (Orp.sec s)).1≠0):Orp.wr2 st s=(6,(Dm.write st 3 (Orp.sec s)).2):=by unfold Orp.wr2;rw[if_pos h]
theorem ajG {st:Dm.Ds}{s:Orp.Se}(h:(Dm.write st 3 (Orp.sec s)).1=0)(h2:(Dm.sync (Dm.write st 3 (Orp.sec s)).2).1≠0):Orp.wr2 st s=(6,(Dm.sync (Dm.write st 3 (Orp.sec s)).2).2):=by unfold Orp.wr2;rw[if_neg (by simp[h]),if_pos h2]
theorem aln {st:Dm.Ds}{s:Orp.Se}(h:(Dm.write st 3 (Orp.sec s)).1=0)(h2:(Dm.sync (Dm.write st 3 (Orp.sec s)).2).1=0):Orp.wr2 st s=(0,(Dm.sync (Dm.write st 3 (Orp.sec s)).2).2):=by unfold Orp.wr2;rw[if_neg (by simp[h]),if_neg (by simp[h2])]
theorem ast {st:Dm.Ds}{base:Int}{s:Orp.Se}(h:base<(Orp.hl st).length)(h2:(Dm.cK st 3 base).1=0):Orp.qy st base s=Orp.wr2 (Dm.cK st 3 base).2 s:=by unfold Orp.qy;rw[if_pos h,if_neg (by simp[h2])]
theorem awH {st:Dm.Ds}{base:Int}{s:Orp.Se}(h:base<(Orp.hl st).length)(h2:(Dm.cK st 3 base).1≠0):Orp.qy st base s=(6,(Dm.cK st 3 base).2):=by unfold Orp.qy;rw[if_pos h,if_pos h2]
theorem asv {st:Dm.Ds}{base:Int}{s:Orp.Se}(h:¬base<(Orp.hl st).length):Orp.qy st base s=Orp.wr2 st s:=by unfold Orp.qy;rw[if_neg h]
theorem alY:∀(n:Nat) (st:Dm.Ds) (bs:List Int),(Dm.wrt 3 n st bs).1=0∨(Dm.wrt 3 n st bs).1=6
 |0,_,_=>.inl rfl
 |n+1,st,bs=>by
  unfold Dm.wrt
  split
  ·exact .inl rfl
  split
  ·exact .inr rfl
  ·exact alY n _ _
theorem af0 {st:Dm.Ds}(bs:List Int):(Dm.write st 3 bs).1=0∨(Dm.write st 3 bs).1=6:=by
 unfold Dm.write
 split
 ·exact .inr rfl
 rw[if_neg (by decide)]
 exact alY _ _ _
theorem agL (st:Dm.Ds):(Dm.sync st).1=0∨(Dm.sync st).1=6:=by
 unfold Dm.sync
 split
 ·exact .inr rfl
 split
 ·exact .inr rfl
 ·exact .inl rfl
theorem awG {st:Dm.Ds}{n:Int}(ho:st.on=true)(h0:0≤n)(hn:n≤(Orp.hl st).length):(Dm.cK st 3 n).1=0∨(Dm.cK st 3 n).1=6:=by
 unfold Dm.cK
 rw[if_neg (by simp[ho]),if_neg (by decide),if_neg ?_]
 ·split
  ·exact .inr rfl
  ·exact .inl rfl
 ·unfold Orp.hl at hn
  simp
  omega
end Go.Proofs.YtmngcecomcadkaaGreatDoor
namespace Go.Proofs.YtmngcecomcadkaaGreatDoor
set_option linter.unusedVariables false
namespace Rol
open Pm (Pg chk no Ok)
def mZ (x:Pg) (n m:Int):Int:=if chk x=0 then(if n<0∨1048576<n∨m<0∨1073741824<m then 2 else if x.p=1 then 0 else 15)else chk x
def fk (x:Pg) (n m:Int):Pg:=if mZ x n m=0 then⟨x.e,x.r,x.a,2,n,m⟩else no
def gK (x:Pg) (p:Int):Int:=if chk x=0 then(if x.p=p then 0 else 15)else chk x
def nx (x:Pg) (p q:Int):Pg:=if gK x p=0 then⟨x.e,x.r,x.a,q,x.f,x.b⟩else no
def rj (x:Pg):Pg:=if gK x 4=0 then⟨x.e,2,0,0,0,0⟩else no
theorem aoR {x:Pg}(h:Ok x):(x.p=0→x.r=1∨x.r=2)∧(x.p≠0→x.r=3∧x.a=0)∧(x.p=1→x.f=0∧x.b=0)∧(x.r=1→x.p=0∧x.f=0∧x.b=0)∧(x.r=2→x.a=0∧x.p=0∧x.f=0∧x.b=0):=by
 obtain⟨_,h⟩:=h
 rcases h with h|h|h|h<;>refine⟨?_,?_,?_,?_,?_⟩<;>intro q<;>omega
end Rol
end Go.Proofs.YtmngcecomcadkaaGreatDoor
