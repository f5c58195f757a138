/- Texts of one layer, one behind the other. -/
import Derived.Test.YtlmkaljjocflmaaGreatDoorAG1
set_option maxRecDepth 100000
set_option maxHeartbeats 8000000
namespace Go.Proofs.YtlmkaljjocflmaaGreatDoor
set_option linter.unusedVariables false
namespace Wl
open Cm
def rec (c:Cv):List Int:=dW c.e c.n c.l
def fr (c:Cv):List Int:=Fm.dB (rec c)
def bD (l:List Cv):List Int:=Fm.cat (l.map rec)
theorem fO (c:Cv)(l:List Cv):bD (c::l)=fr c++bD l:=rfl
theorem wK (l m:List Cv):bD (l++m)=bD l++bD m:=by unfold bD;rw[List.map_append,Fm.oG]
theorem agU (c:Cv):bD [c]=fr c:=by unfold bD fr;exact Fm.wO _
theorem afM (c:Cv):1≤(fr c).length:=Fm.agi _
theorem uN {c:Cv}(h:chk c.e c.n c.l=0):(rec c).length≤430:=nY h
theorem mi {c:Cv}(h:chk c.e c.n c.l=0):(fr c).length≤433:=by
 have:=uN h
 unfold fr
 rw[Fm.lh]
 have:=Fm.bJ (n:=(rec c).length) (by omega)
 omega
theorem uZ {c d:Cv}{bs:List Int}(hc:chk c.e c.n c.l=0)(hd:chk d.e d.n d.l=0)(h:fr c<+:bs)(h':fr d<+:bs):c=d:=by
 obtain⟨e1,e2,e3⟩:=adW hc hd (Fm.wM h h')
 cases c
 cases d
 simp only at e1 e2 e3
 rw[e1,e2,e3]
def Lg (ep nu:Int) (bs:List Int) (l:List Cv):Prop:=
 Cm.Good ep nu l∧bD l<+:bs∧∀c,Cm.Good (lastE ep l) (lastN nu l) [c]→¬fr c<+:bs.drop (bD l).length
theorem gU {ep nu:Int}{c:Cv}{l:List Cv}:Cm.Good ep nu (c::l)↔Cm.Good ep nu [c]∧Cm.Good c.e c.n l:=by
 have:=dL [c] l ep nu
 rw[List.singleton_append]at this
 exact this
theorem fM {ep nu:Int}{c:Cv}{l:List Cv}(h:Cm.Good ep nu (c::l)):chk c.e c.n c.l=0:=h.1
theorem mg {ep nu:Int}{bs:List Int}{c:Cv}{l:List Cv}(h:Lg ep nu bs (c::l)):Cm.Good ep nu [c]∧fr c<+:bs∧Lg c.e c.n (bs.drop (fr c).length) l:=by
 obtain⟨h1,h2,h3⟩:=h
 rw[fO]at h2
 obtain⟨g1,g2⟩:=gU.1 h1
 refine⟨g1,(List.prefix_append _ _).trans h2,g2,Fm.fE h2,fun d hd=>?_⟩
 rw[List.drop_drop,←List.length_append,←fO]
 exact h3 d hd
theorem aak:∀{l m:List Cv} {ep nu:Int} {bs:List Int},Cm.Good ep nu l→bD l<+:bs→Lg ep nu bs m→l<+:m
 |[],_,_,_,_,_,_,_=>List.nil_prefix
 |c::l,[],ep,nu,bs,h,h2,hm=>by
  exact absurd ((List.prefix_append _ _).trans h2) (hm.2.2 c (gU.1 h).1)
 |c::l,d::m,ep,nu,bs,h,h2,hm=>by
  obtain⟨g1,g2,g3⟩:=mg hm
  rw[fO]at h2
  have e:=uZ (fM h) (fM g1) ((List.prefix_append _ _).trans h2) g2
  subst e
  have:=aak (gU.1 h).2 (Fm.fE h2) g3
  exact List.cons_prefix_cons.2 ⟨rfl,this⟩
theorem adr:∀{l m:List Cv} {ep nu:Int} {bs:List Int},Cm.Good ep nu l→bs<+:bD l→Lg ep nu bs m→m<+:l
 |_,[],_,_,_,_,_,_=>List.nil_prefix
 |[],d::m,ep,nu,bs,h,h2,hm=>by
  obtain⟨_,g2,_⟩:=mg hm
  have h1:=(g2.trans h2).length_le
  have h3:=afM d
  have h4:(bD []).length=0:=rfl
  omega
 |c::l,d::m,ep,nu,bs,h,h2,hm=>by
  obtain⟨g1,g2,g3⟩:=mg hm
  rw[fO]at h2
  have e:=uZ (fM h) (fM g1) (List.prefix_append _ _) (g2.trans h2)
  subst e
  obtain⟨t,rfl⟩:=g2
  rw[List.drop_left]at g3
  have ht:t<+:bD l:=by
   obtain⟨u,hu⟩:=h2
   rw[List.append_assoc]at hu
   exact⟨u,List.append_cancel_left hu⟩
  exact List.cons_prefix_cons.2 ⟨rfl,adr (gU.1 h).2 ht g3⟩
end Wl
end Go.Proofs.YtlmkaljjocflmaaGreatDoor
namespace Go.Proofs.YtlmkaljjocflmaaGreatDoor
set_option linter.unusedVariables false
namespace Orp
open Vm Bm
open Cm (Cv Good fol lastE lastN)
structure Se where
 e:Int
 f:Int
 cs:List Cv
def chk (s:Se):Int:=if s.e<1∨1048576<s.e∨s.f<0∨s.cs.length=0 then 2 else if (fol 1 s.f 0 s.cs).1=0 then(if s.e≤lastE 1 s.cs then 15 else 0)else(fol 1 s.f 0 s.cs).1
theorem iR {s:Se}(h:¬(s.e<1∨1048576<s.e∨s.f<0∨s.cs.length=0))(h':(fol 1 s.f 0 s.cs).1=0)(h2:¬s.e≤lastE 1 s.cs):chk s=0:=by unfold chk;rw[if_neg h,if_pos h',if_neg h2]
theorem abZ:∀{l:List Cv} {ep nu:Int},Good ep nu l→(l=[]∨nu+l.length≤1048576)∧∀c∈l,Cm.chk c.e c.n c.l=0
 |[],_,_,_=>⟨.inl rfl,fun c hc=>by simp at hc⟩
 |c::r,ep,nu,⟨h1,h2,h3,h4⟩=>by
  obtain⟨g1,g2⟩:=abZ h4
  obtain⟨_,_,_,h5,_⟩:=Cm.aV h1
  refine⟨.inr ?_,fun d hd=>?_⟩
  ·rcases g1 with rfl|g1
   ·simp;omega
   ·rw[List.length_cons];omega
  ·rcases List.mem_cons.1 hd with rfl|hd
   ·exact h1
   ·exact g2 d hd
theorem aV {s:Se}(h:chk s=0):1≤s.e∧s.e≤1048576∧0≤s.f∧s.f≤1048576∧1≤s.cs.length∧s.cs.length≤1048576∧Good 1 s.f s.cs∧lastE 1 s.cs<s.e∧∀c∈s.cs,Cm.chk c.e c.n c.l=0:=by
 unfold chk at h
 split at h
 ·simp at h
 ·rename_i h1
  split at h
  ·rename_i h2
   split at h
   ·simp at h
   ·have g:=(Cm.gH _ _ _ _).1 h2
    obtain⟨g1,g2⟩:=abZ g
    rcases g1 with g1|g1
    ·rw[g1]at h1;simp at h1
    ·exact⟨by omega,by omega,by omega,by omega,by omega,by omega,g,by omega,g2⟩
  ·rename_i h2
   exact absurd h h2
def hdr (s:Se):List Int:=enc s.e.toNat++(enc s.f.toNat++enc s.cs.length)
def sec (s:Se):List Int:=Fm.dB (hdr s)++Wl.bD s.cs
def out (s:Se):List Int:=if chk s=0 then sec s else []
theorem jS {s:Se}(h:chk s=0):out s=sec s:=if_pos h
theorem oO {s:Se}(h:chk s≠0):out s=[]:=if_neg h
theorem aky {s:Se}(h:chk s=0):(hdr s).length≤9:=by
 obtain⟨h1,h2,h3,h4,h5,h6,_⟩:=aV h
 have a:=Cm.ib (x:=s.e) (by omega)
 have b:=Cm.ib (x:=s.f) (by omega)
 have c:(enc s.cs.length).length≤3:=pX 2 _ (by omega)
 unfold hdr
 rw[List.length_append,List.length_append]
 omega
theorem afn:∀{l:List Cv},(∀c∈l,Cm.chk c.e c.n c.l=0)→(Wl.bD l).length≤433*l.length
 |[],_=>by simp[Wl.bD,Fm.cat]
 |c::l,h=>by
  have h1:=Wl.mi (h c (by simp))
  have h2:=afn (l:=l) fun d hd=>h d (by simp[hd])
  rw[Wl.fO,List.length_append,List.length_cons]
  omega
def No (bs:List Int):Prop:=∀t,chk t=0→¬sec t<+:bs
theorem ajJ {bs:List Int}(h:∀r:List Int,r.length≤131072→¬Fm.dB r<+:bs):No bs:=fun t ht hp=>by
 have:=aky ht
 exact h (hdr t) (by omega) ((List.prefix_append _ _).trans hp)
def Rd (bs:List Int) (s:Se) (n:Nat) (g:Bool):Prop:=(g=true∧chk s=0∧sec s<+:bs∧n=(sec s).length)∨(g=false∧No bs)
def Ris (a:Int):List Se→Prop
 |[]=>True
 |s::r=>chk s=0∧a<s.e∧Ris s.e r
def ahQ (a:Int):List Se→Int
 |[]=>a
 |s::r=>ahQ s.e r
def secs:List Se→List Int
 |[]=>[]
 |s::r=>sec s++secs r
theorem mq:∀(l:List Se) (s:Se) (a:Int),ahQ a (l++[s])=s.e
 |[],_,_=>rfl
 |q::r,s,a=>by simpa[ahQ]using mq r s q.e
def Sn (a:Int) (bs:List Int) (l:List Se):Prop:=Ris a l∧secs l<+:bs∧∀t,Ris (ahQ a l) [t]→¬sec t<+:bs.drop (secs l).length
def has (l:List Se) (e n:Int):Bool:=l.any fun s=>s.cs.any fun c=>c.e==e&&c.n==n
end Orp
end Go.Proofs.YtlmkaljjocflmaaGreatDoor
namespace Go.Proofs.YtlmkaljjocflmaaGreatDoor.Dm
set_option linter.unusedVariables false
structure Rw where
 file:Nat
 cut:Bool
 to:Nat
 bytes:List Int
structure Ds where
 sure:Nat→List Int
 wait:List Rw
 on:Bool
 has:Bool
 left:Nat
 count:Nat
def upd (s:Nat→List Int) (f:Nat) (x:List Int):Nat→List Int:=fun j=>if j=f then x else s j
theorem uf (s:Nat→List Int)(f:Nat)(x:List Int):upd s f x f=x:=by simp[upd]
theorem vX {s:Nat→List Int}{f j:Nat}{x:List Int}(h:j≠f):upd s f x j=s j:=by simp[upd,h]
def iT (b:List Int) (r:Rw):List Int:=if r.cut then b.take r.to else b++r.bytes
def one (s:Nat→List Int) (r:Rw):Nat→List Int:=upd s r.file (iT (s r.file) r)
def dof (s:Nat→List Int):List Rw→Nat→List Int
 |[]=>s
 |r::l=>dof (one s r) l
theorem agn:∀(l m:List Rw) (s:Nat→List Int),dof s (l++m)=dof (dof s l) m
 |[],_,_=>rfl
 |r::l,m,s=>agn l m (one s r)
theorem alY (l:List Rw)(r:Rw)(s:Nat→List Int):dof s (l++[r])=one (dof s l) r:=agn l [r] s
def hold (f:Nat) (b:List Int):List Rw→List Int
 |[]=>b
 |r::l=>hold f (if r.file=f then iT b r else b) l
theorem gJ:∀(l:List Rw) (s:Nat→List Int) (f:Nat),hold f (s f) l=dof s l f
 |[],_,_=>rfl
 |r::l,s,f=>by
  rw[hold,dof,←gJ l (one s r) f]
  congr 1
  by_cases h:r.file=f
  ·subst h;rw[if_pos rfl,one,uf]
  ·rw[if_neg h,one,vX (Ne.symm h)]
theorem tN:∀(l m:List Rw) (b:List Int) (f:Nat),hold f b (l++m)=hold f (hold f b l) m
 |[],_,_,_=>rfl
 |r::l,m,b,f=>tN l m _ f
theorem qC (l:List Rw)(r:Rw)(b:List Int)(f:Nat):hold f b (l++[r])=if r.file=f then iT (hold f b l) r else hold f b l:=tN l [r] b f
def fits (s:Nat→List Int) (r:Rw):Prop:=r.file<4∧(r.cut=true→r.to≤(s r.file).length)∧(r.cut=false→1≤r.bytes.length∧r.bytes.length≤64)
def valid (s:Nat→List Int):List Rw→Prop
 |[]=>True
 |r::l=>fits s r∧valid (one s r) l
theorem qy:∀(l m:List Rw) (s:Nat→List Int),valid s (l++m)↔valid s l∧valid (dof s l) m
 |[],_,_=>by simp[valid,dof]
 |r::l,m,s=>by simp[valid,dof,qy l m,and_assoc]
theorem ad2 {l:List Rw}{s:Nat→List Int}(h:valid s l){k:Nat}{r:Rw}(hk:l[k]? =some r):fits (dof s (l.take k)) r:=by
 obtain⟨hlt,rfl⟩:=List.getElem?_eq_some_iff.1 hk
 rw[←List.take_append_drop k l,qy,List.drop_eq_getElem_cons hlt]at h
 exact h.2.1
def fP:List Rw→Nat
 |[]=>0
 |r::l=>r.bytes.length+fP l
theorem zq:∀(l m:List Rw),fP (l++m)=fP l+fP m
 |[],_=>by simp[fP]
 |r::l,m=>by simp[fP,zq l m];omega
theorem aqN (b:List Int)(r:Rw):(iT b r).length≤b.length+r.bytes.length:=by
 unfold iT
 split
 ·rw[List.length_take];omega
 ·simp
theorem zt:∀(l:List Rw) (b:List Int) (f:Nat),(hold f b l).length≤b.length+fP l
 |[],_,_=>by simp[hold,fP]
 |r::l,b,f=>by
  have h1:=zt l (if r.file=f then iT b r else b) f
  have h2:=aqN b r
  simp only[hold,fP]
  split at h1<;>simp_all<;>omega
def Sz (t u:Nat) (st:Ds):Prop:=(∀f,(st.sure f).length+fP st.wait≤t)∧st.wait.length≤u∧st.count≤u
def Ok (st:Ds):Prop:=valid st.sure st.wait
def off (st:Ds):Bool:=st.has&&st.left==0
def dh (st:Ds):Ds:={st with left:=if st.has then st.left-1 else st.left,count:=st.count+1}
def jq (st:Ds):Ds:={st with on:=false}
def push (st:Ds) (r:Rw):Ds:={st with wait:=st.wait++[r]}
def wrt (file:Nat):Nat→Ds→List Int→Int×Ds
 |0,st,_=>(0,st)
 |n+1,st,bs=>if bs=[]then(0,st)else if off st then(6,jq st)else wrt file n (push (dh st) ⟨file,false,0,bs.take 64⟩) (bs.drop 64)
def jR (file:Int):Bool:=decide (0≤file)&&decide (file<4)
def write (st:Ds) (file:Int) (bs:List Int):Int×Ds:=if st.on=false then(6,st)else if jR file=false then(2,st)else wrt file.toNat bs.length st bs
def dX (st:Ds) (file len:Int):Int×Ds:=if st.on=false then(6,st)else if jR file=false then(2,st)else if len<0∨(hold file.toNat (st.sure file.toNat) st.wait).length<len then(2,st)else if off st then(6,jq st)else(0,push (dh st) ⟨file.toNat,true,len.toNat,[]⟩)
def flush (st:Ds):Ds:={st with sure:=dof st.sure st.wait,wait:=[]}
def sync (st:Ds):Int×Ds:=if st.on=false then(6,st)else if off st then(6,jq st)else(0,flush (dh st))
def yR (st:Ds) (n:Int):Int×Ds:=if st.on=false then(6,st)else if n<0 then(2,st)else(0,{st with has:=true,left:=n.toNat})
def pull (st:Ds):Int×Ds:=if st.on=false then(6,st)else(0,jq st)
def kept (st:Ds) (k t:Nat):Nat→List Int:=
 match st.wait[k]? with
 |some r=>if r.cut then dof st.sure (st.wait.take k)else one (dof st.sure (st.wait.take k)) ⟨r.file,false,0,r.bytes.take (min t (r.bytes.length-1))⟩
 |none=>dof st.sure (st.wait.take k)
def start (st:Ds) (k t:Int):Int×Ds:=if st.on=true∨k<0∨t<0 then(2,st)else(0,{st with sure:=kept st k.toNat t.toNat,wait:=[],has:=false,on:=true})
def new:Ds:=⟨fun _=>[],[],true,false,0,0⟩
end Go.Proofs.YtlmkaljjocflmaaGreatDoor.Dm
namespace Go.Proofs.YtlmkaljjocflmaaGreatDoor
set_option linter.unusedVariables false
namespace Orp
open Dm
def hl (st:Ds):List Int:=hold 3 (st.sure 3) st.wait
def wr2 (st:Ds) (s:Se):Int×Ds:=
 if (write st 3 (sec s)).1≠0 then(6,(write st 3 (sec s)).2)else if (sync (write st 3 (sec s)).2).1≠0 then(6,(sync (write st 3 (sec s)).2).2)else(0,(sync (write st 3 (sec s)).2).2)
def wr1 (st:Ds) (base:Int) (s:Se):Int×Ds:=
 if base<(hl st).length then(if (dX st 3 base).1≠0 then(6,(dX st 3 base).2)else wr2 (dX st 3 base).2 s)else wr2 st s
def yj (st:Ds) (base:Int) (s:Se):Int×Ds:=
 if st.on=false then(6,st)else if chk s≠0 then(chk s,st)else if base<0∨((hl st).length:Int)<base then(2,st)else wr1 st base s
theorem atO {st:Ds}{base:Int}{s:Se}(h:st.on=true)(h2:chk s=0)(h3:¬(base<0∨((hl st).length:Int)<base)):yj st base s=wr1 st base s:=by unfold yj;rw[if_neg (by simp[h]),if_neg (by simp[h2]),if_neg h3]
theorem arl {st:Ds}(bs:List Int):hl (push (dh st) ⟨3,false,0,bs⟩)=hl st++bs:=by
 unfold hl push dh
 simp only
 rw[qC]
 simp[iT]
theorem ar2 {st:Ds}(n:Nat):hl (push (dh st) ⟨3,true,n,[]⟩)=(hl st).take n:=by
 unfold hl push dh
 simp only
 rw[qC]
 simp[iT]
theorem asi:∀(n:Nat) (st:Ds) (bs:List Int),bs.length≤n→st.on=true→
  ((wrt 3 n st bs).1=0∧(wrt 3 n st bs).2.on=true∧hl (wrt 3 n st bs).2=hl st++bs∨(wrt 3 n st bs).1=6∧(wrt 3 n st bs).2.on=false)∧
  (wrt 3 n st bs).2.sure=st.sure∧(∀r∈(wrt 3 n st bs).2.wait,r∈st.wait∨r.cut=false)∧(st.has=false→(wrt 3 n st bs).1=0∧(wrt 3 n st bs).2.has=false)
 |0,st,bs,hb,ho=>by
  have:bs=[]:=List.eq_nil_of_length_eq_zero (by omega)
  subst this
  exact⟨.inl ⟨rfl,ho,by simp[wrt]⟩,rfl,fun r hr=>.inl hr,fun h=>⟨rfl,h⟩⟩
 |n+1,st,bs,hb,ho=>by
  unfold wrt
  by_cases h0:bs=[]
  ·subst h0
   rw[if_pos rfl]
   exact⟨.inl ⟨rfl,ho,by simp⟩,rfl,fun r hr=>.inl hr,fun h=>⟨rfl,h⟩⟩
  ·rw[if_neg h0]
   have hp:1≤bs.length:=by
    rcases bs with _|⟨x,bs⟩
    ·exact absurd rfl h0
    ·simp
   cases hoff:off st with
   |true=>exact⟨.inr ⟨rfl,rfl⟩,rfl,fun r hr=>.inl hr,fun h=>by simp[off,h]at hoff⟩
   |false=>
    have ih:=asi n (push (dh st) ⟨3,false,0,bs.take 64⟩) (bs.drop 64) (by rw[List.length_drop];omega) ho
    rw[arl,List.append_assoc,List.take_append_drop]at ih
    obtain⟨h1,h2,h3,h4⟩:=ih
    refine⟨h1,h2,fun r hr=>?_,h4⟩
    rcases h3 r hr with h|h
    ·rcases List.mem_append.1 (show r∈st.wait++[_]from h)with h|h
     ·exact .inl h
     ·rw[List.mem_singleton.1 h];exact .inr rfl
    ·exact .inr h
theorem as0 {st:Ds}(bs:List Int)(ho:st.on=true):write st 3 bs=wrt 3 bs.length st bs:=by
 unfold write
 rw[if_neg (by simp[ho]),if_neg (by decide)]
 rfl
structure Q (b0:List Int) (st:Ds):Prop where
 su:b0<+:st.sure 3
 cu:∀r∈st.wait,r.file=3→r.cut=true→r.to=b0.length
theorem ajk {st:Ds}{s:Se}(ho:st.on=true):((wr2 st s).1=0∧(wr2 st s).2.on=true∧(wr2 st s).2.sure 3=hl st++sec s∧(wr2 st s).2.wait=[]∨(wr2 st s).1=6∧(wr2 st s).2.on=false)∧(st.has=false→(wr2 st s).1=0∧(wr2 st s).2.has=false):=by
 obtain⟨h1,h2,h3,h4⟩:=asi (sec s).length st (sec s) (Nat.le_refl _) ho
 unfold wr2
 rw[as0 _ ho]
 rcases h1 with⟨g1,g2,g3⟩|⟨g1,g2⟩
 ·rw[if_neg (by simp[g1])]
  cases hoff:off (wrt 3 (sec s).length st (sec s)).2 with
  |true=>
   have e:sync (wrt 3 (sec s).length st (sec s)).2=(6,jq (wrt 3 (sec s).length st (sec s)).2):=by
    unfold sync
    rw[if_neg (by simp[g2]),if_pos hoff]
   rw[e,if_pos (by simp)]
   refine⟨.inr ⟨rfl,rfl⟩,fun hh=>?_⟩
   have:=(h4 hh).2
   simp[off,this]at hoff
  |false=>
   have e:sync (wrt 3 (sec s).length st (sec s)).2=(0,flush (dh (wrt 3 (sec s).length st (sec s)).2)):=by
    unfold sync
    rw[if_neg (by simp[g2]),if_neg (by simp[hoff])]
   rw[e,if_neg (by simp)]
   refine⟨.inl ⟨rfl,g2,?_,rfl⟩,fun hh=>⟨rfl,(h4 hh).2⟩⟩
   rw[←g3]
   show dof _ _ 3=_
   rw[←gJ]
   rfl
 ·rw[if_pos (by simp[g1])]
  exact⟨.inr ⟨rfl,g2⟩,fun hh=>by rw[(h4 hh).1]at g1;simp at g1⟩
theorem axD {st:Ds}{s:Se}{b0:List Int}(ho:st.on=true)(hc:chk s=0)(hb:b0<+:hl st):
  ((yj st b0.length s).1=0∧(yj st b0.length s).2.on=true∧(yj st b0.length s).2.sure 3=b0++sec s∧(yj st b0.length s).2.wait=[]∨(yj st b0.length s).1=6∧(yj st b0.length s).2.on=false)∧
   (st.has=false→(yj st b0.length s).1=0∧(yj st b0.length s).2.has=false):=by
 have hle:=hb.length_le
 rw[atO ho hc (by omega)]
 unfold wr1
 by_cases hlt:(b0.length:Int)<(hl st).length
 ·rw[if_pos hlt]
  have hh:hl (push (dh st) ⟨3,true,b0.length,[]⟩)=b0:=by
   rw[ar2]
   exact(List.prefix_iff_eq_take.1 hb).symm
  cases hoff:off st with
  |true=>
   have e:dX st 3 b0.length=(6,jq st):=by
    unfold dX
    rw[if_neg (by simp[ho]),if_neg (by decide),if_neg ?_,if_pos hoff]
    unfold hl at hlt
    simp
    omega
   rw[e,if_pos (by simp)]
   exact⟨.inr ⟨rfl,rfl⟩,fun h=>by simp[off,h]at hoff⟩
  |false=>
   have e:dX st 3 b0.length=(0,push (dh st) ⟨3,true,b0.length,[]⟩):=by
    unfold dX
    rw[if_neg (by simp[ho]),if_neg (by decide),if_neg ?_,if_neg (by simp[hoff])]
    ·rfl
    ·unfold hl at hlt
     simp
     omega
   rw[e,if_neg (by simp)]
   have:=ajk (st:=push (dh st) ⟨3,true,b0.length,[]⟩) (s:=s) ho
   rw[hh]at this
   exact this
 ·rw[if_neg hlt]
  have e:b0=hl st:=hb.eq_of_length (by omega)
  have:=ajk (s:=s) ho
  rw[←e]at this
  exact this
end Orp
end Go.Proofs.YtlmkaljjocflmaaGreatDoor
namespace Go.Proofs.YtlmkaljjocflmaaGreatDoor
set_option linter.unusedVariables false
namespace Wl
open Dm
def hld (st:Ds):List Int:=hold 0 (st.sure 0) st.wait
def App (l:List Rw):Prop:=∀r∈l,r.cut=false
theorem xy:App []:=fun r h=>by simp at h
theorem lY {l:List Rw}{r:Rw}(h:App l)(hr:r.cut=false):App (l++[r]):=fun x hx=>by
 rcases List.mem_append.1 hx with hx|hx
 ·exact h x hx
 ·rw[List.mem_singleton.1 hx];exact hr
theorem fB:∀(l:List Rw) (b:List Int) (f:Nat),App l→b<+:hold f b l
 |[],b,_,_=>List.prefix_rfl
 |r::l,b,f,h=>by
  have ih:=fB l (if r.file=f then iT b r else b) f (fun x hx=>h x (List.mem_cons_of_mem _ hx))
  refine List.IsPrefix.trans ?_ ih
  split
  ·unfold iT
   rw[h r List.mem_cons_self]
   exact List.prefix_append _ _
  ·exact List.prefix_rfl
theorem ahe {st:Ds}(h:App st.wait)(k t:Nat):st.sure 0<+:kept st k t 0∧kept st k t 0<+:hld st:=by
 have h1:App (st.wait.take k):=fun r hr=>h r (List.mem_of_mem_take hr)
 have a1:=fB (st.wait.take k) (st.sure 0) 0 h1
 have e1:hld st=hold 0 (hold 0 (st.sure 0) (st.wait.take k)) (st.wait.drop k):=by
  unfold hld
  rw[←tN,List.take_append_drop]
 unfold kept
 cases hr:st.wait[k]? with
 |none=>
  simp only
  rw[←gJ]
  refine⟨a1,?_⟩
  rw[e1]
  exact fB _ _ _ (fun r hr=>h r (List.mem_of_mem_drop hr))
 |some r=>
  have hlt:=(List.getElem?_eq_some_iff.1 hr).1
  have hrr:=(List.getElem?_eq_some_iff.1 hr).2
  have hc:=h r (List.mem_of_getElem? hr)
  have e2:st.wait.drop k=r::st.wait.drop (k+1):=by rw[List.drop_eq_getElem_cons hlt,hrr]
  have h2:App (st.wait.drop (k+1)):=fun x hx=>h x (List.mem_of_mem_drop hx)
  simp only[hc,Bool.false_eq_true,if_false]
  rw[e2,hold]at e1
  unfold one
  by_cases hf:r.file=0
  ·rw[hf,uf,←gJ]
   rw[if_pos hf]at e1
   have e3:iT (hold 0 (st.sure 0) (st.wait.take k)) ⟨0,false,0,r.bytes.take (min t (r.bytes.length-1))⟩=hold 0 (st.sure 0) (st.wait.take k)++r.bytes.take (min t (r.bytes.length-1)):=rfl
   have e4:iT (hold 0 (st.sure 0) (st.wait.take k)) r=hold 0 (st.sure 0) (st.wait.take k)++r.bytes:=by
    unfold iT
    rw[hc]
    rfl
   rw[e3]
   refine⟨a1.trans (List.prefix_append _ _),?_⟩
   rw[e1,e4]
   refine List.IsPrefix.trans ?_ (fB _ _ _ h2)
   exact(List.prefix_append_right_inj _).2 (List.take_prefix _ _)
  ·rw[vX (fun e=>hf e.symm),←gJ]
   rw[if_neg hf]at e1
   refine⟨a1,?_⟩
   rw[e1]
   exact fB _ _ _ h2
end Wl
end Go.Proofs.YtlmkaljjocflmaaGreatDoor
namespace Go.Proofs.YtlmkaljjocflmaaGreatDoor
set_option linter.unusedVariables false
namespace Wl
open Dm Cm
structure Ws where
 d:Ds
 l:List Cv
 bk:Bool
def trm (d:Ds) (good:Nat):Int×Ds:=
 if (hld d).length=good then(0,d)else if (dX d 0 good).1≠0 then(6,(dX d 0 good).2)else if (sync (dX d 0 good).2).1≠0 then(6,(sync (dX d 0 good).2).2)else(0,(sync (dX d 0 good).2).2)
def ask (s:Ws):Bool:=s.bk|| !s.d.on
def brk (s:Ws):Ws:=⟨s.d,s.l,true⟩
def lI (s:Ws) (c:Cv):Int×Ws:=
 if ask s then(6,brk s)else if chk c.e c.n c.l≠0 then(chk c.e c.n c.l,s)else if c.n-1≠s.l.length∨c.e<lastE 0 s.l then(15,s)
 else if (write s.d 0 (fr c)).1≠0 then((write s.d 0 (fr c)).1,⟨(write s.d 0 (fr c)).2,s.l,true⟩)else(0,⟨(write s.d 0 (fr c)).2,s.l++[c],false⟩)
def ae6 (s:Ws):Int×Ws:=if ask s then(6,brk s)else((sync s.d).1,⟨(sync s.d).2,s.l,decide ((sync s.d).1≠0)⟩)
theorem jT {l:List Cv}(h:Cm.Good 0 0 l):lastN 0 l=l.length:=by
 rcases List.eq_nil_or_concat l with rfl|⟨r,c,rfl⟩
 ·rfl
 ·have hk:(r.concat c)[r.length]? =some c:=by rw[List.concat_eq_append];simp
  have:=ma (r.concat c) 0 0 r.length c h hk
  rw[List.concat_eq_append,(iF r c 0 0).2,List.length_append,List.length_singleton]
  omega
theorem abU {l:List Cv}{c:Cv}(h:Cm.Good 0 0 l):Cm.Good 0 0 (l++[c])↔chk c.e c.n c.l=0∧¬(c.n-1≠l.length∨c.e<lastE 0 l):=by
 rw[dL]
 constructor
 ·rintro⟨_,h1,h2,h3,_⟩
  rw[jT h]at h2
  exact⟨h1,by omega⟩
 ·rintro⟨h1,h2⟩
  refine⟨h,h1,?_,?_,trivial⟩
  ·rw[jT h];omega
  ·omega
theorem acP:∀{l:List Cv} {ep nu:Int},Cm.Good ep nu l→(bD l).length≤433*l.length
 |[],_,_,_=>Nat.le_refl _
 |c::l,ep,nu,h=>by
  have h1:=mi (fM h)
  have h2:=acP (gU.1 h).2
  rw[fO,List.length_append,List.length_cons]
  omega
theorem keeps {st:Ds}{all sure m:List Cv}{k t:Nat}(ha:App st.wait)(h1:Cm.Good 0 0 all)(h2:Cm.Good 0 0 sure)(h3:bD sure<+:st.sure 0)(h4:hld st<+:bD all)(h5:Lg 0 0 (kept st k t 0) m):sure<+:m∧m<+:all:=by
 obtain⟨a,b⟩:=ahe ha k t
 exact⟨aak h2 (h3.trans a) h5,adr h1 (b.trans h4) h5⟩
end Wl
end Go.Proofs.YtlmkaljjocflmaaGreatDoor
namespace Go.Proofs.YtlmkaljjocflmaaGreatDoor
set_option linter.unusedVariables false
namespace Wl
open Dm Cm
structure Kin (s:Ws) (all sure:List Cv):Prop where
 on:s.d.on=true
 bk:s.bk=false
 l:s.l=all
 good:Cm.Good 0 0 all
 app:App s.d.wait
 hld:hld s.d=bD all
 dur:bD sure<+:s.d.sure 0
 gs:Cm.Good 0 0 sure
structure awI (d:Ds) (all sure:List Cv):Prop where
 good:Cm.Good 0 0 all
 app:App d.wait
 hld:hld d<+:bD all
 dur:bD sure<+:d.sure 0
 gs:Cm.Good 0 0 sure
end Wl
end Go.Proofs.YtlmkaljjocflmaaGreatDoor
namespace Go.Proofs.YtlmkaljjocflmaaGreatDoor
set_option linter.unusedVariables false
namespace Pm
structure Pg where
 e:Int
 r:Int
 a:Int
 p:Int
 f:Int
 b:Int
theorem Pg.eq {x y:Pg}(h1:x.e=y.e)(h2:x.r=y.r)(h3:x.a=y.a)(h4:x.p=y.p)(h5:x.f=y.f)(h6:x.b=y.b):x=y:=by
 cases x;cases y;simp at*;exact⟨h1,h2,h3,h4,h5,h6⟩
def no:Pg:=⟨0,0,0,0,0,0⟩
abbrev Bnd (x:Pg):Prop:=1≤x.e∧x.e≤1048576∧0≤x.a∧x.a≤1048576∧0≤x.f∧x.f≤1048576∧0≤x.b∧x.b≤1073741824
abbrev Own (x:Pg):Prop:=
 (x.r=1∧x.p=0∧x.f=0∧x.b=0)∨(x.r=2∧x.a=0∧x.p=0∧x.f=0∧x.b=0)∨(x.r=3∧x.a=0∧x.p=1∧x.f=0∧x.b=0)∨(x.r=3∧x.a=0∧2≤x.p∧x.p≤4)
abbrev Ok (x:Pg):Prop:=Bnd x∧Own x
def chk (x:Pg):Int:=if Ok x then 0 else 2
theorem iR {x:Pg}(h:Ok x):chk x=0:=if_pos h
theorem gL {x:Pg}(h:¬Ok x):chk x=2:=if_neg h
theorem mD {x:Pg}:chk x=0↔Ok x:=by
 by_cases h:Ok x
 ·exact⟨fun _=>h,fun _=>iR h⟩
 ·exact⟨fun k=>by rw[gL h]at k;exact absurd k (by decide),fun k=>absurd k h⟩
theorem jm {x:Pg}(h:Ok x):1≤x.e∧x.e≤1048576∧1≤x.r∧x.r≤3∧0≤x.a∧x.a≤1048576∧0≤x.p∧x.p≤4∧0≤x.f∧x.f≤1048576∧0≤x.b∧x.b≤1073741824:=by
 obtain⟨⟨h1,h2,h3,h4,h5,h6,h7,h8⟩,h9⟩:=h
 unfold Own at h9
 omega
def nums (x:Pg):List Int:=[x.e,x.r,x.a,x.p,x.f,x.b]
def encs:List Int→List Int
 |[]=>[]
 |z::l=>Vm.enc z.toNat++encs l
theorem iI:∀l m:List Int,encs (l++m)=encs l++encs m
 |[],m=>rfl
 |z::l,m=>by simp[encs,iI l m]
def enc (x:Pg):List Int:=encs (nums x)
theorem zk:∀{l m:List Int} {bs:List Int},l.length=m.length→(∀z∈l,0≤z)→(∀z∈m,0≤z)→encs l<+:bs→encs m<+:bs→l=m
 |[],[],_,_,_,_,_,_=>rfl
 |[],_::_,_,h,_,_,_,_=>by simp at h
 |_::_,[],_,h,_,_,_,_=>by simp at h
 |x::l,y::m,bs,h,hx,hy,h1,h2=>by
  have e:=Vm.cz bs _ _ ((List.prefix_append _ _).trans h1) ((List.prefix_append _ _).trans h2)
  have ex:x=y:=by
   have:=hx x (by simp)
   have:=hy y (by simp)
   omega
  subst ex
  have:=zk (by simpa using h) (fun z hz=>hx z (by simp[hz])) (fun z hz=>hy z (by simp[hz])) (Fm.fE h1) (Fm.fE h2)
  rw[this]
theorem zm {x:Pg}(h:Ok x):∀z∈nums x,0≤z:=by
 have:=jm h
 intro z hz
 simp[nums]at hz
 omega
theorem anD {x y:Pg}(h:nums x=nums y):x=y:=by
 unfold nums at h
 simp at h
 exact Pg.eq h.1 h.2.1 h.2.2.1 h.2.2.2.1 h.2.2.2.2.1 h.2.2.2.2.2
theorem oH {x y:Pg}{bs:List Int}(h:Ok x)(h':Ok y)(h1:enc x<+:bs)(h2:enc y<+:bs):x=y:=
 anD (zk rfl (zm h) (zm h') h1 h2)
theorem sS:∀{l:List Int},(∀z∈l,z<18446744073709551616)→(encs l).length≤10*l.length∧l.length≤(encs l).length
 |[],_=>by simp[encs]
 |z::l,h=>by
  have h1:=sS (l:=l) (fun y hy=>h y (by simp[hy]))
  have h2:=h z (by simp)
  have h3:=Vm.kQ (x:=z.toNat) (by omega)
  have h4:=Vm.rT z.toNat
  unfold Vm.sz at h3 h4
  simp[encs]
  omega
theorem abx {x:Pg}(h:Ok x):(enc x).length≤60:=by
 have:=jm h
 have:=(sS (l:=nums x) (fun z hz=>by simp[nums]at hz;omega)).1
 exact this
def Dc (bs:List Int) (x:Pg) (e:Int):Prop:=
 (e=0∧Ok x∧bs=enc x)∨(e=5∧x=no∧∀y,Ok y→bs≠enc y)
theorem aaf {bs:List Int}{x y:Pg}{e f:Int}(h:Dc bs x e)(h':Dc bs y f):x=y∧e=f:=by
 rcases h with⟨rfl,h1,h2⟩|⟨rfl,rfl,h2⟩<;>rcases h' with⟨rfl,g1,g2⟩|⟨rfl,rfl,g2⟩
 ·exact⟨oH h1 g1 (bs:=bs) (by rw[h2];exact List.prefix_refl _) (by rw[g2];exact List.prefix_refl _),rfl⟩
 ·exact absurd h2 (g2 x h1)
 ·exact absurd g2 (h2 y g1)
 ·exact⟨rfl,rfl⟩
theorem afC {x:Pg}(h:Ok x):Dc (enc x) x 0:=.inl ⟨rfl,h,rfl⟩
def Run (bs:List Int) (l:List Int):Prop:=encs l<+:bs
theorem agb {bs l:List Int}{k:Nat}{m:Nat}(hk:k<6)(hl:l.length=k)(hp:∀z∈l,0≤z)(h:encs l<+:bs)(hm:∀x:Pg,Ok x→(nums x).getD k 0≤m)
  (hn:∀u:Nat,u≤m→¬Vm.enc u<+:bs.drop (encs l).length):Dc bs no 5:=by
 refine .inr ⟨rfl,rfl,fun y hy e=>?_⟩
 have hlen:(nums y).length=6:=rfl
 have es:nums y=(nums y).take k++((nums y).getD k 0::(nums y).drop (k+1)):=by
  have h1:k<(nums y).length:=by omega
  rw[List.getD_eq_getElem?_getD,List.getElem?_eq_getElem h1,Option.getD_some,←List.drop_eq_getElem_cons h1,List.take_append_drop]
 have hpy:=zm hy
 have h1:encs ((nums y).take k)<+:bs:=by
  rw[e]
  unfold enc
  have:nums y=(nums y).take k++(nums y).drop k:=(List.take_append_drop _ _).symm
  conv=>rhs;rw[this,iI]
  exact List.prefix_append _ _
 have h2:l=(nums y).take k:=zk (by rw[List.length_take];omega) hp (fun z hz=>hpy z (List.mem_of_mem_take hz)) h h1
 have h3:=hm y hy
 have h4:0≤(nums y).getD k 0:=by
  have h1:k<(nums y).length:=by omega
  rw[List.getD_eq_getElem?_getD,List.getElem?_eq_getElem h1,Option.getD_some]
  exact hpy _ (List.getElem_mem h1)
 refine hn ((nums y).getD k 0).toNat (by omega) ?_
 have h5:bs=encs l++(Vm.enc ((nums y).getD k 0).toNat++encs ((nums y).drop (k+1))):=by
  rw[e]
  unfold enc
  conv=>lhs;rw[es,iI,←h2]
  rfl
 rw[h5,List.drop_left]
 exact List.prefix_append _ _
def Ls (bs:List Int) (z x:Pg) (n:Nat):Prop:=
 ∃l:List Pg,(∀y∈l,Ok y)∧Fm.cat (l.map enc)<+:bs∧n=(Fm.cat (l.map enc)).length∧x=l.getLast?.getD z∧∀y,Ok y→¬Fm.dB (enc y)<+:bs.drop n
def Go (bs:List Int) (z x:Pg) (n:Nat):Prop:=
 ∃l:List Pg,(∀y∈l,Ok y)∧Fm.cat (l.map enc)<+:bs∧n=(Fm.cat (l.map enc)).length∧x=l.getLast?.getD z
theorem pR (bs:List Int)(z:Pg):Go bs z z 0:=⟨[],by simp,by simp[Fm.cat],by simp[Fm.cat],rfl⟩
end Pm
end Go.Proofs.YtlmkaljjocflmaaGreatDoor
namespace Go.Proofs.YtlmkaljjocflmaaGreatDoor.Sm
set_option linter.unusedVariables false
abbrev S:=Int×Int
def Up (en:Int):Int→Int→List S→Prop
 |_,_,[]=>True
 |e,f,s::r=>e<s.1∧s.1≤1048576∧f<s.2∧s.2≤en∧Up en s.1 s.2 r
def upb (en:Int):Int→Int→List S→Bool
 |_,_,[]=>true
 |e,f,s::r=>(decide (e<s.1)&&decide (s.1≤1048576))&&((decide (f<s.2)&&decide (s.2≤en))&&upb en s.1 s.2 r)
theorem abr (en:Int):∀(e f:Int) (l:List S),upb en e f l=true↔Up en e f l
 |_,_,[]=>⟨fun _=>trivial,fun _=>rfl⟩
 |e,f,s::r=>by
  unfold upb Up
  rw[Bool.and_eq_true,Bool.and_eq_true,Bool.and_eq_true,Bool.and_eq_true,abr en s.1 s.2 r,decide_eq_true_iff,decide_eq_true_iff,decide_eq_true_iff,decide_eq_true_iff]
  constructor
  ·rintro⟨⟨h1,h2⟩,⟨h3,h4⟩,h5⟩
   exact⟨h1,h2,h3,h4,h5⟩
  ·rintro⟨h1,h2,h3,h4,h5⟩
   exact⟨⟨h1,h2⟩,⟨h3,h4⟩,h5⟩
def Ok (l:List S) (en:Int):Prop:=0≤en∧en≤1048576∧(l.length=0↔en=0)∧Up en 0 0 l∧((l.map Prod.snd).headD 1=1)
def okb (l:List S) (en:Int):Bool:=(decide (0≤en)&&decide (en≤1048576))&&(decide (l.length=0↔en=0)&&(upb en 0 0 l&&decide ((l.map Prod.snd).headD 1=1)))
theorem agj {l:List S}{en:Int}:okb l en=true↔Ok l en:=by
 unfold okb Ok
 rw[Bool.and_eq_true,Bool.and_eq_true,Bool.and_eq_true,Bool.and_eq_true,abr,decide_eq_true_iff,decide_eq_true_iff,decide_eq_true_iff,decide_eq_true_iff]
 constructor
 ·rintro⟨⟨h1,h2⟩,h3,h4,h5⟩
  exact⟨h1,h2,h3,h4,h5⟩
 ·rintro⟨h1,h2,h3,h4,h5⟩
  exact⟨⟨h1,h2⟩,h3,h4,h5⟩
def chk (l:List S) (en:Int):Int:=if okb l en=true then 0 else 5
theorem iR {l:List S}{en:Int}(h:Ok l en):chk l en=0:=if_pos (agj.2 h)
theorem gL {l:List S}{en:Int}(h:¬Ok l en):chk l en=5:=if_neg fun k=>h (agj.1 k)
theorem aV {l:List S}{en:Int}:chk l en=0↔Ok l en:=by
 constructor
 ·intro h
  by_cases k:Ok l en
  ·exact k
  ·rw[gL k]at h;simp at h
 ·exact iR
def epo (n:Int):Int→List S→Int
 |e,[]=>e
 |e,s::r=>if s.2≤n then epo n s.1 r else e
def beg (n:Int):List S→List S
 |[]=>[]
 |s::r=>if s.2≤n then s::beg n r else []
def aj (l:List S):Int:=((l.map Prod.fst).getLast?).getD 0
theorem mq (l:List S)(s:S):aj (l++[s])=s.1:=by simp[aj]
theorem akx {l:List S}{s:S}(h:l[l.length-1]? =some s):aj l=s.1:=by
 unfold aj
 rw[List.getLast?_eq_getElem?,List.length_map,List.getElem?_map,h]
 rfl
theorem aaB:∀(l:List S) (en e f:Int),Up en e f l→∀(i:Nat) (s:S),l[i]? =some s→e<s.1∧s.1≤1048576∧f<s.2∧s.2≤en
 |[],_,_,_,_,_,_,h=>by simp at h
 |t::r,en,e,f,h,0,s,hs=>by
  simp at hs
  subst hs
  exact⟨h.1,h.2.1,h.2.2.1,h.2.2.2.1⟩
 |t::r,en,e,f,h,i+1,s,hs=>by
  have:=aaB r en t.1 t.2 h.2.2.2.2 i s (by simpa using hs)
  have:=h.1
  have:=h.2.2.1
  omega
theorem aqC {l:List S}{k:Nat}{s:S}{en e f:Int}(h:l[k]? =some s):Up en e f (l.drop k)↔e<s.1∧s.1≤1048576∧f<s.2∧s.2≤en∧Up en s.1 s.2 (l.drop (k+1)):=by
 have hk:=(List.getElem?_eq_some_iff.1 h).1
 rw[List.drop_eq_getElem_cons hk,(List.getElem?_eq_some_iff.1 h).2]
 rfl
def Fk (a:List S) (ae:Int) (b:List S) (be n:Int):Prop:=
 0≤n∧n≤ae∧n≤be∧epo n 0 a=epo n 0 b∧∀m,n<m→m≤ae→m≤be→epo m 0 a≠epo m 0 b
structure Bk (a:List S) (ae:Int) (b:List S) (be:Int) (p:Nat) (x:Int) (q:Nat) (y:Int):Prop where
 pa:p≤a.length
 qb:q≤b.length
 xa:(p=a.length∧x=ae)∨∃s:S,a[p]? =some s∧x=s.2-1
 yb:(q=b.length∧y=be)∨∃s:S,b[q]? =some s∧y=s.2-1
 no:∀m,m≤ae→m≤be→(x<m∨y<m)→epo m 0 a≠epo m 0 b
def told (ep:Int):List Cm.Cv→List S
 |[]=>[]
 |c::r=>if c.e=ep then told c.e r else(c.e,c.n)::told c.e r
theorem eU {l:List Cm.Cv}(h:Cm.Good 0 0 l):(l.length:Int)≤1048576:=by
 cases hl:l.length with
 |zero=>simp
 |succ k=>
  have hc:l[k]? =some l[k]:=List.getElem?_eq_getElem (by omega)
  obtain⟨g1,g2,_⟩:=Cm.ma l 0 0 k _ h hc
  have:=Cm.aV g1
  simp
  omega
end Go.Proofs.YtlmkaljjocflmaaGreatDoor.Sm
namespace Go.Proofs.YtlmkaljjocflmaaGreatDoor
theorem lM {α:Type}{l:List α}{k:Nat}(h:k<l.length):∃s,l[k]? =some s:=⟨l[k],List.getElem?_eq_getElem h⟩
end Go.Proofs.YtlmkaljjocflmaaGreatDoor
namespace Go.Proofs.YtlmkaljjocflmaaGreatDoor.Mm
set_option linter.unusedVariables false
structure Msg where
 k:Int
 e:Int
 r:Int
 n:Int
 ss:List Sm.S
 f:Int
 p:Int
 cs:List Cm.Cv
def no:Msg:=⟨0,0,0,0,[],0,0,[]⟩
def Hel (m:Msg):Prop:=1≤m.r∧m.r≤3∧Sm.Ok m.ss m.n∧Sm.aj m.ss≤m.e∧m.f=0∧m.p=0∧m.cs=[]
def Shp (m:Msg):Prop:=1≤m.f∧m.f≤1048576∧0≤m.p∧m.p≤m.e∧(m.p=0↔m.f=1)∧m.cs.length≤4∧(∀c∈m.cs,c.e≤m.e)∧Cm.Good m.p (m.f-1) m.cs∧m.r=0∧m.n=0∧m.ss=[]
def Ack (m:Msg):Prop:=0≤m.n∧m.n≤1048576∧m.r=0∧m.ss=[]∧m.f=0∧m.p=0∧m.cs=[]
def Ok (m:Msg):Prop:=1≤m.e∧m.e≤1048576∧((m.k=1∧Hel m)∨(m.k=2∧Shp m)∨(m.k=3∧Ack m))
def Ck (m:Msg) (c:Int):Prop:=(c=0∧Ok m)∨(c=2∧¬Ok m)
def fl:List Sm.S→List Int
 |[]=>[]
 |s::l=>s.1::s.2::fl l
theorem qY:∀l:List Sm.S,(fl l).length=2*l.length
 |[]=>rfl
 |s::l=>by simp[fl,qY l];omega
theorem uL:∀l m:List Sm.S,fl (l++m)=fl l++fl m
 |[],m=>rfl
 |s::l,m=>by simp[fl,uL l m]
theorem afx:∀{l m:List Sm.S},fl l=fl m→l=m
 |[],[],_=>rfl
 |[],_::_,h=>by simp[fl]at h
 |_::_,[],h=>by simp[fl]at h
 |(a,b)::l,(c,d)::m,h=>by
  simp[fl]at h
  obtain⟨rfl,rfl,h⟩:=h
  rw[afx h]
def hd (m:Msg):List Int:=
 if m.k=1 then [m.k,m.e,m.r,m.n,(m.ss.length:Int)]++fl m.ss else if m.k=2 then [m.k,m.e,m.f,m.p,(m.cs.length:Int)]else [m.k,m.e,m.n]
theorem oK {m:Msg}(h:m.k=1):hd m=[m.k,m.e,m.r,m.n,(m.ss.length:Int)]++fl m.ss:=by unfold hd;rw[if_pos h]
theorem pE {m:Msg}(h:m.k=2):hd m=[m.k,m.e,m.f,m.p,(m.cs.length:Int)]:=by unfold hd;rw[if_neg (by omega),if_pos h]
theorem qN {m:Msg}(h:m.k=3):hd m=[m.k,m.e,m.n]:=by unfold hd;rw[if_neg (by omega),if_neg (by omega)]
def cb (c:Cm.Cv):List Int:=Cm.dW c.e c.n c.l
def enc (m:Msg):List Int:=Pm.encs (hd m)++Fm.cat (m.cs.map cb)
theorem am3 {l:List Int}(h:Pm.encs l<+:[]):l=[]:=by
 cases l with
 |nil=>rfl
 |cons x l=>exact absurd ((List.prefix_append _ _).trans h) (Vm.pre_nil _)
theorem yL:∀{l L:List Int},(∀z∈l,0≤z)→(∀z∈L,0≤z)→Pm.encs l<+:Pm.encs L→l<+:L
 |[],L,_,_,_=>List.nil_prefix
 |x::l,[],_,_,h=>by have:=am3 h;cases this
 |x::l,y::L,hx,hy,h=>by
  have h2:Vm.enc x.toNat<+:Pm.encs (y::L):=(List.prefix_append _ _).trans h
  have e:=Vm.cz _ _ _ h2 (List.prefix_append _ _)
  have ex:x=y:=by
   have:=hx x (by simp)
   have:=hy y (by simp)
   omega
  subst ex
  have h3:Pm.encs l<+:Pm.encs L:=by
   have:=Fm.fE (a:=Vm.enc x.toNat) (b:=Pm.encs l) h
   simpa[Pm.encs]using this
  have:=yL (fun z hz=>hx z (by simp[hz])) (fun z hz=>hy z (by simp[hz])) h3
  exact(List.cons_prefix_cons).2 ⟨rfl,this⟩
theorem mX {l L bs:List Int}(hl:∀z∈l,0≤z)(hL:∀z∈L,0≤z)(h:Pm.encs l<+:bs)(h':Pm.encs L<+:bs):l<+:L∨L<+:l:=by
 rcases List.prefix_or_prefix_of_prefix h h' with g|g
 ·exact .inl (yL hl hL g)
 ·exact .inr (yL hL hl g)
theorem ab2:∀(l:List Sm.S) (en e f:Int),0≤e→0≤f→en≤1048576→Sm.Up en e f l→∀z∈fl l,0≤z∧z≤1048576
 |[],_,_,_,_,_,_,_,z,hz=>by simp[fl]at hz
 |(a,b)::l,en,e,f,he,hf,hen,⟨h1,h2,h3,h4,h5⟩,z,hz=>by
  simp[fl]at hz
  simp at h1 h2 h3 h4
  rcases hz with rfl|rfl|hz
  ·omega
  ·omega
  ·exact ab2 l en a b (by omega) (by omega) hen h5 z hz
theorem rD:∀(l:List Sm.S) (en e f:Int),0≤f→Sm.Up en e f l→(l.length:Int)≤max 0 (en-f)
 |[],_,_,_,_,_=>by simp;omega
 |(a,b)::l,en,e,f,hf,⟨h1,h2,h3,h4,h5⟩=>by
  have:=rD l en a b (by simp at h3;omega) h5
  simp at h3 h4⊢
  omega
theorem fU {m:Msg}(h:Ok m):(∀z∈hd m,0≤z∧z≤1048576)∧3≤(hd m).length∧(hd m).getD 0 0=m.k∧(hd m).getD 1 0=m.e∧1≤m.k∧m.k≤3∧
  (m.k=1→5≤(hd m).length∧(hd m).getD 2 0=m.r∧m.r≤3∧(hd m).getD 3 0=m.n∧(hd m).getD 4 0=(m.ss.length:Int)∧(hd m).length=5+2*m.ss.length)∧
  (m.k=2→(hd m).length=5∧(hd m).getD 2 0=m.f∧(hd m).getD 3 0=m.p∧(hd m).getD 4 0=(m.cs.length:Int)∧m.cs.length≤4)∧
  (m.k=3→(hd m).length=3∧(hd m).getD 2 0=m.n):=by
 obtain⟨e1,e2,hk⟩:=h
 rcases hk with⟨k1,h1,h2,⟨o1,o2,o3,o4,o5⟩,h4,h5,h6,h7⟩|⟨k2,h1,h2,h3,h4,h5,h6,h7,h8,h9,h10,h11⟩|⟨k3,h1,h2,h3,h4,h5,h6,h7⟩
 ·rw[oK k1]
  have hln:=rD m.ss m.n 0 0 (by omega) o4
  refine⟨fun z hz=>?_,by simp,by simp,by simp,by omega,by omega,fun _=>⟨by simp,by simp,h2,by simp,by simp,by simp[qY];omega⟩,fun h=>by omega,fun h=>by omega⟩
  rcases List.mem_append.1 hz with hz|hz
  ·simp at hz
   rcases hz with rfl|rfl|rfl|rfl|rfl<;>omega
  ·exact ab2 m.ss m.n 0 0 (by omega) (by omega) o2 o4 z hz
 ·rw[pE k2]
  refine⟨fun z hz=>?_,by simp,by simp,by simp,by omega,by omega,fun h=>by omega,fun _=>⟨by simp,by simp,by simp,by simp,h6⟩,fun h=>by omega⟩
  simp at hz
  rcases hz with rfl|rfl|rfl|rfl|rfl<;>omega
 ·rw[qN k3]
  refine⟨fun z hz=>?_,by simp,by simp,by simp,by omega,by omega,fun h=>by omega,fun h=>by omega,fun _=>⟨by simp,by simp⟩⟩
  simp at hz
  rcases hz with rfl|rfl|rfl<;>omega
theorem pI {m:Msg}(h:Ok m):∀z∈hd m,0≤z:=fun z hz=>((fU h).1 z hz).1
theorem mP {l L:List Int}(h:l<+:L){i:Nat}(hi:i<l.length):L.getD i 0=l.getD i 0:=by
 obtain⟨t,rfl⟩:=h
 simp[List.getD_eq_getElem?_getD,List.getElem?_append_left hi]
theorem af8 {m m':Msg}(h:Ok m)(h':Ok m')(hp:hd m<+:hd m'):hd m=hd m':=by
 obtain⟨_,a1,a2,a3,a4,a5,a6,a7,a8⟩:=fU h
 obtain⟨_,b1,b2,b3,b4,b5,b6,b7,b8⟩:=fU h'
 have e0:=mP hp (i:=0) (by omega)
 rw[a2,b2]at e0
 refine hp.eq_of_length ?_
 have:m.k=1∨m.k=2∨m.k=3:=by omega
 rcases this with k|k|k
 ·have a:=a6 k
  have b:=b6 (by omega)
  have e4:=mP hp (i:=4) (by omega)
  rw[a.2.2.2.2.1,b.2.2.2.2.1]at e4
  omega
 ·have a:=a7 k
  have b:=b7 (by omega)
  omega
 ·have a:=a8 k
  have b:=b8 (by omega)
  omega
theorem tY:∀{l m:List (List Int)} {bs:List Int},l.length=m.length→Fm.cat l<+:bs→Fm.cat m<+:bs→l=m
 |[],[],_,_,_,_=>rfl
 |[],_::_,_,h,_,_=>by simp at h
 |_::_,[],_,h,_,_=>by simp at h
 |x::l,y::m,bs,h,h1,h2=>by
  have e:=Fm.wM ((List.prefix_append _ _).trans h1) ((List.prefix_append _ _).trans h2)
  subst e
  rw[tY (by simpa using h) (Fm.fE h1) (Fm.fE h2)]
theorem fM:∀{l:List Cm.Cv} {ep nu:Int},Cm.Good ep nu l→∀c∈l,Cm.chk c.e c.n c.l=0
 |[],_,_,_,c,hc=>by simp at hc
 |d::l,_,_,⟨h1,_,_,h4⟩,c,hc=>by
  rcases List.mem_cons.1 hc with rfl|hc
  ·exact h1
  ·exact fM h4 c hc
theorem ad6:∀{l m:List Cm.Cv},(∀c∈l,Cm.chk c.e c.n c.l=0)→(∀c∈m,Cm.chk c.e c.n c.l=0)→l.map cb=m.map cb→l=m
 |[],[],_,_,_=>rfl
 |[],_::_,_,_,h=>by simp at h
 |_::_,[],_,_,h=>by simp at h
 |c::l,d::m,h1,h2,h=>by
  simp at h
  obtain⟨e1,e2,e3⟩:=Cm.adW (h1 c (by simp)) (h2 d (by simp)) h.1
  have:c=d:=by cases c;cases d;simp at e1 e2 e3;simp[e1,e2,e3]
  subst this
  rw[ad6 (fun x hx=>h1 x (by simp[hx])) (fun x hx=>h2 x (by simp[hx])) h.2]
theorem xA {m:Msg}(h:Ok m):∀c∈m.cs,Cm.chk c.e c.n c.l=0:=by
 rcases h.2.2 with⟨_,_,_,_,_,_,_,h7⟩|⟨_,_,_,_,_,_,_,_,h8,_⟩|⟨_,_,_,_,_,_,_,h7⟩
 ·rw[h7];simp
 ·exact fM h8
 ·rw[h7];simp
theorem oH {m m':Msg}{bs:List Int}(h:Ok m)(h':Ok m')(h1:enc m<+:bs)(h2:enc m'<+:bs):m=m':=by
 have g1:Pm.encs (hd m)<+:bs:=(List.prefix_append _ _).trans h1
 have g2:Pm.encs (hd m')<+:bs:=(List.prefix_append _ _).trans h2
 have e:hd m=hd m':=by
  rcases mX (pI h) (pI h') g1 g2 with g|g
  ·exact af8 h h' g
  ·exact(af8 h' h g).symm
 have hcl:m.cs.length=m'.cs.length→m.cs=m'.cs:=fun hl=>by
  have c1:=Fm.fE h1
  have c2:=Fm.fE h2
  rw[←e]at c2
  exact ad6 (xA h) (xA h') (tY (by simpa using hl) c1 c2)
 obtain⟨_,_,a2,a3,a4,a5,a6,a7,a8⟩:=fU h
 obtain⟨_,_,b2,b3,b4,b5,b6,b7,b8⟩:=fU h'
 rw[e]at a2 a3
 have ek:m.k=m'.k:=a2.symm.trans b2
 have ee:m.e=m'.e:=a3.symm.trans b3
 rcases h.2.2 with⟨k,hh⟩|⟨k,hh⟩|⟨k,hh⟩
 ·rcases h'.2.2 with⟨k',gg⟩|⟨k',gg⟩|⟨k',gg⟩
  ·have e2:=e
   rw[oK k,oK k']at e2
   simp at e2
   have ess:=afx e2.2.2.2.2.2
   obtain⟨_,_,_,_,f1,p1,c1⟩:=hh
   obtain⟨_,_,_,_,f2,p2,c2⟩:=gg
   cases m;cases m'
   simp at*
   exact⟨ek,ee,e2.2.2.1,e2.2.2.2.1,ess,by omega,by omega,by rw[c1,c2]⟩
  ·omega
  ·omega
 ·rcases h'.2.2 with⟨k',gg⟩|⟨k',gg⟩|⟨k',gg⟩
  ·omega
  ·have e2:=e
   rw[pE k,pE k']at e2
   simp at e2
   have ecs:=hcl (by omega)
   obtain⟨_,_,_,_,_,_,_,_,r1,n1,s1⟩:=hh
   obtain⟨_,_,_,_,_,_,_,_,r2,n2,s2⟩:=gg
   cases m;cases m'
   simp at*
   exact⟨ek,ee,by omega,by omega,by rw[s1,s2],e2.2.2.1,e2.2.2.2.1,ecs⟩
  ·omega
 ·rcases h'.2.2 with⟨k',gg⟩|⟨k',gg⟩|⟨k',gg⟩
  ·omega
  ·omega
  ·have e2:=e
   rw[qN k,qN k']at e2
   simp at e2
   obtain⟨_,_,r1,s1,f1,p1,c1⟩:=hh
   obtain⟨_,_,r2,s2,f2,p2,c2⟩:=gg
   cases m;cases m'
   simp at*
   exact⟨ek,ee,by omega,e2.2.2,by rw[s1,s2],by omega,by omega,by rw[c1,c2]⟩
def Dc (bs:List Int) (m:Msg) (g:Int):Prop:=
 (g=0∧Ok m∧bs=enc m)∨(g=5∧m=no∧∀m',Ok m'→bs≠enc m')
theorem aaf {bs:List Int}{m m':Msg}{g g':Int}(h:Dc bs m g)(h':Dc bs m' g'):m=m'∧g=g':=by
 rcases h with⟨rfl,h1,h2⟩|⟨rfl,rfl,h2⟩<;>rcases h' with⟨rfl,g1,g2⟩|⟨rfl,rfl,g2⟩
 ·exact⟨oH h1 g1 (bs:=bs) (by rw[h2];exact List.prefix_refl _) (by rw[g2];exact List.prefix_refl _),rfl⟩
 ·exact absurd h2 (g2 m h1)
 ·exact absurd g2 (h2 m' g1)
 ·exact⟨rfl,rfl⟩
theorem afC {m:Msg}(h:Ok m):Dc (enc m) m 0:=.inl ⟨rfl,h,rfl⟩
theorem agb {bs l:List Int}{mx:Nat}(hp:∀z∈l,0≤z)(h:Pm.encs l<+:bs)(hn:∀u:Nat,u≤mx→¬Vm.enc u<+:bs.drop (Pm.encs l).length)
  (hq:∀m,Ok m→(l<+:hd m∨hd m<+:l)→l.length<(hd m).length∧(hd m).getD l.length 0≤mx):Dc bs no 5:=by
 refine .inr ⟨rfl,rfl,fun m hm e=>?_⟩
 have h2:Pm.encs (hd m)<+:bs:=by rw[e];exact List.prefix_append _ _
 have hc:=mX hp (pI hm) h h2
 obtain⟨q1,q2⟩:=hq m hm hc
 have hl:l<+:hd m:=by
  rcases hc with hc|hc
  ·exact hc
  ·have:=hc.length_le;omega
 obtain⟨t,ht⟩:=hl
 cases t with
 |nil=>rw[List.append_nil]at ht;rw[ht]at q1;omega
 |cons x t=>
  have hx:(hd m).getD l.length 0=x:=by rw[←ht];simp[List.getD_eq_getElem?_getD]
  rw[hx]at q2
  have hx0:0≤x:=pI hm x (by rw[←ht];simp)
  refine hn x.toNat (by omega) ?_
  have e2:bs=Pm.encs l++(Vm.enc x.toNat++(Pm.encs t++Fm.cat (m.cs.map cb))):=by
   rw[e]
   unfold enc
   rw[←ht,Pm.iI]
   simp[Pm.encs]
  rw[e2,List.drop_left]
  exact List.prefix_append _ _
end Go.Proofs.YtlmkaljjocflmaaGreatDoor.Mm
namespace Go.Proofs.YtlmkaljjocflmaaGreatDoor
set_option linter.unusedVariables false
namespace Rol
open Pm (Pg chk no Ok)
def fT (x:Pg) (n:Int):Int:=if chk x=0 then(if n<0∨1048576<n then 2 else if x.r=1 then 10 else if x.r=3 then 9 else if x.e=1048576 then 2 else 0)else chk x
def pr (x:Pg) (n:Int):Pg:=if fT x n=0 then⟨x.e+1,1,n,0,0,0⟩else no
def uC (x:Pg) (n:Int):Int:=if chk x=0 then(if n<1∨1048576<n then 2 else 0)else chk x
def vU (x:Pg) (n:Int):Bool:=decide (uC x n=0)&&decide (x.e<n)
def he (x:Pg) (n:Int):Pg:=if uC x n=0 then(if x.e<n then⟨n,3,0,1,0,0⟩else x)else no
def uB (x:Pg):Int:=if chk x=0 then(if x.r=2 then 11 else if x.r=3 then 9 else 0)else chk x
def lN (x:Pg):Int:=if chk x=0 then(if x.r=3 then 9 else 0)else chk x
theorem aot {x:Pg}{n:Int}(h:fT x n=0):Ok x∧0≤n∧n≤1048576∧x.r=2∧x.e<1048576:=by
 unfold fT at h
 split at h
 ·rename_i hc
  have ho:=Pm.mD.1 hc
  obtain⟨h1,h2,h3,h4,_⟩:=Pm.jm ho
  split at h
  ·simp at h
  ·split at h
   ·simp at h
   ·split at h
    ·simp at h
    ·split at h
     ·simp at h
     ·exact⟨ho,by omega,by omega,by omega,by omega⟩
 ·rename_i hc
  exact absurd h hc
theorem alU {x:Pg}(h:Ok x):(x.p=0→x.r=1∨x.r=2)∧(x.p≠0→x.r=3∧x.a=0)∧(x.p=1→x.f=0∧x.b=0)∧(x.r=1→x.p=0∧x.f=0∧x.b=0)∧(x.r=2→x.a=0∧x.p=0∧x.f=0∧x.b=0):=by
 obtain⟨_,h⟩:=h
 rcases h with h|h|h|h<;>refine⟨?_,?_,?_,?_,?_⟩<;>intro q<;>omega
def Way (x y:Pg):Prop:=
 y=x∨(y.r=1∧(x.r=2∧y.e=x.e+1∨x.r=1∧y.e=x.e∧x.a<y.a))∨(y.r=2∧x.r=3∧x.p=4∧y.e=x.e)∨(y.r=3∧y.p=1∧x.e<y.e)∨(y.r=3∧y.p≠1∧x.r=3∧y.e=x.e∧y.p=x.p+1∧(x.p=1∨y.f=x.f∧y.b=x.b))
theorem atN {x:Pg}{n:Int}(h:fT x n=0):Ok (pr x n)∧x.e≤(pr x n).e∧Way x (pr x n):=by
 obtain⟨h1,h2,h3,h4,h5⟩:=aot h
 obtain⟨k1,k2,_⟩:=Pm.jm h1
 unfold pr
 rw[if_pos h]
 exact⟨⟨⟨by show 1≤x.e+1;omega,by show x.e+1≤1048576;omega,h2,h3,by simp,by simp,by simp,by simp⟩,.inl ⟨rfl,rfl,rfl,rfl⟩⟩,by show x.e≤x.e+1;omega,.inr (.inl ⟨rfl,.inl ⟨h4,rfl⟩⟩)⟩
end Rol
end Go.Proofs.YtlmkaljjocflmaaGreatDoor
