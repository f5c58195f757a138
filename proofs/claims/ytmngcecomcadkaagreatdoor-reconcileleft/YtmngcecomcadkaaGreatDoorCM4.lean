/- Texts of one layer, one behind the other. -/
import Derived.Test.YtmngcecomcadkaaGreatDoorCM3
set_option maxRecDepth 100000
set_option maxHeartbeats 8000000
namespace Go.Proofs.YtmngcecomcadkaaGreatDoor
set_option linter.unusedVariables false
namespace Rst
open Dm
open Cm (Cv lastE lastN)
open Pm (Pg)
open Orp (Se)
theorem awp (z:Pg)(hz:z.e=1∧z.a=0∧z.p=0∧z.r≠3):In z ⟨Dm.new,z,[],[],false⟩ [] []:=
 ⟨rfl,rfl,rfl,rfl,trivial,rfl,by simp,rfl,rfl,trivial,rfl,trivial,wD (by simp[Cm.lastN]) (by show(0:Int)≤z.e;omega) hz.2.2.2 (by show z.a≤(0:Int);omega) hz.2.2.1⟩
def cut (s:St) (to:Int):Int×Ds:=if (cK s.d 0 (Wl.aR (s.l.take to.toNat)).length).1≠0 then(6,(cK s.d 0 (Wl.aR (s.l.take to.toNat)).length).2)else if (sync (cK s.d 0 (Wl.aR (s.l.take to.toNat)).length).2).1≠0 then(6,(sync (cK s.d 0 (Wl.aR (s.l.take to.toNat)).length).2).2)else(0,(sync (cK s.d 0 (Wl.aR (s.l.take to.toNat)).length).2).2)
def df (s:St) (to:Int):Int×St:=
 if asked s=true then(6,brk s)else if to<lastN 0 s.r∨(s.l.length:Int)<to then(2,s)else if fine s s.p (s.l.take to.toNat) (lastN 0 s.r)=false then(5,s)
 else if (cut s to).1≠0 then(6,⟨(cut s to).2,s.p,s.l,s.r,true⟩)else(0,⟨(cut s to).2,s.p,s.l.take to.toNat,s.r,s.off⟩)
def base (s:St):Int×Int×St:=if asked s=true then(0,6,brk s)else((hf 3 s.d).length,0,s)
def xB (s:St) (b:Int) (x:Se) (l:List Se):Int:=
 if ((Orp.secs l).length:Int)≠b∨(l≠[]∧x.e≤Orp.kg 0 l)∨((s.p.p=2∨s.p.p=3∨s.p.p=4)∧b<s.p.b)then 5 else 0
def dI (s:St) (b:Int) (x:Se) (l:List Se):Int×St:=
 if asked s=true then(6,brk s)else if Orp.chk x≠0 then(Orp.chk x,s)else if b<0∨((hf 3 s.d).length:Int)<b then(2,s)else if xB s b x l≠0 then(xB s b x l,s)
 else((Orp.dX s.d b x).1,⟨(Orp.dX s.d b x).2,s.p,s.l,s.r,s.off||decide ((Orp.dX s.d b x).1=6)⟩)
end Rst
end Go.Proofs.YtmngcecomcadkaaGreatDoor
namespace Go.Proofs.YtmngcecomcadkaaGreatDoor
set_option linter.unusedVariables false
namespace Rst
open Dm
open Cm (Cv lastE lastN)
open Pm (Pg)
open Orp (Se)
def cuts (f:Nat) (d:Ds) (n:Nat):Int×Ds:=if (cK d f n).1≠0 then(6,(cK d f n).2)else if (sync (cK d f n).2).1≠0 then(6,(sync (cK d f n).2).2)else(0,(sync (cK d f n).2).2)
theorem axB {d:Ds}(f:Nat)(hf4:f<4){n:Nat}(hn:n≤(d.sure f).length)(hw:d.wait=[])(ho:d.on=true):
  ((cuts f d n).1=0∧(cuts f d n).2.on=true∧(cuts f d n).2.wait=[]∧(cuts f d n).2.sure f=(d.sure f).take n∧(∀j,f≠j→(cuts f d n).2.sure j=d.sure j)∨
   (cuts f d n).1=6∧(cuts f d n).2.on=false∧(cuts f d n).2.sure=d.sure∧((cuts f d n).2.wait=[]∨(cuts f d n).2.wait=[⟨f,true,n,[]⟩]))∧
  (d.has=false→(cuts f d n).1=0∧(cuts f d n).2.has=false):=by
 have hc:cK d f n=if Dm.off d=true then(6,ig d)else(0,push (bB d) ⟨f,true,n,[]⟩):=by
  unfold cK
  rw[if_neg (by simp[ho]),if_neg (by unfold iW;simp;omega),if_neg ?_]
  ·simp
  ·have:hold f (d.sure f) d.wait=d.sure f:=dG hw f
   simp[this]
   omega
 unfold cuts
 cases h1:Dm.off d with
 |true=>
  rw[h1,if_pos rfl]at hc
  rw[hc,if_pos (by simp)]
  refine⟨.inr ⟨rfl,rfl,rfl,.inl hw⟩,fun h=>?_⟩
  unfold Dm.off at h1
  rw[h]at h1
  simp at h1
 |false=>
  rw[h1,if_neg (by simp)]at hc
  rw[hc,if_neg (by simp)]
  have hon:(push (bB d) ⟨f,true,n,[]⟩).on=true:=ho
  have hs:sync (push (bB d) ⟨f,true,n,[]⟩)=if Dm.off (push (bB d) ⟨f,true,n,[]⟩)=true then(6,ig (push (bB d) ⟨f,true,n,[]⟩))else(0,flush (bB (push (bB d) ⟨f,true,n,[]⟩))):=by
   unfold sync
   rw[if_neg (by simp[hon])]
  cases h2:Dm.off (push (bB d) ⟨f,true,n,[]⟩)with
  |true=>
   rw[h2,if_pos rfl]at hs
   simp only
   rw[hs,if_pos (by simp)]
   refine⟨.inr ⟨rfl,rfl,rfl,.inr ?_⟩,fun h=>?_⟩
   ·show d.wait++[_]=_
    rw[hw]
    rfl
   ·unfold Dm.off at h2
    have:(push (bB d) ⟨f,true,n,[]⟩).has=d.has:=rfl
    rw[this,h]at h2
    simp at h2
  |false=>
   rw[h2,if_neg (by simp)]at hs
   simp only
   rw[hs,if_neg (by simp)]
   have hfl:∀j,(flush (bB (push (bB d) ⟨f,true,n,[]⟩))).sure j=if f=j then(d.sure j).take n else d.sure j:=fun j=>by
    show dof d.sure (d.wait++[⟨f,true,n,[]⟩]) j=_
    rw[hw,←jD]
    show(if f=j then mV (d.sure j) ⟨f,true,n,[]⟩else d.sure j)=_
    split<;>rfl
   exact⟨.inl ⟨rfl,ho,rfl,(hfl f).trans (if_pos rfl),fun j hj=>(hfl j).trans (if_neg hj)⟩,fun h=>⟨rfl,h⟩⟩
theorem aup (s:St)(to:Int):cut s to=cuts 0 s.d (Wl.aR (s.l.take to.toNat)).length:=rfl
section
variable {z:Pg} {s:St} {ps:List Pg} {ss:List Se}
theorem In.gL (h:In z s ps ss)(n:Nat):Cm.Good 0 0 (s.l.take n):=Cm.gL h.gl n
theorem aiL (h:In z s ps ss)(to:Int):
  ((df s to).1≠0∧(df s to).1≠6∧(df s to).2=s)∨
  ((df s to).1=0∧lastN 0 s.r≤to∧to≤s.l.length∧In z (df s to).2 ps ss∧(df s to).2.p=s.p∧(df s to).2.l=s.l.take to.toNat∧(df s to).2.r=s.r∧(s.d.has=false→(df s to).2.d.has=false))∨
  ((df s to).1=6∧s.d.has=true∧snd s.p (s.l.take to.toNat) (lastN 0 s.r) (Orp.secs ss).length=true∧(df s to).2.d.on=false∧(df s to).2.off=true∧(df s to).2.p=s.p∧(df s to).2.l=s.l∧(df s to).2.r=s.r∧(df s to).2.d.sure=s.d.sure∧((df s to).2.d.wait=[]∨(df s to).2.d.wait=[⟨0,true,(Wl.aR (s.l.take to.toNat)).length,[]⟩])):=by
 unfold df
 rw[if_neg (by rw[h.ask];simp)]
 by_cases h1:to<lastN 0 s.r∨(s.l.length:Int)<to
 ·rw[if_pos h1]
  exact .inl ⟨by simp,by simp,rfl⟩
 rw[if_neg h1,h.fine]
 cases hs:snd s.p (s.l.take to.toNat) (lastN 0 s.r) (Orp.secs ss).length with
 |false=>rw[if_pos rfl];exact .inl ⟨by simp,by simp,rfl⟩
 |true=>
  rw[if_neg (by simp),aup]
  have hle:(Wl.aR (s.l.take to.toNat)).length≤(s.d.sure 0).length:=by
   rw[h.log,Wl.aeP]
   exact List.length_take_le' _ _
  obtain⟨hx,hn⟩:=axB 0 (by omega) hle h.calm h.on
  generalize cuts 0 s.d (Wl.aR (s.l.take to.toNat)).length=x at*
  rcases hx with⟨e1,e2,e3,e4,e5⟩|⟨e1,e2,e3,e4⟩
  ·rw[if_neg (by simp[e1])]
   refine .inr (.inl ⟨rfl,by omega,by omega,⟨e2,e3,h.off,?_,h.gL _,?_,h.gp,h.last,?_,h.gr,?_,h.go,hs⟩,rfl,rfl,rfl,fun k=>(hn k).2⟩)
   ·rw[e4,h.log,←Wl.aeP]
   ·rw[e5 1 (by omega)];exact h.yM
   ·rw[e5 2 (by omega)];exact h.run
   ·rw[e5 3 (by omega)];exact h.kR
  ·rw[if_pos (by simp[e1])]
   refine .inr (.inr ⟨rfl,?_,rfl,e2,rfl,rfl,rfl,rfl,e3,e4⟩)
   cases hh:s.d.has with
   |true=>rfl
   |false=>rw[(hn hh).1]at e1;simp at e1
end
end Rst
end Go.Proofs.YtmngcecomcadkaaGreatDoor
namespace Go.Proofs.YtmngcecomcadkaaGreatDoor
set_option linter.unusedVariables false
namespace Rst
open Dm
open Cm (Cv lastE lastN)
open Pm (Pg)
open Orp (Se)
def Pcs (f:Nat) (ws:List Rw):Prop:=∀r∈ws,r.cut=false∧r.file=f
theorem Pcs.other {f j:Nat}(hj:f≠j):∀{ws:List Rw} (b:List Int),Pcs f ws→hold j b ws=b
 |[],b,_=>rfl
 |r::ws,b,h=>by
  rw[hold,if_neg (by rw[(h r List.mem_cons_self).2];exact hj)]
  exact Pcs.other hj b fun x hx=>h x (List.mem_cons_of_mem _ hx)
theorem auf (f:Nat):∀(n:Nat) (st:Ds) (bs:List Int),bs.length≤n→st.on=true→
  ∃ws,(wrt f n st bs).2.wait=st.wait++ws∧Pcs f ws∧(wrt f n st bs).2.sure=st.sure∧
   ((wrt f n st bs).1=0∧(wrt f n st bs).2.on=true∧(∀b,hold f b ws=b++bs)∨(wrt f n st bs).1=6∧(wrt f n st bs).2.on=false∧(∀b,hold f b ws<+:b++bs))∧
   (st.has=false→(wrt f n st bs).1=0∧(wrt f n st bs).2.has=false)
 |0,st,bs,hb,ho=>by
  have:bs=[]:=List.eq_nil_of_length_eq_zero (by omega)
  subst this
  exact⟨[],by simp[wrt],fun r hr=>by simp at hr,rfl,.inl ⟨rfl,ho,fun b=>by simp[hold]⟩,fun h=>⟨rfl,h⟩⟩
 |n+1,st,bs,hb,ho=>by
  unfold wrt
  by_cases h0:bs=[]
  ·subst h0
   rw[if_pos rfl]
   exact⟨[],by simp,fun r hr=>by simp at hr,rfl,.inl ⟨rfl,ho,fun b=>by simp[hold]⟩,fun h=>⟨rfl,h⟩⟩
  ·rw[if_neg h0]
   have hp:1≤bs.length:=by
    rcases bs with _|⟨x,bs⟩
    ·exact absurd rfl h0
    ·simp
   cases hoff:Dm.off st with
   |true=>exact⟨[],by simp[ig],fun r hr=>by simp at hr,rfl,.inr ⟨rfl,rfl,fun b=>List.prefix_append _ _⟩,fun h=>by simp[Dm.off,h]at hoff⟩
   |false=>
    obtain⟨ws,h1,h2,h3,h4,h5⟩:=auf f n (push (bB st) ⟨f,false,0,bs.take 64⟩) (bs.drop 64) (by rw[List.length_drop];omega) ho
    have hone:∀b,hold f b (⟨f,false,0,bs.take 64⟩::ws)=hold f (b++bs.take 64) ws:=fun b=>by rw[hold,if_pos rfl];rfl
    refine⟨⟨f,false,0,bs.take 64⟩::ws,?_,fun r hr=>?_,h3,?_,h5⟩
    ·show(wrt f n _ _).2.wait=_
     rw[h1]
     show(st.wait++[_])++ws=_
     simp
    ·rcases List.mem_cons.1 hr with rfl|hr
     ·exact⟨rfl,rfl⟩
     ·exact h2 r hr
    ·rcases h4 with⟨e1,e2,e3⟩|⟨e1,e2,e3⟩
     ·exact .inl ⟨e1,e2,fun b=>by rw[hone,e3,List.append_assoc,List.take_append_drop]⟩
     ·refine .inr ⟨e1,e2,fun b=>?_⟩
      rw[hone]
      have:=e3 (b++bs.take 64)
      rw[List.append_assoc,List.take_append_drop]at this
      exact this
theorem auz {st:Ds}{x:Se}(ho:st.on=true):
  (∃ws,Pcs 3 ws∧((Orp.wr2 st x).1=0∧(Orp.wr2 st x).2.on=true∧(Orp.wr2 st x).2.wait=[]∧(Orp.wr2 st x).2.sure 3=hf 3 st++Orp.sec x∧(∀j,3≠j→(Orp.wr2 st x).2.sure j=hf j st)∨
   (Orp.wr2 st x).1=6∧(Orp.wr2 st x).2.on=false∧(Orp.wr2 st x).2.sure=st.sure∧(Orp.wr2 st x).2.wait=st.wait++ws∧∀b,hold 3 b ws<+:b++Orp.sec x))∧
  (st.has=false→(Orp.wr2 st x).1=0∧(Orp.wr2 st x).2.has=false):=by
 obtain⟨ws,h1,h2,h3,h4,h5⟩:=auf 3 (Orp.sec x).length st (Orp.sec x) (Nat.le_refl _) ho
 unfold Orp.wr2
 rw[Orp.amc _ ho]
 generalize wrt 3 (Orp.sec x).length st (Orp.sec x)=y at*
 rcases h4 with⟨e1,e2,e3⟩|⟨e1,e2,e3⟩
 ·rw[if_neg (by simp[e1])]
  cases hoff:Dm.off y.2 with
  |true=>
   have e:sync y.2=(6,ig y.2):=by
    unfold sync
    rw[if_neg (by simp[e2]),if_pos hoff]
   rw[e,if_pos (by simp)]
   refine⟨⟨ws,h2,.inr ⟨rfl,rfl,h3,h1,fun b=>by rw[e3];exact List.prefix_rfl⟩⟩,fun hh=>?_⟩
   have:=(h5 hh).2
   simp[Dm.off,this]at hoff
  |false=>
   have e:sync y.2=(0,flush (bB y.2)):=by
    unfold sync
    rw[if_neg (by simp[e2]),if_neg (by simp[hoff])]
   rw[e,if_neg (by simp)]
   have hh:∀j,(flush (bB y.2)).sure j=hold j (hf j st) ws:=fun j=>by
    show dof y.2.sure y.2.wait j=_
    rw[←jD,h3,h1,aaa]
    rfl
   exact⟨⟨ws,h2,.inl ⟨rfl,e2,rfl,by rw[hh,e3],fun j hj=>by rw[hh,Pcs.other hj _ h2]⟩⟩,fun hh=>⟨rfl,(h5 hh).2⟩⟩
 ·rw[if_pos (by simp[e1])]
  exact⟨⟨ws,h2,.inr ⟨rfl,e2,h3,h1,e3⟩⟩,fun hh=>by rw[(h5 hh).1]at e1;simp at e1⟩
end Rst
end Go.Proofs.YtmngcecomcadkaaGreatDoor
namespace Go.Proofs.YtmngcecomcadkaaGreatDoor
set_option linter.unusedVariables false
namespace Rst
open Dm
open Cm (Cv lastE lastN)
open Pm (Pg)
open Orp (Se)
theorem arq (x:Se):Orp.chk x≠6:=by
 unfold Orp.chk
 split
 ·decide
 ·split
  ·split<;>decide
  ·exact yh _ _ _ _
def Pnd (d:Ds) (n:Nat) (x:Se):Prop:=d.wait=[]∨∃ws,Pcs 3 ws∧(∀b,hold 3 b ws<+:b++Orp.sec x)∧(d.wait=ws∧n=(d.sure 3).length∨d.wait=⟨3,true,n,[]⟩::ws)
theorem aym {d:Ds}{x:Se}{n:Nat}(hw:d.wait=[])(ho:d.on=true)(hc:Orp.chk x=0)(hn:n≤(d.sure 3).length):
  ((Orp.dX d n x).1=0∧(Orp.dX d n x).2.on=true∧(Orp.dX d n x).2.wait=[]∧(Orp.dX d n x).2.sure 3=(d.sure 3).take n++Orp.sec x∧(∀j,3≠j→(Orp.dX d n x).2.sure j=d.sure j)∨
   (Orp.dX d n x).1=6∧(Orp.dX d n x).2.on=false∧(Orp.dX d n x).2.sure=d.sure∧Pnd (Orp.dX d n x).2 n x)∧
  (d.has=false→(Orp.dX d n x).1=0∧(Orp.dX d n x).2.has=false):=by
 have hl:Orp.hl d=d.sure 3:=dG hw 3
 rw[Orp.aeo ho hc (by rw[hl];omega)]
 unfold Orp.qy
 rw[hl]
 by_cases hlt:(n:Int)<(d.sure 3).length
 ·rw[if_pos hlt]
  have hcut:cK d 3 n=if Dm.off d=true then(6,ig d)else(0,push (bB d) ⟨3,true,n,[]⟩):=by
   unfold cK
   rw[if_neg (by simp[ho]),if_neg (by decide),if_neg ?_]
   ·simp
   ·have:hold 3 (d.sure 3) d.wait=d.sure 3:=dG hw 3
    simp[this]
    omega
  cases h1:Dm.off d with
  |true=>
   rw[h1,if_pos rfl]at hcut
   rw[hcut,if_pos (by simp)]
   refine⟨.inr ⟨rfl,rfl,rfl,.inl hw⟩,fun h=>?_⟩
   unfold Dm.off at h1
   rw[h]at h1
   simp at h1
  |false=>
   rw[h1,if_neg (by simp)]at hcut
   rw[hcut,if_neg (by simp)]
   simp only
   have ho2:(push (bB d) ⟨3,true,n,[]⟩).on=true:=ho
   obtain⟨⟨ws,k1,k2⟩,k3⟩:=auz (x:=x) ho2
   have h3:hf 3 (push (bB d) ⟨3,true,n,[]⟩)=(d.sure 3).take n:=by
    have:=Orp.akP (st:=d) n
    rw[hl]at this
    exact this
   have hj:∀j,3≠j→hf j (push (bB d) ⟨3,true,n,[]⟩)=d.sure j:=fun j hj=>by
    show hold j (d.sure j) (d.wait++[⟨3,true,n,[]⟩])=_
    rw[oF,if_neg hj]
    exact dG hw j
   have hwt:(push (bB d) ⟨3,true,n,[]⟩).wait=[⟨3,true,n,[]⟩]:=by
    show d.wait++[_]=_
    rw[hw]
    rfl
   rw[h3,hwt]at k2
   refine⟨?_,fun h=>k3 h⟩
   rcases k2 with⟨e1,e2,e3,e4,e5⟩|⟨e1,e2,e3,e4,e5⟩
   ·exact .inl ⟨e1,e2,e3,e4,fun j h=>by rw[e5 j h,hj j h]⟩
   ·exact .inr ⟨e1,e2,e3,.inr ⟨ws,k1,e5,.inr e4⟩⟩
 ·rw[if_neg hlt]
  have hnl:n=(d.sure 3).length:=by omega
  obtain⟨⟨ws,k1,k2⟩,k3⟩:=auz (x:=x) ho
  rw[dG hw,hw,List.nil_append]at k2
  refine⟨?_,k3⟩
  rcases k2 with⟨e1,e2,e3,e4,e5⟩|⟨e1,e2,e3,e4,e5⟩
  ·exact .inl ⟨e1,e2,e3,by rw[e4,hnl,List.take_length],fun j h=>by rw[e5 j h,dG hw]⟩
  ·exact .inr ⟨e1,e2,e3,.inr ⟨ws,k1,e5,.inl ⟨e4,by rw[e3];exact hnl⟩⟩⟩
section
variable {z:Pg} {s:St} {ps:List Pg} {ss:List Se}
structure Bhd (s:St) (b:Int) (x:Se) (l:List Se):Prop where
 lo:0≤b
 ris:Orp.Ris 0 (l++[x])
 is:Orp.secs l=(s.d.sure 3).take b.toNat
 len:((Orp.secs l).length:Int)=b
 le:b.toNat≤(s.d.sure 3).length
 base:(s.p.p=2∨s.p.p=3∨s.p.p=4)→s.p.b≤b
theorem aj3 (h:In z s ps ss)(b:Int)(x:Se){l:List Se}(hl:Orp.Sn 0 ((s.d.sure 3).take b.toNat) l):
  ((dI s b x l).1≠0∧(dI s b x l).1≠6∧(dI s b x l).2=s)∨
  ((dI s b x l).1=0∧Bhd s b x l∧In z (dI s b x l).2 ps (l++[x])∧(dI s b x l).2.p=s.p∧(dI s b x l).2.l=s.l∧(dI s b x l).2.r=s.r∧(s.d.has=false→(dI s b x l).2.d.has=false))∨
  ((dI s b x l).1=6∧Bhd s b x l∧s.d.has=true∧(dI s b x l).2.d.on=false∧(dI s b x l).2.off=true∧(dI s b x l).2.p=s.p∧(dI s b x l).2.l=s.l∧(dI s b x l).2.r=s.r∧(dI s b x l).2.d.sure=s.d.sure∧Pnd (dI s b x l).2.d b.toNat x):=by
 unfold dI
 rw[if_neg (by rw[h.ask];simp)]
 by_cases hc:Orp.chk x=0
 rotate_left
 ·rw[if_pos hc]
  exact .inl ⟨hc,arq x,rfl⟩
 rw[if_neg (by simp[hc]),dG h.calm]
 by_cases h1:b<0∨((s.d.sure 3).length:Int)<b
 ·rw[if_pos h1]
  exact .inl ⟨by simp,by simp,rfl⟩
 rw[if_neg h1]
 by_cases h2:xB s b x l=0
 rotate_left
 ·rw[if_pos h2]
  refine .inl ⟨h2,?_,rfl⟩
  show xB s b x l≠6
  unfold xB
  split<;>decide
 rw[if_neg (by simp[h2])]
 have h3:¬(((Orp.secs l).length:Int)≠b∨(l≠[]∧x.e≤Orp.kg 0 l)∨((s.p.p=2∨s.p.p=3∨s.p.p=4)∧b<s.p.b)):=fun k=>by
  unfold xB at h2
  rw[if_pos k]at h2
  simp at h2
 have hlen:((Orp.secs l).length:Int)=b:=Decidable.byContradiction fun k=>h3 (.inl k)
 have hris:Orp.Ris 0 (l++[x]):=by
  rw[Orp.xS]
  refine⟨hl.1,?_⟩
  have hx:1≤x.e:=by
   have:=hc
   unfold Orp.chk at this
   split at this
   ·simp at this
   ·omega
  by_cases hle:l=[]
  ·subst hle
   exact⟨hc,by show(0:Int)<x.e;omega,trivial⟩
  ·exact⟨hc,by have:¬x.e≤Orp.kg 0 l:=fun k=>h3 (.inr (.inl ⟨hle,k⟩));omega,trivial⟩
 have his:Orp.secs l=(s.d.sure 3).take b.toNat:=by
  have hp:=hl.2.1
  refine hp.eq_of_length (Nat.le_antisymm hp.length_le ?_)
  rw[List.length_take]
  omega
 have hbh:Bhd s b x l:=⟨by omega,hris,his,hlen,by omega,fun k=>by have:¬b<s.p.b:=fun q=>h3 (.inr (.inr ⟨k,q⟩));omega⟩
 have hb:b=((b.toNat:Nat):Int):=by omega
 obtain⟨hx,hn⟩:=aym (x:=x) (n:=b.toNat) h.calm h.on hc (by omega)
 rw[←hb]at hx hn
 generalize Orp.dX s.d b x=y at*
 rcases hx with⟨e1,e2,e3,e4,e5⟩|⟨e1,e2,e3,e4⟩
 ·refine .inr (.inl ⟨e1,hbh,⟨e2,e3,by simp[h.off,e1],?_,h.gl,?_,h.gp,h.last,?_,h.gr,?_,hris,?_⟩,rfl,rfl,rfl,fun k=>(hn k).2⟩)
  ·rw[e5 0 (by omega)];exact h.log
  ·rw[e5 1 (by omega)];exact h.yM
  ·rw[e5 2 (by omega)];exact h.run
  ·rw[e4,←his,Orp.lC,Orp.nO]
  ·have hs:=nk.1 h.sd
   refine nk.2 ⟨hs.1,fun k=>⟨(hs.2 k).1,(hs.2 k).2.1,(hs.2 k).2.2.1,?_⟩⟩
   have:=hbh.base k
   rw[Orp.lC,List.length_append]
   show s.p.b≤_
   omega
 ·refine .inr (.inr ⟨e1,hbh,?_,e2,by simp[e1],rfl,rfl,rfl,e3,e4⟩)
  cases hh:s.d.has with
  |true=>rfl
  |false=>rw[(hn hh).1]at e1;simp at e1
end
end Rst
end Go.Proofs.YtmngcecomcadkaaGreatDoor
namespace Go.Proofs.YtmngcecomcadkaaGreatDoor
set_option linter.unusedVariables false
namespace Rst
open Dm
open Cm (Cv lastE lastN)
open Pm (Pg)
open Orp (Se)
section
variable {z:Pg} {s:St} {ps:List Pg} {ss:List Se}
theorem av5 (h:In z s ps ss)(hh:s.d.has=false){cs:List Cv}(h1:(Cm.fol (lastE 0 s.l) s.l.length 0 cs).1=0)(h2:snd s.p (s.l++cs) (lastN 0 s.r) (Orp.secs ss).length=true):
  (add s cs).1=0∧In z (add s cs).2 ps ss∧(add s cs).2.p=s.p∧(add s cs).2.l=s.l++cs∧(add s cs).2.r=s.r∧(add s cs).2.d.has=false:=by
 rcases au7 h cs with⟨c1,c2,_⟩|⟨c1,c2,c3,c4,c5,c6⟩|⟨_,c2,_⟩
 ·exfalso
  unfold add at c1 c2
  rw[if_neg (by rw[h.ask];simp),if_neg (by rw[h1];simp),if_neg (by rw[h.fine,h2];simp)]at c1 c2
  split at c1
  ·exact c1 rfl
  ·rename_i hne
   rw[if_neg hne]at c2
   split at c1
   ·rename_i hw
    rw[if_pos hw]at c2
    exact c2 rfl
   ·exact c1 rfl
 ·exact⟨c1,c2,c3,c4,c5,c6 hh⟩
 ·rw[hh]at c2;cases c2
theorem arM (h:In z s ps ss)(hh:s.d.has=false){q:Pg}(h1:Pm.chk q=0)(h2:snd q s.l (lastN 0 s.r) (Orp.secs ss).length=true):
  (dm s q).1=0∧In z (dm s q).2 (ps++[q]) ss∧(dm s q).2.p=q∧(dm s q).2.l=s.l∧(dm s q).2.r=s.r∧(dm s q).2.d.has=false:=by
 rcases asZ h q with⟨c1,c2,_⟩|⟨c1,c2,c3,c4,c5,c6⟩|⟨_,c2,_⟩
 ·exfalso
  unfold dm at c1 c2
  rw[if_neg (by rw[h.ask];simp),if_neg (by rw[h1];simp),if_neg (by rw[h.fine,h2];simp)]at c1 c2
  split at c1
  ·rename_i hw
   rw[if_pos hw]at c2
   exact c2 rfl
  ·exact c1 rfl
 ·exact⟨c1,c2,c3,c4,c5,c6 hh⟩
 ·rw[hh]at c2;cases c2
end
end Rst
end Go.Proofs.YtmngcecomcadkaaGreatDoor
