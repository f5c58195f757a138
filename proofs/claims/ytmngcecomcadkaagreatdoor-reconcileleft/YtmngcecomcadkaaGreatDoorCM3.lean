/- Texts of one layer, one behind the other. -/
import Derived.Test.YtmngcecomcadkaaGreatDoorCG2
import Derived.Test.YtmngcecomcadkaaGreatDoorCG3
import Derived.Test.YtmngcecomcadkaaGreatDoorCM2
set_option maxRecDepth 100000
set_option maxHeartbeats 8000000
namespace Go.Proofs.YtmngcecomcadkaaGreatDoor
set_option linter.unusedVariables false
namespace Rst
open Dm
def hf (f:Nat) (d:Ds):List Int:=hold f (d.sure f) d.wait
theorem dG {d:Ds}(h:d.wait=[])(f:Nat):hf f d=d.sure f:=by unfold hf;rw[h];rfl
theorem abv {st:Ds}(f:Nat)(bs:List Int)(j:Nat):hf j (push (bB st) ⟨f,false,0,bs⟩)=if f=j then hf j st++bs else hf j st:=by
 unfold hf push bB
 simp only
 rw[oF]
 split
 ·simp[mV]
 ·rfl
theorem au9 (f:Nat):∀(n:Nat) (st:Ds) (bs:List Int),bs.length≤n→Wl.App st.wait→st.on=true→
  ((wrt f n st bs).1=0∧(wrt f n st bs).2.on=true∧hf f (wrt f n st bs).2=hf f st++bs∨
   (wrt f n st bs).1=6∧(wrt f n st bs).2.on=false∧hf f st<+:hf f (wrt f n st bs).2∧hf f (wrt f n st bs).2<+:hf f st++bs)∧
  (wrt f n st bs).2.sure=st.sure∧Wl.App (wrt f n st bs).2.wait∧(∀j,f≠j→hf j (wrt f n st bs).2=hf j st)∧(st.has=false→(wrt f n st bs).1=0∧(wrt f n st bs).2.has=false)
 |0,st,bs,hb,ha,ho=>by
  have:bs=[]:=List.eq_nil_of_length_eq_zero (by omega)
  subst this
  exact⟨.inl ⟨rfl,ho,by simp[wrt]⟩,rfl,ha,fun _ _=>rfl,fun h=>⟨rfl,h⟩⟩
 |n+1,st,bs,hb,ha,ho=>by
  unfold wrt
  by_cases h0:bs=[]
  ·subst h0
   rw[if_pos rfl]
   exact⟨.inl ⟨rfl,ho,by simp⟩,rfl,ha,fun _ _=>rfl,fun h=>⟨rfl,h⟩⟩
  ·rw[if_neg h0]
   have hp:1≤bs.length:=by
    rcases bs with _|⟨x,bs⟩
    ·exact absurd rfl h0
    ·simp
   cases hoff:off st with
   |true=>
    refine⟨.inr ⟨rfl,rfl,List.prefix_rfl,List.prefix_append _ _⟩,rfl,ha,fun _ _=>rfl,fun h=>?_⟩
    unfold off at hoff
    rw[h]at hoff
    simp at hoff
   |false=>
    have ih:=au9 f n (push (bB st) ⟨f,false,0,bs.take 64⟩) (bs.drop 64) (by rw[List.length_drop];omega) (Wl.zu ha rfl) ho
    rw[abv,if_pos rfl,List.append_assoc,List.take_append_drop]at ih
    obtain⟨h1,h2,h3,h4,h5⟩:=ih
    refine⟨?_,h2,h3,fun j hj=>?_,fun h=>h5 h⟩
    ·rcases h1 with h1|⟨g1,g2,g3,g4⟩
     ·exact .inl h1
     ·exact .inr ⟨g1,g2,(List.prefix_append _ _).trans g3,g4⟩
    ·have:=h4 j hj
     rw[abv,if_neg hj]at this
     exact this
theorem alp {st:Ds}(f:Nat)(hf4:f<4)(bs:List Int)(ha:Wl.App st.wait)(ho:st.on=true):
  ((write st f bs).1=0∧(write st f bs).2.on=true∧hf f (write st f bs).2=hf f st++bs∨
   (write st f bs).1=6∧(write st f bs).2.on=false∧hf f st<+:hf f (write st f bs).2∧hf f (write st f bs).2<+:hf f st++bs)∧
  (write st f bs).2.sure=st.sure∧Wl.App (write st f bs).2.wait∧(∀j,f≠j→hf j (write st f bs).2=hf j st)∧(st.has=false→(write st f bs).1=0∧(write st f bs).2.has=false):=by
 have e:write st f bs=wrt f bs.length st bs:=by
  unfold write
  rw[if_neg (by simp[ho]),if_neg (by unfold iW;simp;omega)]
  simp
 rw[e]
 exact au9 f _ st bs (Nat.le_refl _) ha ho
theorem ap6 {st:Ds}(ha:Wl.App st.wait)(ho:st.on=true):
  ((sync st).1=0∧(sync st).2.on=true∧(∀j,(sync st).2.sure j=hf j st)∧(sync st).2.wait=[]∨
   (sync st).1=6∧(sync st).2.on=false∧(sync st).2.sure=st.sure∧(∀j,hf j (sync st).2=hf j st)∧Wl.App (sync st).2.wait)∧(st.has=false→(sync st).1=0∧(sync st).2.has=false):=by
 unfold sync
 rw[if_neg (by simp[ho])]
 cases hoff:off st with
 |true=>
  refine⟨.inr ⟨rfl,rfl,rfl,fun _=>rfl,ha⟩,fun h=>?_⟩
  unfold off at hoff
  rw[h]at hoff
  simp at hoff
 |false=>
  refine⟨.inl ⟨rfl,ho,fun j=>?_,rfl⟩,fun h=>⟨rfl,h⟩⟩
  show dof st.sure st.wait j=hf j st
  rw[←jD]
  rfl
def ext (d:Ds) (f:Nat) (bs:List Int):Int×Ds:=if (write d f bs).1≠0 then(6,(write d f bs).2)else if (sync (write d f bs).2).1≠0 then(6,(sync (write d f bs).2).2)else(0,(sync (write d f bs).2).2)
theorem ax1 {d:Ds}(f:Nat)(hf4:f<4)(bs:List Int)(hw:d.wait=[])(ho:d.on=true):
  ((ext d f bs).1=0∧(ext d f bs).2.on=true∧(ext d f bs).2.wait=[]∧(ext d f bs).2.sure f=d.sure f++bs∧(∀j,f≠j→(ext d f bs).2.sure j=d.sure j)∨
   (ext d f bs).1=6∧(ext d f bs).2.on=false∧Wl.App (ext d f bs).2.wait∧(ext d f bs).2.sure=d.sure∧d.sure f<+:hf f (ext d f bs).2∧hf f (ext d f bs).2<+:d.sure f++bs∧∀j,f≠j→hf j (ext d f bs).2=d.sure j)∧
  (d.has=false→(ext d f bs).1=0∧(ext d f bs).2.has=false):=by
 have ha:Wl.App d.wait:=by rw[hw];exact Wl.ahd
 obtain⟨h1,h2,h3,h4,h5⟩:=alp f hf4 bs ha ho
 unfold ext
 rcases h1 with⟨e1,o1,k1⟩|⟨e1,o1,k1,k2⟩
 ·rw[if_neg (by simp[e1])]
  obtain⟨s1,s2⟩:=ap6 h3 o1
  rcases s1 with⟨e2,o2,q1,q2⟩|⟨e2,o2,q1,q2,q3⟩
  ·rw[if_neg (by simp[e2])]
   refine⟨.inl ⟨rfl,o2,q2,?_,fun j hj=>?_⟩,fun h=>⟨rfl,(s2 (h5 h).2).2⟩⟩
   ·rw[q1,k1,dG hw]
   ·rw[q1,h4 j hj,dG hw]
  ·rw[if_pos (by rw[e2];decide)]
   refine⟨.inr ⟨rfl,o2,q3,by rw[q1,h2],?_,?_,fun j hj=>?_⟩,fun h=>?_⟩
   ·rw[q2,k1,dG hw];exact List.prefix_append _ _
   ·rw[q2,k1,dG hw];exact List.prefix_rfl
   ·rw[q2,h4 j hj,dG hw]
   ·have:=(s2 (h5 h).2).1
    rw[e2]at this
    simp at this
 ·rw[if_pos (by rw[e1];decide)]
  rw[dG hw]at k1 k2
  refine⟨.inr ⟨rfl,o1,h3,h2,k1,k2,fun j hj=>?_⟩,fun h=>?_⟩
  ·rw[h4 j hj,dG hw]
  ·have:=(h5 h).1
   rw[e1]at this
   simp at this
end Rst
end Go.Proofs.YtmngcecomcadkaaGreatDoor
namespace Go.Proofs.YtmngcecomcadkaaGreatDoor
set_option linter.unusedVariables false
namespace Rst
open Dm
open Cm (Cv lastE lastN)
open Pm (Pg)
open Orp (Se)
def snd (p:Pg) (l:List Cv) (runs base:Int):Bool:=
 (!(decide ((l.length:Int)<runs)||decide (p.e<lastE 0 l)||(decide (lastE 0 l=p.e)&&decide (p.r=3))||decide ((l.length:Int)<p.a)))&&
 ((!(decide (p.p=2)||decide (p.p=3)||decide (p.p=4)))||(decide (runs≤p.f)&&decide (p.f≤(l.length:Int))&&((!(decide (p.p=4)))||decide (p.f=(l.length:Int)))&&decide (p.b≤base)))
theorem nk {p:Pg}{l:List Cv}{runs base:Int}:snd p l runs base=true↔(runs≤l.length∧lastE 0 l≤p.e∧(p.r=3→lastE 0 l≠p.e)∧p.a≤l.length)∧((p.p=2∨p.p=3∨p.p=4)→runs≤p.f∧p.f≤l.length∧(p.p=4→p.f=l.length)∧p.b≤base):=by
 unfold snd
 generalize lastE 0 l=x
 generalize (l.length:Int)=n
 simp only[Bool.and_eq_true,Bool.or_eq_true,Bool.not_eq_true',Bool.or_eq_false_iff,Bool.and_eq_false_iff,decide_eq_true_iff,decide_eq_false_iff_not]
 omega
theorem wD {p:Pg}{l:List Cv}{runs base:Int}(h1:runs≤l.length)(h2:lastE 0 l≤p.e)(h3:p.r≠3)(h4:p.a≤l.length)(h5:p.p=0):snd p l runs base=true:=
 nk.2 ⟨⟨h1,h2,fun k=>absurd k h3,h4⟩,fun k=>by omega⟩
structure Scn (d:Ds) (z:Pg) (m:List Cv) (p:Pg) (g:Nat) (r:List Cv) (ss:List Se):Prop where
 log:Wl.Lg 0 0 (hf 0 d) m
 yM:Pm.Ls (hf 1 d) z p g
 run:Rl.Lg 0 (hf 2 d) r
 kR:Orp.Sn 0 (hf 3 d) ss
end Rst
end Go.Proofs.YtmngcecomcadkaaGreatDoor
namespace Go.Proofs.YtmngcecomcadkaaGreatDoor
set_option linter.unusedVariables false
namespace Rst
open Dm
open Cm (Cv lastE lastN)
open Pm (Pg)
open Orp (Se)
structure St where
 d:Ds
 p:Pg
 l:List Cv
 r:List Cv
 off:Bool
def asked (s:St):Bool:=s.off|| !s.d.on
def brk (s:St):St:=⟨s.d,s.p,s.l,s.r,true⟩
def fine (s:St) (p:Pg) (l:List Cv) (runs:Int):Bool:=snd p l runs (hf 3 s.d).length
def dm (s:St) (q:Pg):Int×St:=
 if asked s=true then(6,brk s)else if Pm.chk q≠0 then(Pm.chk q,s)else if fine s q s.l (lastN 0 s.r)=false then(5,s)
 else if (ext s.d 1 (Fm.bT (Pm.enc q))).1≠0 then(6,⟨(ext s.d 1 (Fm.bT (Pm.enc q))).2,s.p,s.l,s.r,true⟩)else(0,⟨(ext s.d 1 (Fm.bT (Pm.enc q))).2,q,s.l,s.r,s.off⟩)
def wrs (d:Ds):List Cv→Int×Ds
 |[]=>(0,d)
 |c::cs=>if (write d 0 (Wl.fr c)).1≠0 then(6,(write d 0 (Wl.fr c)).2)else wrs (write d 0 (Wl.fr c)).2 cs
def fD (d:Ds) (cs:List Cv):Int×Ds:=if (wrs d cs).1≠0 then(6,(wrs d cs).2)else if (sync (wrs d cs).2).1≠0 then(6,(sync (wrs d cs).2).2)else(0,(sync (wrs d cs).2).2)
def add (s:St) (cs:List Cv):Int×St:=
 if asked s=true then(6,brk s)else if (Cm.fol (lastE 0 s.l) s.l.length 0 cs).1≠0 then((Cm.fol (lastE 0 s.l) s.l.length 0 cs).1,s)else if fine s s.p (s.l++cs) (lastN 0 s.r)=false then(5,s)
 else if cs=[]then(0,s)else if (fD s.d cs).1≠0 then(6,⟨(fD s.d cs).2,s.p,s.l,s.r,true⟩)else(0,⟨(fD s.d cs).2,s.p,s.l++cs,s.r,s.off⟩)
structure In (z:Pg) (s:St) (ps:List Pg) (ss:List Se):Prop where
 on:s.d.on=true
 calm:s.d.wait=[]
 off:s.off=false
 log:s.d.sure 0=Wl.aR s.l
 gl:Cm.Good 0 0 s.l
 yM:s.d.sure 1=Fm.cat (ps.map Pm.enc)
 gp:∀y∈ps,Pm.Ok y
 last:s.p=ps.getLast?.getD z
 run:s.d.sure 2=Rl.aR s.r
 gr:Rl.Good 0 s.r
 kR:s.d.sure 3=Orp.secs ss
 go:Orp.Ris 0 ss
 sd:snd s.p s.l (lastN 0 s.r) (Orp.secs ss).length=true
theorem In.ask {z:Pg}{s:St}{ps:List Pg}{ss:List Se}(h:In z s ps ss):asked s=false:=by unfold asked;rw[h.off,h.on];rfl
theorem In.fine {z:Pg}{s:St}{ps:List Pg}{ss:List Se}(h:In z s ps ss)(p:Pg)(l:List Cv)(n:Int):fine s p l n=snd p l n (Orp.secs ss).length:=by
 unfold Rst.fine
 rw[dG h.calm,h.kR]
structure Aft (z:Pg) (d:Ds) (l:List Cv) (ps:List Pg) (r:List Cv) (ss:List Se) (cs:List Cv) (os:List Pg) (rs:List Cv):Prop where
 app:Wl.App d.wait
 log:d.sure 0=Wl.aR l
 hlog:hf 0 d<+:Wl.aR (l++cs)
 gl:Cm.Good 0 0 (l++cs)
 yM:d.sure 1=Fm.cat (ps.map Pm.enc)
 hpag:hf 1 d<+:Fm.cat ((ps++os).map Pm.enc)
 gp:∀y∈ps++os,Pm.Ok y
 one:os.length≤1
 run:d.sure 2=Rl.aR r
 hrun:hf 2 d<+:Rl.aR (r++rs)
 gr:Rl.Good 0 (r++rs)
 orn:rs.length≤1
 kR:d.sure 3=Orp.secs ss
 horp:hf 3 d=Orp.secs ss
 go:Orp.Ris 0 ss
end Rst
end Go.Proofs.YtmngcecomcadkaaGreatDoor
namespace Go.Proofs.YtmngcecomcadkaaGreatDoor
set_option linter.unusedVariables false
namespace Rst
open Dm
open Cm (Cv lastE lastN)
open Pm (Pg)
open Orp (Se)
section
variable {z:Pg} {s:St} {ps:List Pg} {ss:List Se}
theorem ae5 (ps:List Pg)(q:Pg):Fm.cat ((ps++[q]).map Pm.enc)=Fm.cat (ps.map Pm.enc)++Fm.bT (Pm.enc q):=by
 rw[List.map_append,Fm.abz,List.map_cons,List.map_nil,Fm.ahB]
theorem asZ (h:In z s ps ss)(q:Pg):
  ((dm s q).1≠0∧(dm s q).1≠6∧(dm s q).2=s)∨
  ((dm s q).1=0∧In z (dm s q).2 (ps++[q]) ss∧(dm s q).2.p=q∧(dm s q).2.l=s.l∧(dm s q).2.r=s.r∧(s.d.has=false→(dm s q).2.d.has=false))∨
  ((dm s q).1=6∧s.d.has=true∧snd q s.l (lastN 0 s.r) (Orp.secs ss).length=true∧(dm s q).2.d.on=false∧(dm s q).2.off=true∧(dm s q).2.p=s.p∧(dm s q).2.l=s.l∧(dm s q).2.r=s.r∧Aft z (dm s q).2.d s.l ps s.r ss [] [q] []):=by
 unfold dm
 rw[if_neg (by rw[h.ask];simp)]
 by_cases hc:Pm.chk q=0
 rotate_left
 ·rw[if_pos hc]
  refine .inl ⟨hc,?_,rfl⟩
  rw[Pm.ik fun k=>hc (Pm.fZ k)]
  show(2:Int)≠6
  decide
 rw[if_neg (by simp[hc]),h.fine]
 cases hs:snd q s.l (lastN 0 s.r) (Orp.secs ss).length with
 |false=>rw[if_pos rfl];exact .inl ⟨by simp,by simp,rfl⟩
 |true=>
  rw[if_neg (by simp)]
  obtain⟨hx,hn⟩:=ax1 1 (by omega) (Fm.bT (Pm.enc q)) h.calm h.on
  generalize ext s.d 1 (Fm.bT (Pm.enc q))=x at*
  have ok:=Pm.fM.1 hc
  have gp':∀y∈ps++[q],Pm.Ok y:=fun y hy=>by
   rcases List.mem_append.1 hy with hy|hy
   ·exact h.gp y hy
   ·rw[List.mem_singleton.1 hy];exact ok
  rcases hx with⟨e1,e2,e3,e4,e5⟩|⟨e1,e2,e3,e4,e5,e6,e7⟩
  ·rw[if_neg (by simp[e1])]
   refine .inr (.inl ⟨rfl,⟨e2,e3,h.off,?_,h.gl,?_,gp',by simp,?_,h.gr,?_,h.go,hs⟩,rfl,rfl,rfl,fun k=>(hn k).2⟩)
   ·rw[e5 0 (by omega)];exact h.log
   ·rw[e4,h.yM,ae5]
   ·rw[e5 2 (by omega)];exact h.run
   ·rw[e5 3 (by omega)];exact h.kR
  ·rw[if_pos (by simp[e1])]
   refine .inr (.inr ⟨rfl,?_,rfl,e2,rfl,rfl,rfl,rfl,⟨e3,by rw[e4];exact h.log,?_,by rw[List.append_nil];exact h.gl,by rw[e4];exact h.yM,?_,gp',by simp,by rw[e4];exact h.run,?_,by rw[List.append_nil];exact h.gr,by simp,by rw[e4];exact h.kR,by rw[e7 3 (by omega)];exact h.kR,h.go⟩⟩)
   ·cases hh:s.d.has with
    |true=>rfl
    |false=>rw[(hn hh).1]at e1;simp at e1
   ·rw[e7 0 (by omega),h.log,List.append_nil];exact List.prefix_rfl
   ·rw[ae5,←h.yM];exact e6
   ·rw[e7 2 (by omega),h.run,List.append_nil];exact List.prefix_rfl
theorem awP:∀(cs:List Cv) (d:Ds),Wl.App d.wait→d.on=true→
  ((wrs d cs).1=0∧(wrs d cs).2.on=true∧hf 0 (wrs d cs).2=hf 0 d++Wl.aR cs∨
   (wrs d cs).1=6∧(wrs d cs).2.on=false∧hf 0 d<+:hf 0 (wrs d cs).2∧hf 0 (wrs d cs).2<+:hf 0 d++Wl.aR cs)∧
  (wrs d cs).2.sure=d.sure∧Wl.App (wrs d cs).2.wait∧(∀j,0≠j→hf j (wrs d cs).2=hf j d)∧(d.has=false→(wrs d cs).1=0∧(wrs d cs).2.has=false)
 |[],d,ha,ho=>⟨.inl ⟨rfl,ho,by simp[wrs,Wl.aR,Fm.cat]⟩,rfl,ha,fun _ _=>rfl,fun h=>⟨rfl,h⟩⟩
 |c::cs,d,ha,ho=>by
  obtain⟨h1,h2,h3,h4,h5⟩:=alp 0 (by omega) (Wl.fr c) ha ho
  have hw:write d 0 (Wl.fr c)=write d (0:Nat) (Wl.fr c):=rfl
  unfold wrs
  rw[hw]
  generalize write d (0:Nat) (Wl.fr c)=x at*
  rcases h1 with⟨e1,o1,k1⟩|⟨e1,o1,k1,k2⟩
  ·rw[if_neg (by simp[e1])]
   obtain⟨g1,g2,g3,g4,g5⟩:=awP cs x.2 h3 o1
   rw[k1,List.append_assoc,←Wl.nK]at g1
   refine⟨?_,by rw[g2,h2],g3,fun j hj=>by rw[g4 j hj,h4 j hj],fun h=>g5 (h5 h).2⟩
   rcases g1 with g1|⟨q1,q2,q3,q4⟩
   ·exact .inl g1
   ·exact .inr ⟨q1,q2,(List.prefix_append _ _).trans q3,q4⟩
  ·rw[if_pos (by simp[e1])]
   refine⟨.inr ⟨rfl,o1,k1,k2.trans ?_⟩,h2,h3,h4,fun h=>?_⟩
   ·rw[Wl.nK]
    exact(List.prefix_append_right_inj _).2 (List.prefix_append _ _)
   ·have:=(h5 h).1
    rw[e1]at this
    simp at this
theorem azk {d:Ds}(cs:List Cv)(hw:d.wait=[])(ho:d.on=true):
  ((fD d cs).1=0∧(fD d cs).2.on=true∧(fD d cs).2.wait=[]∧(fD d cs).2.sure 0=d.sure 0++Wl.aR cs∧(∀j,0≠j→(fD d cs).2.sure j=d.sure j)∨
   (fD d cs).1=6∧(fD d cs).2.on=false∧Wl.App (fD d cs).2.wait∧(fD d cs).2.sure=d.sure∧hf 0 (fD d cs).2<+:d.sure 0++Wl.aR cs∧∀j,0≠j→hf j (fD d cs).2=d.sure j)∧
  (d.has=false→(fD d cs).1=0∧(fD d cs).2.has=false):=by
 have ha:Wl.App d.wait:=by rw[hw];exact Wl.ahd
 obtain⟨h1,h2,h3,h4,h5⟩:=awP cs d ha ho
 unfold fD
 generalize wrs d cs=x at*
 rcases h1 with⟨e1,o1,k1⟩|⟨e1,o1,k1,k2⟩
 ·rw[if_neg (by simp[e1])]
  obtain⟨s1,s2⟩:=ap6 h3 o1
  rcases s1 with⟨e2,o2,q1,q2⟩|⟨e2,o2,q1,q2,q3⟩
  ·rw[if_neg (by simp[e2])]
   refine⟨.inl ⟨rfl,o2,q2,?_,fun j hj=>?_⟩,fun h=>⟨rfl,(s2 (h5 h).2).2⟩⟩
   ·rw[q1,k1,dG hw]
   ·rw[q1,h4 j hj,dG hw]
  ·rw[if_pos (by rw[e2];decide)]
   refine⟨.inr ⟨rfl,o2,q3,by rw[q1,h2],?_,fun j hj=>?_⟩,fun h=>?_⟩
   ·rw[q2,k1,dG hw];exact List.prefix_rfl
   ·rw[q2,h4 j hj,dG hw]
   ·have:=(s2 (h5 h).2).1
    rw[e2]at this
    simp at this
 ·rw[if_pos (by rw[e1];decide)]
  rw[dG hw]at k2
  refine⟨.inr ⟨rfl,o1,h3,h2,k2,fun j hj=>?_⟩,fun h=>?_⟩
  ·rw[h4 j hj,dG hw]
  ·have:=(h5 h).1
   rw[e1]at this
   simp at this
theorem yh:∀(l:List Cv) (ep nu:Int) (i:Nat),(Cm.fol ep nu i l).1≠6
 |[],_,_,_=>by simp[Cm.fol]
 |c::l,ep,nu,i=>by
  unfold Cm.fol
  split
  ·show Cm.chk c.e c.n c.l≠6
   rcases Cm.wB c.e c.n c.l with h|h|h<;>rw[h]<;>decide
  ·split
   ·show(15:Int)≠6
    decide
   ·exact yh l _ _ _
theorem au7 (h:In z s ps ss)(cs:List Cv):
  ((add s cs).1≠0∧(add s cs).1≠6∧(add s cs).2=s)∨
  ((add s cs).1=0∧In z (add s cs).2 ps ss∧(add s cs).2.p=s.p∧(add s cs).2.l=s.l++cs∧(add s cs).2.r=s.r∧(s.d.has=false→(add s cs).2.d.has=false))∨
  ((add s cs).1=6∧s.d.has=true∧snd s.p (s.l++cs) (lastN 0 s.r) (Orp.secs ss).length=true∧(add s cs).2.d.on=false∧(add s cs).2.off=true∧(add s cs).2.p=s.p∧(add s cs).2.l=s.l∧(add s cs).2.r=s.r∧Aft z (add s cs).2.d s.l ps s.r ss cs [] []):=by
 unfold add
 rw[if_neg (by rw[h.ask];simp)]
 by_cases hc:(Cm.fol (lastE 0 s.l) s.l.length 0 cs).1=0
 rotate_left
 ·rw[if_pos hc]
  exact .inl ⟨hc,yh _ _ _ _,rfl⟩
 rw[if_neg (by simp[hc]),h.fine]
 have gl':Cm.Good 0 0 (s.l++cs):=by
  rw[Cm.fI]
  refine⟨h.gl,?_⟩
  rw[Wl.kI h.gl]
  exact(Cm.dZ _ _ _ _).1 hc
 cases hs:snd s.p (s.l++cs) (lastN 0 s.r) (Orp.secs ss).length with
 |false=>rw[if_pos rfl];exact .inl ⟨by simp,by simp,rfl⟩
 |true=>
  rw[if_neg (by simp)]
  by_cases hcs:cs=[]
  ·rw[if_pos hcs]
   subst hcs
   exact .inr (.inl ⟨rfl,h,rfl,by simp,rfl,fun k=>k⟩)
  rw[if_neg hcs]
  obtain⟨hx,hn⟩:=azk cs h.calm h.on
  generalize fD s.d cs=x at*
  rcases hx with⟨e1,e2,e3,e4,e5⟩|⟨e1,e2,e3,e4,e6,e7⟩
  ·rw[if_neg (by simp[e1])]
   refine .inr (.inl ⟨rfl,⟨e2,e3,h.off,?_,gl',?_,h.gp,h.last,?_,h.gr,?_,h.go,hs⟩,rfl,rfl,rfl,fun k=>(hn k).2⟩)
   ·rw[e4,h.log,Wl.kL]
   ·rw[e5 1 (by omega)];exact h.yM
   ·rw[e5 2 (by omega)];exact h.run
   ·rw[e5 3 (by omega)];exact h.kR
  ·rw[if_pos (by simp[e1])]
   refine .inr (.inr ⟨rfl,?_,rfl,e2,rfl,rfl,rfl,rfl,⟨e3,by rw[e4];exact h.log,?_,gl',by rw[e4];exact h.yM,?_,by rw[List.append_nil];exact h.gp,by simp,by rw[e4];exact h.run,?_,by rw[List.append_nil];exact h.gr,by simp,by rw[e4];exact h.kR,by rw[e7 3 (by omega)];exact h.kR,h.go⟩⟩)
   ·cases hh:s.d.has with
    |true=>rfl
    |false=>rw[(hn hh).1]at e1;simp at e1
   ·rw[Wl.kL,←h.log];exact e6
   ·rw[e7 1 (by omega),h.yM,List.append_nil];exact List.prefix_rfl
   ·rw[e7 2 (by omega),h.run,List.append_nil];exact List.prefix_rfl
theorem aby:∀{l:List Cv} {nu:Int},Cm.Good 0 nu l→Cm.Good 1 nu l
 |[],_,_=>trivial
 |c::l,nu,h=>⟨h.1,h.2.1,(Cm.aO h.1).1,h.2.2.2⟩
end
end Rst
end Go.Proofs.YtmngcecomcadkaaGreatDoor
namespace Go.Proofs.YtmngcecomcadkaaGreatDoor
set_option linter.unusedVariables false
namespace Rst
open Dm
open Cm (Cv lastE lastN)
open Pm (Pg)
open Orp (Se)
theorem ano (l m:List Cv)(e:Int):lastE e (l++m)=lastE (lastE e l) m:=by
 induction l generalizing e with
 |nil=>rfl
 |cons c l ih=>exact ih c.e
section
variable {z:Pg} {s:St} {ps:List Pg} {ss:List Se}
end
end Rst
end Go.Proofs.YtmngcecomcadkaaGreatDoor
