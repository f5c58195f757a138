/- Texts of one layer, one behind the other. -/
import Derived.Test.YtpifdeoepppadaaGreatDoorG1
import Derived.Test.YtpifdeoepppadaaGreatDoorG3
set_option maxRecDepth 100000
set_option maxHeartbeats 8000000
namespace Go.Proofs.YtpifdeoepppadaaGreatDoor
set_option linter.unusedVariables false
namespace Rst
open Dm
def hf (f:Nat) (d:Ds):List Int:=hold f (d.sure f) d.wait
theorem dB {d:Ds}(h:d.wait=[])(f:Nat):hf f d=d.sure f:=by unfold hf;rw[h];rfl
theorem xC {st:Ds}(f:Nat)(h:Wl.App st.wait)(k t:Nat):st.sure f<+:kept st k t f∧kept st k t f<+:hf f st:=by
 have h1:Wl.App (st.wait.take k):=fun r hr=>h r (List.mem_of_mem_take hr)
 have a1:=Wl.dU (st.wait.take k) (st.sure f) f h1
 have e1:hf f st=hold f (hold f (st.sure f) (st.wait.take k)) (st.wait.drop k):=by
  unfold hf
  rw[←rO,List.take_append_drop]
 unfold kept
 cases hr:st.wait[k]? with
 |none=>
  simp only
  rw[←eX]
  refine⟨a1,?_⟩
  rw[e1]
  exact Wl.dU _ _ _ (fun r hr=>h r (List.mem_of_mem_drop hr))
 |some r=>
  have hlt:=(List.getElem?_eq_some_iff.1 hr).1
  have hrr:=(List.getElem?_eq_some_iff.1 hr).2
  have hc:=h r (List.mem_of_getElem? hr)
  have e2:st.wait.drop k=r::st.wait.drop (k+1):=by rw[List.drop_eq_getElem_cons hlt,hrr]
  have h2:Wl.App (st.wait.drop (k+1)):=fun x hx=>h x (List.mem_of_mem_drop hx)
  simp only[hc,Bool.false_eq_true,if_false]
  rw[e2,hold]at e1
  unfold one
  by_cases hf':r.file=f
  ·rw[hf',sG,←eX]
   rw[if_pos hf']at e1
   have e3:iC (hold f (st.sure f) (st.wait.take k)) ⟨f,false,0,r.bytes.take (min t (r.bytes.length-1))⟩=hold f (st.sure f) (st.wait.take k)++r.bytes.take (min t (r.bytes.length-1)):=rfl
   have e4:iC (hold f (st.sure f) (st.wait.take k)) r=hold f (st.sure f) (st.wait.take k)++r.bytes:=by
    unfold iC
    rw[hc]
    rfl
   rw[e3]
   refine⟨a1.trans (List.prefix_append _ _),?_⟩
   rw[e1,e4]
   refine List.IsPrefix.trans ?_ (Wl.dU _ _ _ h2)
   exact(List.prefix_append_right_inj _).2 (List.take_prefix _ _)
  ·rw[sW (fun e=>hf' e.symm),←eX]
   rw[if_neg hf']at e1
   refine⟨a1,?_⟩
   rw[e1]
   exact Wl.dU _ _ _ h2
theorem adk {st:Ds}(f:Nat)(bs:List Int)(j:Nat):hf j (push (cO st) ⟨f,false,0,bs⟩)=if f=j then hf j st++bs else hf j st:=by
 unfold hf push cO
 simp only
 rw[lV]
 split
 ·simp[iC]
 ·rfl
theorem awG (f:Nat):∀(n:Nat) (st:Ds) (bs:List Int),bs.length≤n→Wl.App st.wait→st.on=true→
  ((wrt f n st bs).1=0∧(wrt f n st bs).2.on=true∧hf f (wrt f n st bs).2=hf f st++bs∨
   (wrt f n st bs).1=6∧(wrt f n st bs).2.on=false∧hf f st<+:hf f (wrt f n st bs).2∧hf f (wrt f n st bs).2<+:hf f st++bs)∧
  (wrt f n st bs).2.sure=st.sure∧Wl.App (wrt f n st bs).2.wait∧(∀j,f≠j→hf j (wrt f n st bs).2=hf j st)∧(st.has=false→(wrt f n st bs).1=0∧(wrt f n st bs).2.has=false)
 |0,st,bs,hb,ha,ho=>by
  have:bs=[]:=List.eq_nil_of_length_eq_zero (by omega)
  subst this
  exact⟨.inl ⟨rfl,ho,by simp[wrt]⟩,rfl,ha,fun _ _=>rfl,fun h=>⟨rfl,h⟩⟩
 |n+1,st,bs,hb,ha,ho=>by
  unfold wrt
  by_cases h0:bs=[]
  ·subst h0
   rw[if_pos rfl]
   exact⟨.inl ⟨rfl,ho,by simp⟩,rfl,ha,fun _ _=>rfl,fun h=>⟨rfl,h⟩⟩
  ·rw[if_neg h0]
   have hp:1≤bs.length:=by
    rcases bs with _|⟨x,bs⟩
    ·exact absurd rfl h0
    ·simp
   cases hoff:off st with
   |true=>
    refine⟨.inr ⟨rfl,rfl,List.prefix_rfl,List.prefix_append _ _⟩,rfl,ha,fun _ _=>rfl,fun h=>?_⟩
    unfold off at hoff
    rw[h]at hoff
    simp at hoff
   |false=>
    have ih:=awG f n (push (cO st) ⟨f,false,0,bs.take 64⟩) (bs.drop 64) (by rw[List.length_drop];omega) (Wl.nY ha rfl) ho
    rw[adk,if_pos rfl,List.append_assoc,List.take_append_drop]at ih
    obtain⟨h1,h2,h3,h4,h5⟩:=ih
    refine⟨?_,h2,h3,fun j hj=>?_,fun h=>h5 h⟩
    ·rcases h1 with h1|⟨g1,g2,g3,g4⟩
     ·exact .inl h1
     ·exact .inr ⟨g1,g2,(List.prefix_append _ _).trans g3,g4⟩
    ·have:=h4 j hj
     rw[adk,if_neg hj]at this
     exact this
theorem agM {st:Ds}(f:Nat)(hf4:f<4)(bs:List Int)(ha:Wl.App st.wait)(ho:st.on=true):
  ((write st f bs).1=0∧(write st f bs).2.on=true∧hf f (write st f bs).2=hf f st++bs∨
   (write st f bs).1=6∧(write st f bs).2.on=false∧hf f st<+:hf f (write st f bs).2∧hf f (write st f bs).2<+:hf f st++bs)∧
  (write st f bs).2.sure=st.sure∧Wl.App (write st f bs).2.wait∧(∀j,f≠j→hf j (write st f bs).2=hf j st)∧(st.has=false→(write st f bs).1=0∧(write st f bs).2.has=false):=by
 have e:write st f bs=wrt f bs.length st bs:=by
  unfold write
  rw[if_neg (by simp[ho]),if_neg (by unfold iV;simp;omega)]
  simp
 rw[e]
 exact awG f _ st bs (Nat.le_refl _) ha ho
theorem akH {st:Ds}(ha:Wl.App st.wait)(ho:st.on=true):
  ((sync st).1=0∧(sync st).2.on=true∧(∀j,(sync st).2.sure j=hf j st)∧(sync st).2.wait=[]∨
   (sync st).1=6∧(sync st).2.on=false∧(sync st).2.sure=st.sure∧(∀j,hf j (sync st).2=hf j st)∧Wl.App (sync st).2.wait)∧(st.has=false→(sync st).1=0∧(sync st).2.has=false):=by
 unfold sync
 rw[if_neg (by simp[ho])]
 cases hoff:off st with
 |true=>
  refine⟨.inr ⟨rfl,rfl,rfl,fun _=>rfl,ha⟩,fun h=>?_⟩
  unfold off at hoff
  rw[h]at hoff
  simp at hoff
 |false=>
  refine⟨.inl ⟨rfl,ho,fun j=>?_,rfl⟩,fun h=>⟨rfl,h⟩⟩
  show dof st.sure st.wait j=hf j st
  rw[←eX]
  rfl
def ext (d:Ds) (f:Nat) (bs:List Int):Int×Ds:=if (write d f bs).1≠0 then(6,(write d f bs).2)else if (sync (write d f bs).2).1≠0 then(6,(sync (write d f bs).2).2)else(0,(sync (write d f bs).2).2)
theorem ayQ {d:Ds}(f:Nat)(hf4:f<4)(bs:List Int)(hw:d.wait=[])(ho:d.on=true):
  ((ext d f bs).1=0∧(ext d f bs).2.on=true∧(ext d f bs).2.wait=[]∧(ext d f bs).2.sure f=d.sure f++bs∧(∀j,f≠j→(ext d f bs).2.sure j=d.sure j)∨
   (ext d f bs).1=6∧(ext d f bs).2.on=false∧Wl.App (ext d f bs).2.wait∧(ext d f bs).2.sure=d.sure∧d.sure f<+:hf f (ext d f bs).2∧hf f (ext d f bs).2<+:d.sure f++bs∧∀j,f≠j→hf j (ext d f bs).2=d.sure j)∧
  (d.has=false→(ext d f bs).1=0∧(ext d f bs).2.has=false):=by
 have ha:Wl.App d.wait:=by rw[hw];exact Wl.qF
 obtain⟨h1,h2,h3,h4,h5⟩:=agM f hf4 bs ha ho
 unfold ext
 rcases h1 with⟨e1,o1,k1⟩|⟨e1,o1,k1,k2⟩
 ·rw[if_neg (by simp[e1])]
  obtain⟨s1,s2⟩:=akH h3 o1
  rcases s1 with⟨e2,o2,q1,q2⟩|⟨e2,o2,q1,q2,q3⟩
  ·rw[if_neg (by simp[e2])]
   refine⟨.inl ⟨rfl,o2,q2,?_,fun j hj=>?_⟩,fun h=>⟨rfl,(s2 (h5 h).2).2⟩⟩
   ·rw[q1,k1,dB hw]
   ·rw[q1,h4 j hj,dB hw]
  ·rw[if_pos (by rw[e2];decide)]
   refine⟨.inr ⟨rfl,o2,q3,by rw[q1,h2],?_,?_,fun j hj=>?_⟩,fun h=>?_⟩
   ·rw[q2,k1,dB hw];exact List.prefix_append _ _
   ·rw[q2,k1,dB hw];exact List.prefix_rfl
   ·rw[q2,h4 j hj,dB hw]
   ·have:=(s2 (h5 h).2).1
    rw[e2]at this
    simp at this
 ·rw[if_pos (by rw[e1];decide)]
  rw[dB hw]at k1 k2
  refine⟨.inr ⟨rfl,o1,h3,h2,k1,k2,fun j hj=>?_⟩,fun h=>?_⟩
  ·rw[h4 j hj,dB hw]
  ·have:=(h5 h).1
   rw[e1]at this
   simp at this
def bT (f:Nat) (d:Ds) (good:Nat):Int×Ds:=
 if (hf f d).length=good then(0,d)else if (bg d f good).1≠0 then(6,(bg d f good).2)else if (sync (bg d f good).2).1≠0 then(6,(sync (bg d f good).2).2)else(0,(sync (bg d f good).2).2)
theorem akY {d:Ds}(f:Nat)(hf4:f<4){good:Nat}(hg:good≤(d.sure f).length)(hw:d.wait=[])(ho:d.on=true)(hs:d.has=false):
  (bT f d good).1=0∧(bT f d good).2.on=true∧(bT f d good).2.has=false∧(bT f d good).2.wait=[]∧(bT f d good).2.sure f=(d.sure f).take good∧∀j,f≠j→(bT f d good).2.sure j=d.sure j:=by
 unfold bT
 rw[dB hw]
 by_cases hl:(d.sure f).length=good
 ·rw[if_pos hl]
  exact⟨rfl,ho,hs,hw,by rw[←hl,List.take_length],fun _ _=>rfl⟩
 ·rw[if_neg hl]
  have hc:bg d f good=(0,push (cO d) ⟨f,true,good,[]⟩):=by
   unfold bg
   rw[if_neg (by simp[ho]),if_neg (by unfold iV;simp;omega),if_neg ?_,if_neg (by simp[off,hs])]
   ·simp
   ·have:hold f (d.sure f) d.wait=d.sure f:=dB hw f
    simp[this]
    omega
  have hsy:sync (push (cO d) ⟨f,true,good,[]⟩)=(0,flush (cO (push (cO d) ⟨f,true,good,[]⟩))):=by
   unfold sync
   rw[if_neg (by simp[push,cO,ho]),if_neg (by simp[off,push,cO,hs])]
  rw[hc]
  simp only
  rw[hsy]
  have hfl:∀j,(flush (cO (push (cO d) ⟨f,true,good,[]⟩))).sure j=if f=j then(d.sure j).take good else d.sure j:=fun j=>by
   show dof d.sure (d.wait++[⟨f,true,good,[]⟩]) j=_
   rw[hw,←eX]
   show(if f=j then iC (d.sure j) ⟨f,true,good,[]⟩else d.sure j)=_
   split<;>rfl
  exact⟨rfl,ho,hs,rfl,(hfl f).trans (if_pos rfl),fun j hj=>(hfl j).trans (if_neg hj)⟩
end Rst
end Go.Proofs.YtpifdeoepppadaaGreatDoor
namespace Go.Proofs.YtpifdeoepppadaaGreatDoor
set_option linter.unusedVariables false
namespace Rst
open Dm
open Cm (Cv lastE lastN)
open Pm (Pg)
open Orp (Se)
def snd (p:Pg) (l:List Cv) (runs base:Int):Bool:=
 (!(decide ((l.length:Int)<runs)||decide (p.e<lastE 0 l)||(decide (lastE 0 l=p.e)&&decide (p.r=3))||decide ((l.length:Int)<p.a)))&&
 ((!(decide (p.p=2)||decide (p.p=3)||decide (p.p=4)))||(decide (runs≤p.f)&&decide (p.f≤(l.length:Int))&&((!(decide (p.p=4)))||decide (p.f=(l.length:Int)))&&decide (p.b≤base)))
theorem uX {p:Pg}{l:List Cv}{runs base:Int}:snd p l runs base=true↔(runs≤l.length∧lastE 0 l≤p.e∧(p.r=3→lastE 0 l≠p.e)∧p.a≤l.length)∧((p.p=2∨p.p=3∨p.p=4)→runs≤p.f∧p.f≤l.length∧(p.p=4→p.f=l.length)∧p.b≤base):=by
 unfold snd
 generalize lastE 0 l=x
 generalize (l.length:Int)=n
 simp only[Bool.and_eq_true,Bool.or_eq_true,Bool.not_eq_true',Bool.or_eq_false_iff,Bool.and_eq_false_iff,decide_eq_true_iff,decide_eq_false_iff_not]
 omega
theorem pG {p:Pg}{l:List Cv}{runs base:Int}(h1:runs≤l.length)(h2:lastE 0 l≤p.e)(h3:p.r≠3)(h4:p.a≤l.length)(h5:p.p=0):snd p l runs base=true:=
 uX.2 ⟨⟨h1,h2,fun k=>absurd k h3,h4⟩,fun k=>by omega⟩
structure za (d:Ds) (z:Pg) (m:List Cv) (p:Pg) (g:Nat) (r:List Cv) (ss:List Se):Prop where
 log:Wl.Lg 0 0 (hf 0 d) m
 ny:Pm.Ls (hf 1 d) z p g
 run:Rl.Lg 0 (hf 2 d) r
 lZ:Orp.Sn 0 (hf 3 d) ss
def d1 (d:Ds) (m:List Cv):Ds:=(bT 0 d (Wl.aW m).length).2
def d2 (d:Ds) (m:List Cv) (g:Nat):Ds:=(bT 1 (d1 d m) g).2
def d3 (d:Ds) (m:List Cv) (g:Nat) (r:List Cv):Ds:=(bT 2 (d2 d m g) (Rl.aW r).length).2
def d4 (d:Ds) (m:List Cv) (g:Nat) (r:List Cv) (ss:List Se):Ds:=(bT 3 (d3 d m g r) (Orp.secs ss).length).2
def gP (d:Ds) (m:List Cv) (p:Pg) (g:Nat) (r:List Cv) (ss:List Se):Int:=
 if d.on=false then 6 else if (bT 0 d (Wl.aW m).length).1≠0 then 6 else if (bT 1 (d1 d m) g).1≠0 then 6 else if (bT 2 (d2 d m g) (Rl.aW r).length).1≠0 then 6
 else if (bT 3 (d3 d m g r) (Orp.secs ss).length).1≠0 then 6 else if snd p m (lastN 0 r) (Orp.secs ss).length=true then 0 else 5
def fV (d:Ds) (m:List Cv) (g:Nat) (r:List Cv) (ss:List Se):Ds:=
 if d.on=false then d else if (bT 0 d (Wl.aW m).length).1≠0 then d1 d m else if (bT 1 (d1 d m) g).1≠0 then d2 d m g else if (bT 2 (d2 d m g) (Rl.aW r).length).1≠0 then d3 d m g r
 else d4 d m g r ss
theorem ayl {bs:List Int}{z x:Pg}{n:Nat}(h:Pm.Ls bs z x n):n≤bs.length:=by
 obtain⟨l,_,h2,h3,_⟩:=h
 rw[h3]
 exact h2.length_le
theorem amb {d:Ds}{z p:Pg}{m r:List Cv}{g:Nat}{ss:List Se}(h:za d z m p g r ss)(ho:d.on=true)(hs:d.has=false)(hw:d.wait=[])(hsd:snd p m (lastN 0 r) (Orp.secs ss).length=true):
  gP d m p g r ss=0∧(fV d m g r ss).on=true∧(fV d m g r ss).has=false∧(fV d m g r ss).wait=[]∧(fV d m g r ss).sure 0=Wl.aW m∧(fV d m g r ss).sure 1=(d.sure 1).take g∧(fV d m g r ss).sure 2=Rl.aW r∧(fV d m g r ss).sure 3=Orp.secs ss:=by
 have hl:=h.log
 have hp:=h.ny
 have hr:=h.run
 have hn:=h.lZ
 rw[dB hw]at hl hp hr hn
 obtain⟨a1,A⟩:=akY 0 (by omega) hl.2.1.length_le hw ho hs
 obtain⟨x1,hx1⟩:∃x,d1 d m=x:=⟨_,rfl⟩
 unfold d1 at hx1
 rw[hx1]at A
 obtain⟨a2,a3,a4,a5,a6⟩:=A
 obtain⟨b1,A⟩:=akY (d:=x1) 1 (by omega) (good:=g) (by rw[a6 1 (by omega)];exact ayl hp) a4 a2 a3
 obtain⟨x2,hx2⟩:∃x,(bT 1 x1 g).2=x:=⟨_,rfl⟩
 rw[hx2]at A
 obtain⟨b2,b3,b4,b5,b6⟩:=A
 obtain⟨c1,A⟩:=akY (d:=x2) 2 (by omega) (good:=(Rl.aW r).length) (by rw[b6 2 (by omega),a6 2 (by omega)];exact hr.2.1.length_le) b4 b2 b3
 obtain⟨x3,hx3⟩:∃x,(bT 2 x2 (Rl.aW r).length).2=x:=⟨_,rfl⟩
 rw[hx3]at A
 obtain⟨c2,c3,c4,c5,c6⟩:=A
 obtain⟨e1,A⟩:=akY (d:=x3) 3 (by omega) (good:=(Orp.secs ss).length) (by rw[c6 3 (by omega),b6 3 (by omega),a6 3 (by omega)];exact hn.2.1.length_le) c4 c2 c3
 obtain⟨x4,hx4⟩:∃x,(bT 3 x3 (Orp.secs ss).length).2=x:=⟨_,rfl⟩
 rw[hx4]at A
 obtain⟨e2,e3,e4,e5,e6⟩:=A
 have q1:d1 d m=x1:=hx1
 have q2:d2 d m g=x2:=by unfold d2;rw[q1];exact hx2
 have q3:d3 d m g r=x3:=by unfold d3;rw[q2];exact hx3
 have q4:d4 d m g r ss=x4:=by unfold d4;rw[q3];exact hx4
 have hE:gP d m p g r ss=0:=by
  unfold gP
  rw[q1,q2,q3,if_neg (by simp[ho]),if_neg (by simp[a1]),if_neg (by simp[b1]),if_neg (by simp[c1]),if_neg (by simp[e1]),if_pos hsd]
 have hD:fV d m g r ss=x4:=by
  unfold fV
  rw[q1,q2,q4,if_neg (by simp[ho]),if_neg (by simp[a1]),if_neg (by simp[b1]),if_neg (by simp[c1])]
 rw[hE,hD]
 refine⟨rfl,e2,e3,e4,?_,?_,?_,?_⟩
 ·rw[e6 0 (by omega),c6 0 (by omega),b6 0 (by omega),a5]
  exact(List.prefix_iff_eq_take.1 hl.2.1).symm
 ·rw[e6 1 (by omega),c6 1 (by omega),b5,a6 1 (by omega)]
 ·rw[e6 2 (by omega),c5,b6 2 (by omega),a6 2 (by omega)]
  exact(List.prefix_iff_eq_take.1 hr.2.1).symm
 ·rw[e5,c6 3 (by omega),b6 3 (by omega),a6 3 (by omega)]
  exact(List.prefix_iff_eq_take.1 hn.2.1).symm
theorem ayt {ps:List Pg}{o z p:Pg}{g:Nat}{bs:List Int}(hw:∀y∈ps++[o],Pm.Ok y)(h1:Fm.cat (ps.map Pm.enc)<+:bs)(h2:bs<+:Fm.cat ((ps++[o]).map Pm.enc))(h:Pm.Ls bs z p g):(p=ps.getLast?.getD z∧g=(Fm.cat (ps.map Pm.enc)).length)∨(p=o∧bs=Fm.cat ((ps++[o]).map Pm.enc)∧g=bs.length):=by
 have hb:bs=(Fm.cat ((ps++[o]).map Pm.enc)).take bs.length:=List.prefix_iff_eq_take.1 h2
 by_cases hlt:bs.length<(Fm.cat ((ps++[o]).map Pm.enc)).length
 ·have:=Pm.aho (l:=ps++[o]) (z:=z) (k:=bs.length) (n:=ps.length) hw (by simp) (by rw[List.take_left];exact h1.length_le) (fun _=>by rw[List.take_of_length_le (by simp)];exact hlt) (by omega)
  rw[←hb,List.take_left]at this
  obtain⟨e1,e2⟩:=Pm.aby h this
  exact .inl ⟨e1,e2⟩
 ·have he:bs=Fm.cat ((ps++[o]).map Pm.enc):=h2.eq_of_length (Nat.le_antisymm h2.length_le (by omega))
  have:=Pm.aho (l:=ps++[o]) (z:=z) (k:=bs.length) (n:=(ps++[o]).length) hw (Nat.le_refl _) (by rw[List.take_length,←he];exact Nat.le_refl _) (fun k=>by omega) (by rw[←he];exact Nat.le_refl _)
  rw[←hb,List.take_length]at this
  obtain⟨e1,e2⟩:=Pm.aby h this
  exact .inr ⟨by rw[e1];simp,he,by rw[e2,←he]⟩
theorem ajH {ps:List Pg}{z p:Pg}{g:Nat}(hw:∀y∈ps,Pm.Ok y)(h:Pm.Ls (Fm.cat (ps.map Pm.enc)) z p g):p=ps.getLast?.getD z∧g=(Fm.cat (ps.map Pm.enc)).length:=by
 have:=Pm.aho (l:=ps) (z:=z) (k:=(Fm.cat (ps.map Pm.enc)).length) (n:=ps.length) hw (Nat.le_refl _) (by rw[List.take_length];exact Nat.le_refl _) (fun k=>by omega) (Nat.le_refl _)
 rw[List.take_length,List.take_length]at this
 exact Pm.aby h this
end Rst
end Go.Proofs.YtpifdeoepppadaaGreatDoor
namespace Go.Proofs.YtpifdeoepppadaaGreatDoor
set_option linter.unusedVariables false
namespace Rst
open Dm
open Cm (Cv lastE lastN)
open Pm (Pg)
open Orp (Se)
structure St where
 d:Ds
 p:Pg
 l:List Cv
 r:List Cv
 off:Bool
def asked (s:St):Bool:=s.off|| !s.d.on
def brk (s:St):St:=⟨s.d,s.p,s.l,s.r,true⟩
def fine (s:St) (p:Pg) (l:List Cv) (runs:Int):Bool:=snd p l runs (hf 3 s.d).length
def bQ (s:St) (q:Pg):Int×St:=
 if asked s=true then(6,brk s)else if Pm.aJ q≠0 then(Pm.aJ q,s)else if fine s q s.l (lastN 0 s.r)=false then(5,s)
 else if (ext s.d 1 (Fm.dh (Pm.enc q))).1≠0 then(6,⟨(ext s.d 1 (Fm.dh (Pm.enc q))).2,s.p,s.l,s.r,true⟩)else(0,⟨(ext s.d 1 (Fm.dh (Pm.enc q))).2,q,s.l,s.r,s.off⟩)
def wrs (d:Ds):List Cv→Int×Ds
 |[]=>(0,d)
 |c::cs=>if (write d 0 (Wl.fr c)).1≠0 then(6,(write d 0 (Wl.fr c)).2)else wrs (write d 0 (Wl.fr c)).2 cs
def fK (d:Ds) (cs:List Cv):Int×Ds:=if (wrs d cs).1≠0 then(6,(wrs d cs).2)else if (sync (wrs d cs).2).1≠0 then(6,(sync (wrs d cs).2).2)else(0,(sync (wrs d cs).2).2)
def add (s:St) (cs:List Cv):Int×St:=
 if asked s=true then(6,brk s)else if (Cm.fol (lastE 0 s.l) s.l.length 0 cs).1≠0 then((Cm.fol (lastE 0 s.l) s.l.length 0 cs).1,s)else if fine s s.p (s.l++cs) (lastN 0 s.r)=false then(5,s)
 else if cs=[]then(0,s)else if (fK s.d cs).1≠0 then(6,⟨(fK s.d cs).2,s.p,s.l,s.r,true⟩)else(0,⟨(fK s.d cs).2,s.p,s.l++cs,s.r,s.off⟩)
def aZ (s:St):Sto.Ss:=⟨⟨s.d,s.r,s.off⟩,s.l.drop (lastN 0 s.r).toNat⟩
def aR (s:St) (u:Int):Int×St:=
 if asked s=true then(6,brk s)else if u<lastN 0 s.r∨(s.l.length:Int)<u then(2,s)else if fine s s.p s.l u=false then(5,s)
 else((Sto.aR (aZ s) u).1,⟨(Sto.aR (aZ s) u).2.r.d,s.p,s.l,(Sto.aR (aZ s) u).2.r.l,s.off||decide ((Sto.aR (aZ s) u).1=6)⟩)
structure In (z:Pg) (s:St) (ps:List Pg) (ss:List Se):Prop where
 on:s.d.on=true
 calm:s.d.wait=[]
 off:s.off=false
 log:s.d.sure 0=Wl.aW s.l
 gl:Cm.Good 0 0 s.l
 ny:s.d.sure 1=Fm.cat (ps.map Pm.enc)
 gp:∀y∈ps,Pm.Ok y
 last:s.p=ps.getLast?.getD z
 run:s.d.sure 2=Rl.aW s.r
 gr:Rl.Good 0 s.r
 lZ:s.d.sure 3=Orp.secs ss
 go:Orp.Ris 0 ss
 sd:snd s.p s.l (lastN 0 s.r) (Orp.secs ss).length=true
theorem In.ask {z:Pg}{s:St}{ps:List Pg}{ss:List Se}(h:In z s ps ss):asked s=false:=by unfold asked;rw[h.off,h.on];rfl
theorem In.fine {z:Pg}{s:St}{ps:List Pg}{ss:List Se}(h:In z s ps ss)(p:Pg)(l:List Cv)(n:Int):fine s p l n=snd p l n (Orp.secs ss).length:=by
 unfold Rst.fine
 rw[dB h.calm,h.lZ]
theorem In.disk {z:Pg}{s:St}{ps:List Pg}{ss:List Se}(h:In z s ps ss){d':Ds}(e1:d'.sure=s.d.sure)(e2:d'.wait=s.d.wait)(e3:d'.on=true):In z ⟨d',s.p,s.l,s.r,s.off⟩ ps ss:=
 ⟨e3,by rw[e2];exact h.calm,h.off,by rw[e1];exact h.log,h.gl,by rw[e1];exact h.ny,h.gp,h.last,by rw[e1];exact h.run,h.gr,by rw[e1];exact h.lZ,h.go,h.sd⟩
structure Aft (z:Pg) (d:Ds) (l:List Cv) (ps:List Pg) (r:List Cv) (ss:List Se) (cs:List Cv) (os:List Pg) (rs:List Cv):Prop where
 app:Wl.App d.wait
 log:d.sure 0=Wl.aW l
 aAS:hf 0 d<+:Wl.aW (l++cs)
 gl:Cm.Good 0 0 (l++cs)
 ny:d.sure 1=Fm.cat (ps.map Pm.enc)
 aBL:hf 1 d<+:Fm.cat ((ps++os).map Pm.enc)
 gp:∀y∈ps++os,Pm.Ok y
 one:os.length≤1
 run:d.sure 2=Rl.aW r
 hrun:hf 2 d<+:Rl.aW (r++rs)
 gr:Rl.Good 0 (r++rs)
 orn:rs.length≤1
 lZ:d.sure 3=Orp.secs ss
 aBG:hf 3 d=Orp.secs ss
 go:Orp.Ris 0 ss
theorem In.zb {z:Pg}{s:St}{ps:List Pg}{ss:List Se}(h:In z s ps ss):Aft z s.d s.l ps s.r ss [] [] []:=
 ⟨by rw[h.calm];exact Wl.qF,h.log,by rw[dB h.calm,h.log,List.append_nil];exact List.prefix_rfl,by rw[List.append_nil];exact h.gl,h.ny,by rw[dB h.calm,h.ny,List.append_nil];exact List.prefix_rfl,by rw[List.append_nil];exact h.gp,by simp,h.run,by rw[dB h.calm,h.run,List.append_nil];exact List.prefix_rfl,by rw[List.append_nil];exact h.gr,by simp,h.lZ,by rw[dB h.calm,h.lZ],h.go⟩
theorem Aft.found {z p:Pg}{d d':Ds}{l cs r rs m rr:List Cv}{ps os:List Pg}{ss st:List Se}{g k t:Nat}(h:Aft z d l ps r ss cs os rs)(hs:d'.sure=kept d k t)(hw:d'.wait=[])(hk:za d' z m p g rr st):
  (l<+:m∧m<+:l++cs)∧(p=ps.getLast?.getD z∨∃o,os=[o]∧p=o)∧(rr=r∨∃c,rs=[c]∧rr=r++[c])∧st=ss:=by
 have hh:∀f,hf f d'=kept d k t f:=fun f=>by rw[dB hw,hs]
 obtain⟨k1,k2,k3,k4⟩:=hk
 rw[hh]at k1 k2 k3 k4
 obtain⟨a0,b0⟩:=xC 0 h.app k t
 obtain⟨a1,b1⟩:=xC 1 h.app k t
 obtain⟨a2,b2⟩:=xC 2 h.app k t
 obtain⟨a3,b3⟩:=xC 3 h.app k t
 rw[h.log]at a0
 rw[h.ny]at a1
 rw[h.run]at a2
 rw[h.lZ]at a3
 rw[h.aBG]at b3
 have gl':Cm.Good 0 0 l:=((Cm.dG _ _ _ _).1 h.gl).1
 have gr':Rl.Good 0 r:=((Rl.dG _ _ _).1 h.gr).1
 refine⟨⟨Wl.uA gl' a0 k1,Wl.zy h.gl (b0.trans h.aAS) k1⟩,?_,?_,?_⟩
 ·have b1':=b1.trans h.aBL
  have hg:=h.gp
  have ho:=h.one
  rcases os with _|⟨o,_|⟨o2,os⟩⟩
  ·rw[List.append_nil]at b1' hg
   have he:kept d k t 1=Fm.cat (ps.map Pm.enc):=b1'.eq_of_length (Nat.le_antisymm b1'.length_le a1.length_le)
   rw[he]at k2
   exact .inl (ajH hg k2).1
  ·rcases ayt hg a1 b1' k2 with⟨e,_⟩|⟨e,_⟩
   ·exact .inl e
   ·exact .inr ⟨o,rfl,e⟩
  ·simp at ho
 ·have q1:=Rl.uA gr' a2 k3
  have q2:=Rl.zy h.gr (b2.trans h.hrun) k3
  have ho:=h.orn
  obtain⟨x,rfl⟩:=q1
  have hr:=(List.prefix_append_right_inj r).1 q2
  rcases rs with _|⟨c,_|⟨c2,rs⟩⟩
  ·have:=List.prefix_nil.1 hr
   exact .inl (by rw[this,List.append_nil])
  ·rcases x with _|⟨y,x⟩
   ·exact .inl (by simp)
   ·have:=hr.length_le
    simp at this
    subst this
    have:=hr.eq_of_length rfl
    exact .inr ⟨c,rfl,by rw[this]⟩
  ·simp at ho
 ·have he:kept d k t 3=Orp.secs ss:=b3.eq_of_length (Nat.le_antisymm b3.length_le a3.length_le)
  rw[he]at k4
  exact Orp.vC k4 (Orp.zW h.go)
end Rst
end Go.Proofs.YtpifdeoepppadaaGreatDoor
namespace Go.Proofs.YtpifdeoepppadaaGreatDoor
set_option linter.unusedVariables false
namespace Rst
open Dm
open Cm (Cv lastE lastN)
open Pm (Pg)
open Orp (Se)
section
variable {z:Pg} {s:St} {ps:List Pg} {ss:List Se}
theorem afU (ps:List Pg)(q:Pg):Fm.cat ((ps++[q]).map Pm.enc)=Fm.cat (ps.map Pm.enc)++Fm.dh (Pm.enc q):=by
 rw[List.map_append,Fm.nV,List.map_cons,List.map_nil,Fm.uS]
theorem ag0 (h:In z s ps ss)(q:Pg):
  ((bQ s q).1≠0∧(bQ s q).1≠6∧(bQ s q).2=s)∨
  ((bQ s q).1=0∧In z (bQ s q).2 (ps++[q]) ss∧(bQ s q).2.p=q∧(bQ s q).2.l=s.l∧(bQ s q).2.r=s.r∧(s.d.has=false→(bQ s q).2.d.has=false))∨
  ((bQ s q).1=6∧s.d.has=true∧snd q s.l (lastN 0 s.r) (Orp.secs ss).length=true∧(bQ s q).2.d.on=false∧(bQ s q).2.off=true∧(bQ s q).2.p=s.p∧(bQ s q).2.l=s.l∧(bQ s q).2.r=s.r∧Aft z (bQ s q).2.d s.l ps s.r ss [] [q] []):=by
 unfold bQ
 rw[if_neg (by rw[h.ask];simp)]
 by_cases hc:Pm.aJ q=0
 rotate_left
 ·rw[if_pos hc]
  refine .inl ⟨hc,?_,rfl⟩
  rw[Pm.iW fun k=>hc (Pm.iD k)]
  show(2:Int)≠6
  decide
 rw[if_neg (by simp[hc]),h.fine]
 cases hs:snd q s.l (lastN 0 s.r) (Orp.secs ss).length with
 |false=>rw[if_pos rfl];exact .inl ⟨by simp,by simp,rfl⟩
 |true=>
  rw[if_neg (by simp)]
  obtain⟨hx,hn⟩:=ayQ 1 (by omega) (Fm.dh (Pm.enc q)) h.calm h.on
  generalize ext s.d 1 (Fm.dh (Pm.enc q))=x at*
  have ok:=Pm.adw.1 hc
  have gp':∀y∈ps++[q],Pm.Ok y:=fun y hy=>by
   rcases List.mem_append.1 hy with hy|hy
   ·exact h.gp y hy
   ·rw[List.mem_singleton.1 hy];exact ok
  rcases hx with⟨e1,e2,e3,e4,e5⟩|⟨e1,e2,e3,e4,e5,e6,e7⟩
  ·rw[if_neg (by simp[e1])]
   refine .inr (.inl ⟨rfl,⟨e2,e3,h.off,?_,h.gl,?_,gp',by simp,?_,h.gr,?_,h.go,hs⟩,rfl,rfl,rfl,fun k=>(hn k).2⟩)
   ·rw[e5 0 (by omega)];exact h.log
   ·rw[e4,h.ny,afU]
   ·rw[e5 2 (by omega)];exact h.run
   ·rw[e5 3 (by omega)];exact h.lZ
  ·rw[if_pos (by simp[e1])]
   refine .inr (.inr ⟨rfl,?_,rfl,e2,rfl,rfl,rfl,rfl,⟨e3,by rw[e4];exact h.log,?_,by rw[List.append_nil];exact h.gl,by rw[e4];exact h.ny,?_,gp',by simp,by rw[e4];exact h.run,?_,by rw[List.append_nil];exact h.gr,by simp,by rw[e4];exact h.lZ,by rw[e7 3 (by omega)];exact h.lZ,h.go⟩⟩)
   ·cases hh:s.d.has with
    |true=>rfl
    |false=>rw[(hn hh).1]at e1;simp at e1
   ·rw[e7 0 (by omega),h.log,List.append_nil];exact List.prefix_rfl
   ·rw[afU,←h.ny];exact e6
   ·rw[e7 2 (by omega),h.run,List.append_nil];exact List.prefix_rfl
theorem ax9:∀(cs:List Cv) (d:Ds),Wl.App d.wait→d.on=true→
  ((wrs d cs).1=0∧(wrs d cs).2.on=true∧hf 0 (wrs d cs).2=hf 0 d++Wl.aW cs∨
   (wrs d cs).1=6∧(wrs d cs).2.on=false∧hf 0 d<+:hf 0 (wrs d cs).2∧hf 0 (wrs d cs).2<+:hf 0 d++Wl.aW cs)∧
  (wrs d cs).2.sure=d.sure∧Wl.App (wrs d cs).2.wait∧(∀j,0≠j→hf j (wrs d cs).2=hf j d)∧(d.has=false→(wrs d cs).1=0∧(wrs d cs).2.has=false)
 |[],d,ha,ho=>⟨.inl ⟨rfl,ho,by simp[wrs,Wl.aW,Fm.cat]⟩,rfl,ha,fun _ _=>rfl,fun h=>⟨rfl,h⟩⟩
 |c::cs,d,ha,ho=>by
  obtain⟨h1,h2,h3,h4,h5⟩:=agM 0 (by omega) (Wl.fr c) ha ho
  have hw:write d 0 (Wl.fr c)=write d (0:Nat) (Wl.fr c):=rfl
  unfold wrs
  rw[hw]
  generalize write d (0:Nat) (Wl.fr c)=x at*
  rcases h1 with⟨e1,o1,k1⟩|⟨e1,o1,k1,k2⟩
  ·rw[if_neg (by simp[e1])]
   obtain⟨g1,g2,g3,g4,g5⟩:=ax9 cs x.2 h3 o1
   rw[k1,List.append_assoc,←Wl.eY]at g1
   refine⟨?_,by rw[g2,h2],g3,fun j hj=>by rw[g4 j hj,h4 j hj],fun h=>g5 (h5 h).2⟩
   rcases g1 with g1|⟨q1,q2,q3,q4⟩
   ·exact .inl g1
   ·exact .inr ⟨q1,q2,(List.prefix_append _ _).trans q3,q4⟩
  ·rw[if_pos (by simp[e1])]
   refine⟨.inr ⟨rfl,o1,k1,k2.trans ?_⟩,h2,h3,h4,fun h=>?_⟩
   ·rw[Wl.eY]
    exact(List.prefix_append_right_inj _).2 (List.prefix_append _ _)
   ·have:=(h5 h).1
    rw[e1]at this
    simp at this
theorem aBP {d:Ds}(cs:List Cv)(hw:d.wait=[])(ho:d.on=true):
  ((fK d cs).1=0∧(fK d cs).2.on=true∧(fK d cs).2.wait=[]∧(fK d cs).2.sure 0=d.sure 0++Wl.aW cs∧(∀j,0≠j→(fK d cs).2.sure j=d.sure j)∨
   (fK d cs).1=6∧(fK d cs).2.on=false∧Wl.App (fK d cs).2.wait∧(fK d cs).2.sure=d.sure∧hf 0 (fK d cs).2<+:d.sure 0++Wl.aW cs∧∀j,0≠j→hf j (fK d cs).2=d.sure j)∧
  (d.has=false→(fK d cs).1=0∧(fK d cs).2.has=false):=by
 have ha:Wl.App d.wait:=by rw[hw];exact Wl.qF
 obtain⟨h1,h2,h3,h4,h5⟩:=ax9 cs d ha ho
 unfold fK
 generalize wrs d cs=x at*
 rcases h1 with⟨e1,o1,k1⟩|⟨e1,o1,k1,k2⟩
 ·rw[if_neg (by simp[e1])]
  obtain⟨s1,s2⟩:=akH h3 o1
  rcases s1 with⟨e2,o2,q1,q2⟩|⟨e2,o2,q1,q2,q3⟩
  ·rw[if_neg (by simp[e2])]
   refine⟨.inl ⟨rfl,o2,q2,?_,fun j hj=>?_⟩,fun h=>⟨rfl,(s2 (h5 h).2).2⟩⟩
   ·rw[q1,k1,dB hw]
   ·rw[q1,h4 j hj,dB hw]
  ·rw[if_pos (by rw[e2];decide)]
   refine⟨.inr ⟨rfl,o2,q3,by rw[q1,h2],?_,fun j hj=>?_⟩,fun h=>?_⟩
   ·rw[q2,k1,dB hw];exact List.prefix_rfl
   ·rw[q2,h4 j hj,dB hw]
   ·have:=(s2 (h5 h).2).1
    rw[e2]at this
    simp at this
 ·rw[if_pos (by rw[e1];decide)]
  rw[dB hw]at k2
  refine⟨.inr ⟨rfl,o1,h3,h2,k2,fun j hj=>?_⟩,fun h=>?_⟩
  ·rw[h4 j hj,dB hw]
  ·have:=(h5 h).1
   rw[e1]at this
   simp at this
theorem zA:∀(l:List Cv) (ep nu:Int) (i:Nat),(Cm.fol ep nu i l).1≠6
 |[],_,_,_=>by simp[Cm.fol]
 |c::l,ep,nu,i=>by
  unfold Cm.fol
  split
  ·show Cm.aJ c.e c.n c.l≠6
   rcases Cm.tF c.e c.n c.l with h|h|h<;>rw[h]<;>decide
  ·split
   ·show(15:Int)≠6
    decide
   ·exact zA l _ _ _
theorem yQ (h:In z s ps ss)(cs:List Cv):
  ((add s cs).1≠0∧(add s cs).1≠6∧(add s cs).2=s)∨
  ((add s cs).1=0∧In z (add s cs).2 ps ss∧(add s cs).2.p=s.p∧(add s cs).2.l=s.l++cs∧(add s cs).2.r=s.r∧(s.d.has=false→(add s cs).2.d.has=false))∨
  ((add s cs).1=6∧s.d.has=true∧snd s.p (s.l++cs) (lastN 0 s.r) (Orp.secs ss).length=true∧(add s cs).2.d.on=false∧(add s cs).2.off=true∧(add s cs).2.p=s.p∧(add s cs).2.l=s.l∧(add s cs).2.r=s.r∧Aft z (add s cs).2.d s.l ps s.r ss cs [] []):=by
 unfold add
 rw[if_neg (by rw[h.ask];simp)]
 by_cases hc:(Cm.fol (lastE 0 s.l) s.l.length 0 cs).1=0
 rotate_left
 ·rw[if_pos hc]
  exact .inl ⟨hc,zA _ _ _ _,rfl⟩
 rw[if_neg (by simp[hc]),h.fine]
 have gl':Cm.Good 0 0 (s.l++cs):=by
  rw[Cm.dG]
  refine⟨h.gl,?_⟩
  rw[Wl.kU h.gl]
  exact(Cm.il _ _ _ _).1 hc
 cases hs:snd s.p (s.l++cs) (lastN 0 s.r) (Orp.secs ss).length with
 |false=>rw[if_pos rfl];exact .inl ⟨by simp,by simp,rfl⟩
 |true=>
  rw[if_neg (by simp)]
  by_cases hcs:cs=[]
  ·rw[if_pos hcs]
   subst hcs
   exact .inr (.inl ⟨rfl,h,rfl,by simp,rfl,fun k=>k⟩)
  rw[if_neg hcs]
  obtain⟨hx,hn⟩:=aBP cs h.calm h.on
  generalize fK s.d cs=x at*
  rcases hx with⟨e1,e2,e3,e4,e5⟩|⟨e1,e2,e3,e4,e6,e7⟩
  ·rw[if_neg (by simp[e1])]
   refine .inr (.inl ⟨rfl,⟨e2,e3,h.off,?_,gl',?_,h.gp,h.last,?_,h.gr,?_,h.go,hs⟩,rfl,rfl,rfl,fun k=>(hn k).2⟩)
   ·rw[e4,h.log,Wl.jC]
   ·rw[e5 1 (by omega)];exact h.ny
   ·rw[e5 2 (by omega)];exact h.run
   ·rw[e5 3 (by omega)];exact h.lZ
  ·rw[if_pos (by simp[e1])]
   refine .inr (.inr ⟨rfl,?_,rfl,e2,rfl,rfl,rfl,rfl,⟨e3,by rw[e4];exact h.log,?_,gl',by rw[e4];exact h.ny,?_,by rw[List.append_nil];exact h.gp,by simp,by rw[e4];exact h.run,?_,by rw[List.append_nil];exact h.gr,by simp,by rw[e4];exact h.lZ,by rw[e7 3 (by omega)];exact h.lZ,h.go⟩⟩)
   ·cases hh:s.d.has with
    |true=>rfl
    |false=>rw[(hn hh).1]at e1;simp at e1
   ·rw[Wl.jC,←h.log];exact e6
   ·rw[e7 1 (by omega),h.ny,List.append_nil];exact List.prefix_rfl
   ·rw[e7 2 (by omega),h.run,List.append_nil];exact List.prefix_rfl
theorem mI:∀{l:List Cv} {nu:Int},Cm.Good 0 nu l→Cm.Good 1 nu l
 |[],_,_=>trivial
 |c::l,nu,h=>⟨h.1,h.2.1,(Cm.bu h.1).1,h.2.2.2⟩
theorem In.aZ (h:In z s ps ss):Sto.Ok (aZ s)∧Sto.fin (aZ s)=s.l.length:=by
 obtain⟨h1,h2,_⟩:=Rl.eB h.gr|>.2|>fun k=>(⟨(Rl.eB h.gr).1,k.1,k.2⟩:s.r.length≤1048576∧0≤lastN 0 s.r∧lastN 0 s.r≤1048576)
 have hle:=(uX.1 h.sd).1.1
 refine⟨⟨h.gr,?_⟩,?_⟩
 ·have:=Sto.l8 (mI h.gl) (lastN 0 s.r).toNat (by omega)
  rw[show(0:Int)+((lastN 0 s.r).toNat:Int)=lastN 0 s.r by omega]at this
  exact this
 ·show lastN 0 s.r+((s.l.drop (lastN 0 s.r).toNat).length:Int)=_
  rw[List.length_drop]
  omega
theorem ajs {d:Ds}{bs:List Int}(hw:d.wait=[])(ho:d.on=true):Rl.ext d bs=ext d 2 bs:=by
 have ha:Wl.App d.wait:=by rw[hw];exact Wl.qF
 obtain⟨h1,h2,h3,h4,h5⟩:=agM 2 (by omega) bs ha ho
 have hq:write d 2 bs=write d (2:Nat) bs:=rfl
 unfold Rl.ext ext
 rw[hq]
 generalize write d (2:Nat) bs=x at*
 rcases h1 with⟨e1,o1,k1⟩|⟨e1,o1,k1,k2⟩
 ·rw[if_neg (by simp[e1]),if_neg (by simp[e1])]
  obtain⟨s1,s2⟩:=akH h3 o1
  rcases s1 with⟨e2,_⟩|⟨e2,_⟩
  ·rw[if_neg (by simp[e2]),←e2]
  ·rw[if_pos (by simp[e2]),←e2]
 ·rw[if_pos (by simp[e1]),if_pos (by simp[e1]),←e1]
theorem xV (h:In z s ps ss)(u:Int):
  ((aR s u).1≠6∧(aR s u).2=s)∨
  ((aR s u).1=0∧In z (aR s u).2 ps ss∧(aR s u).2.p=s.p∧(aR s u).2.l=s.l∧(s.d.has=false→(aR s u).2.d.has=false))∨
  ((aR s u).1=6∧s.d.has=true∧(aR s u).2.d.on=false∧(aR s u).2.off=true∧(aR s u).2.p=s.p∧(aR s u).2.l=s.l∧(aR s u).2.r=s.r∧∃c,snd s.p s.l c.n (Orp.secs ss).length=true∧Aft z (aR s u).2.d s.l ps s.r ss [] [] [c]):=by
 obtain⟨so,sf⟩:=h.aZ
 have hso:(Rst.aZ s).r.l=s.r:=rfl
 unfold aR
 rw[if_neg (by rw[h.ask];simp)]
 by_cases h1:u<lastN 0 s.r∨(s.l.length:Int)<u
 ·rw[if_pos h1]
  exact .inl ⟨by simp,rfl⟩
 rw[if_neg h1,h.fine]
 cases hs:snd s.p s.l u (Orp.secs ss).length with
 |false=>rw[if_pos rfl];exact .inl ⟨by simp,rfl⟩
 |true=>
  rw[if_neg (by simp)]
  unfold Sto.aR
  rw[hso,sf,if_neg h1]
  by_cases h2:u=lastN 0 s.r
  ·rw[if_pos h2]
   refine .inl ⟨by simp,?_⟩
   simp[Rst.aZ]
  rw[if_neg h2]
  by_cases h3:1024<(Sto.eG (Rst.aZ s) u).l.length
  ·rw[if_pos h3]
   refine .inl ⟨by simp,?_⟩
   simp[Rst.aZ]
  rw[if_neg h3]
  obtain⟨k1,k2⟩:=Sto.ah7 so (u:=u) (by rw[hso,sf];exact h1) (by rw[hso];exact h2) h3
  rw[hso]at k2
  have hcn:(Sto.eG (Rst.aZ s) u).n=u:=rfl
  have hR:Rl.aR (Rst.aZ s).r (Sto.eG (Rst.aZ s) u)=if (ext s.d 2 (Rl.fr (Sto.eG (Rst.aZ s) u))).1≠0 then((ext s.d 2 (Rl.fr (Sto.eG (Rst.aZ s) u))).1,⟨(ext s.d 2 (Rl.fr (Sto.eG (Rst.aZ s) u))).2,s.r,true⟩)else(0,⟨(ext s.d 2 (Rl.fr (Sto.eG (Rst.aZ s) u))).2,s.r++[Sto.eG (Rst.aZ s) u],false⟩):=by
   unfold Rl.aR
   have ha:Rl.ask (Rst.aZ s).r=false:=h.ask
   rw[ha,if_neg (by simp),if_neg (by simp[k1]),if_neg (by rw[hso];simp[k2]),hso,show(Rst.aZ s).r.d=s.d from rfl,ajs h.calm h.on]
  have gr':Rl.Good 0 (s.r++[Sto.eG (Rst.aZ s) u]):=(Rl.mF h.gr).2 ⟨k1,k2⟩
  generalize Sto.eG (Rst.aZ s) u=c at*
  obtain⟨hx,hn⟩:=ayQ 2 (by omega) (Rl.fr c) h.calm h.on
  generalize ext s.d 2 (Rl.fr c)=x at*
  rcases hx with⟨e1,e2,e3,e4,e5⟩|⟨e1,e2,e3,e4,e5,e6,e7⟩
  ·rw[if_neg (by simp[e1])]at hR
   rw[hR,if_neg (by simp)]
   refine .inr (.inl ⟨by simp,⟨e2,e3,by simp[h.off],?_,h.gl,?_,h.gp,h.last,?_,gr',?_,h.go,?_⟩,rfl,rfl,fun k=>by simpa using(hn k).2⟩)
   ·show x.2.sure 0=_
    rw[e5 0 (by omega)];exact h.log
   ·show x.2.sure 1=_
    rw[e5 1 (by omega)];exact h.ny
   ·show x.2.sure 2=Rl.aW (s.r++[c])
    rw[e4,h.run,Rl.jC,Rl.lU]
   ·show x.2.sure 3=_
    rw[e5 3 (by omega)];exact h.lZ
   ·show snd s.p s.l (lastN 0 (s.r++[c])) _=true
    rw[Rl.dX,hcn]
    exact hs
  ·rw[if_pos (by simp[e1]),e1]at hR
   rw[hR,if_pos (by simp)]
   refine .inr (.inr ⟨by simp,?_,e2,by simp,rfl,rfl,rfl,c,by rw[hcn];exact hs,?_⟩)
   ·cases hh:s.d.has with
    |true=>rfl
    |false=>rw[(hn hh).1]at e1;simp at e1
   ·show Aft z x.2 _ _ _ _ _ _ _
    refine⟨e3,?_,?_,by rw[List.append_nil];exact h.gl,?_,?_,by rw[List.append_nil];exact h.gp,by simp,?_,?_,gr',by simp,?_,?_,h.go⟩
    ·rw[e4];exact h.log
    ·rw[e7 0 (by omega),h.log,List.append_nil];exact List.prefix_rfl
    ·rw[e4];exact h.ny
    ·rw[e7 1 (by omega),h.ny,List.append_nil];exact List.prefix_rfl
    ·rw[e4];exact h.run
    ·rw[Rl.jC,Rl.lU,←h.run];exact e6
    ·rw[e4];exact h.lZ
    ·rw[e7 3 (by omega)];exact h.lZ
end
end Rst
end Go.Proofs.YtpifdeoepppadaaGreatDoor
namespace Go.Proofs.YtpifdeoepppadaaGreatDoor
set_option linter.unusedVariables false
namespace Rst
open Dm
open Cm (Cv lastE lastN)
open Pm (Pg)
open Orp (Se)
theorem aqO (l m:List Cv)(e:Int):lastE e (l++m)=lastE (lastE e l) m:=by
 induction l generalizing e with
 |nil=>rfl
 |cons c l ih=>exact ih c.e
theorem aiz {p:Pg}{l cs m:List Cv}{n b:Int}(h1:snd p l n b=true)(h2:snd p (l++cs) n b=true)(hg:Cm.Good 0 0 (l++cs))(ha:l<+:m)(hb:m<+:l++cs):snd p m n b=true:=by
 rw[uX]at h1 h2⊢
 obtain⟨⟨a1,a2,a3,a4⟩,a5⟩:=h1
 obtain⟨⟨b1,b2,b3,b4⟩,b5⟩:=h2
 have e1:=ha.length_le
 have e2:=hb.length_le
 obtain⟨y,hy⟩:=hb
 have hl:lastE 0 m≤lastE 0 (l++cs):=by
  rw[←hy]at hg
  rw[←hy,aqO]
  exact Sto.aaU ((Cm.dG _ _ _ _).1 hg).2
 refine⟨⟨by omega,by omega,fun k q=>?_,by omega⟩,fun k=>?_⟩
 ·have:=b3 k
  omega
 ·obtain⟨c1,c2,c3,c4⟩:=a5 k
  obtain⟨d1,d2,d3,d4⟩:=b5 k
  refine⟨c1,by omega,fun q=>?_,c4⟩
  have:=c3 q
  have:=d3 q
  omega
theorem Aft.again {z p:Pg}{d d':Ds}{l cs r rs m rr:List Cv}{ps os:List Pg}{ss st:List Se}{g k t:Nat}(h:Aft z d l ps r ss cs os rs)
  (hsd:∀m p rr,l<+:m→m<+:l++cs→(p=ps.getLast?.getD z∨∃o,os=[o]∧p=o)→(rr=r∨∃c,rs=[c]∧rr=r++[c])→snd p m (lastN 0 rr) (Orp.secs ss).length=true)
  (hs:d'.sure=kept d k t) (hw:d'.wait=[]) (ho:d'.on=true) (hh:d'.has=false) (hk:za d' z m p g rr st):
  gP d' m p g rr st=0∧(l<+:m∧m<+:l++cs)∧(p=ps.getLast?.getD z∨∃o,os=[o]∧p=o)∧(rr=r∨∃c,rs=[c]∧rr=r++[c])∧st=ss:=by
 obtain⟨f1,f2,f3,f4⟩:=h.found hs hw hk
 have hsn:=hsd m p rr f1.1 f1.2 f2 f3
 subst f4
 exact⟨(amb hk ho hh hw hsn).1,f1,f2,f3,rfl⟩
section
variable {z:Pg} {s:St} {ps:List Pg} {ss:List Se}
theorem In.sds (h:In z s ps ss):∀m p rr,s.l<+:m→m<+:s.l++[]→(p=ps.getLast?.getD z∨∃o,([]:List Pg)=[o]∧p=o)→(rr=s.r∨∃c,([]:List Cv)=[c]∧rr=s.r++[c])→snd p m (lastN 0 rr) (Orp.secs ss).length=true:=by
 intro m p rr h1 h2 h3 h4
 rw[List.append_nil]at h2
 have:m=s.l:=h2.eq_of_length (Nat.le_antisymm h2.length_le h1.length_le)
 subst this
 rcases h3 with rfl|⟨o,h,_⟩
 ·rcases h4 with rfl|⟨c,h,_⟩
  ·rw[←h.last];exact h.sd
  ·simp at h
 ·simp at h
theorem In.auX (h:In z s ps ss){q:Pg}(hq:snd q s.l (lastN 0 s.r) (Orp.secs ss).length=true):∀m p rr,s.l<+:m→m<+:s.l++[]→(p=ps.getLast?.getD z∨∃o,[q]=[o]∧p=o)→(rr=s.r∨∃c,([]:List Cv)=[c]∧rr=s.r++[c])→snd p m (lastN 0 rr) (Orp.secs ss).length=true:=by
 intro m p rr h1 h2 h3 h4
 rcases h3 with h3|⟨o,ho,hp⟩
 ·exact h.sds m p rr h1 h2 (.inl h3) h4
 ·rw[List.append_nil]at h2
  have:m=s.l:=h2.eq_of_length (Nat.le_antisymm h2.length_le h1.length_le)
  subst this
  simp at ho
  subst ho hp
  rcases h4 with rfl|⟨c,h,_⟩
  ·exact hq
  ·simp at h
theorem In.at5 (h:In z s ps ss){cs:List Cv}(hg:Cm.Good 0 0 (s.l++cs))(hq:snd s.p (s.l++cs) (lastN 0 s.r) (Orp.secs ss).length=true):∀m p rr,s.l<+:m→m<+:s.l++cs→(p=ps.getLast?.getD z∨∃o,([]:List Pg)=[o]∧p=o)→(rr=s.r∨∃c,([]:List Cv)=[c]∧rr=s.r++[c])→snd p m (lastN 0 rr) (Orp.secs ss).length=true:=by
 intro m p rr h1 h2 h3 h4
 rcases h3 with rfl|⟨o,h,_⟩
 ·rcases h4 with rfl|⟨c,h,_⟩
  ·rw[←h.last]
   exact aiz h.sd hq hg h1 h2
  ·simp at h
 ·simp at h
theorem In.au6 (h:In z s ps ss){c:Cv}(hq:snd s.p s.l c.n (Orp.secs ss).length=true):∀m p rr,s.l<+:m→m<+:s.l++[]→(p=ps.getLast?.getD z∨∃o,([]:List Pg)=[o]∧p=o)→(rr=s.r∨∃x,[c]=[x]∧rr=s.r++[x])→snd p m (lastN 0 rr) (Orp.secs ss).length=true:=by
 intro m p rr h1 h2 h3 h4
 rcases h4 with h4|⟨x,hx,hr⟩
 ·exact h.sds m p rr h1 h2 h3 (.inl h4)
 ·rw[List.append_nil]at h2
  have:m=s.l:=h2.eq_of_length (Nat.le_antisymm h2.length_le h1.length_le)
  subst this
  simp at hx
  subst hx hr
  rw[Rl.dX]
  rcases h3 with rfl|⟨o,h,_⟩
  ·rw[←h.last];exact hq
  ·simp at h
end
end Rst
end Go.Proofs.YtpifdeoepppadaaGreatDoor
