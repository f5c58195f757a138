/- Texts of one layer, one behind the other. -/
import Derived.Test.YtjemlgdkjilnoaaGreatDoorG2
set_option maxRecDepth 100000
set_option maxHeartbeats 8000000
namespace Go.Proofs.YtjemlgdkjilnoaaGreatDoor
set_option linter.unusedVariables false
namespace Orp
open Vm Bm
open Cm (Cv Good fol lastE lastN)
structure Se where
 e:Int
 f:Int
 cs:List Cv
def chk (s:Se):Int:=if s.e<1∨1048576<s.e∨s.f<0∨s.cs.length=0 then 2 else if (fol 1 s.f 0 s.cs).1=0 then(if s.e≤lastE 1 s.cs then 15 else 0)else(fol 1 s.f 0 s.cs).1
theorem asa {s:Se}(h:s.e<1∨1048576<s.e∨s.f<0∨s.cs.length=0):chk s=2:=if_pos h
theorem arW {s:Se}(h:¬(s.e<1∨1048576<s.e∨s.f<0∨s.cs.length=0))(h':(fol 1 s.f 0 s.cs).1≠0):chk s=(fol 1 s.f 0 s.cs).1:=by unfold chk;rw[if_neg h,if_neg h']
theorem ar0 {s:Se}(h:¬(s.e<1∨1048576<s.e∨s.f<0∨s.cs.length=0))(h':(fol 1 s.f 0 s.cs).1=0)(h2:s.e≤lastE 1 s.cs):chk s=15:=by unfold chk;rw[if_neg h,if_pos h',if_pos h2]
theorem ib {s:Se}(h:¬(s.e<1∨1048576<s.e∨s.f<0∨s.cs.length=0))(h':(fol 1 s.f 0 s.cs).1=0)(h2:¬s.e≤lastE 1 s.cs):chk s=0:=by unfold chk;rw[if_neg h,if_pos h',if_neg h2]
theorem acS:∀{l:List Cv} {ep nu:Int},Good ep nu l→(l=[]∨nu+l.length≤1048576)∧∀c∈l,Cm.chk c.e c.n c.l=0
 |[],_,_,_=>⟨.inl rfl,fun c hc=>by simp at hc⟩
 |c::r,ep,nu,⟨h1,h2,h3,h4⟩=>by
  obtain⟨g1,g2⟩:=acS h4
  obtain⟨_,_,_,h5,_⟩:=Cm.aQ h1
  refine⟨.inr ?_,fun d hd=>?_⟩
  ·rcases g1 with rfl|g1
   ·simp;omega
   ·rw[List.length_cons];omega
  ·rcases List.mem_cons.1 hd with rfl|hd
   ·exact h1
   ·exact g2 d hd
theorem aQ {s:Se}(h:chk s=0):1≤s.e∧s.e≤1048576∧0≤s.f∧s.f≤1048576∧1≤s.cs.length∧s.cs.length≤1048576∧Good 1 s.f s.cs∧lastE 1 s.cs<s.e∧∀c∈s.cs,Cm.chk c.e c.n c.l=0:=by
 unfold chk at h
 split at h
 ·simp at h
 ·rename_i h1
  split at h
  ·rename_i h2
   split at h
   ·simp at h
   ·have g:=(Cm.eY _ _ _ _).1 h2
    obtain⟨g1,g2⟩:=acS g
    rcases g1 with g1|g1
    ·rw[g1]at h1;simp at h1
    ·exact⟨by omega,by omega,by omega,by omega,by omega,by omega,g,by omega,g2⟩
  ·rename_i h2
   exact absurd h h2
def hdr (s:Se):List Int:=enc s.e.toNat++(enc s.f.toNat++enc s.cs.length)
def sec (s:Se):List Int:=Fm.cB (hdr s)++Wl.aR s.cs
def out (s:Se):List Int:=if chk s=0 then sec s else []
theorem jh {s:Se}(h:chk s=0):out s=sec s:=if_pos h
theorem nV {s:Se}(h:chk s≠0):out s=[]:=if_neg h
theorem xu {s:Se}(h:chk s=0):(hdr s).length≤9:=by
 obtain⟨h1,h2,h3,h4,h5,h6,_⟩:=aQ h
 have a:=Cm.gz (x:=s.e) (by omega)
 have b:=Cm.gz (x:=s.f) (by omega)
 have c:(enc s.cs.length).length≤3:=nK 2 _ (by omega)
 unfold hdr
 rw[List.length_append,List.length_append]
 omega
theorem xO:∀{l:List Cv},(∀c∈l,Cm.chk c.e c.n c.l=0)→(Wl.aR l).length≤433*l.length
 |[],_=>by simp[Wl.aR,Fm.cat]
 |c::l,h=>by
  have h1:=Wl.lG (h c (by simp))
  have h2:=xO (l:=l) fun d hd=>h d (by simp[hd])
  rw[Wl.fI,List.length_append,List.length_cons]
  omega
theorem aew {s:Se}(h:chk s=0):(sec s).length≤10+433*s.cs.length:=by
 have h1:=xu h
 have h2:=xO (aQ h).2.2.2.2.2.2.2.2
 have h3:sz (hdr s).length≤1:=nK 0 _ (by omega)
 unfold sec
 rw[List.length_append,Fm.jF]
 omega
theorem xX (s:Se):1≤(sec s).length:=by
 have:=Fm.yf (hdr s)
 unfold sec
 rw[List.length_append]
 omega
theorem oJ {s:Se}{bs:List Int}(h:hdr s<+:bs):enc s.e.toNat<+:bs∧enc s.f.toNat<+:bs.drop (sz s.e.toNat)∧enc s.cs.length<+:bs.drop (sz s.e.toNat+sz s.f.toNat):=by
 unfold hdr at h
 rw[bq,bq,List.drop_drop]at h
 exact h
theorem zX:∀(l m:List Cv) (bs:List Int),l.length=m.length→(∀c∈l,Cm.chk c.e c.n c.l=0)→(∀c∈m,Cm.chk c.e c.n c.l=0)→Wl.aR l<+:bs→Wl.aR m<+:bs→l=m
 |[],[],_,_,_,_,_,_=>rfl
 |[],_::_,_,h,_,_,_,_=>by simp at h
 |_::_,[],_,h,_,_,_,_=>by simp at h
 |c::l,d::m,bs,hl,h1,h2,h,g=>by
  rw[Wl.fI,bq]at h g
  have e:=Wl.oG (h1 c (by simp)) (h2 d (by simp)) h.1 g.1
  subst e
  rw[zX l m _ (by simpa using hl) (fun x hx=>h1 x (by simp[hx])) (fun x hx=>h2 x (by simp[hx])) h.2 g.2]
def No (bs:List Int):Prop:=∀t,chk t=0→¬sec t<+:bs
def yY (h:List Int):Prop:=∀t,chk t=0→hdr t≠h
theorem avk {bs:List Int}(h:∀r:List Int,r.length≤131072→¬Fm.cB r<+:bs):No bs:=fun t ht hp=>by
 have:=xu ht
 exact h (hdr t) (by omega) ((List.prefix_append _ _).trans hp)
theorem avf {bs h:List Int}(hp:Fm.cB h<+:bs)(hn:yY h):No bs:=fun t ht hq=>
 hn t ht (Fm.ny ((List.prefix_append _ _).trans hq) hp)
theorem ayq {h:List Int}(k:∀x:Nat,x≤1048576→¬enc x<+:h):yY h:=fun t ht he=>by
 obtain⟨h1,h2,h3,h4,h5,h6,_⟩:=aQ ht
 exact k t.e.toNat (by omega) (oJ (he▸List.prefix_rfl:hdr t<+:h)).1
theorem axt {h:List Int}{x:Nat}(hx:enc x<+:h)(k:∀y:Nat,y≤1048576→¬enc y<+:h.drop (sz x)):yY h:=fun t ht he=>by
 obtain⟨h1,h2,h3,h4,h5,h6,_⟩:=aQ ht
 obtain⟨p1,p2,_⟩:=oJ (he▸List.prefix_rfl:hdr t<+:h)
 rw[←bJ _ _ _ hx p1]at p2
 exact k t.f.toNat (by omega) p2
theorem axC {h:List Int}{x y:Nat}(hx:enc x<+:h)(hy:enc y<+:h.drop (sz x))(k:∀m:Nat,m≤1048576→¬enc m<+:h.drop (sz x+sz y)):yY h:=fun t ht he=>by
 obtain⟨h1,h2,h3,h4,h5,h6,_⟩:=aQ ht
 obtain⟨p1,p2,p3⟩:=oJ (he▸List.prefix_rfl:hdr t<+:h)
 rw[←bJ _ _ _ hx p1]at p2 p3
 rw[←bJ _ _ _ hy p2]at p3
 exact k t.cs.length (by omega) p3
theorem arE (s:Se):(hdr s).length=sz s.e.toNat+sz s.f.toNat+sz s.cs.length:=by
 unfold hdr
 rw[List.length_append,List.length_append]
 unfold sz
 omega
theorem axl {h:List Int}{x y m:Nat}(hx:enc x<+:h)(hy:enc y<+:h.drop (sz x))(hm:enc m<+:h.drop (sz x+sz y))(hl:sz x+sz y+sz m≠h.length):yY h:=fun t ht he=>by
 obtain⟨p1,p2,p3⟩:=oJ (he▸List.prefix_rfl:hdr t<+:h)
 have e1:=bJ _ _ _ hx p1
 rw[←e1]at p2 p3
 have e2:=bJ _ _ _ hy p2
 rw[←e2]at p3
 have e3:=bJ _ _ _ hm p3
 apply hl
 rw[←he,arE,←e1,←e2,←e3]
theorem avY {h:List Int}{x y m:Nat}(hx:enc x<+:h)(hy:enc y<+:h.drop (sz x))(hm:enc m<+:h.drop (sz x+sz y))(hl:sz x+sz y+sz m=h.length):enc x++(enc y++enc m)=h:=by
 have:enc x++(enc y++enc m)<+:h:=by
  rw[bq,bq,List.drop_drop]
  exact⟨hx,hy,hm⟩
 refine this.eq_of_length ?_
 rw[List.length_append,List.length_append,←hl]
 unfold sz
 omega
theorem agC {s:Se}{x y m:Nat}(h:hdr s=enc x++(enc y++enc m)):s.e.toNat=x∧s.f.toNat=y∧s.cs.length=m:=by
 have q:enc x++(enc y++enc m)<+:hdr s:=by rw[h];exact List.prefix_rfl
 rw[bq,bq,List.drop_drop]at q
 obtain⟨q1,q2,q3⟩:=q
 obtain⟨p1,p2,p3⟩:=oJ (s:=s) List.prefix_rfl
 have e1:=bJ _ _ _ q1 p1
 change enc y<+:(hdr s).drop (sz x)at q2
 change enc m<+:(hdr s).drop (sz x+sz y)at q3
 rw[←e1]at p2 p3
 have e2:=bJ _ _ _ q2 p2
 rw[←e2]at p3
 exact⟨e1.symm,e2.symm,(bJ _ _ _ q3 p3).symm⟩
theorem avC {bs:List Int}{x y m:Nat}{l:List Cv}(hh:Fm.cB (enc x++(enc y++enc m))<+:bs)(hl:Wl.aR l<+:bs.drop (Fm.cB (enc x++(enc y++enc m))).length)(hc:∀c∈l,Cm.chk c.e c.n c.l=0)(hlt:l.length<m)
  (k:∀c:Cv,Cm.chk c.e c.n c.l=0→¬Wl.fr c<+:bs.drop ((Fm.cB (enc x++(enc y++enc m))).length+(Wl.aR l).length)):No bs:=fun t ht hp=>by
 obtain⟨h1,h2,h3,h4,h5,h6,_,_,h7⟩:=aQ ht
 unfold sec at hp
 rw[bq]at hp
 have e:=Fm.ny hp.1 hh
 obtain⟨_,_,e3⟩:=agC e
 rw[e]at hp
 have p4:=hp.2
 have hlr:l.length<t.cs.length:=by omega
 have hs:t.cs=t.cs.take l.length++(t.cs[l.length]::t.cs.drop (l.length+1)):=by rw[←List.drop_eq_getElem_cons hlr,List.take_append_drop]
 rw[hs,Wl.jk,bq]at p4
 have hq:=zX l (t.cs.take l.length) _ (by rw[List.length_take];omega) hc (fun o ho=>h7 o (List.mem_of_mem_take ho)) hl p4.1
 have p5:=p4.2
 rw[←hq,List.drop_drop,Wl.fI]at p5
 exact k t.cs[l.length] (h7 _ (List.getElem_mem hlr)) ((List.prefix_append _ _).trans p5)
theorem afA {bs:List Int}{x y:Nat}{l:List Cv}(hh:Fm.cB (enc x++(enc y++enc l.length))<+:bs)(hl:Wl.aR l<+:bs.drop (Fm.cB (enc x++(enc y++enc l.length))).length)(hc:∀c∈l,Cm.chk c.e c.n c.l=0)
  {t:Se} (ht:chk t=0) (hp:sec t<+:bs):t=⟨x,y,l⟩:=by
 obtain⟨h1,h2,h3,h4,h5,h6,_,_,h7⟩:=aQ ht
 unfold sec at hp
 rw[bq]at hp
 have e:=Fm.ny hp.1 hh
 obtain⟨e1,e2,e3⟩:=agC e
 rw[e]at hp
 have e4:=zX t.cs l _ e3 h7 hc hp.2 hl
 obtain⟨te,tf,tc⟩:=t
 simp only at e1 e2 e4 h1 h3
 rw[Se.mk.injEq]
 exact⟨by omega,by omega,e4⟩
theorem au2 {bs:List Int}{x y:Nat}{l:List Cv}(hh:Fm.cB (enc x++(enc y++enc l.length))<+:bs)(hl:Wl.aR l<+:bs.drop (Fm.cB (enc x++(enc y++enc l.length))).length)(hc:∀c∈l,Cm.chk c.e c.n c.l=0)(hk:chk ⟨x,y,l⟩≠0):No bs:=fun t ht hp=>by
 rw[afA hh hl hc ht hp]at ht
 exact hk ht
theorem avi {bs:List Int}{x y:Nat}{l:List Cv}(hh:Fm.cB (enc x++(enc y++enc l.length))<+:bs)(hl:Wl.aR l<+:bs.drop (Fm.cB (enc x++(enc y++enc l.length))).length):sec ⟨x,y,l⟩<+:bs∧(sec ⟨x,y,l⟩).length=(Fm.cB (enc x++(enc y++enc l.length))).length+(Wl.aR l).length:=by
 have e:hdr ⟨x,y,l⟩=enc x++(enc y++enc l.length):=by unfold hdr;simp
 unfold sec
 rw[e]
 exact⟨bq.2 ⟨hh,hl⟩,List.length_append⟩
theorem aci {s t:Se}{bs:List Int}(hs:chk s=0)(ht:chk t=0)(h:sec s<+:bs)(h':sec t<+:bs):s=t:=by
 obtain⟨h1,h2,h3,h4,h5,h6,_,_,h7⟩:=aQ hs
 have e:hdr s=enc s.e.toNat++(enc s.f.toNat++enc s.cs.length):=rfl
 have p:=bq.1 h
 rw[e]at p
 have:=afA p.1 p.2 h7 ht h'
 rw[this]
 obtain⟨se,sf,sc⟩:=s
 simp only at h1 h3
 rw[Se.mk.injEq]
 exact⟨by simp;omega,by simp;omega,rfl⟩
def Rd (bs:List Int) (s:Se) (n:Nat) (g:Bool):Prop:=(g=true∧chk s=0∧sec s<+:bs∧n=(sec s).length)∨(g=false∧No bs)
def Ris (a:Int):List Se→Prop
 |[]=>True
 |s::r=>chk s=0∧a<s.e∧Ris s.e r
def jT (a:Int):List Se→Int
 |[]=>a
 |s::r=>jT s.e r
def secs:List Se→List Int
 |[]=>[]
 |s::r=>sec s++secs r
theorem anO {a:Int}{s:Se}{l:List Se}:Ris a (s::l)↔Ris a [s]∧Ris s.e l:=by simp[Ris,and_assoc]
theorem yL:∀(l m:List Se) (a:Int),Ris a (l++m)↔Ris a l∧Ris (jT a l) m
 |[],m,a=>by simp[Ris,jT]
 |s::r,m,a=>by simp only[List.cons_append,Ris,jT,yL r m];constructor<;>(rintro⟨_,_⟩;simp_all)
theorem j6:∀(l:List Se) (s:Se) (a:Int),jT a (l++[s])=s.e
 |[],_,_=>rfl
 |q::r,s,a=>by simpa[jT]using j6 r s q.e
theorem ahv:∀{l:List Se} {a:Int},Ris a l→∀s∈l,chk s=0
 |[],_,_,s,hs=>by simp at hs
 |q::r,a,h,s,hs=>by
  rcases List.mem_cons.1 hs with rfl|hs
  ·exact h.1
  ·exact ahv h.2.2 s hs
theorem lZ (s:Se)(l:List Se):secs (s::l)=sec s++secs l:=rfl
theorem lD:∀(l m:List Se),secs (l++m)=secs l++secs m
 |[],_=>rfl
 |s::l,m=>by rw[List.cons_append,lZ,lZ,lD l m,List.append_assoc]
theorem qp (s:Se):secs [s]=sec s:=by simp[secs]
theorem afE:∀(l:List Se),l.length≤(secs l).length
 |[]=>by simp
 |s::l=>by
  have:=afE l
  have:=xX s
  rw[lZ,List.length_append,List.length_cons]
  omega
def Sn (a:Int) (bs:List Int) (l:List Se):Prop:=Ris a l∧secs l<+:bs∧∀t,Ris (jT a l) [t]→¬sec t<+:bs.drop (secs l).length
theorem yJ {a:Int}{bs:List Int}{s:Se}{l:List Se}(h:Sn a bs (s::l)):Ris a [s]∧sec s<+:bs∧Sn s.e (bs.drop (sec s).length) l:=by
 obtain⟨h1,h2,h3⟩:=h
 rw[lZ]at h2
 obtain⟨g1,g2⟩:=anO.1 h1
 refine⟨g1,(List.prefix_append _ _).trans h2,g2,Fm.iB h2,fun d hd=>?_⟩
 rw[List.drop_drop,←List.length_append,←lZ]
 exact h3 d hd
theorem wu:∀{l m:List Se} {a:Int} {bs:List Int},Sn a bs l→Sn a bs m→l=m
 |[],[],_,_,_,_=>rfl
 |[],c::m,a,bs,h,h'=>by
  obtain⟨h1,h2,_⟩:=yJ h'
  exact absurd h2 (h.2.2 c h1)
 |c::l,[],a,bs,h,h'=>by
  obtain⟨h1,h2,_⟩:=yJ h
  exact absurd h2 (h'.2.2 c h1)
 |c::l,d::m,a,bs,h,h'=>by
  obtain⟨h1,h2,h3⟩:=yJ h
  obtain⟨g1,g2,g3⟩:=yJ h'
  have e:=aci h1.1 g1.1 h2 g2
  subst e
  rw[wu h3 g3]
theorem atB {l:List Se}{a:Int}{k n:Nat}(h:Ris a l)(hn:n≤l.length)(h1:(secs (l.take n)).length≤k)(h2:n<l.length→k<(secs (l.take (n+1))).length)(h3:k≤(secs l).length):Sn a ((secs l).take k) (l.take n):=by
 have hs:secs l=secs (l.take n)++secs (l.drop n):=by rw[←lD,List.take_append_drop]
 have hr:=h
 rw[←List.take_append_drop n l,yL]at hr
 have ht:(secs l).take k=secs (l.take n)++(secs (l.drop n)).take (k-(secs (l.take n)).length):=by
  rw[hs,List.take_append,List.take_of_length_le h1]
 refine⟨hr.1,?_,fun t hR hp=>?_⟩
 ·rw[ht];exact List.prefix_append _ _
 ·rw[ht,List.drop_left]at hp
  by_cases hlt:n<l.length
  ·have hd:l.drop n=l[n]::l.drop (n+1):=List.drop_eq_getElem_cons hlt
   have hk:=h2 hlt
   rw[List.take_succ_eq_append_getElem hlt,lD,qp,List.length_append]at hk
   have hq:sec t<+:secs (l.drop n):=hp.trans (List.take_prefix _ _)
   have e:=aci hR.1 (ahv h l[n] (List.getElem_mem hlt)) hq (by rw[hd,lZ];exact List.prefix_append _ _)
   have:=hp.length_le
   rw[e,List.length_take]at this
   omega
  ·have hd:l.drop n=[]:=List.drop_eq_nil_of_le (by omega)
   rw[hd]at hp
   have h4:=hp.length_le
   have h5:=xX t
   rw[show secs []=[]from rfl,List.take_nil,List.length_nil]at h4
   omega
theorem tL {a:Int}{l:List Se}(h:Ris a l):Sn a (secs l) l:=by
 have:=atB (k:=(secs l).length) (n:=l.length) h (Nat.le_refl _) (by rw[List.take_length];exact Nat.le_refl _) (fun h=>absurd h (Nat.lt_irrefl _)) (Nat.le_refl _)
 rwa[List.take_length,List.take_length]at this
def has (l:List Se) (e n:Int):Bool:=l.any fun s=>s.cs.any fun c=>c.e==e&&c.n==n
end Orp
end Go.Proofs.YtjemlgdkjilnoaaGreatDoor
namespace Go.Proofs.YtjemlgdkjilnoaaGreatDoor.Dm
set_option linter.unusedVariables false
structure Rw where
 file:Nat
 cut:Bool
 to:Nat
 bytes:List Int
structure Ds where
 sure:Nat→List Int
 wait:List Rw
 on:Bool
 has:Bool
 left:Nat
 count:Nat
def upd (s:Nat→List Int) (f:Nat) (x:List Int):Nat→List Int:=fun j=>if j=f then x else s j
theorem vD (s:Nat→List Int)(f:Nat)(x:List Int):upd s f x f=x:=by simp[upd]
theorem wZ {s:Nat→List Int}{f j:Nat}{x:List Int}(h:j≠f):upd s f x j=s j:=by simp[upd,h]
def je (b:List Int) (r:Rw):List Int:=if r.cut then b.take r.to else b++r.bytes
def one (s:Nat→List Int) (r:Rw):Nat→List Int:=upd s r.file (je (s r.file) r)
def dof (s:Nat→List Int):List Rw→Nat→List Int
 |[]=>s
 |r::l=>dof (one s r) l
theorem ahG:∀(l m:List Rw) (s:Nat→List Int),dof s (l++m)=dof (dof s l) m
 |[],_,_=>rfl
 |r::l,m,s=>ahG l m (one s r)
theorem aoN (l:List Rw)(r:Rw)(s:Nat→List Int):dof s (l++[r])=one (dof s l) r:=ahG l [r] s
def hold (f:Nat) (b:List Int):List Rw→List Int
 |[]=>b
 |r::l=>hold f (if r.file=f then je b r else b) l
theorem fG:∀(l:List Rw) (s:Nat→List Int) (f:Nat),hold f (s f) l=dof s l f
 |[],_,_=>rfl
 |r::l,s,f=>by
  rw[hold,dof,←fG l (one s r) f]
  congr 1
  by_cases h:r.file=f
  ·subst h;rw[if_pos rfl,one,vD]
  ·rw[if_neg h,one,wZ (Ne.symm h)]
theorem qD:∀(l m:List Rw) (b:List Int) (f:Nat),hold f b (l++m)=hold f (hold f b l) m
 |[],_,_,_=>rfl
 |r::l,m,b,f=>qD l m _ f
theorem og (l:List Rw)(r:Rw)(b:List Int)(f:Nat):hold f b (l++[r])=if r.file=f then je (hold f b l) r else hold f b l:=qD l [r] b f
def fits (s:Nat→List Int) (r:Rw):Prop:=r.file<4∧(r.cut=true→r.to≤(s r.file).length)∧(r.cut=false→1≤r.bytes.length∧r.bytes.length≤64)
def valid (s:Nat→List Int):List Rw→Prop
 |[]=>True
 |r::l=>fits s r∧valid (one s r) l
theorem qM:∀(l m:List Rw) (s:Nat→List Int),valid s (l++m)↔valid s l∧valid (dof s l) m
 |[],_,_=>by simp[valid,dof]
 |r::l,m,s=>by simp[valid,dof,qM l m,and_assoc]
theorem afg {l:List Rw}{s:Nat→List Int}(h:valid s l){k:Nat}{r:Rw}(hk:l[k]? =some r):fits (dof s (l.take k)) r:=by
 obtain⟨hlt,rfl⟩:=List.getElem?_eq_some_iff.1 hk
 rw[←List.take_append_drop k l,qM,List.drop_eq_getElem_cons hlt]at h
 exact h.2.1
def gq:List Rw→Nat
 |[]=>0
 |r::l=>r.bytes.length+gq l
theorem aaf:∀(l m:List Rw),gq (l++m)=gq l+gq m
 |[],_=>by simp[gq]
 |r::l,m=>by simp[gq,aaf l m];omega
theorem arh (b:List Int)(r:Rw):(je b r).length≤b.length+r.bytes.length:=by
 unfold je
 split
 ·rw[List.length_take];omega
 ·simp
theorem kZ:∀(l:List Rw) (b:List Int) (f:Nat),(hold f b l).length≤b.length+gq l
 |[],_,_=>by simp[hold,gq]
 |r::l,b,f=>by
  have h1:=kZ l (if r.file=f then je b r else b) f
  have h2:=arh b r
  simp only[hold,gq]
  split at h1<;>simp_all<;>omega
def Sz (t u:Nat) (st:Ds):Prop:=(∀f,(st.sure f).length+gq st.wait≤t)∧st.wait.length≤u∧st.count≤u
def Ok (st:Ds):Prop:=valid st.sure st.wait
def off (st:Ds):Bool:=st.has&&st.left==0
def bH (st:Ds):Ds:={st with left:=if st.has then st.left-1 else st.left,count:=st.count+1}
def iw (st:Ds):Ds:={st with on:=false}
def push (st:Ds) (r:Rw):Ds:={st with wait:=st.wait++[r]}
def wrt (file:Nat):Nat→Ds→List Int→Int×Ds
 |0,st,_=>(0,st)
 |n+1,st,bs=>if bs=[]then(0,st)else if off st then(6,iw st)else wrt file n (push (bH st) ⟨file,false,0,bs.take 64⟩) (bs.drop 64)
def iU (file:Int):Bool:=decide (0≤file)&&decide (file<4)
def write (st:Ds) (file:Int) (bs:List Int):Int×Ds:=if st.on=false then(6,st)else if iU file=false then(2,st)else wrt file.toNat bs.length st bs
def bG (st:Ds) (file len:Int):Int×Ds:=if st.on=false then(6,st)else if iU file=false then(2,st)else if len<0∨(hold file.toNat (st.sure file.toNat) st.wait).length<len then(2,st)else if off st then(6,iw st)else(0,push (bH st) ⟨file.toNat,true,len.toNat,[]⟩)
def flush (st:Ds):Ds:={st with sure:=dof st.sure st.wait,wait:=[]}
def sync (st:Ds):Int×Ds:=if st.on=false then(6,st)else if off st then(6,iw st)else(0,flush (bH st))
def zQ (st:Ds) (n:Int):Int×Ds:=if st.on=false then(6,st)else if n<0 then(2,st)else(0,{st with has:=true,left:=n.toNat})
def pull (st:Ds):Int×Ds:=if st.on=false then(6,st)else(0,iw st)
def kept (st:Ds) (k t:Nat):Nat→List Int:=
 match st.wait[k]? with
 |some r=>if r.cut then dof st.sure (st.wait.take k)else one (dof st.sure (st.wait.take k)) ⟨r.file,false,0,r.bytes.take (min t (r.bytes.length-1))⟩
 |none=>dof st.sure (st.wait.take k)
def start (st:Ds) (k t:Int):Int×Ds:=if st.on=true∨k<0∨t<0 then(2,st)else(0,{st with sure:=kept st k.toNat t.toNat,wait:=[],has:=false,on:=true})
def new:Ds:=⟨fun _=>[],[],true,false,0,0⟩
end Go.Proofs.YtjemlgdkjilnoaaGreatDoor.Dm
namespace Go.Proofs.YtjemlgdkjilnoaaGreatDoor
set_option linter.unusedVariables false
namespace Orp
open Dm
def hl (st:Ds):List Int:=hold 3 (st.sure 3) st.wait
def wr2 (st:Ds) (s:Se):Int×Ds:=
 if (write st 3 (sec s)).1≠0 then(6,(write st 3 (sec s)).2)else if (sync (write st 3 (sec s)).2).1≠0 then(6,(sync (write st 3 (sec s)).2).2)else(0,(sync (write st 3 (sec s)).2).2)
def qd (st:Ds) (base:Int) (s:Se):Int×Ds:=
 if base<(hl st).length then(if (bG st 3 base).1≠0 then(6,(bG st 3 base).2)else wr2 (bG st 3 base).2 s)else wr2 st s
def dM (st:Ds) (base:Int) (s:Se):Int×Ds:=
 if st.on=false then(6,st)else if chk s≠0 then(chk s,st)else if base<0∨((hl st).length:Int)<base then(2,st)else qd st base s
theorem aru {st:Ds}{base:Int}{s:Se}(h:st.on=false):dM st base s=(6,st):=if_pos h
theorem ari {st:Ds}{base:Int}{s:Se}(h:st.on=true)(h2:chk s≠0):dM st base s=(chk s,st):=by unfold dM;rw[if_neg (by simp[h]),if_pos h2]
theorem ar7 {st:Ds}{base:Int}{s:Se}(h:st.on=true)(h2:chk s=0)(h3:base<0∨((hl st).length:Int)<base):dM st base s=(2,st):=by unfold dM;rw[if_neg (by simp[h]),if_neg (by simp[h2]),if_pos h3]
theorem aeh {st:Ds}{base:Int}{s:Se}(h:st.on=true)(h2:chk s=0)(h3:¬(base<0∨((hl st).length:Int)<base)):dM st base s=qd st base s:=by unfold dM;rw[if_neg (by simp[h]),if_neg (by simp[h2]),if_neg h3]
theorem arZ {st:Ds}(bs:List Int):hl (push (bH st) ⟨3,false,0,bs⟩)=hl st++bs:=by
 unfold hl push bH
 simp only
 rw[og]
 simp[je]
theorem ajE {st:Ds}(n:Nat):hl (push (bH st) ⟨3,true,n,[]⟩)=(hl st).take n:=by
 unfold hl push bH
 simp only
 rw[og]
 simp[je]
theorem as8:∀(n:Nat) (st:Ds) (bs:List Int),bs.length≤n→st.on=true→
  ((wrt 3 n st bs).1=0∧(wrt 3 n st bs).2.on=true∧hl (wrt 3 n st bs).2=hl st++bs∨(wrt 3 n st bs).1=6∧(wrt 3 n st bs).2.on=false)∧
  (wrt 3 n st bs).2.sure=st.sure∧(∀r∈(wrt 3 n st bs).2.wait,r∈st.wait∨r.cut=false)∧(st.has=false→(wrt 3 n st bs).1=0∧(wrt 3 n st bs).2.has=false)
 |0,st,bs,hb,ho=>by
  have:bs=[]:=List.eq_nil_of_length_eq_zero (by omega)
  subst this
  exact⟨.inl ⟨rfl,ho,by simp[wrt]⟩,rfl,fun r hr=>.inl hr,fun h=>⟨rfl,h⟩⟩
 |n+1,st,bs,hb,ho=>by
  unfold wrt
  by_cases h0:bs=[]
  ·subst h0
   rw[if_pos rfl]
   exact⟨.inl ⟨rfl,ho,by simp⟩,rfl,fun r hr=>.inl hr,fun h=>⟨rfl,h⟩⟩
  ·rw[if_neg h0]
   have hp:1≤bs.length:=by
    rcases bs with _|⟨x,bs⟩
    ·exact absurd rfl h0
    ·simp
   cases hoff:off st with
   |true=>exact⟨.inr ⟨rfl,rfl⟩,rfl,fun r hr=>.inl hr,fun h=>by simp[off,h]at hoff⟩
   |false=>
    have ih:=as8 n (push (bH st) ⟨3,false,0,bs.take 64⟩) (bs.drop 64) (by rw[List.length_drop];omega) ho
    rw[arZ,List.append_assoc,List.take_append_drop]at ih
    obtain⟨h1,h2,h3,h4⟩:=ih
    refine⟨h1,h2,fun r hr=>?_,h4⟩
    rcases h3 r hr with h|h
    ·rcases List.mem_append.1 (show r∈st.wait++[_]from h)with h|h
     ·exact .inl h
     ·rw[List.mem_singleton.1 h];exact .inr rfl
    ·exact .inr h
theorem ajs {st:Ds}(bs:List Int)(ho:st.on=true):write st 3 bs=wrt 3 bs.length st bs:=by
 unfold write
 rw[if_neg (by simp[ho]),if_neg (by decide)]
 rfl
structure Q (b0:List Int) (st:Ds):Prop where
 su:b0<+:st.sure 3
 cu:∀r∈st.wait,r.file=3→r.cut=true→r.to=b0.length
theorem alN {st:Ds}{s:Se}(ho:st.on=true):((wr2 st s).1=0∧(wr2 st s).2.on=true∧(wr2 st s).2.sure 3=hl st++sec s∧(wr2 st s).2.wait=[]∨(wr2 st s).1=6∧(wr2 st s).2.on=false)∧(st.has=false→(wr2 st s).1=0∧(wr2 st s).2.has=false):=by
 obtain⟨h1,h2,h3,h4⟩:=as8 (sec s).length st (sec s) (Nat.le_refl _) ho
 unfold wr2
 rw[ajs _ ho]
 rcases h1 with⟨g1,g2,g3⟩|⟨g1,g2⟩
 ·rw[if_neg (by simp[g1])]
  cases hoff:off (wrt 3 (sec s).length st (sec s)).2 with
  |true=>
   have e:sync (wrt 3 (sec s).length st (sec s)).2=(6,iw (wrt 3 (sec s).length st (sec s)).2):=by
    unfold sync
    rw[if_neg (by simp[g2]),if_pos hoff]
   rw[e,if_pos (by simp)]
   refine⟨.inr ⟨rfl,rfl⟩,fun hh=>?_⟩
   have:=(h4 hh).2
   simp[off,this]at hoff
  |false=>
   have e:sync (wrt 3 (sec s).length st (sec s)).2=(0,flush (bH (wrt 3 (sec s).length st (sec s)).2)):=by
    unfold sync
    rw[if_neg (by simp[g2]),if_neg (by simp[hoff])]
   rw[e,if_neg (by simp)]
   refine⟨.inl ⟨rfl,g2,?_,rfl⟩,fun hh=>⟨rfl,(h4 hh).2⟩⟩
   rw[←g3]
   show dof _ _ 3=_
   rw[←fG]
   rfl
 ·rw[if_pos (by simp[g1])]
  exact⟨.inr ⟨rfl,g2⟩,fun hh=>by rw[(h4 hh).1]at g1;simp at g1⟩
theorem ajZ {st:Ds}{s:Se}{b0:List Int}(ho:st.on=true)(hc:chk s=0)(hb:b0<+:hl st):
  ((dM st b0.length s).1=0∧(dM st b0.length s).2.on=true∧(dM st b0.length s).2.sure 3=b0++sec s∧(dM st b0.length s).2.wait=[]∨(dM st b0.length s).1=6∧(dM st b0.length s).2.on=false)∧
   (st.has=false→(dM st b0.length s).1=0∧(dM st b0.length s).2.has=false):=by
 have hle:=hb.length_le
 rw[aeh ho hc (by omega)]
 unfold qd
 by_cases hlt:(b0.length:Int)<(hl st).length
 ·rw[if_pos hlt]
  have hh:hl (push (bH st) ⟨3,true,b0.length,[]⟩)=b0:=by
   rw[ajE]
   exact(List.prefix_iff_eq_take.1 hb).symm
  cases hoff:off st with
  |true=>
   have e:bG st 3 b0.length=(6,iw st):=by
    unfold bG
    rw[if_neg (by simp[ho]),if_neg (by decide),if_neg ?_,if_pos hoff]
    unfold hl at hlt
    simp
    omega
   rw[e,if_pos (by simp)]
   exact⟨.inr ⟨rfl,rfl⟩,fun h=>by simp[off,h]at hoff⟩
  |false=>
   have e:bG st 3 b0.length=(0,push (bH st) ⟨3,true,b0.length,[]⟩):=by
    unfold bG
    rw[if_neg (by simp[ho]),if_neg (by decide),if_neg ?_,if_neg (by simp[hoff])]
    ·rfl
    ·unfold hl at hlt
     simp
     omega
   rw[e,if_neg (by simp)]
   have:=alN (st:=push (bH st) ⟨3,true,b0.length,[]⟩) (s:=s) ho
   rw[hh]at this
   exact this
 ·rw[if_neg hlt]
  have e:b0=hl st:=hb.eq_of_length (by omega)
  have:=alN (s:=s) ho
  rw[←e]at this
  exact this
end Orp
end Go.Proofs.YtjemlgdkjilnoaaGreatDoor
namespace Go.Proofs.YtjemlgdkjilnoaaGreatDoor
set_option linter.unusedVariables false
namespace Wl
open Dm
def hld (st:Ds):List Int:=hold 0 (st.sure 0) st.wait
def App (l:List Rw):Prop:=∀r∈l,r.cut=false
theorem yA:App []:=fun r h=>by simp at h
theorem uN {l:List Rw}{r:Rw}(h:App l)(hr:r.cut=false):App (l++[r]):=fun x hx=>by
 rcases List.mem_append.1 hx with hx|hx
 ·exact h x hx
 ·rw[List.mem_singleton.1 hx];exact hr
theorem gm:∀(l:List Rw) (b:List Int) (f:Nat),App l→b<+:hold f b l
 |[],b,_,_=>List.prefix_rfl
 |r::l,b,f,h=>by
  have ih:=gm l (if r.file=f then je b r else b) f (fun x hx=>h x (List.mem_cons_of_mem _ hx))
  refine List.IsPrefix.trans ?_ ih
  split
  ·unfold je
   rw[h r List.mem_cons_self]
   exact List.prefix_append _ _
  ·exact List.prefix_rfl
theorem agQ {st:Ds}(h:App st.wait)(k t:Nat):st.sure 0<+:kept st k t 0∧kept st k t 0<+:hld st:=by
 have h1:App (st.wait.take k):=fun r hr=>h r (List.mem_of_mem_take hr)
 have a1:=gm (st.wait.take k) (st.sure 0) 0 h1
 have e1:hld st=hold 0 (hold 0 (st.sure 0) (st.wait.take k)) (st.wait.drop k):=by
  unfold hld
  rw[←qD,List.take_append_drop]
 unfold kept
 cases hr:st.wait[k]? with
 |none=>
  simp only
  rw[←fG]
  refine⟨a1,?_⟩
  rw[e1]
  exact gm _ _ _ (fun r hr=>h r (List.mem_of_mem_drop hr))
 |some r=>
  have hlt:=(List.getElem?_eq_some_iff.1 hr).1
  have hrr:=(List.getElem?_eq_some_iff.1 hr).2
  have hc:=h r (List.mem_of_getElem? hr)
  have e2:st.wait.drop k=r::st.wait.drop (k+1):=by rw[List.drop_eq_getElem_cons hlt,hrr]
  have h2:App (st.wait.drop (k+1)):=fun x hx=>h x (List.mem_of_mem_drop hx)
  simp only[hc,Bool.false_eq_true,if_false]
  rw[e2,hold]at e1
  unfold one
  by_cases hf:r.file=0
  ·rw[hf,vD,←fG]
   rw[if_pos hf]at e1
   have e3:je (hold 0 (st.sure 0) (st.wait.take k)) ⟨0,false,0,r.bytes.take (min t (r.bytes.length-1))⟩=hold 0 (st.sure 0) (st.wait.take k)++r.bytes.take (min t (r.bytes.length-1)):=rfl
   have e4:je (hold 0 (st.sure 0) (st.wait.take k)) r=hold 0 (st.sure 0) (st.wait.take k)++r.bytes:=by
    unfold je
    rw[hc]
    rfl
   rw[e3]
   refine⟨a1.trans (List.prefix_append _ _),?_⟩
   rw[e1,e4]
   refine List.IsPrefix.trans ?_ (gm _ _ _ h2)
   exact(List.prefix_append_right_inj _).2 (List.take_prefix _ _)
  ·rw[wZ (fun e=>hf e.symm),←fG]
   rw[if_neg hf]at e1
   refine⟨a1,?_⟩
   rw[e1]
   exact gm _ _ _ h2
end Wl
end Go.Proofs.YtjemlgdkjilnoaaGreatDoor
namespace Go.Proofs.YtjemlgdkjilnoaaGreatDoor
set_option linter.unusedVariables false
namespace Wl
open Dm Cm
structure Ws where
 d:Ds
 l:List Cv
 bk:Bool
def trm (d:Ds) (good:Nat):Int×Ds:=
 if (hld d).length=good then(0,d)else if (bG d 0 good).1≠0 then(6,(bG d 0 good).2)else if (sync (bG d 0 good).2).1≠0 then(6,(sync (bG d 0 good).2).2)else(0,(sync (bG d 0 good).2).2)
def ask (s:Ws):Bool:=s.bk|| !s.d.on
def brk (s:Ws):Ws:=⟨s.d,s.l,true⟩
def mF (s:Ws) (c:Cv):Int×Ws:=
 if ask s then(6,brk s)else if chk c.e c.n c.l≠0 then(chk c.e c.n c.l,s)else if c.n-1≠s.l.length∨c.e<lastE 0 s.l then(15,s)
 else if (write s.d 0 (fr c)).1≠0 then((write s.d 0 (fr c)).1,⟨(write s.d 0 (fr c)).2,s.l,true⟩)else(0,⟨(write s.d 0 (fr c)).2,s.l++[c],false⟩)
def rO (s:Ws):Int×Ws:=if ask s then(6,brk s)else((sync s.d).1,⟨(sync s.d).2,s.l,decide ((sync s.d).1≠0)⟩)
def iQ (s:Ws) (to:Int):Int×Ws:=
 if ask s then(6,brk s)else if to<0∨(s.l.length:Int)<to then(2,s)
 else if (bG s.d 0 (aR (s.l.take to.toNat)).length).1≠0 then((bG s.d 0 (aR (s.l.take to.toNat)).length).1,⟨(bG s.d 0 (aR (s.l.take to.toNat)).length).2,s.l,true⟩)
 else(0,⟨(bG s.d 0 (aR (s.l.take to.toNat)).length).2,s.l.take to.toNat,false⟩)
theorem kL {l:List Cv}(h:Cm.Good 0 0 l):lastN 0 l=l.length:=by
 rcases List.eq_nil_or_concat l with rfl|⟨r,c,rfl⟩
 ·rfl
 ·have hk:(r.concat c)[r.length]? =some c:=by rw[List.concat_eq_append];simp
  have:=nk (r.concat c) 0 0 r.length c h hk
  rw[List.concat_eq_append,(iI r c 0 0).2,List.length_append,List.length_singleton]
  omega
theorem acT {l:List Cv}{c:Cv}(h:Cm.Good 0 0 l):Cm.Good 0 0 (l++[c])↔chk c.e c.n c.l=0∧¬(c.n-1≠l.length∨c.e<lastE 0 l):=by
 rw[dX]
 constructor
 ·rintro⟨_,h1,h2,h3,_⟩
  rw[kL h]at h2
  exact⟨h1,by omega⟩
 ·rintro⟨h1,h2⟩
  refine⟨h,h1,?_,?_,trivial⟩
  ·rw[kL h];omega
  ·omega
theorem acm:∀{l:List Cv} {ep nu:Int},Cm.Good ep nu l→(aR l).length≤433*l.length
 |[],_,_,_=>Nat.le_refl _
 |c::l,ep,nu,h=>by
  have h1:=lG (gL h)
  have h2:=acm (iH.1 h).2
  rw[fI,List.length_append,List.length_cons]
  omega
theorem keeps {st:Ds}{all sure m:List Cv}{k t:Nat}(ha:App st.wait)(h1:Cm.Good 0 0 all)(h2:Cm.Good 0 0 sure)(h3:aR sure<+:st.sure 0)(h4:hld st<+:aR all)(h5:Lg 0 0 (kept st k t 0) m):sure<+:m∧m<+:all:=by
 obtain⟨a,b⟩:=agQ ha k t
 exact⟨aaU h2 (h3.trans a) h5,adK h1 (b.trans h4) h5⟩
end Wl
end Go.Proofs.YtjemlgdkjilnoaaGreatDoor
namespace Go.Proofs.YtjemlgdkjilnoaaGreatDoor
set_option linter.unusedVariables false
namespace Wl
open Dm Cm
structure Kin (s:Ws) (all sure:List Cv):Prop where
 on:s.d.on=true
 bk:s.bk=false
 l:s.l=all
 good:Cm.Good 0 0 all
 app:App s.d.wait
 hld:hld s.d=aR all
 dur:aR sure<+:s.d.sure 0
 gs:Cm.Good 0 0 sure
structure axq (d:Ds) (all sure:List Cv):Prop where
 good:Cm.Good 0 0 all
 app:App d.wait
 hld:hld d<+:aR all
 dur:aR sure<+:d.sure 0
 gs:Cm.Good 0 0 sure
end Wl
end Go.Proofs.YtjemlgdkjilnoaaGreatDoor
namespace Go.Proofs.YtjemlgdkjilnoaaGreatDoor
set_option linter.unusedVariables false
theorem alA {st:Dm.Ds}{s:Orp.Se}(h:(Dm.write st 3 (Orp.sec s)).1≠0):Orp.wr2 st s=(6,(Dm.write st 3 (Orp.sec s)).2):=by unfold Orp.wr2;rw[if_pos h]
theorem alq {st:Dm.Ds}{s:Orp.Se}(h:(Dm.write st 3 (Orp.sec s)).1=0)(h2:(Dm.sync (Dm.write st 3 (Orp.sec s)).2).1≠0):Orp.wr2 st s=(6,(Dm.sync (Dm.write st 3 (Orp.sec s)).2).2):=by unfold Orp.wr2;rw[if_neg (by simp[h]),if_pos h2]
theorem amd {st:Dm.Ds}{s:Orp.Se}(h:(Dm.write st 3 (Orp.sec s)).1=0)(h2:(Dm.sync (Dm.write st 3 (Orp.sec s)).2).1=0):Orp.wr2 st s=(0,(Dm.sync (Dm.write st 3 (Orp.sec s)).2).2):=by unfold Orp.wr2;rw[if_neg (by simp[h]),if_neg (by simp[h2])]
theorem asz {st:Dm.Ds}{base:Int}{s:Orp.Se}(h:base<(Orp.hl st).length)(h2:(Dm.bG st 3 base).1=0):Orp.qd st base s=Orp.wr2 (Dm.bG st 3 base).2 s:=by unfold Orp.qd;rw[if_pos h,if_neg (by simp[h2])]
theorem auw {st:Dm.Ds}{base:Int}{s:Orp.Se}(h:base<(Orp.hl st).length)(h2:(Dm.bG st 3 base).1≠0):Orp.qd st base s=(6,(Dm.bG st 3 base).2):=by unfold Orp.qd;rw[if_pos h,if_pos h2]
theorem ar4 {st:Dm.Ds}{base:Int}{s:Orp.Se}(h:¬base<(Orp.hl st).length):Orp.qd st base s=Orp.wr2 st s:=by unfold Orp.qd;rw[if_neg h]
theorem amq:∀(n:Nat) (st:Dm.Ds) (bs:List Int),(Dm.wrt 3 n st bs).1=0∨(Dm.wrt 3 n st bs).1=6
 |0,_,_=>.inl rfl
 |n+1,st,bs=>by
  unfold Dm.wrt
  split
  ·exact .inl rfl
  split
  ·exact .inr rfl
  ·exact amq n _ _
theorem aeX {st:Dm.Ds}(bs:List Int):(Dm.write st 3 bs).1=0∨(Dm.write st 3 bs).1=6:=by
 unfold Dm.write
 split
 ·exact .inr rfl
 rw[if_neg (by decide)]
 exact amq _ _ _
theorem agS (st:Dm.Ds):(Dm.sync st).1=0∨(Dm.sync st).1=6:=by
 unfold Dm.sync
 split
 ·exact .inr rfl
 split
 ·exact .inr rfl
 ·exact .inl rfl
theorem atS {st:Dm.Ds}{n:Int}(ho:st.on=true)(h0:0≤n)(hn:n≤(Orp.hl st).length):(Dm.bG st 3 n).1=0∨(Dm.bG st 3 n).1=6:=by
 unfold Dm.bG
 rw[if_neg (by simp[ho]),if_neg (by decide),if_neg ?_]
 ·split
  ·exact .inr rfl
  ·exact .inl rfl
 ·unfold Orp.hl at hn
  simp
  omega
end Go.Proofs.YtjemlgdkjilnoaaGreatDoor
namespace Go.Proofs.YtjemlgdkjilnoaaGreatDoor
set_option linter.unusedVariables false
namespace Rol
open Pm (Pg chk no Ok)
def prE (x:Pg) (n:Int):Int:=if chk x=0 then(if n<0∨1048576<n then 2 else if x.r=1 then 10 else if x.r=3 then 9 else if x.e=1048576 then 2 else 0)else chk x
def pr (x:Pg) (n:Int):Pg:=if prE x n=0 then⟨x.e+1,1,n,0,0,0⟩else no
def heE (x:Pg) (n:Int):Int:=if chk x=0 then(if n<1∨1048576<n then 2 else 0)else chk x
def he (x:Pg) (n:Int):Pg:=if heE x n=0 then(if x.e<n then⟨n,3,0,1,0,0⟩else x)else no
def mP (x:Pg) (n m:Int):Int:=if chk x=0 then(if n<0∨1048576<n∨m<0∨1073741824<m then 2 else if x.p=1 then 0 else 15)else chk x
def fk (x:Pg) (n m:Int):Pg:=if mP x n m=0 then⟨x.e,x.r,x.a,2,n,m⟩else no
def gP (x:Pg) (p:Int):Int:=if chk x=0 then(if x.p=p then 0 else 15)else chk x
def nx (x:Pg) (p q:Int):Pg:=if gP x p=0 then⟨x.e,x.r,x.a,q,x.f,x.b⟩else no
def rj (x:Pg):Pg:=if gP x 4=0 then⟨x.e,2,0,0,0,0⟩else no
def kV (x:Pg):Int:=if chk x=0 then(if x.r=3 then 9 else 0)else chk x
theorem aoC {x:Pg}(h:Ok x):(x.p=0→x.r=1∨x.r=2)∧(x.p≠0→x.r=3∧x.a=0)∧(x.p=1→x.f=0∧x.b=0)∧(x.r=1→x.p=0∧x.f=0∧x.b=0)∧(x.r=2→x.a=0∧x.p=0∧x.f=0∧x.b=0):=by
 obtain⟨_,h⟩:=h
 rcases h with h|h|h|h<;>refine⟨?_,?_,?_,?_,?_⟩<;>intro q<;>omega
end Rol
end Go.Proofs.YtjemlgdkjilnoaaGreatDoor
