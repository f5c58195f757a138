/- Texts. -/
import Derived.Test.YtlmkaljjocflmaaGreatDoorBH14
import Derived.Test.YtlmkaljjocflmaaGreatDoorBH15
import Derived.Test.YtlmkaljjocflmaaGreatDoorBH8
import Derived.Test.YtlmkaljjocflmaaGreatDoorBH3
import Derived.Test.YtlmkaljjocflmaaGreatDoorBH4
import Derived.Test.YtlmkaljjocflmaaGreatDoorBH13
import Derived.Deep.CutRange
set_option maxRecDepth 100000
set_option maxHeartbeats 8000000
set_option linter.unusedVariables false
open Go.Proofs.Tryz
namespace Go.Proofs.YtlmkaljjocflmaaGreatDoor
open Go.RowKit
open Bm (Ov)
theorem Sto.Ok.front {s:Sto.Ss}(h:Sto.Ok s)(k:Nat):∀c∈s.l.take k,c.n≤Cm.lastN 0 s.r.l+k:=fun c hc=>by
 have:=(Sto.gI (Cm.kr h.rest k) c hc).2.2.1
 rw[List.length_take]at this
 omega
theorem Sto.Ok.back {s:Sto.Ss}(h:Sto.Ok s)(k:Nat)(hk:k≤s.l.length):∀c∈s.l.drop k,Cm.lastN 0 s.r.l+k<c.n:=fun c hc=>by
 have:=(Sto.gI (Sto.nQ h.rest k hk) c hc).2.1
 omega
theorem ai8 (ps p q:Nat)(F:Nat→Prop)(w:World)(s:Sto.Ss)(u:Int)(h:SW ps p q F w s)(hs:ajg s.r)(hu:In64 u)(hn:s.l.length≤100000):
  Calls prog 225 #[.pointer (some ⟨ps,0,none⟩),.int .i64 u] w fun E w'=>E=.returned (.int .i64 (Sto.aN s u).1)∧kg ps p q F w w' (Sto.aN s u).2:=by
 have HR:=hide (uX ps p q F w s h)
 have ok:=h.ok
 obtain⟨b1,b2,b3,b4⟩:=ok.bound
 have tL:=hide h
 have si:=hide ok
 have HFO:=hide (Sto.ag0 ok u)
 have HU:=hide hu
 have az0:=hide hs
 obtain⟨z,hz⟩:∃z,Cm.lastN 0 s.r.l=z:=⟨_,rfl⟩
 obtain⟨f,hf⟩:∃f,Sto.fin s=f:=⟨_,rfl⟩
 have HZ:=hide hz
 have HFN:=hide hf
 rw[hz]at b1 b2
 rw[hf]at b3
 have aoF:=Sto.aN.eq_1 s u
 rw[hz,hf]at aoF
 have HF0:=hide aoF
 have HFZ:Hid (f=z+s.l.length):=hide (by rw[←hf,←hz];rfl)
 clear h hs hu ok hz hf aoF
 go_enter func225,ntmps225
 go_wp2_with fail
 refine HR.out.mono ?_
 rintro E w1 ⟨rfl,aj⟩
 have W1:=tL.out.below aj
 have HN:=hide (agX ps p q F w1 s W1)
 rw[HFN.out]at HN
 have HW1:=hide W1
 obtain⟨F1,G1,h1,⟨pm,bm,v,rs,hs,rfl⟩,hd,_,rfl⟩:=W1
 have HE:=hide (jy p q F1 w1 s.r h1)
 rw[HZ.out]at HE
 have x0:=ai hs.blk 0 rfl
 have x1:=ai hs.blk 1 rfl
 simp only[List.getElem_toArray,List.getElem_cons_zero,List.getElem_cons_succ]at x0 x1
 have HH:=hide (And.intro h1 (And.intro hs hd))
 have B1:=hide aj
 clear HR h1 hs hd aj
 go_wp2_with fail
 refine HE.out.mono ?_
 rintro E w2 ⟨rfl,rfl⟩
 clear HE
 by_cases hlo:u<z
 ·have e1:Sto.aN s u=(2,s):=by rw[HF0.out,if_pos (.inl hlo)]
  have E1:=hide e1
  clear e1
  go_wp2
  go_ret
  rw[E1.out]
  exact⟨rfl,kg.same tL.out B1.out⟩
 go_wp2_with fail
 refine HN.out.mono ?_
 rintro E w2 ⟨rfl,m,rfl⟩
 generalize hy:w1.drewN m=Y
 have BY:Hid (Below w1.heap.size w1 Y):=hide (by rw[←hy];exact below_drewN (Below.refl _ _) _)
 have B0Y:=hide (B1.out.trans (BY.out.mono B1.out.size))
 clear HN hy
 by_cases hhi:f<u
 ·have e1:Sto.aN s u=(2,s):=by rw[HF0.out,if_pos (.inr hhi)]
  have E1:=hide e1
  clear e1
  go_wp2
  go_ret
  rw[E1.out]
  exact⟨rfl,kg.same tL.out B0Y.out⟩
 by_cases heq:u=z
 ·have e1:Sto.aN s u=(0,s):=by rw[HF0.out,if_neg (by omega),if_pos heq]
  have E1:=hide e1
  clear e1
  go_wp2
  go_ret
  rw[E1.out]
  exact⟨rfl,kg.same tL.out B0Y.out⟩
 obtain⟨k,hk⟩:∃k:Nat,(u-z).toNat=k:=⟨_,rfl⟩
 have hfz:=HFZ.out
 have hk1:0<k:=by omega
 have hk2:k≤s.l.length:=by omega
 have huz:u=z+k:=by omega
 have hwk:IntKind.i64.wrap (u-z)=(k:Int):=by rw[aQ _ (by omega) (by omega)];omega
 have hsY:=HH.out.2.1.below BY.out
 have hrl:=hsY.rest.len
 obtain⟨vs,hvs,aoo⟩:=hsY.rest.row.row.kJ Tryz.abg Tryz.abf k (by omega)
 have y1:=(BY.out.cell (p:=⟨ps,1,none⟩) (ay HH.out.2.1.blk)).trans x1
 have hik:gD Y vs (rs.take k):=⟨aoo,fun c hc=>hsY.rest.isc.2 c (List.mem_of_mem_take hc)⟩
 have HT:=hide (zD vs (rs.take k) Y hik (fun c hc=>hsY.rest.get c (List.mem_of_mem_take hc)) (by rw[List.length_take];omega))
 have ecv:aD (rs.take k)=s.l.take k:=by rw[aak,hsY.rest.is]
 rw[ecv]at HT
 obtain⟨t,ht⟩:∃t,Rl.tab (s.l.take k)=t:=⟨_,rfl⟩
 rw[ht]at HT
 have hrn:Sto.dW s u=⟨z+1,u,t⟩:=by unfold Sto.dW;rw[HZ.out,hk,ht]
 have hgt:=Cm.kr si.out.rest k
 have htf:dZ t:=by rw[←ht];exact azs (Sto.ase hgt)
 have htl:t.length≤800000:=by
  have:=Sto.zb hgt
  rw[ht,List.length_take]at this
  omega
 obtain⟨va,vn,vc,azZ⟩:∃a n c,vs=.slice a n c:=by
  obtain⟨a,c,h,_⟩:=aoo.shape
  exact⟨a,_,c,h⟩
 subst azZ
 rw[HF0.out,if_neg (by omega),if_neg heq,hrn]at HFO
 have HF1:Hid (Sto.aN s u=if 1024<t.length then(3,s)else if (Rl.aN s.r ⟨z+1,u,t⟩).1≠0 then((Rl.aN s.r ⟨z+1,u,t⟩).1,⟨(Rl.aN s.r ⟨z+1,u,t⟩).2,s.l⟩)else(0,⟨(Rl.aN s.r ⟨z+1,u,t⟩).2,s.l.drop k⟩)):=hide (by rw[HF0.out,if_neg (by omega),if_neg heq,hrn,hk])
 rw[hk]at HFO
 have HHY:=hide (And.intro (HH.out.1.below BY.out) (And.intro hsY HH.out.2.2))
 have HTF:=hide (And.intro htf htl)
 have HTT:=hide ht
 have HKK:=hide (And.intro hk1 (And.intro hk2 huz))
 clear HF0 hrn hgt ht ecv hik aoo hsY hrl hk HW1 HH x0 x1 htf hfz huz hk1 hk2
 go_wp2_with fail
 refine HT.out.mono ?_
 rintro E w3 ⟨pt,rfl,bt,T3,p3,b3',aC⟩
 have HL:=hide (aqC pt bt w3 t T3)
 have T3:=hide T3
 have B3:=hide aC
 have P3:=hide (And.intro p3 b3')
 clear HT p3 b3' aC hvs y1 hwk
 go_wp2_with fail
 refine HL.out.mono ?_
 rintro E w4 ⟨rfl,rfl⟩
 clear HL
 by_cases hbig:(1024:Int)<t.length
 ·have e1:Sto.aN s u=(3,s):=by rw[HF1.out,if_pos (by omega)]
  have E1:=hide e1
  clear e1
  go_wp2
  go_ret
  rw[E1.out]
  exact⟨rfl,kg.same tL.out (B0Y.out.trans (B3.out.mono B0Y.out.size))⟩
 rw[if_neg (by omega)]at HFO HF1
 have HAL:=hide (as4 (.pointer (some ⟨pt,0,none⟩)) w3 t (aqt pt bt w3 t T3.out HTF.out.1 (by have:=HTF.out.2;omega)))
 have hw1:IntKind.i64.wrap (z+1)=z+1:=aQ _ (by omega) (by omega)
 go_wp2_with fail
 refine HAL.out.mono ?_
 rintro E w4 ⟨B,rfl,sq,aL⟩
 have HCO:=hide (ag9 B _ w4 t sq (by have:=HTF.out.2;omega))
 have B4:=hide (B3.out.trans (aL.mono B3.out.size))
 clear HAL sq aL
 go_wp2_with fail
 refine HCO.out.mono ?_
 rintro E w5 ⟨vt,rfl,dx,aS⟩
 obtain⟨oa,ok,hvo,_,_⟩:=dx.is.shape
 have azt:=HTF.out.2
 obtain⟨tn,htn⟩:∃n,t.length=n:=⟨_,rfl⟩
 rw[htn]at hvo
 obtain⟨w6,jY,aA0,sP,eH,bX,e0,e1,e2⟩:=eY w5 273 (.int .i64 0) (.int .i64 0) (.slice none 0 0) (.int .i64 (z+1)) (.int .i64 u) vt
 have qL:=aS.trans (eH.mono aS.size)
 have B6:=hide (B4.out.trans (qL.mono B4.out.size))
 obtain⟨h1,hs,hd⟩:=HHY.out
 have h16:=h1.below B6.out
 have hs6:=hs.below B6.out
 have eu:=dx.below eH
 have x6:=ai hs6.blk 0 rfl
 simp only[List.getElem_toArray,List.getElem_cons_zero]at x6
 have h64:In64 (z+1):=⟨by omega,by omega⟩
 have apf:t.length*40≤140737488351232:=by omega
 have kR:=hide (ajS p q F1 w6.drew s.r ⟨z+1,u,vt,t⟩ (h16.below ((Below.refl _ _).drew)) az0.out (eu.is.drewN 1) HTF.out.1 ⟨h64,HU.out⟩ apf (fun _ b hb hf=>by
  have h2:=(aT.block dx b hb).1
  have h3:=h1.lt b hf
  have h4:=B4.out.size
  omega))
 unfold cK at kR
 simp only at kR
 rw[show(⟨z+1,u,vt,t⟩:Cw).c=⟨z+1,u,t⟩from rfl]at kR
 rw[hvo]at jY aA0 e2 kR
 have HX:=hide (And.intro h16 (And.intro hs6 hd))
 have hpx:=ay hs6.blk
 have aA8:¬F1 ps:=hd ps (.inl rfl)
 have apD:¬F1 w5.heap.size:=fun hf=>by
  have h3:=h1.lt _ hf
  have h4:=B4.out.size
  have h5:=aS.size
  omega
 have hwx:=ay bX
 subst hvo
 obtain⟨fe,hfe⟩:∃x,(Rl.aN s.r ⟨z+1,u,t⟩).1=x:=⟨_,rfl⟩
 obtain⟨r',hr'⟩:∃x,(Rl.aN s.r ⟨z+1,u,t⟩).2=x:=⟨_,rfl⟩
 have HLL:Hid (fe=0→Cm.lastN 0 r'.l=u):=hide fun e=>by
  have:=Sto.abP (s:=s.r) (c:=⟨z+1,u,t⟩) (hfe.trans e)
  rw[←hr',this]
  exact Rl.dU _ _ _
 rw[hfe,hr']at kR HFO HF1
 clear h64 apf HCO dx eu aS eH qL h1 hs hd h16 hs6 HHY B4 T3 htn hfe hr' bX azt htl
 go_wp2_with fail
 go_region_held3 (fun w'=>w'.cell? ⟨ps,0,none⟩=some (.pointer (some ⟨p,0,none⟩))∧w'.cell? ⟨w5.heap.size,0,none⟩=some (.int .i64 (z+1))∧w'.cell? ⟨w5.heap.size,1,none⟩=some (.int .i64 u)∧w'.cell? ⟨w5.heap.size,2,none⟩=some (.slice oa tn ok)) (first|exact⟨x6,e0,e1,e2⟩|exact⟨x7,g0,g1,g2⟩|go_keep)
  (first
  |(go_at_call 293;refine kR.out.mono ?_;rintro E w7 ⟨rfl,RS⟩;obtain⟨F2,k1,k2',k3'⟩:=RS;have k2:Out F1 w6 w7:=((Out.refl _ w6).drew 1).trans k2' fun g hg=>.inl hg;have k3:∀g,F2 g→F1 g∨w6.heap.size≤g:=k3';have x7:=(eX (k2.block ps hpx aA8) 0).trans x6;have g0:=(eX (k2.block w5.heap.size hwx apD) 0).trans e0;have g1:=(eX (k2.block w5.heap.size hwx apD) 1).trans e1;have g2:=(eX (k2.block w5.heap.size hwx apD) 2).trans e2;have RR:=hide (And.intro k1 (And.intro k2 k3));clear k1 k2 k3 k2' k3'))
 have aju:=hide (B0Y.out.trans (B6.out.mono B0Y.out.size))
 by_cases hfe:fe=0
 ·have e5:Sto.aN s u=(0,⟨r',s.l.drop k⟩):=by rw[HF1.out,if_neg (by simpa using hfe)]
  have E5:=hide e5
  rw[if_neg (by simpa using hfe)]at HFO
  obtain⟨k1,k2,k3⟩:=RR.out
  obtain⟨h16,hs6,hd⟩:=HX.out
  have hs7:=hs6.out k2 hd
  have hd7:∀g,SB ps pm bm v rs g→¬F2 g:=fun g hg hf=>by
   rcases k3 g hf with e|e
   ·exact hd g hg e
   ·have:=hs6.lt g hg
    omega
  obtain⟨q1,q2,q3⟩:=HKK.out
  have hlast:=HLL.out hfe
  have HC:=hide (ajA ps p q pm bm F2 w7 r' s.l v rs k k1 hs7 hd7 q2 q1 (fun c hc=>by have:=si.out.front k c hc;rw[HZ.out]at this;rw[hlast];omega) (fun c hc=>by have:=si.out.back k q2 c hc;rw[HZ.out]at this;rw[hlast];omega) HFO.out.1 hn)
  have T7:Hid (Out (fun g=>F1 g∨SB ps pm bm v rs g) w w7∧∀g,(F2 g∨SB ps pm bm v rs g)→(F1 g∨SB ps pm bm v rs g)∨w.heap.size≤g):=hide (by
   have hz6:=aju.out.size
   refine⟨(Out.of_below (F:=fun g=>F1 g∨SB ps pm bm v rs g) aju.out).trans k2 fun g hg=>.inl (.inl hg),?_⟩
   rintro g (e|e)
   ·rcases k3 g e with e|e
    ·exact .inl (.inl e)
    ·exact .inr (by omega)
   ·exact .inl (.inr e))
  subst hfe
  clear k1 k2 k3 h16 hs6 hd hs7 hd7 q1 q2 q3 hlast e5 kR RR
  go_wp2_with fail
  refine HC.out.mono ?_
  rintro E w8 ⟨⟨uu,rfl⟩,SS⟩
  have FIN:=hide (kg.trans T7.out.1 T7.out.2 SS)
  clear SS HC
  go_wp2
  go_ret
  rw[E5.out]
  exact⟨rfl,FIN.out⟩
 ·have e5:Sto.aN s u=(fe,⟨r',s.l⟩):=by rw[HF1.out,if_pos (by simpa using hfe)]
  have E5:=hide e5
  rw[if_pos (by simpa using hfe)]at HFO
  have hne:(fe !=0)=true:=by simp[hfe]
  have FIN:Hid (kg ps p q (fun g=>F1 g∨SB ps pm bm v rs g) w w7 ⟨r',s.l⟩):=hide (by
   obtain⟨k1,k2,k3⟩:=RR.out
   obtain⟨h16,hs6,hd⟩:=HX.out
   have hs7:=hs6.out k2 hd
   have hz6:=aju.out.size
   refine⟨_,⟨F2,_,k1,⟨pm,bm,v,rs,hs7,rfl⟩,fun g hg hf=>?_,HFO.out.1,rfl⟩,(Out.of_below (F:=fun g=>F1 g∨SB ps pm bm v rs g) aju.out).trans k2 fun g hg=>.inl (.inl hg),?_⟩
   ·rcases k3 g hf with e|e
    ·exact hd g hg e
    ·have:=hs6.lt g hg
     omega
   ·rintro g (e|e)
    ·rcases k3 g e with e|e
     ·exact .inl (.inl e)
     ·exact .inr (by omega)
    ·exact .inl (.inr e))
  clear e5 kR RR
  go_wp2
  go_ret
  rw[E5.out]
  exact⟨rfl,FIN.out⟩
end Go.Proofs.YtlmkaljjocflmaaGreatDoor
namespace Go.Proofs.YtlmkaljjocflmaaGreatDoor
open Go.RowKit
open Bm (Ov)
theorem akF (ps p q:Nat)(F:Nat→Prop)(w:World)(s:Sto.Ss)(c:Cw)(h:SW ps p q F w s)(hi:bM w c.v c.l)(hf:dZ c.l)(h64:In64 c.e∧In64 c.n)(hlo:c.l.length*40≤140737488351232)(jg:0<c.l.length→∀b,c.v.ownBlock=some b→¬F b)(hn:s.l.length≤100000):
  Calls prog 185 #[.pointer (some ⟨ps,0,none⟩),cK c.e c.n c.v] w fun E w'=>E=.returned (.int .i64 (Sto.zO s c.c).1)∧kg ps p q F w w' (Sto.zO s c.c).2:=by
 obtain⟨w1,hw1,aV,aj,hB⟩:=au w #[.int .i64 c.e,.int .i64 c.n,c.v] 35
 have HR:=hide (uX ps p q F w1 s (h.below aj))
 obtain⟨ao,cap,hcv,_,_⟩:=hi.shape
 have oM:=hide hcv
 have si:=hide h.ok
 have HAP:=hide (Sto.awD h.ok c.c)
 obtain⟨fe,hfe⟩:∃x,(Cm.fol (Cm.lastE 1 s.l) (Sto.fin s) 0 [c.c]).1=x:=⟨_,rfl⟩
 obtain⟨fp,hfp⟩:∃x,(Cm.fol (Cm.lastE 1 s.l) (Sto.fin s) 0 [c.c]).2=x:=⟨_,rfl⟩
 have hat:=Cm.abW [c.c] (Cm.lastE 1 s.l) (Sto.fin s) 0
 have hap:Sto.zO s c.c=if fe≠0 then(fe,s)else(0,⟨s.r,s.l++[c.c]⟩):=by unfold Sto.zO;rw[hfe]
 rw[hfe,hfp]at hat
 have HA1:=hide hap
 have HAT:=hide hat
 have tL:=hide h
 have HI:=hide (And.intro hi (And.intro hf (And.intro h64 (And.intro hlo (And.intro jg hn)))))
 have HFE:=hide (And.intro hfe hfp)
 have HB:=hide hB
 have B1:=hide aj
 have hsz:=hide aV
 unfold cK
 rw[hcv]at hw1⊢
 clear h hi hf h64 hlo jg hcv hap hat hfe hfp hB aj aV hn
 go_enter func185,ntmps185
 go_wp2_with fail
 refine HR.out.mono ?_
 rintro E w2 ⟨rfl,az⟩
 have qz:=hide (B1.out.trans (az.mono B1.out.size))
 have hB2:=(az.block w.heap.size (by have:=hsz.out;omega)).trans HB.out
 have SX:Hid (∀W,Below w2.heap.size w2 W→W.cell? ⟨w.heap.size,0,none⟩=some (.int .i64 c.e)∧W.cell? ⟨w.heap.size,1,none⟩=some (.int .i64 c.n)∧W.cell? ⟨w.heap.size,2,none⟩=some (.slice ao c.l.length cap)):=hide fun W hW=>by
  have k:=(hW.block w.heap.size (ay hB2)).trans hB2
  rw[oM.out]at k
  exact⟨ai k 0 rfl,ai k 1 rfl,ai k 2 rfl⟩
 have HEp:Hid (∀W,Below w2.heap.size w2 W→Calls prog 246 #[.pointer (some ⟨ps,0,none⟩)] W fun E w'=>E=.returned (.int .i64 (Cm.lastE 1 s.l))∧Below W.heap.size W w'):=hide fun W hW=>
  (anX ps p q F W s ((tL.out.below qz.out).below hW)).mono fun E w' h=>⟨h.1,by obtain⟨m,rfl⟩:=h.2;exact below_drewN (Below.refl _ _) m⟩
 have wH:Hid (∀W,Below w2.heap.size w2 W→Calls prog 247 #[.pointer (some ⟨ps,0,none⟩)] W fun E w'=>E=.returned (.int .i64 (Sto.fin s))∧Below W.heap.size W w'):=hide fun W hW=>
  (agX ps p q F W s ((tL.out.below qz.out).below hW)).mono fun E w' h=>⟨h.1,by obtain⟨m,rfl⟩:=h.2;exact below_drewN (Below.refl _ _) m⟩
 have oO:Hid (∀W a,Below w2.heap.size w2 W→W.heap[a]? =some (.cells #[.int .i64 c.e,.int .i64 c.n,.slice ao c.l.length cap] 35 (0,0))→Calls prog 10 #[.int .i64 (Cm.lastE 1 s.l),.int .i64 (Sto.fin s),.slice (some ⟨a,0,none⟩) 1 1] W fun E w'=>E=.returned (.agg #[.int .i64 fe,.int .i64 fp])∧Below W.heap.size W w'):=hide fun W a hW ha=>by
  have hc:=q9 (Cm.lastE 1 s.l) (Sto.fin s) _ [⟨c.e,c.n,.slice ao c.l.length cap,c.l⟩] W ⟨auN ha,fun d hd=>by rw[List.mem_singleton.1 hd];exact⟨by rw[←oM.out];exact(HI.out.1.below qz.out).below hW,HI.out.2.2.1⟩⟩ (jH.one HI.out.2.1 HI.out.2.2.2.1) (by simp)
  rw[show aD [(⟨c.e,c.n,.slice ao c.l.length cap,c.l⟩:Cw)]=[c.c]from rfl]at hc
  unfold zP at hc
  rw[HFE.out.1,HFE.out.2]at hc
  exact hc
 generalize Cm.lastE 1 s.l=le at*
 generalize Sto.fin s=fn at*
 clear HR az hB2
 go_wp2_with fail
 go_cut [5]from 9 to 15 (fun v5 wx=>∃R,v5=.pointer (some ⟨R,0,none⟩)∧Hid (wx.heap[R]? =some (.cells #[.int .i64 fe,.int .i64 fp] 31 (0,0)))∧Hid (Below w2.heap.size w2 wx))
 case first=>
  obtain⟨W0,hW0⟩:∃x,w2.drew=x:=⟨_,rfl⟩
  have dh:Below w2.heap.size w2 W0:=by rw[←hW0];exact(Below.refl _ _).drew
  refine kM (ops:=(aB 3 f185)) (S:=fun W=>W.cell? ⟨w.heap.size,0,none⟩=some (.int .i64 c.e)∧W.cell? ⟨w.heap.size,1,none⟩=some (.int .i64 c.n)∧W.cell? ⟨w.heap.size,2,none⟩=some (.slice ao c.l.length cap)) (by kernel_rfl) aqx ?_
  rw[auH,hW0]
  refine bu aqY (SX.out _ dh) ?_
  refine bu aoa (SX.out _ dh) ?_
  refine bu apO (SX.out _ dh) ?_
  refine gn3 as7 ?_ ?_ ?_
  ·refine aJ rfl (by rfl) (fun K hK=>?_)
   go_simp
   refine(HEp.out _ dh).mono ?_
   rintro E W1 ⟨rfl,st1⟩
   have aj:=dh.trans (st1.mono dh.size)
   go_wp2_with fail
   refine bf hK (SX.out _ aj) ?_
   clear hK K
   refine gn3 atU ?_ ?_ ?_
   ·refine aJ rfl (by rfl) (fun K hK=>?_)
    go_simp
    refine(wH.out _ aj).mono ?_
    rintro E W2 ⟨rfl,st2⟩
    have az:=aj.trans (st2.mono aj.size)
    go_wp2_with fail
    refine bf hK (SX.out _ az) ?_
    clear hK K
    refine qG auk ?_ ?_
    ·obtain⟨W3,hW3,bO,st3,ha3⟩:=au W2 #[.int .i64 c.e,.int .i64 c.n,.slice ao c.l.length cap] 35
     clear bO
     have aC:=az.trans (st3.mono az.size)
     refine aJ rfl (by rfl) (fun K hK=>?_)
     go_simp
     go_wp2_with fail
     refine bf hK (SX.out _ aC) ?_
     clear hK K
     refine qG aca ?_ ?_
     ·refine aJ rfl (by rfl) (fun K hK=>?_)
      go_simp
      refine(oO.out _ _ aC ha3).mono ?_
      rintro E W4 ⟨rfl,st4⟩
      have aL:=aC.trans (st4.mono aC.size)
      have ha4:=(st4.block _ (ay ha3)).trans ha3
      go_wp2_with fail
      refine bf hK (SX.out _ aL) ?_
      clear hK K
      refine dm aaH ?_
      obtain⟨W5,hW5,mO,st5,hb5⟩:=au W4 #[.int .i64 0,.int .i64 0] 31
      clear mO
      have lb5:=aL.size
      have aS:=aL.trans (st5.mono aL.size)
      have ha5:=(st5.block _ (ay ha4)).trans ha4
      refine aJ rfl (by rfl) (fun K hK=>?_)
      go_simp
      go_wp2_with fail
      refine bf hK (SX.out _ aS) ?_
      clear hK K
      refine dm fO ?_
      obtain⟨W6,hW6,hb6,g6,⟨p0,p1⟩,⟨f0,f1⟩,⟨l0,l1⟩⟩:=dN hb5 (.int .i64 fe) (.int .i64 fp)
      have eH:=aG aS g6 lb5 aS.size
      refine aJ rfl (by rfl) (fun K hK=>?_)
      go_simp
      go_wp2_with fail
      refine bf hK (SX.out _ eH) ?_
      clear hK K
      refine cZ gJ ?_
      go_wp2_with fail
      go_meet
      exact⟨_,rfl,hide hb6,hide eH⟩
     ·obtain⟨W7,hW7,sz7,st7,hb7⟩:=au W3 #[.int .i64 0,.int .i64 0] 31
      clear sz7
      have lb7:=aC.size
      have iE:=aC.trans (st7.mono aC.size)
      have ha7:=(st7.block _ (ay ha3)).trans ha3
      refine aJ rfl (by rfl) (fun K hK=>?_)
      go_simp
      go_wp2_with fail
      refine bf hK (SX.out _ iE) ?_
      clear hK K
      refine dm ik ?_
      refine aJ rfl (by rfl) (fun K hK=>?_)
      go_simp
      refine(oO.out _ _ iE ha7).mono ?_
      rintro E W8 ⟨rfl,st8⟩
      have qm:=iE.trans (st8.mono iE.size)
      have ha8:=(st8.block _ (ay ha7)).trans ha7
      have hb8:=(st8.block _ (ay hb7)).trans hb7
      go_wp2_with fail
      refine bf hK (SX.out _ qm) ?_
      clear hK K
      refine dm fO ?_
      obtain⟨W9,hW9,hb9,g9,⟨p0,p1⟩,⟨f0,f1⟩,⟨l0,l1⟩⟩:=dN hb8 (.int .i64 fe) (.int .i64 fp)
      have vF:=aG qm g9 lb7 qm.size
      refine aJ rfl (by rfl) (fun K hK=>?_)
      go_simp
      go_wp2_with fail
      refine bf hK (SX.out _ vF) ?_
      clear hK K
      refine cZ gJ ?_
      go_wp2_with fail
      go_meet
      exact⟨_,rfl,hide hb9,hide vF⟩
    ·obtain⟨W10,hW10,aAA,azL,ayA⟩:=au W2 #[.int .i64 0,.int .i64 0] 31
     clear aAA
     have aAm:=az.size
     have uY:=az.trans (azL.mono az.size)
     refine aJ rfl (by rfl) (fun K hK=>?_)
     go_simp
     go_wp2_with fail
     refine bf hK (SX.out _ uY) ?_
     clear hK K
     refine dm aaf ?_
     obtain⟨W11,hW11,azJ,avV,ap0⟩:=au W10 #[.int .i64 c.e,.int .i64 c.n,.slice ao c.l.length cap] 35
     clear azJ
     have aem:=uY.trans (avV.mono uY.size)
     have axD:=(avV.block _ (ay ayA)).trans ayA
     refine aJ rfl (by rfl) (fun K hK=>?_)
     go_simp
     go_wp2_with fail
     refine bf hK (SX.out _ aem) ?_
     clear hK K
     refine dm ik ?_
     refine aJ rfl (by rfl) (fun K hK=>?_)
     go_simp
     refine(oO.out _ _ aem ap0).mono ?_
     rintro E W12 ⟨rfl,apr⟩
     have aiY:=aem.trans (apr.mono aem.size)
     have ha12:=(apr.block _ (ay ap0)).trans ap0
     have azR:=(apr.block _ (ay axD)).trans axD
     go_wp2_with fail
     refine bf hK (SX.out _ aiY) ?_
     clear hK K
     refine dm fO ?_
     obtain⟨W13,hW13,aAR,g13,⟨p0,p1⟩,⟨f0,f1⟩,⟨l0,l1⟩⟩:=dN azR (.int .i64 fe) (.int .i64 fp)
     have asn:=aG aiY g13 aAm aiY.size
     refine aJ rfl (by rfl) (fun K hK=>?_)
     go_simp
     go_wp2_with fail
     refine bf hK (SX.out _ asn) ?_
     clear hK K
     refine cZ gJ ?_
     go_wp2_with fail
     go_meet
     exact⟨_,rfl,hide aAR,hide asn⟩
   ·obtain⟨W14,hW14,aA2,azC,aka⟩:=au W1 #[.int .i64 c.e,.int .i64 c.n,.slice ao c.l.length cap] 35
    clear aA2
    have uT:=aj.trans (azC.mono aj.size)
    refine aJ rfl (by rfl) (fun K hK=>?_)
    go_simp
    go_wp2_with fail
    refine bf hK (SX.out _ uT) ?_
    clear hK K
    refine qG ah0 ?_ ?_
    ·refine aJ rfl (by rfl) (fun K hK=>?_)
     go_simp
     refine(wH.out _ uT).mono ?_
     rintro E W15 ⟨rfl,avY⟩
     have vP:=uT.trans (avY.mono uT.size)
     have afE:=(avY.block _ (ay aka)).trans aka
     go_wp2_with fail
     refine bf hK (SX.out _ vP) ?_
     clear hK K
     refine qG aca ?_ ?_
     ·refine aJ rfl (by rfl) (fun K hK=>?_)
      go_simp
      refine(oO.out _ _ vP afE).mono ?_
      rintro E W16 ⟨rfl,awc⟩
      have ael:=vP.trans (awc.mono vP.size)
      have ha16:=(awc.block _ (ay afE)).trans afE
      go_wp2_with fail
      refine bf hK (SX.out _ ael) ?_
      clear hK K
      refine dm aaH ?_
      obtain⟨W17,hW17,az7,ax1,aAp⟩:=au W16 #[.int .i64 0,.int .i64 0] 31
      clear az7
      have aAt:=ael.size
      have aji:=ael.trans (ax1.mono ael.size)
      have ha17:=(ax1.block _ (ay ha16)).trans ha16
      refine aJ rfl (by rfl) (fun K hK=>?_)
      go_simp
      go_wp2_with fail
      refine bf hK (SX.out _ aji) ?_
      clear hK K
      refine dm fO ?_
      obtain⟨W18,hW18,azy,g18,⟨p0,p1⟩,⟨f0,f1⟩,⟨l0,l1⟩⟩:=dN aAp (.int .i64 fe) (.int .i64 fp)
      have ar9:=aG aji g18 aAt aji.size
      refine aJ rfl (by rfl) (fun K hK=>?_)
      go_simp
      go_wp2_with fail
      refine bf hK (SX.out _ ar9) ?_
      clear hK K
      refine cZ gJ ?_
      go_wp2_with fail
      go_meet
      exact⟨_,rfl,hide azy,hide ar9⟩
     ·obtain⟨W19,hW19,aAZ,awt,avE⟩:=au W15 #[.int .i64 0,.int .i64 0] 31
      clear aAZ
      have aAq:=vP.size
      have aeH:=vP.trans (awt.mono vP.size)
      have aq3:=(awt.block _ (ay afE)).trans afE
      refine aJ rfl (by rfl) (fun K hK=>?_)
      go_simp
      go_wp2_with fail
      refine bf hK (SX.out _ aeH) ?_
      clear hK K
      refine dm ik ?_
      refine aJ rfl (by rfl) (fun K hK=>?_)
      go_simp
      refine(oO.out _ _ aeH aq3).mono ?_
      rintro E W20 ⟨rfl,aqf⟩
      have aja:=aeH.trans (aqf.mono aeH.size)
      have ha20:=(aqf.block _ (ay aq3)).trans aq3
      have aBa:=(aqf.block _ (ay avE)).trans avE
      go_wp2_with fail
      refine bf hK (SX.out _ aja) ?_
      clear hK K
      refine dm fO ?_
      obtain⟨W21,hW21,aAs,g21,⟨p0,p1⟩,⟨f0,f1⟩,⟨l0,l1⟩⟩:=dN aBa (.int .i64 fe) (.int .i64 fp)
      have asg:=aG aja g21 aAq aja.size
      refine aJ rfl (by rfl) (fun K hK=>?_)
      go_simp
      go_wp2_with fail
      refine bf hK (SX.out _ asg) ?_
      clear hK K
      refine cZ gJ ?_
      go_wp2_with fail
      go_meet
      exact⟨_,rfl,hide aAs,hide asg⟩
    ·obtain⟨W22,hW22,azw,awG,awp⟩:=au W14 #[.int .i64 0,.int .i64 0] 31
     clear azw
     have aAw:=uT.size
     have aeL:=uT.trans (awG.mono uT.size)
     have awu:=(awG.block _ (ay aka)).trans aka
     refine aJ rfl (by rfl) (fun K hK=>?_)
     go_simp
     go_wp2_with fail
     refine bf hK (SX.out _ aeL) ?_
     clear hK K
     refine dm mV ?_
     refine aJ rfl (by rfl) (fun K hK=>?_)
     go_simp
     refine(wH.out _ aeL).mono ?_
     rintro E W23 ⟨rfl,aqQ⟩
     have aes:=aeL.trans (aqQ.mono aeL.size)
     have aqr:=(aqQ.block _ (ay awu)).trans awu
     have aws:=(aqQ.block _ (ay awp)).trans awp
     go_wp2_with fail
     refine bf hK (SX.out _ aes) ?_
     clear hK K
     refine dm ik ?_
     refine aJ rfl (by rfl) (fun K hK=>?_)
     go_simp
     refine(oO.out _ _ aes aqr).mono ?_
     rintro E W24 ⟨rfl,an8⟩
     have lq:=aes.trans (an8.mono aes.size)
     have ha24:=(an8.block _ (ay aqr)).trans aqr
     have aAe:=(an8.block _ (ay aws)).trans aws
     go_wp2_with fail
     refine bf hK (SX.out _ lq) ?_
     clear hK K
     refine dm fO ?_
     obtain⟨W25,hW25,aAl,g25,⟨p0,p1⟩,⟨f0,f1⟩,⟨l0,l1⟩⟩:=dN aAe (.int .i64 fe) (.int .i64 fp)
     have asf:=aG lq g25 aAw lq.size
     refine aJ rfl (by rfl) (fun K hK=>?_)
     go_simp
     go_wp2_with fail
     refine bf hK (SX.out _ asf) ?_
     clear hK K
     refine cZ gJ ?_
     go_wp2_with fail
     go_meet
     exact⟨_,rfl,hide aAl,hide asf⟩
   ·obtain⟨W26,hW26,azz,aAX,akf⟩:=au W1 #[.int .i64 0,.int .i64 0] 31
    clear azz
    have awy:=aj.size
    have jK:=aj.trans (aAX.mono aj.size)
    refine aJ rfl (by rfl) (fun K hK=>?_)
    go_simp
    go_wp2_with fail
    refine bf hK (SX.out _ jK) ?_
    clear hK K
    refine qG af0 ?_ ?_
    ·refine aJ rfl (by rfl) (fun K hK=>?_)
     go_simp
     refine(wH.out _ jK).mono ?_
     rintro E W27 ⟨rfl,ax4⟩
     have yR:=jK.trans (ax4.mono jK.size)
     have axm:=(ax4.block _ (ay akf)).trans akf
     go_wp2_with fail
     refine bf hK (SX.out _ yR) ?_
     clear hK K
     refine dm aaf ?_
     obtain⟨W28,hW28,aAy,axa,arc⟩:=au W27 #[.int .i64 c.e,.int .i64 c.n,.slice ao c.l.length cap] 35
     clear aAy
     have aeq:=yR.trans (axa.mono yR.size)
     have ayw:=(axa.block _ (ay axm)).trans axm
     refine aJ rfl (by rfl) (fun K hK=>?_)
     go_simp
     go_wp2_with fail
     refine bf hK (SX.out _ aeq) ?_
     clear hK K
     refine dm ik ?_
     refine aJ rfl (by rfl) (fun K hK=>?_)
     go_simp
     refine(oO.out _ _ aeq arc).mono ?_
     rintro E W29 ⟨rfl,ap1⟩
     have zk:=aeq.trans (ap1.mono aeq.size)
     have ha29:=(ap1.block _ (ay arc)).trans arc
     have azD:=(ap1.block _ (ay ayw)).trans ayw
     go_wp2_with fail
     refine bf hK (SX.out _ zk) ?_
     clear hK K
     refine dm fO ?_
     obtain⟨W30,hW30,aAx,g30,⟨p0,p1⟩,⟨f0,f1⟩,⟨l0,l1⟩⟩:=dN azD (.int .i64 fe) (.int .i64 fp)
     have asW:=aG zk g30 awy zk.size
     refine aJ rfl (by rfl) (fun K hK=>?_)
     go_simp
     go_wp2_with fail
     refine bf hK (SX.out _ asW) ?_
     clear hK K
     refine cZ gJ ?_
     go_wp2_with fail
     go_meet
     exact⟨_,rfl,hide aAx,hide asW⟩
    ·obtain⟨W31,hW31,aA7,ays,aww⟩:=au W26 #[.int .i64 c.e,.int .i64 c.n,.slice ao c.l.length cap] 35
     clear aA7
     have aeD:=jK.trans (ays.mono jK.size)
     have axy:=(ays.block _ (ay akf)).trans akf
     refine aJ rfl (by rfl) (fun K hK=>?_)
     go_simp
     go_wp2_with fail
     refine bf hK (SX.out _ aeD) ?_
     clear hK K
     refine dm mV ?_
     refine aJ rfl (by rfl) (fun K hK=>?_)
     go_simp
     refine(wH.out _ aeD).mono ?_
     rintro E W32 ⟨rfl,aoW⟩
     have aeC:=aeD.trans (aoW.mono aeD.size)
     have ha32:=(aoW.block _ (ay aww)).trans aww
     have ayz:=(aoW.block _ (ay axy)).trans axy
     go_wp2_with fail
     refine bf hK (SX.out _ aeC) ?_
     clear hK K
     refine dm ik ?_
     refine aJ rfl (by rfl) (fun K hK=>?_)
     go_simp
     refine(oO.out _ _ aeC ha32).mono ?_
     rintro E W33 ⟨rfl,an4⟩
     have ajm:=aeC.trans (an4.mono aeC.size)
     have ha33:=(an4.block _ (ay ha32)).trans ha32
     have aAi:=(an4.block _ (ay ayz)).trans ayz
     go_wp2_with fail
     refine bf hK (SX.out _ ajm) ?_
     clear hK K
     refine dm fO ?_
     obtain⟨W34,hW34,aAS,g34,⟨p0,p1⟩,⟨f0,f1⟩,⟨l0,l1⟩⟩:=dN aAi (.int .i64 fe) (.int .i64 fp)
     have arZ:=aG ajm g34 awy ajm.size
     refine aJ rfl (by rfl) (fun K hK=>?_)
     go_simp
     go_wp2_with fail
     refine bf hK (SX.out _ arZ) ?_
     clear hK K
     refine cZ gJ ?_
     go_wp2_with fail
     go_meet
     exact⟨_,rfl,hide aAS,hide arZ⟩
  ·obtain⟨W35,hW35,aA9,aAg,akz⟩:=au W0 #[.int .i64 c.e,.int .i64 c.n,.slice ao c.l.length cap] 35
   clear aA9
   have uy:=dh.trans (aAg.mono dh.size)
   refine aJ rfl (by rfl) (fun K hK=>?_)
   go_simp
   go_wp2_with fail
   refine bf hK (SX.out _ uy) ?_
   clear hK K
   refine qG as3 ?_ ?_
   ·refine aJ rfl (by rfl) (fun K hK=>?_)
    go_simp
    refine(HEp.out _ uy).mono ?_
    rintro E W36 ⟨rfl,av7⟩
    have uB:=uy.trans (av7.mono uy.size)
    have ajj:=(av7.block _ (ay akz)).trans akz
    go_wp2_with fail
    refine bf hK (SX.out _ uB) ?_
    clear hK K
    refine qG ah0 ?_ ?_
    ·refine aJ rfl (by rfl) (fun K hK=>?_)
     go_simp
     refine(wH.out _ uB).mono ?_
     rintro E W37 ⟨rfl,av0⟩
     have uP:=uB.trans (av0.mono uB.size)
     have agd:=(av0.block _ (ay ajj)).trans ajj
     go_wp2_with fail
     refine bf hK (SX.out _ uP) ?_
     clear hK K
     refine qG aca ?_ ?_
     ·refine aJ rfl (by rfl) (fun K hK=>?_)
      go_simp
      refine(oO.out _ _ uP agd).mono ?_
      rintro E W38 ⟨rfl,avH⟩
      have aeF:=uP.trans (avH.mono uP.size)
      have aw8:=(avH.block _ (ay agd)).trans agd
      go_wp2_with fail
      refine bf hK (SX.out _ aeF) ?_
      clear hK K
      refine dm aaH ?_
      obtain⟨W39,hW39,aAJ,avA,aAY⟩:=au W38 #[.int .i64 0,.int .i64 0] 31
      clear aAJ
      have azB:=aeF.size
      have ajG:=aeF.trans (avA.mono aeF.size)
      have ha39:=(avA.block _ (ay aw8)).trans aw8
      refine aJ rfl (by rfl) (fun K hK=>?_)
      go_simp
      go_wp2_with fail
      refine bf hK (SX.out _ ajG) ?_
      clear hK K
      refine dm fO ?_
      obtain⟨W40,hW40,apn,g40,⟨p0,p1⟩,⟨f0,f1⟩,⟨l0,l1⟩⟩:=dN aAY (.int .i64 fe) (.int .i64 fp)
      have asO:=aG ajG g40 azB ajG.size
      refine aJ rfl (by rfl) (fun K hK=>?_)
      go_simp
      go_wp2_with fail
      refine bf hK (SX.out _ asO) ?_
      clear hK K
      refine cZ gJ ?_
      go_wp2_with fail
      go_meet
      exact⟨_,rfl,hide apn,hide asO⟩
     ·obtain⟨W41,hW41,azu,axc,axR⟩:=au W37 #[.int .i64 0,.int .i64 0] 31
      clear azu
      have aA4:=uP.size
      have aeI:=uP.trans (axc.mono uP.size)
      have apk:=(axc.block _ (ay agd)).trans agd
      refine aJ rfl (by rfl) (fun K hK=>?_)
      go_simp
      go_wp2_with fail
      refine bf hK (SX.out _ aeI) ?_
      clear hK K
      refine dm ik ?_
      refine aJ rfl (by rfl) (fun K hK=>?_)
      go_simp
      refine(oO.out _ _ aeI apk).mono ?_
      rintro E W42 ⟨rfl,ap4⟩
      have ai3:=aeI.trans (ap4.mono aeI.size)
      have ha42:=(ap4.block _ (ay apk)).trans apk
      have azN:=(ap4.block _ (ay axR)).trans axR
      go_wp2_with fail
      refine bf hK (SX.out _ ai3) ?_
      clear hK K
      refine dm fO ?_
      obtain⟨W43,hW43,azT,g43,⟨p0,p1⟩,⟨f0,f1⟩,⟨l0,l1⟩⟩:=dN azN (.int .i64 fe) (.int .i64 fp)
      have arW:=aG ai3 g43 aA4 ai3.size
      refine aJ rfl (by rfl) (fun K hK=>?_)
      go_simp
      go_wp2_with fail
      refine bf hK (SX.out _ arW) ?_
      clear hK K
      refine cZ gJ ?_
      go_wp2_with fail
      go_meet
      exact⟨_,rfl,hide azT,hide arW⟩
    ·obtain⟨W44,hW44,aAF,ax6,avZ⟩:=au W36 #[.int .i64 0,.int .i64 0] 31
     clear aAF
     have aAD:=uB.size
     have aeB:=uB.trans (ax6.mono uB.size)
     have axI:=(ax6.block _ (ay ajj)).trans ajj
     refine aJ rfl (by rfl) (fun K hK=>?_)
     go_simp
     go_wp2_with fail
     refine bf hK (SX.out _ aeB) ?_
     clear hK K
     refine dm mV ?_
     refine aJ rfl (by rfl) (fun K hK=>?_)
     go_simp
     refine(wH.out _ aeB).mono ?_
     rintro E W45 ⟨rfl,anY⟩
     have aet:=aeB.trans (anY.mono aeB.size)
     have aoB:=(anY.block _ (ay axI)).trans axI
     have awm:=(anY.block _ (ay avZ)).trans avZ
     go_wp2_with fail
     refine bf hK (SX.out _ aet) ?_
     clear hK K
     refine dm ik ?_
     refine aJ rfl (by rfl) (fun K hK=>?_)
     go_simp
     refine(oO.out _ _ aet aoB).mono ?_
     rintro E W46 ⟨rfl,aok⟩
     have l7:=aet.trans (aok.mono aet.size)
     have ha46:=(aok.block _ (ay aoB)).trans aoB
     have azY:=(aok.block _ (ay awm)).trans awm
     go_wp2_with fail
     refine bf hK (SX.out _ l7) ?_
     clear hK K
     refine dm fO ?_
     obtain⟨W47,hW47,az2,g47,⟨p0,p1⟩,⟨f0,f1⟩,⟨l0,l1⟩⟩:=dN azY (.int .i64 fe) (.int .i64 fp)
     have arH:=aG l7 g47 aAD l7.size
     refine aJ rfl (by rfl) (fun K hK=>?_)
     go_simp
     go_wp2_with fail
     refine bf hK (SX.out _ arH) ?_
     clear hK K
     refine cZ gJ ?_
     go_wp2_with fail
     go_meet
     exact⟨_,rfl,hide az2,hide arH⟩
   ·obtain⟨W48,hW48,aAk,avq,hb48⟩:=au W35 #[.int .i64 0,.int .i64 0] 31
    clear aAk
    have aA5:=uy.size
    have aeE:=uy.trans (avq.mono uy.size)
    have axJ:=(avq.block _ (ay akz)).trans akz
    refine aJ rfl (by rfl) (fun K hK=>?_)
    go_simp
    go_wp2_with fail
    refine bf hK (SX.out _ aeE) ?_
    clear hK K
    refine dm afk ?_
    refine aJ rfl (by rfl) (fun K hK=>?_)
    go_simp
    refine(HEp.out _ aeE).mono ?_
    rintro E W49 ⟨rfl,apv⟩
    have aeK:=aeE.trans (apv.mono aeE.size)
    have ayL:=(apv.block _ (ay axJ)).trans axJ
    have awd:=(apv.block _ (ay hb48)).trans hb48
    go_wp2_with fail
    refine bf hK (SX.out _ aeK) ?_
    clear hK K
    refine dm mV ?_
    refine aJ rfl (by rfl) (fun K hK=>?_)
    go_simp
    refine(wH.out _ aeK).mono ?_
    rintro E W50 ⟨rfl,apH⟩
    have aeo:=aeK.trans (apH.mono aeK.size)
    have aod:=(apH.block _ (ay ayL)).trans ayL
    have avT:=(apH.block _ (ay awd)).trans awd
    go_wp2_with fail
    refine bf hK (SX.out _ aeo) ?_
    clear hK K
    refine dm ik ?_
    refine aJ rfl (by rfl) (fun K hK=>?_)
    go_simp
    refine(oO.out _ _ aeo aod).mono ?_
    rintro E W51 ⟨rfl,apz⟩
    have ajf:=aeo.trans (apz.mono aeo.size)
    have ha51:=(apz.block _ (ay aod)).trans aod
    have aAz:=(apz.block _ (ay avT)).trans avT
    go_wp2_with fail
    refine bf hK (SX.out _ ajf) ?_
    clear hK K
    refine dm fO ?_
    obtain⟨W52,hW52,azK,g52,⟨p0,p1⟩,⟨f0,f1⟩,⟨l0,l1⟩⟩:=dN aAz (.int .i64 fe) (.int .i64 fp)
    have asB:=aG ajf g52 aA5 ajf.size
    refine aJ rfl (by rfl) (fun K hK=>?_)
    go_simp
    go_wp2_with fail
    refine bf hK (SX.out _ asB) ?_
    clear hK K
    refine cZ gJ ?_
    go_wp2_with fail
    go_meet
    exact⟨_,rfl,hide azK,hide asB⟩
  ·obtain⟨W53,hW53,azV,azP,aj8⟩:=au W0 #[.int .i64 0,.int .i64 0] 31
   clear azV
   have aqS:=dh.size
   have yS:=dh.trans (azP.mono dh.size)
   refine aJ rfl (by rfl) (fun K hK=>?_)
   go_simp
   go_wp2_with fail
   refine bf hK (SX.out _ yS) ?_
   clear hK K
   refine qG ao9 ?_ ?_
   ·refine aJ rfl (by rfl) (fun K hK=>?_)
    go_simp
    refine(HEp.out _ yS).mono ?_
    rintro E W54 ⟨rfl,awU⟩
    have zq:=yS.trans (awU.mono yS.size)
    have akh:=(awU.block _ (ay aj8)).trans aj8
    go_wp2_with fail
    refine bf hK (SX.out _ zq) ?_
    clear hK K
    refine qG af0 ?_ ?_
    ·refine aJ rfl (by rfl) (fun K hK=>?_)
     go_simp
     refine(wH.out _ zq).mono ?_
     rintro E W55 ⟨rfl,aya⟩
     have ajH:=zq.trans (aya.mono zq.size)
     have ax5:=(aya.block _ (ay akh)).trans akh
     go_wp2_with fail
     refine bf hK (SX.out _ ajH) ?_
     clear hK K
     refine dm aaf ?_
     obtain⟨W56,hW56,aA1,axq,apg⟩:=au W55 #[.int .i64 c.e,.int .i64 c.n,.slice ao c.l.length cap] 35
     clear aA1
     have aeG:=ajH.trans (axq.mono ajH.size)
     have av9:=(axq.block _ (ay ax5)).trans ax5
     refine aJ rfl (by rfl) (fun K hK=>?_)
     go_simp
     go_wp2_with fail
     refine bf hK (SX.out _ aeG) ?_
     clear hK K
     refine dm ik ?_
     refine aJ rfl (by rfl) (fun K hK=>?_)
     go_simp
     refine(oO.out _ _ aeG apg).mono ?_
     rintro E W57 ⟨rfl,aoN⟩
     have akd:=aeG.trans (aoN.mono aeG.size)
     have ha57:=(aoN.block _ (ay apg)).trans apg
     have azx:=(aoN.block _ (ay av9)).trans av9
     go_wp2_with fail
     refine bf hK (SX.out _ akd) ?_
     clear hK K
     refine dm fO ?_
     obtain⟨W58,hW58,aAr,g58,⟨p0,p1⟩,⟨f0,f1⟩,⟨l0,l1⟩⟩:=dN azx (.int .i64 fe) (.int .i64 fp)
     have asa:=aG akd g58 aqS akd.size
     refine aJ rfl (by rfl) (fun K hK=>?_)
     go_simp
     go_wp2_with fail
     refine bf hK (SX.out _ asa) ?_
     clear hK K
     refine cZ gJ ?_
     go_wp2_with fail
     go_meet
     exact⟨_,rfl,hide aAr,hide asa⟩
    ·obtain⟨W59,hW59,aAa,axz,avD⟩:=au W54 #[.int .i64 c.e,.int .i64 c.n,.slice ao c.l.length cap] 35
     clear aAa
     have aep:=zq.trans (axz.mono zq.size)
     have ax7:=(axz.block _ (ay akh)).trans akh
     refine aJ rfl (by rfl) (fun K hK=>?_)
     go_simp
     go_wp2_with fail
     refine bf hK (SX.out _ aep) ?_
     clear hK K
     refine dm mV ?_
     refine aJ rfl (by rfl) (fun K hK=>?_)
     go_simp
     refine(wH.out _ aep).mono ?_
     rintro E W60 ⟨rfl,aoI⟩
     have aeJ:=aep.trans (aoI.mono aep.size)
     have ari:=(aoI.block _ (ay avD)).trans avD
     have ayv:=(aoI.block _ (ay ax7)).trans ax7
     go_wp2_with fail
     refine bf hK (SX.out _ aeJ) ?_
     clear hK K
     refine dm ik ?_
     refine aJ rfl (by rfl) (fun K hK=>?_)
     go_simp
     refine(oO.out _ _ aeJ ari).mono ?_
     rintro E W61 ⟨rfl,aqw⟩
     have ajL:=aeJ.trans (aqw.mono aeJ.size)
     have ha61:=(aqw.block _ (ay ari)).trans ari
     have aBd:=(aqw.block _ (ay ayv)).trans ayv
     go_wp2_with fail
     refine bf hK (SX.out _ ajL) ?_
     clear hK K
     refine dm fO ?_
     obtain⟨W62,hW62,aBg,g62,⟨p0,p1⟩,⟨f0,f1⟩,⟨l0,l1⟩⟩:=dN aBd (.int .i64 fe) (.int .i64 fp)
     have arQ:=aG ajL g62 aqS ajL.size
     refine aJ rfl (by rfl) (fun K hK=>?_)
     go_simp
     go_wp2_with fail
     refine bf hK (SX.out _ arQ) ?_
     clear hK K
     refine cZ gJ ?_
     go_wp2_with fail
     go_meet
     exact⟨_,rfl,hide aBg,hide arQ⟩
   ·obtain⟨W63,hW63,aAI,awz,avx⟩:=au W53 #[.int .i64 c.e,.int .i64 c.n,.slice ao c.l.length cap] 35
    clear aAI
    have aey:=yS.trans (awz.mono yS.size)
    have axb:=(awz.block _ (ay aj8)).trans aj8
    refine aJ rfl (by rfl) (fun K hK=>?_)
    go_simp
    go_wp2_with fail
    refine bf hK (SX.out _ aey) ?_
    clear hK K
    refine dm afk ?_
    refine aJ rfl (by rfl) (fun K hK=>?_)
    go_simp
    refine(HEp.out _ aey).mono ?_
    rintro E W64 ⟨rfl,ary⟩
    have aej:=aey.trans (ary.mono aey.size)
    have axL:=(ary.block _ (ay avx)).trans avx
    have ayH:=(ary.block _ (ay axb)).trans axb
    go_wp2_with fail
    refine bf hK (SX.out _ aej) ?_
    clear hK K
    refine dm mV ?_
    refine aJ rfl (by rfl) (fun K hK=>?_)
    go_simp
    refine(wH.out _ aej).mono ?_
    rintro E W65 ⟨rfl,aoS⟩
    have aek:=aej.trans (aoS.mono aej.size)
    have aoX:=(aoS.block _ (ay axL)).trans axL
    have avt:=(aoS.block _ (ay ayH)).trans ayH
    go_wp2_with fail
    refine bf hK (SX.out _ aek) ?_
    clear hK K
    refine dm ik ?_
    refine aJ rfl (by rfl) (fun K hK=>?_)
    go_simp
    refine(oO.out _ _ aek aoX).mono ?_
    rintro E W66 ⟨rfl,aqW⟩
    have ajK:=aek.trans (aqW.mono aek.size)
    have ha66:=(aqW.block _ (ay aoX)).trans aoX
    have aAu:=(aqW.block _ (ay avt)).trans avt
    go_wp2_with fail
    refine bf hK (SX.out _ ajK) ?_
    clear hK K
    refine dm fO ?_
    obtain⟨W67,hW67,aBe,g67,⟨p0,p1⟩,⟨f0,f1⟩,⟨l0,l1⟩⟩:=dN aAu (.int .i64 fe) (.int .i64 fp)
    have asi:=aG ajK g67 aqS ajK.size
    refine aJ rfl (by rfl) (fun K hK=>?_)
    go_simp
    go_wp2_with fail
    refine bf hK (SX.out _ asi) ?_
    clear hK K
    refine cZ gJ ?_
    go_wp2_with fail
    go_meet
    exact⟨_,rfl,hide aBe,hide asi⟩
 case rest=>
  obtain⟨R,rfl,hR,bR⟩:=hcut
  obtain⟨w6,jY⟩:∃x,wc=x:=⟨_,rfl⟩
  rw[jY]at hR bR⊢
  have r0:=ai hR.out 0 rfl
  have r1:=ai hR.out 1 rfl
  simp only[List.getElem_toArray,List.getElem_cons_zero,List.getElem_cons_succ]at r0 r1
  have q1:=Tryz.agJ fe fp 0 0
  have q2:=Tryz.yE .neq
  have B06:=hide (qz.out.trans (bR.out.mono qz.out.size))
  obtain⟨x0,x1,x2⟩:=SX.out _ bR.out
  clear jY HEp wH oO SX
  by_cases hf0:fe=0
  ·have hp0:=HAT.out hf0
   subst hf0
   subst hp0
   have e1:Sto.zO s c.c=(0,⟨s.r,s.l++[c.c]⟩):=by rw[HA1.out,if_neg (by simp)]
   have E1:=hide e1
   rw[e1]at HAP
   have HAD:=hide (apR ps p q F w6 s c (tL.out.below B06.out) (HI.out.1.below B06.out) HAP.out HI.out.2.2.2.2.1 HI.out.2.2.2.2.2)
   unfold cK at HAD
   rw[oM.out]at HAD
   clear e1
   go_wp2_with fail
   refine HAD.out.mono ?_
   rintro E w7 ⟨⟨uu,rfl⟩,SS⟩
   have FIN:=hide (kg.pre B06.out SS)
   clear SS HAD
   go_wp2
   go_ret
   rw[E1.out]
   exact⟨rfl,FIN.out⟩
  ·have e1:Sto.zO s c.c=(fe,s):=by rw[HA1.out,if_pos hf0]
   have E1:=hide e1
   have hne:(fe==0)=false:=by simpa using hf0
   clear e1
   go_wp2
   go_ret
   rw[E1.out]
   exact⟨rfl,kg.same tL.out B06.out⟩
end Go.Proofs.YtlmkaljjocflmaaGreatDoor
