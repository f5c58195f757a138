/- Texts of one layer, one behind the other. -/
import Derived.Test.YtpifdeoepppadaaGreatDoorH5
import Derived.Test.YtpifdeoepppadaaGreatDoorH6
import Derived.Test.YtpifdeoepppadaaGreatDoorH2
import Derived.Test.YtpifdeoepppadaaGreatDoorH8
import Derived.Test.YtpifdeoepppadaaGreatDoorG10
import Derived.Test.YtpifdeoepppadaaGreatDoorG24
import Derived.Deep.CutRange
set_option maxRecDepth 100000
set_option maxHeartbeats 8000000
namespace Go.Proofs.YtpifdeoepppadaaGreatDoor
open Go.RowKit
open Bm (Ov)
set_option linter.unusedVariables false
theorem Sto.Ok.front {s:Sto.Ss}(h:Sto.Ok s)(k:Nat):∀c∈s.l.take k,c.n≤Cm.lastN 0 s.r.l+k:=fun c hc=>by
 have:=(Sto.gF (Cm.lY h.rest k) c hc).2.2.1
 rw[List.length_take]at this
 omega
theorem Sto.Ok.back {s:Sto.Ss}(h:Sto.Ok s)(k:Nat)(hk:k≤s.l.length):∀c∈s.l.drop k,Cm.lastN 0 s.r.l+k<c.n:=fun c hc=>by
 have:=(Sto.gF (Sto.l8 h.rest k hk) c hc).2.1
 omega
theorem ak5 (ps p q:Nat)(F:Nat→Prop)(w:World)(s:Sto.Ss)(u:Int)(h:SW ps p q F w s)(hs:ajT s.r)(hu:In64 u)(hn:s.l.length≤100000):
  Calls Tryz.prog 68 #[.pointer (some ⟨ps,0,none⟩),.int .i64 u] w fun E w'=>E=.returned (.int .i64 (Sto.aR s u).1)∧kG ps p q F w w' (Sto.aR s u).2:=by
 have HR:=hide (wB ps p q F w s h)
 have ok:=h.ok
 obtain⟨b1,b2,b3,b4⟩:=ok.bound
 have uG:=hide h
 have HOK:=hide ok
 have HFO:=hide (Sto.afX ok u)
 have HU:=hide hu
 have aA3:=hide hs
 obtain⟨z,hz⟩:∃z,Cm.lastN 0 s.r.l=z:=⟨_,rfl⟩
 obtain⟨f,hf⟩:∃f,Sto.fin s=f:=⟨_,rfl⟩
 have HZ:=hide hz
 have HFN:=hide hf
 rw[hz]at b1 b2
 rw[hf]at b3
 have ao4:=Sto.aR.eq_1 s u
 rw[hz,hf]at ao4
 have HF0:=hide ao4
 have HFZ:Hid (f=z+s.l.length):=hide (by rw[←hf,←hz];rfl)
 clear h hs hu ok hz hf ao4
 go_enter Tryz.func68,Tryz.ntmps68
 go_wp2_with fail
 refine HR.out.mono ?_
 rintro E w1 ⟨rfl,ax⟩
 have W1:=uG.out.below ax
 have HN:=hide (agb ps p q F w1 s W1)
 rw[HFN.out]at HN
 have HW1:=hide W1
 obtain⟨F1,G1,h1,⟨pm,bm,v,rs,hs,rfl⟩,hd,_,rfl⟩:=W1
 have HE:=hide (jH p q F1 w1 s.r h1)
 rw[HZ.out]at HE
 have x0:=ai hs.blk 0 rfl
 have x1:=ai hs.blk 1 rfl
 simp only[List.getElem_toArray,List.getElem_cons_zero,List.getElem_cons_succ]at x0 x1
 have HH:=hide (And.intro h1 (And.intro hs hd))
 have B1:=hide ax
 clear HR h1 hs hd ax
 go_wp2_with fail
 refine HE.out.mono ?_
 rintro E w2 ⟨rfl,rfl⟩
 clear HE
 by_cases hlo:u<z
 ·have e1:Sto.aR s u=(2,s):=by rw[HF0.out,if_pos (.inl hlo)]
  have E1:=hide e1
  clear e1
  go_wp2
  go_ret
  rw[E1.out]
  exact⟨rfl,kG.same uG.out B1.out⟩
 go_wp2_with fail
 refine HN.out.mono ?_
 rintro E w2 ⟨rfl,m,rfl⟩
 generalize hy:w1.drewN m=Y
 have BY:Hid (Below w1.heap.size w1 Y):=hide (by rw[←hy];exact below_drewN (Below.refl _ _) _)
 have B0Y:=hide (B1.out.trans (BY.out.mono B1.out.size))
 clear HN hy
 by_cases hhi:f<u
 ·have e1:Sto.aR s u=(2,s):=by rw[HF0.out,if_pos (.inr hhi)]
  have E1:=hide e1
  clear e1
  go_wp2
  go_ret
  rw[E1.out]
  exact⟨rfl,kG.same uG.out B0Y.out⟩
 by_cases heq:u=z
 ·have e1:Sto.aR s u=(0,s):=by rw[HF0.out,if_neg (by omega),if_pos heq]
  have E1:=hide e1
  clear e1
  go_wp2
  go_ret
  rw[E1.out]
  exact⟨rfl,kG.same uG.out B0Y.out⟩
 obtain⟨k,hk⟩:∃k:Nat,(u-z).toNat=k:=⟨_,rfl⟩
 have hfz:=HFZ.out
 have hk1:0<k:=by omega
 have hk2:k≤s.l.length:=by omega
 have huz:u=z+k:=by omega
 have hwk:IntKind.i64.wrap (u-z)=(k:Int):=by rw[aN _ (by omega) (by omega)];omega
 have hsY:=HH.out.2.1.below BY.out
 have hrl:=hsY.rest.len
 obtain⟨vs,hvs,aqx⟩:=hsY.rest.row.row.jW Tryz.xq Tryz.wM k (by omega)
 have y1:=(BY.out.cell (p:=⟨ps,1,none⟩) (aA HH.out.2.1.blk)).trans x1
 have hik:fJ Y vs (rs.take k):=⟨aqx,fun c hc=>hsY.rest.yL.2 c (List.mem_of_mem_take hc)⟩
 have HT:=hide (aam vs (rs.take k) Y hik (fun c hc=>hsY.rest.get c (List.mem_of_mem_take hc)) (by rw[List.length_take];omega))
 have ecv:aD (rs.take k)=s.l.take k:=by rw[wN,hsY.rest.is]
 rw[ecv]at HT
 obtain⟨t,ht⟩:∃t,Rl.tab (s.l.take k)=t:=⟨_,rfl⟩
 rw[ht]at HT
 have hrn:Sto.eG s u=⟨z+1,u,t⟩:=by unfold Sto.eG;rw[HZ.out,hk,ht]
 have hgt:=Cm.lY HOK.out.rest k
 have htf:fG t:=by rw[←ht];exact asx (Sto.ath hgt)
 have htl:t.length≤800000:=by
  have:=Sto.ac4 hgt
  rw[ht,List.length_take]at this
  omega
 obtain⟨va,vn,vc,aBh⟩:∃a n c,vs=.slice a n c:=by
  obtain⟨a,c,h,_⟩:=aqx.shape
  exact⟨a,_,c,h⟩
 subst aBh
 rw[HF0.out,if_neg (by omega),if_neg heq,hrn]at HFO
 have HF1:Hid (Sto.aR s u=if 1024<t.length then(3,s)else if (Rl.aR s.r ⟨z+1,u,t⟩).1≠0 then((Rl.aR s.r ⟨z+1,u,t⟩).1,⟨(Rl.aR s.r ⟨z+1,u,t⟩).2,s.l⟩)else(0,⟨(Rl.aR s.r ⟨z+1,u,t⟩).2,s.l.drop k⟩)):=hide (by rw[HF0.out,if_neg (by omega),if_neg heq,hrn,hk])
 rw[hk]at HFO
 have HHY:=hide (And.intro (HH.out.1.below BY.out) (And.intro hsY HH.out.2.2))
 have HTF:=hide (And.intro htf htl)
 have HTT:=hide ht
 have HKK:=hide (And.intro hk1 (And.intro hk2 huz))
 clear HF0 hrn hgt ht ecv hik aqx hsY hrl hk HW1 HH x0 x1 htf hfz huz hk1 hk2
 go_wp2_with fail
 refine HT.out.mono ?_
 rintro E w3 ⟨pt,rfl,bt,T3,p3,b3',aH⟩
 have HL:=hide (aqa pt bt w3 t T3)
 have T3:=hide T3
 have B3:=hide aH
 have P3:=hide (And.intro p3 b3')
 clear HT p3 b3' aH hvs y1 hwk
 go_wp2_with fail
 refine HL.out.mono ?_
 rintro E w4 ⟨rfl,rfl⟩
 clear HL
 by_cases hbig:(1024:Int)<t.length
 ·have e1:Sto.aR s u=(3,s):=by rw[HF1.out,if_pos (by omega)]
  have E1:=hide e1
  clear e1
  go_wp2
  go_ret
  rw[E1.out]
  exact⟨rfl,kG.same uG.out (B0Y.out.trans (B3.out.mono B0Y.out.size))⟩
 rw[if_neg (by omega)]at HFO HF1
 have HAL:=hide (au4 (.pointer (some ⟨pt,0,none⟩)) w3 t (apo pt bt w3 t T3.out HTF.out.1 (by have:=HTF.out.2;omega)))
 have hw1:IntKind.i64.wrap (z+1)=z+1:=aN _ (by omega) (by omega)
 go_wp2_with fail
 refine HAL.out.mono ?_
 rintro E w4 ⟨B,rfl,sq,aS⟩
 have HCO:=hide (aip B _ w4 t sq (by have:=HTF.out.2;omega))
 have B4:=hide (B3.out.trans (aS.mono B3.out.size))
 clear HAL sq aS
 go_wp2_with fail
 refine HCO.out.mono ?_
 rintro E w5 ⟨vt,rfl,dI,aX⟩
 obtain⟨oa,ok,sj,_,_⟩:=dI.is.shape
 have aAP:=HTF.out.2
 obtain⟨tn,htn⟩:∃n,t.length=n:=⟨_,rfl⟩
 rw[htn]at sj
 obtain⟨w6,uz,aAo,tC,dJ,bX,e0,e1,e2⟩:=dO w5 122 (.int .i64 0) (.int .i64 0) (.slice none 0 0) (.int .i64 (z+1)) (.int .i64 u) vt
 have rF:=aX.trans (dJ.mono aX.size)
 have B6:=hide (B4.out.trans (rF.mono B4.out.size))
 obtain⟨h1,hs,hd⟩:=HHY.out
 have h16:=h1.below B6.out
 have hs6:=hs.below B6.out
 have eu:=dI.below dJ
 have x6:=ai hs6.blk 0 rfl
 simp only[List.getElem_toArray,List.getElem_cons_zero]at x6
 have h64:In64 (z+1):=⟨by omega,by omega⟩
 have akR:t.length*40≤140737488351232:=by omega
 have kZ:=hide (ajN p q F1 w6.drew s.r ⟨z+1,u,vt,t⟩ (h16.below ((Below.refl _ _).drew)) aA3.out (eu.is.drewN 1) HTF.out.1 ⟨h64,HU.out⟩ akR (fun _ b hb hf=>by
  have h2:=(aV.block dI b hb).1
  have h3:=h1.lt b hf
  have h4:=B4.out.size
  omega))
 unfold cZ at kZ
 simp only at kZ
 rw[show(⟨z+1,u,vt,t⟩:Cw).c=⟨z+1,u,t⟩from rfl]at kZ
 rw[sj]at uz aAo e2 kZ
 have HX:=hide (And.intro h16 (And.intro hs6 hd))
 have hpx:=aA hs6.blk
 have aAp:¬F1 ps:=hd ps (.inl rfl)
 have ap6:¬F1 w5.heap.size:=fun hf=>by
  have h3:=h1.lt _ hf
  have h4:=B4.out.size
  have h5:=aX.size
  omega
 have hwx:=aA bX
 subst sj
 obtain⟨fe,hfe⟩:∃x,(Rl.aR s.r ⟨z+1,u,t⟩).1=x:=⟨_,rfl⟩
 obtain⟨r',hr'⟩:∃x,(Rl.aR s.r ⟨z+1,u,t⟩).2=x:=⟨_,rfl⟩
 have HLL:Hid (fe=0→Cm.lastN 0 r'.l=u):=hide fun e=>by
  have:=Sto.ab3 (s:=s.r) (c:=⟨z+1,u,t⟩) (hfe.trans e)
  rw[←hr',this]
  exact Rl.dX _ _ _
 rw[hfe,hr']at kZ HFO HF1
 clear h64 akR HCO dI eu aX dJ rF h1 hs hd h16 hs6 HHY B4 T3 htn hfe hr' bX aAP htl
 go_wp2_with fail
 go_region_held3 (fun w'=>w'.cell? ⟨ps,0,none⟩=some (.pointer (some ⟨p,0,none⟩))∧w'.cell? ⟨w5.heap.size,0,none⟩=some (.int .i64 (z+1))∧w'.cell? ⟨w5.heap.size,1,none⟩=some (.int .i64 u)∧w'.cell? ⟨w5.heap.size,2,none⟩=some (.slice oa tn ok)) (first|exact⟨x6,e0,e1,e2⟩|exact⟨x7,g0,g1,g2⟩|go_keep)
  (first
  |(go_at_call 128;refine kZ.out.mono ?_;rintro E w7 ⟨rfl,RS⟩;obtain⟨F2,k1,k2',k3'⟩:=RS;have k2:Out F1 w6 w7:=((Out.refl _ w6).drew 1).trans k2' fun g hg=>.inl hg;have k3:∀g,F2 g→F1 g∨w6.heap.size≤g:=k3';have x7:=(gI (k2.block ps hpx aAp) 0).trans x6;have g0:=(gI (k2.block w5.heap.size hwx ap6) 0).trans e0;have g1:=(gI (k2.block w5.heap.size hwx ap6) 1).trans e1;have g2:=(gI (k2.block w5.heap.size hwx ap6) 2).trans e2;have RR:=hide (And.intro k1 (And.intro k2 k3));clear k1 k2 k3 k2' k3'))
 have aka:=hide (B0Y.out.trans (B6.out.mono B0Y.out.size))
 by_cases hfe:fe=0
 ·have e5:Sto.aR s u=(0,⟨r',s.l.drop k⟩):=by rw[HF1.out,if_neg (by simpa using hfe)]
  have E5:=hide e5
  rw[if_neg (by simpa using hfe)]at HFO
  obtain⟨k1,k2,k3⟩:=RR.out
  obtain⟨h16,hs6,hd⟩:=HX.out
  have hs7:=hs6.out k2 hd
  have hd7:∀g,SB ps pm bm v rs g→¬F2 g:=fun g hg hf=>by
   rcases k3 g hf with e|e
   ·exact hd g hg e
   ·have:=hs6.lt g hg
    omega
  obtain⟨q1,q2,q3⟩:=HKK.out
  have hlast:=HLL.out hfe
  have HC:=hide (ak6 ps p q pm bm F2 w7 r' s.l v rs k k1 hs7 hd7 q2 q1 (fun c hc=>by have:=HOK.out.front k c hc;rw[HZ.out]at this;rw[hlast];omega) (fun c hc=>by have:=HOK.out.back k q2 c hc;rw[HZ.out]at this;rw[hlast];omega) HFO.out.1 hn)
  have T7:Hid (Out (fun g=>F1 g∨SB ps pm bm v rs g) w w7∧∀g,(F2 g∨SB ps pm bm v rs g)→(F1 g∨SB ps pm bm v rs g)∨w.heap.size≤g):=hide (by
   have hz6:=aka.out.size
   refine⟨(Out.of_below (F:=fun g=>F1 g∨SB ps pm bm v rs g) aka.out).trans k2 fun g hg=>.inl (.inl hg),?_⟩
   rintro g (e|e)
   ·rcases k3 g e with e|e
    ·exact .inl (.inl e)
    ·exact .inr (by omega)
   ·exact .inl (.inr e))
  subst hfe
  clear k1 k2 k3 h16 hs6 hd hs7 hd7 q1 q2 q3 hlast e5 kZ RR
  go_wp2_with fail
  refine HC.out.mono ?_
  rintro E w8 ⟨⟨uu,rfl⟩,SS⟩
  have FIN:=hide (kG.trans T7.out.1 T7.out.2 SS)
  clear SS HC
  go_wp2
  go_ret
  rw[E5.out]
  exact⟨rfl,FIN.out⟩
 ·have e5:Sto.aR s u=(fe,⟨r',s.l⟩):=by rw[HF1.out,if_pos (by simpa using hfe)]
  have E5:=hide e5
  rw[if_pos (by simpa using hfe)]at HFO
  have hne:(fe !=0)=true:=by simp[hfe]
  have FIN:Hid (kG ps p q (fun g=>F1 g∨SB ps pm bm v rs g) w w7 ⟨r',s.l⟩):=hide (by
   obtain⟨k1,k2,k3⟩:=RR.out
   obtain⟨h16,hs6,hd⟩:=HX.out
   have hs7:=hs6.out k2 hd
   have hz6:=aka.out.size
   refine⟨_,⟨F2,_,k1,⟨pm,bm,v,rs,hs7,rfl⟩,fun g hg hf=>?_,HFO.out.1,rfl⟩,(Out.of_below (F:=fun g=>F1 g∨SB ps pm bm v rs g) aka.out).trans k2 fun g hg=>.inl (.inl hg),?_⟩
   ·rcases k3 g hf with e|e
    ·exact hd g hg e
    ·have:=hs6.lt g hg
     omega
   ·rintro g (e|e)
    ·rcases k3 g e with e|e
     ·exact .inl (.inl e)
     ·exact .inr (by omega)
    ·exact .inl (.inr e))
  clear e5 kZ RR
  go_wp2
  go_ret
  rw[E5.out]
  exact⟨rfl,FIN.out⟩
end Go.Proofs.YtpifdeoepppadaaGreatDoor
namespace Go.Proofs.YtpifdeoepppadaaGreatDoor
open Go.RowKit
open Bm (Ov)
set_option linter.unusedVariables false
theorem alh (ps p q:Nat)(F:Nat→Prop)(w:World)(s:Sto.Ss)(c:Cw)(h:SW ps p q F w s)(hi:dm w c.v c.l)(hf:fG c.l)(h64:In64 c.e∧In64 c.n)(hlo:c.l.length*40≤140737488351232)(jB:0<c.l.length→∀b,c.v.ownBlock=some b→¬F b)(hn:s.l.length≤100000):
  Calls Tryz.prog 121 #[.pointer (some ⟨ps,0,none⟩),cZ c.e c.n c.v] w fun E w'=>E=.returned (.int .i64 (Sto.apl s c.c).1)∧kG ps p q F w w' (Sto.apl s c.c).2:=by
 obtain⟨w1,hw1,bH,ax,hB⟩:=ay w #[.int .i64 c.e,.int .i64 c.n,c.v] 32
 have HR:=hide (wB ps p q F w1 s (h.below ax))
 obtain⟨ao,cap,hcv,_,_⟩:=hi.shape
 have nz:=hide hcv
 have HOK:=hide h.ok
 have HAP:=hide (Sto.awv h.ok c.c)
 obtain⟨fe,hfe⟩:∃x,(Cm.fol (Cm.lastE 1 s.l) (Sto.fin s) 0 [c.c]).1=x:=⟨_,rfl⟩
 obtain⟨fp,hfp⟩:∃x,(Cm.fol (Cm.lastE 1 s.l) (Sto.fin s) 0 [c.c]).2=x:=⟨_,rfl⟩
 have hat:=Cm.ahX [c.c] (Cm.lastE 1 s.l) (Sto.fin s) 0
 have hap:Sto.apl s c.c=if fe≠0 then(fe,s)else(0,⟨s.r,s.l++[c.c]⟩):=by unfold Sto.apl;rw[hfe]
 rw[hfe,hfp]at hat
 have HA1:=hide hap
 have HAT:=hide hat
 have uG:=hide h
 have HI:=hide (And.intro hi (And.intro hf (And.intro h64 (And.intro hlo (And.intro jB hn)))))
 have HFE:=hide (And.intro hfe hfp)
 have HB:=hide hB
 have B1:=hide ax
 have hsz:=hide bH
 unfold cZ
 rw[hcv]at hw1⊢
 clear h hi hf h64 hlo jB hcv hap hat hfe hfp hB ax bH hn
 go_enter Tryz.func121,Tryz.ntmps121
 go_wp2_with fail
 refine HR.out.mono ?_
 rintro E w2 ⟨rfl,aB⟩
 have nJ:=hide (B1.out.trans (aB.mono B1.out.size))
 have hB2:=(aB.block w.heap.size (by have:=hsz.out;omega)).trans HB.out
 have SX:Hid (∀W,Below w2.heap.size w2 W→W.cell? ⟨w.heap.size,0,none⟩=some (.int .i64 c.e)∧W.cell? ⟨w.heap.size,1,none⟩=some (.int .i64 c.n)∧W.cell? ⟨w.heap.size,2,none⟩=some (.slice ao c.l.length cap)):=hide fun W hW=>by
  have k:=(hW.block w.heap.size (aA hB2)).trans hB2
  rw[nz.out]at k
  exact⟨ai k 0 rfl,ai k 1 rfl,ai k 2 rfl⟩
 have HEp:Hid (∀W,Below w2.heap.size w2 W→Calls Tryz.prog 171 #[.pointer (some ⟨ps,0,none⟩)] W fun E w'=>E=.returned (.int .i64 (Cm.lastE 1 s.l))∧Below W.heap.size W w'):=hide fun W hW=>
  (aon ps p q F W s ((uG.out.below nJ.out).below hW)).mono fun E w' h=>⟨h.1,by obtain⟨m,rfl⟩:=h.2;exact below_drewN (Below.refl _ _) m⟩
 have xE:Hid (∀W,Below w2.heap.size w2 W→Calls Tryz.prog 123 #[.pointer (some ⟨ps,0,none⟩)] W fun E w'=>E=.returned (.int .i64 (Sto.fin s))∧Below W.heap.size W w'):=hide fun W hW=>
  (agb ps p q F W s ((uG.out.below nJ.out).below hW)).mono fun E w' h=>⟨h.1,by obtain⟨m,rfl⟩:=h.2;exact below_drewN (Below.refl _ _) m⟩
 have qc:Hid (∀W a,Below w2.heap.size w2 W→W.heap[a]? =some (.cells #[.int .i64 c.e,.int .i64 c.n,.slice ao c.l.length cap] 32 (0,0))→Calls Tryz.prog 53 #[.int .i64 (Cm.lastE 1 s.l),.int .i64 (Sto.fin s),.slice (some ⟨a,0,none⟩) 1 1] W fun E w'=>E=.returned (.agg #[.int .i64 fe,.int .i64 fp])∧Below W.heap.size W w'):=hide fun W a hW ha=>by
  have hc:=rR (Cm.lastE 1 s.l) (Sto.fin s) _ [⟨c.e,c.n,.slice ao c.l.length cap,c.l⟩] W ⟨atD ha,fun d hd=>by rw[List.mem_singleton.1 hd];exact⟨by rw[←nz.out];exact(HI.out.1.below nJ.out).below hW,HI.out.2.2.1⟩⟩ (fF.one HI.out.2.1 HI.out.2.2.2.1) (by simp)
  rw[show aD [(⟨c.e,c.n,.slice ao c.l.length cap,c.l⟩:Cw)]=[c.c]from rfl]at hc
  unfold flv at hc
  rw[HFE.out.1,HFE.out.2]at hc
  exact hc
 generalize Cm.lastE 1 s.l=le at*
 generalize Sto.fin s=fn at*
 clear HR aB hB2
 go_wp2_with fail
 go_cut [5]from 9 to 15 (fun v5 wx=>∃R,v5=.pointer (some ⟨R,0,none⟩)∧Hid (wx.heap[R]? =some (.cells #[.int .i64 fe,.int .i64 fp] 98 (0,0)))∧Hid (Below w2.heap.size w2 wx))
 case first=>
  obtain⟨W0,hW0⟩:∃x,w2.drew=x:=⟨_,rfl⟩
  have dx:Below w2.heap.size w2 W0:=by rw[←hW0];exact(Below.refl _ _).drew
  refine je (ops:=(au 3 Tryz.f121)) (S:=fun W=>W.cell? ⟨w.heap.size,0,none⟩=some (.int .i64 c.e)∧W.cell? ⟨w.heap.size,1,none⟩=some (.int .i64 c.n)∧W.cell? ⟨w.heap.size,2,none⟩=some (.slice ao c.l.length cap)) (by kernel_rfl) arv ?_
  rw[auy,hW0]
  refine aG (v:=?_) aqt (by kernel_rfl) (fun _ _ _ _ _ h=>h) (SX.out _ dx) rfl rfl (by rfl) ?_ ?_
  rotate_left 1
  ·intro w hS
   (try dsimp only at hS)
   go_simp
   all_goals with_reducible rfl
  simp only[Act.put,List.setIfInBounds_toArray,List.set_cons_zero,List.set_cons_succ]
  refine aG (v:=?_) ard (by kernel_rfl) (fun _ _ _ _ _ h=>h) (SX.out _ dx) rfl rfl (by rfl) ?_ ?_
  rotate_left 1
  ·intro w hS
   (try dsimp only at hS)
   go_simp
   all_goals with_reducible rfl
  simp only[Act.put,List.setIfInBounds_toArray,List.set_cons_zero,List.set_cons_succ]
  refine aG (v:=?_) arS (by kernel_rfl) (fun _ _ _ _ _ h=>h) (SX.out _ dx) rfl rfl (by rfl) ?_ ?_
  rotate_left 1
  ·intro w hS
   (try dsimp only at hS)
   go_simp
   all_goals with_reducible rfl
  simp only[Act.put,List.setIfInBounds_toArray,List.set_cons_zero,List.set_cons_succ]
  refine aex atK ?_ ?_ ?_
  ·refine aM rfl (by rfl) (fun K hK=>?_)
   go_simp
   refine(HEp.out _ dx).mono ?_
   rintro E W1 ⟨rfl,st1⟩
   have ax:=dx.trans (st1.mono dx.size)
   go_wp2_with fail
   refine hK.out _ _ (SX.out _ ax) ?_
   clear hK K
   try simp only[Act.put,List.setIfInBounds_toArray,List.set_cons_zero,List.set_cons_succ]
   refine aex avj ?_ ?_ ?_
   ·refine aM rfl (by rfl) (fun K hK=>?_)
    go_simp
    refine(xE.out _ ax).mono ?_
    rintro E W2 ⟨rfl,st2⟩
    have aB:=ax.trans (st2.mono ax.size)
    go_wp2_with fail
    refine hK.out _ _ (SX.out _ aB) ?_
    clear hK K
    try simp only[Act.put,List.setIfInBounds_toArray,List.set_cons_zero,List.set_cons_succ]
    refine iF au7 ?_ ?_
    ·obtain⟨W3,hW3,fZ,st3,ha3⟩:=ay W2 #[.int .i64 c.e,.int .i64 c.n,.slice ao c.l.length cap] 32
     clear fZ
     have aH:=aB.trans (st3.mono aB.size)
     refine aM rfl (by rfl) (fun K hK=>?_)
     go_simp
     go_wp2_with fail
     refine hK.out _ _ (SX.out _ aH) ?_
     clear hK K
     try simp only[Act.put,List.setIfInBounds_toArray,List.set_cons_zero,List.set_cons_succ]
     refine iF adR ?_ ?_
     ·refine aM rfl (by rfl) (fun K hK=>?_)
      go_simp
      refine(qc.out _ _ aH ha3).mono ?_
      rintro E W4 ⟨rfl,st4⟩
      have aS:=aH.trans (st4.mono aH.size)
      have ha4:=(st4.block _ (aA ha3)).trans ha3
      go_wp2_with fail
      refine hK.out _ _ (SX.out _ aS) ?_
      clear hK K
      try simp only[Act.put,List.setIfInBounds_toArray,List.set_cons_zero,List.set_cons_succ]
      refine aQ aaV ?_
      obtain⟨W5,hW5,pq,st5,hb5⟩:=ay W4 #[.int .i64 0,.int .i64 0] 98
      clear pq
      have lb5:=aS.size
      have aX:=aS.trans (st5.mono aS.size)
      have ha5:=(st5.block _ (aA ha4)).trans ha4
      refine aM rfl (by rfl) (fun K hK=>?_)
      go_simp
      go_wp2_with fail
      refine hK.out _ _ (SX.out _ aX) ?_
      clear hK K
      try simp only[Act.put,List.setIfInBounds_toArray,List.set_cons_zero,List.set_cons_succ]
      refine aQ fT ?_
      obtain⟨W6,hW6,hb6,g6,⟨p0,p1⟩,⟨f0,f1⟩,⟨l0,l1⟩⟩:=dR hb5 (.int .i64 fe) (.int .i64 fp)
      have dJ:=aK aX g6 lb5 aX.size
      refine aM rfl (by rfl) (fun K hK=>?_)
      go_simp
      go_wp2_with fail
      refine hK.out _ _ (SX.out _ dJ) ?_
      clear hK K
      try simp only[Act.put,List.setIfInBounds_toArray,List.set_cons_zero,List.set_cons_succ]
      refine dz iq ?_
      go_wp2_with fail
      go_meet
      exact⟨_,rfl,hide hb6,hide dJ⟩
     ·obtain⟨W7,hW7,sz7,st7,hb7⟩:=ay W3 #[.int .i64 0,.int .i64 0] 98
      clear sz7
      have lb7:=aH.size
      have fQ:=aH.trans (st7.mono aH.size)
      have ha7:=(st7.block _ (aA ha3)).trans ha3
      refine aM rfl (by rfl) (fun K hK=>?_)
      go_simp
      go_wp2_with fail
      refine hK.out _ _ (SX.out _ fQ) ?_
      clear hK K
      try simp only[Act.put,List.setIfInBounds_toArray,List.set_cons_zero,List.set_cons_succ]
      refine aQ iH ?_
      refine aM rfl (by rfl) (fun K hK=>?_)
      go_simp
      refine(qc.out _ _ fQ ha7).mono ?_
      rintro E W8 ⟨rfl,st8⟩
      have lg:=fQ.trans (st8.mono fQ.size)
      have ha8:=(st8.block _ (aA ha7)).trans ha7
      have hb8:=(st8.block _ (aA hb7)).trans hb7
      go_wp2_with fail
      refine hK.out _ _ (SX.out _ lg) ?_
      clear hK K
      try simp only[Act.put,List.setIfInBounds_toArray,List.set_cons_zero,List.set_cons_succ]
      refine aQ fT ?_
      obtain⟨W9,hW9,hb9,g9,⟨p0,p1⟩,⟨f0,f1⟩,⟨l0,l1⟩⟩:=dR hb8 (.int .i64 fe) (.int .i64 fp)
      have iU:=aK lg g9 lb7 lg.size
      refine aM rfl (by rfl) (fun K hK=>?_)
      go_simp
      go_wp2_with fail
      refine hK.out _ _ (SX.out _ iU) ?_
      clear hK K
      try simp only[Act.put,List.setIfInBounds_toArray,List.set_cons_zero,List.set_cons_succ]
      refine dz iq ?_
      go_wp2_with fail
      go_meet
      exact⟨_,rfl,hide hb9,hide iU⟩
    ·obtain⟨W10,hW10,aAt,aAi,axN⟩:=ay W2 #[.int .i64 0,.int .i64 0] 98
     clear aAt
     have aBx:=aB.size
     have vR:=aB.trans (aAi.mono aB.size)
     refine aM rfl (by rfl) (fun K hK=>?_)
     go_simp
     go_wp2_with fail
     refine hK.out _ _ (SX.out _ vR) ?_
     clear hK K
     try simp only[Act.put,List.setIfInBounds_toArray,List.set_cons_zero,List.set_cons_succ]
     refine aQ aa6 ?_
     obtain⟨W11,hW11,aBR,awx,aql⟩:=ay W10 #[.int .i64 c.e,.int .i64 c.n,.slice ao c.l.length cap] 32
     clear aBR
     have afo:=vR.trans (awx.mono vR.size)
     have awH:=(awx.block _ (aA axN)).trans axN
     refine aM rfl (by rfl) (fun K hK=>?_)
     go_simp
     go_wp2_with fail
     refine hK.out _ _ (SX.out _ afo) ?_
     clear hK K
     try simp only[Act.put,List.setIfInBounds_toArray,List.set_cons_zero,List.set_cons_succ]
     refine aQ iH ?_
     refine aM rfl (by rfl) (fun K hK=>?_)
     go_simp
     refine(qc.out _ _ afo aql).mono ?_
     rintro E W12 ⟨rfl,aq9⟩
     have akq:=afo.trans (aq9.mono afo.size)
     have ha12:=(aq9.block _ (aA aql)).trans aql
     have aBm:=(aq9.block _ (aA awH)).trans awH
     go_wp2_with fail
     refine hK.out _ _ (SX.out _ akq) ?_
     clear hK K
     try simp only[Act.put,List.setIfInBounds_toArray,List.set_cons_zero,List.set_cons_succ]
     refine aQ fT ?_
     obtain⟨W13,hW13,aAR,g13,⟨p0,p1⟩,⟨f0,f1⟩,⟨l0,l1⟩⟩:=dR aBm (.int .i64 fe) (.int .i64 fp)
     have ng:=aK akq g13 aBx akq.size
     refine aM rfl (by rfl) (fun K hK=>?_)
     go_simp
     go_wp2_with fail
     refine hK.out _ _ (SX.out _ ng) ?_
     clear hK K
     try simp only[Act.put,List.setIfInBounds_toArray,List.set_cons_zero,List.set_cons_succ]
     refine dz iq ?_
     go_wp2_with fail
     go_meet
     exact⟨_,rfl,hide aAR,hide ng⟩
   ·obtain⟨W14,hW14,aBN,aAj,ajY⟩:=ay W1 #[.int .i64 c.e,.int .i64 c.n,.slice ao c.l.length cap] 32
    clear aBN
    have wV:=ax.trans (aAj.mono ax.size)
    refine aM rfl (by rfl) (fun K hK=>?_)
    go_simp
    go_wp2_with fail
    refine hK.out _ _ (SX.out _ wV) ?_
    clear hK K
    try simp only[Act.put,List.setIfInBounds_toArray,List.set_cons_zero,List.set_cons_succ]
    refine iF ajE ?_ ?_
    ·refine aM rfl (by rfl) (fun K hK=>?_)
     go_simp
     refine(xE.out _ wV).mono ?_
     rintro E W15 ⟨rfl,awe⟩
     have vJ:=wV.trans (awe.mono wV.size)
     have aie:=(awe.block _ (aA ajY)).trans ajY
     go_wp2_with fail
     refine hK.out _ _ (SX.out _ vJ) ?_
     clear hK K
     try simp only[Act.put,List.setIfInBounds_toArray,List.set_cons_zero,List.set_cons_succ]
     refine iF adR ?_ ?_
     ·refine aM rfl (by rfl) (fun K hK=>?_)
      go_simp
      refine(qc.out _ _ vJ aie).mono ?_
      rintro E W16 ⟨rfl,ayb⟩
      have afG:=vJ.trans (ayb.mono vJ.size)
      have ha16:=(ayb.block _ (aA aie)).trans aie
      go_wp2_with fail
      refine hK.out _ _ (SX.out _ afG) ?_
      clear hK K
      try simp only[Act.put,List.setIfInBounds_toArray,List.set_cons_zero,List.set_cons_succ]
      refine aQ aaV ?_
      obtain⟨W17,hW17,aAz,azk,aAk⟩:=ay W16 #[.int .i64 0,.int .i64 0] 98
      clear aAz
      have aBq:=afG.size
      have aj2:=afG.trans (azk.mono afG.size)
      have ha17:=(azk.block _ (aA ha16)).trans ha16
      refine aM rfl (by rfl) (fun K hK=>?_)
      go_simp
      go_wp2_with fail
      refine hK.out _ _ (SX.out _ aj2) ?_
      clear hK K
      try simp only[Act.put,List.setIfInBounds_toArray,List.set_cons_zero,List.set_cons_succ]
      refine aQ fT ?_
      obtain⟨W18,hW18,aBE,g18,⟨p0,p1⟩,⟨f0,f1⟩,⟨l0,l1⟩⟩:=dR aAk (.int .i64 fe) (.int .i64 fp)
      have atz:=aK aj2 g18 aBq aj2.size
      refine aM rfl (by rfl) (fun K hK=>?_)
      go_simp
      go_wp2_with fail
      refine hK.out _ _ (SX.out _ atz) ?_
      clear hK K
      try simp only[Act.put,List.setIfInBounds_toArray,List.set_cons_zero,List.set_cons_succ]
      refine dz iq ?_
      go_wp2_with fail
      go_meet
      exact⟨_,rfl,hide aBE,hide atz⟩
     ·obtain⟨W19,hW19,aAl,ayf,ays⟩:=ay W15 #[.int .i64 0,.int .i64 0] 98
      clear aAl
      have aBo:=vJ.size
      have afI:=vJ.trans (ayf.mono vJ.size)
      have arL:=(ayf.block _ (aA aie)).trans aie
      refine aM rfl (by rfl) (fun K hK=>?_)
      go_simp
      go_wp2_with fail
      refine hK.out _ _ (SX.out _ afI) ?_
      clear hK K
      try simp only[Act.put,List.setIfInBounds_toArray,List.set_cons_zero,List.set_cons_succ]
      refine aQ iH ?_
      refine aM rfl (by rfl) (fun K hK=>?_)
      go_simp
      refine(qc.out _ _ afI arL).mono ?_
      rintro E W20 ⟨rfl,aq7⟩
      have ajS:=afI.trans (aq7.mono afI.size)
      have ha20:=(aq7.block _ (aA arL)).trans arL
      have aBs:=(aq7.block _ (aA ays)).trans ays
      go_wp2_with fail
      refine hK.out _ _ (SX.out _ ajS) ?_
      clear hK K
      try simp only[Act.put,List.setIfInBounds_toArray,List.set_cons_zero,List.set_cons_succ]
      refine aQ fT ?_
      obtain⟨W21,hW21,aAb,g21,⟨p0,p1⟩,⟨f0,f1⟩,⟨l0,l1⟩⟩:=dR aBs (.int .i64 fe) (.int .i64 fp)
      have asa:=aK ajS g21 aBo ajS.size
      refine aM rfl (by rfl) (fun K hK=>?_)
      go_simp
      go_wp2_with fail
      refine hK.out _ _ (SX.out _ asa) ?_
      clear hK K
      try simp only[Act.put,List.setIfInBounds_toArray,List.set_cons_zero,List.set_cons_succ]
      refine dz iq ?_
      go_wp2_with fail
      go_meet
      exact⟨_,rfl,hide aAb,hide asa⟩
    ·obtain⟨W22,hW22,aBC,ay5,awg⟩:=ay W14 #[.int .i64 0,.int .i64 0] 98
     clear aBC
     have aBM:=wV.size
     have afh:=wV.trans (ay5.mono wV.size)
     have azu:=(ay5.block _ (aA ajY)).trans ajY
     refine aM rfl (by rfl) (fun K hK=>?_)
     go_simp
     go_wp2_with fail
     refine hK.out _ _ (SX.out _ afh) ?_
     clear hK K
     try simp only[Act.put,List.setIfInBounds_toArray,List.set_cons_zero,List.set_cons_succ]
     refine aQ oh ?_
     refine aM rfl (by rfl) (fun K hK=>?_)
     go_simp
     refine(xE.out _ afh).mono ?_
     rintro E W23 ⟨rfl,ao9⟩
     have qC:=afh.trans (ao9.mono afh.size)
     have apY:=(ao9.block _ (aA azu)).trans azu
     have axx:=(ao9.block _ (aA awg)).trans awg
     go_wp2_with fail
     refine hK.out _ _ (SX.out _ qC) ?_
     clear hK K
     try simp only[Act.put,List.setIfInBounds_toArray,List.set_cons_zero,List.set_cons_succ]
     refine aQ iH ?_
     refine aM rfl (by rfl) (fun K hK=>?_)
     go_simp
     refine(qc.out _ _ qC apY).mono ?_
     rintro E W24 ⟨rfl,apN⟩
     have akh:=qC.trans (apN.mono qC.size)
     have ha24:=(apN.block _ (aA apY)).trans apY
     have aAu:=(apN.block _ (aA axx)).trans axx
     go_wp2_with fail
     refine hK.out _ _ (SX.out _ akh) ?_
     clear hK K
     try simp only[Act.put,List.setIfInBounds_toArray,List.set_cons_zero,List.set_cons_succ]
     refine aQ fT ?_
     obtain⟨W25,hW25,aBl,g25,⟨p0,p1⟩,⟨f0,f1⟩,⟨l0,l1⟩⟩:=dR aAu (.int .i64 fe) (.int .i64 fp)
     have asc:=aK akh g25 aBM akh.size
     refine aM rfl (by rfl) (fun K hK=>?_)
     go_simp
     go_wp2_with fail
     refine hK.out _ _ (SX.out _ asc) ?_
     clear hK K
     try simp only[Act.put,List.setIfInBounds_toArray,List.set_cons_zero,List.set_cons_succ]
     refine dz iq ?_
     go_wp2_with fail
     go_meet
     exact⟨_,rfl,hide aBl,hide asc⟩
   ·obtain⟨W26,hW26,aAv,aAr,akL⟩:=ay W1 #[.int .i64 0,.int .i64 0] 98
    clear aAv
    have ayD:=ax.size
    have zP:=ax.trans (aAr.mono ax.size)
    refine aM rfl (by rfl) (fun K hK=>?_)
    go_simp
    go_wp2_with fail
    refine hK.out _ _ (SX.out _ zP) ?_
    clear hK K
    try simp only[Act.put,List.setIfInBounds_toArray,List.set_cons_zero,List.set_cons_succ]
    refine iF ahi ?_ ?_
    ·refine aM rfl (by rfl) (fun K hK=>?_)
     go_simp
     refine(xE.out _ zP).mono ?_
     rintro E W27 ⟨rfl,ayU⟩
     have akM:=zP.trans (ayU.mono zP.size)
     have avV:=(ayU.block _ (aA akL)).trans akL
     go_wp2_with fail
     refine hK.out _ _ (SX.out _ akM) ?_
     clear hK K
     try simp only[Act.put,List.setIfInBounds_toArray,List.set_cons_zero,List.set_cons_succ]
     refine aQ aa6 ?_
     obtain⟨W28,hW28,aAx,ayg,ap5⟩:=ay W27 #[.int .i64 c.e,.int .i64 c.n,.slice ao c.l.length cap] 32
     clear aAx
     have afD:=akM.trans (ayg.mono akM.size)
     have av9:=(ayg.block _ (aA avV)).trans avV
     refine aM rfl (by rfl) (fun K hK=>?_)
     go_simp
     go_wp2_with fail
     refine hK.out _ _ (SX.out _ afD) ?_
     clear hK K
     try simp only[Act.put,List.setIfInBounds_toArray,List.set_cons_zero,List.set_cons_succ]
     refine aQ iH ?_
     refine aM rfl (by rfl) (fun K hK=>?_)
     go_simp
     refine(qc.out _ _ afD ap5).mono ?_
     rintro E W29 ⟨rfl,aqS⟩
     have alf:=afD.trans (aqS.mono afD.size)
     have ha29:=(aqS.block _ (aA ap5)).trans ap5
     have az6:=(aqS.block _ (aA av9)).trans av9
     go_wp2_with fail
     refine hK.out _ _ (SX.out _ alf) ?_
     clear hK K
     try simp only[Act.put,List.setIfInBounds_toArray,List.set_cons_zero,List.set_cons_succ]
     refine aQ fT ?_
     obtain⟨W30,hW30,aAE,g30,⟨p0,p1⟩,⟨f0,f1⟩,⟨l0,l1⟩⟩:=dR az6 (.int .i64 fe) (.int .i64 fp)
     have ar0:=aK alf g30 ayD alf.size
     refine aM rfl (by rfl) (fun K hK=>?_)
     go_simp
     go_wp2_with fail
     refine hK.out _ _ (SX.out _ ar0) ?_
     clear hK K
     try simp only[Act.put,List.setIfInBounds_toArray,List.set_cons_zero,List.set_cons_succ]
     refine dz iq ?_
     go_wp2_with fail
     go_meet
     exact⟨_,rfl,hide aAE,hide ar0⟩
    ·obtain⟨W31,hW31,aBw,ayG,awl⟩:=ay W26 #[.int .i64 c.e,.int .i64 c.n,.slice ao c.l.length cap] 32
     clear aBw
     have afy:=zP.trans (ayG.mono zP.size)
     have awQ:=(ayG.block _ (aA akL)).trans akL
     refine aM rfl (by rfl) (fun K hK=>?_)
     go_simp
     go_wp2_with fail
     refine hK.out _ _ (SX.out _ afy) ?_
     clear hK K
     try simp only[Act.put,List.setIfInBounds_toArray,List.set_cons_zero,List.set_cons_succ]
     refine aQ oh ?_
     refine aM rfl (by rfl) (fun K hK=>?_)
     go_simp
     refine(xE.out _ afy).mono ?_
     rintro E W32 ⟨rfl,apg⟩
     have afJ:=afy.trans (apg.mono afy.size)
     have ha32:=(apg.block _ (aA awl)).trans awl
     have axs:=(apg.block _ (aA awQ)).trans awQ
     go_wp2_with fail
     refine hK.out _ _ (SX.out _ afJ) ?_
     clear hK K
     try simp only[Act.put,List.setIfInBounds_toArray,List.set_cons_zero,List.set_cons_succ]
     refine aQ iH ?_
     refine aM rfl (by rfl) (fun K hK=>?_)
     go_simp
     refine(qc.out _ _ afJ ha32).mono ?_
     rintro E W33 ⟨rfl,aqv⟩
     have akb:=afJ.trans (aqv.mono afJ.size)
     have ha33:=(aqv.block _ (aA ha32)).trans ha32
     have aAh:=(aqv.block _ (aA axs)).trans axs
     go_wp2_with fail
     refine hK.out _ _ (SX.out _ akb) ?_
     clear hK K
     try simp only[Act.put,List.setIfInBounds_toArray,List.set_cons_zero,List.set_cons_succ]
     refine aQ fT ?_
     obtain⟨W34,hW34,aBu,g34,⟨p0,p1⟩,⟨f0,f1⟩,⟨l0,l1⟩⟩:=dR aAh (.int .i64 fe) (.int .i64 fp)
     have ar5:=aK akb g34 ayD akb.size
     refine aM rfl (by rfl) (fun K hK=>?_)
     go_simp
     go_wp2_with fail
     refine hK.out _ _ (SX.out _ ar5) ?_
     clear hK K
     try simp only[Act.put,List.setIfInBounds_toArray,List.set_cons_zero,List.set_cons_succ]
     refine dz iq ?_
     go_wp2_with fail
     go_meet
     exact⟨_,rfl,hide aBu,hide ar5⟩
  ·obtain⟨W35,hW35,aAK,aBD,aj7⟩:=ay W0 #[.int .i64 c.e,.int .i64 c.n,.slice ao c.l.length cap] 32
   clear aAK
   have xy:=dx.trans (aBD.mono dx.size)
   refine aM rfl (by rfl) (fun K hK=>?_)
   go_simp
   go_wp2_with fail
   refine hK.out _ _ (SX.out _ xy) ?_
   clear hK K
   try simp only[Act.put,List.setIfInBounds_toArray,List.set_cons_zero,List.set_cons_succ]
   refine iF auh ?_ ?_
   ·refine aM rfl (by rfl) (fun K hK=>?_)
    go_simp
    refine(HEp.out _ xy).mono ?_
    rintro E W36 ⟨rfl,ayw⟩
    have wX:=xy.trans (ayw.mono xy.size)
    have ak3:=(ayw.block _ (aA aj7)).trans aj7
    go_wp2_with fail
    refine hK.out _ _ (SX.out _ wX) ?_
    clear hK K
    try simp only[Act.put,List.setIfInBounds_toArray,List.set_cons_zero,List.set_cons_succ]
    refine iF ajE ?_ ?_
    ·refine aM rfl (by rfl) (fun K hK=>?_)
     go_simp
     refine(xE.out _ wX).mono ?_
     rintro E W37 ⟨rfl,ayE⟩
     have vU:=wX.trans (ayE.mono wX.size)
     have ah2:=(ayE.block _ (aA ak3)).trans ak3
     go_wp2_with fail
     refine hK.out _ _ (SX.out _ vU) ?_
     clear hK K
     try simp only[Act.put,List.setIfInBounds_toArray,List.set_cons_zero,List.set_cons_succ]
     refine iF adR ?_ ?_
     ·refine aM rfl (by rfl) (fun K hK=>?_)
      go_simp
      refine(qc.out _ _ vU ah2).mono ?_
      rintro E W38 ⟨rfl,axa⟩
      have afe:=vU.trans (axa.mono vU.size)
      have aw3:=(axa.block _ (aA ah2)).trans ah2
      go_wp2_with fail
      refine hK.out _ _ (SX.out _ afe) ?_
      clear hK K
      try simp only[Act.put,List.setIfInBounds_toArray,List.set_cons_zero,List.set_cons_succ]
      refine aQ aaV ?_
      obtain⟨W39,hW39,aBv,azl,az8⟩:=ay W38 #[.int .i64 0,.int .i64 0] 98
      clear aBv
      have aBK:=afe.size
      have ajV:=afe.trans (azl.mono afe.size)
      have ha39:=(azl.block _ (aA aw3)).trans aw3
      refine aM rfl (by rfl) (fun K hK=>?_)
      go_simp
      go_wp2_with fail
      refine hK.out _ _ (SX.out _ ajV) ?_
      clear hK K
      try simp only[Act.put,List.setIfInBounds_toArray,List.set_cons_zero,List.set_cons_succ]
      refine aQ fT ?_
      obtain⟨W40,hW40,aqD,g40,⟨p0,p1⟩,⟨f0,f1⟩,⟨l0,l1⟩⟩:=dR az8 (.int .i64 fe) (.int .i64 fp)
      have as3:=aK ajV g40 aBK ajV.size
      refine aM rfl (by rfl) (fun K hK=>?_)
      go_simp
      go_wp2_with fail
      refine hK.out _ _ (SX.out _ as3) ?_
      clear hK K
      try simp only[Act.put,List.setIfInBounds_toArray,List.set_cons_zero,List.set_cons_succ]
      refine dz iq ?_
      go_wp2_with fail
      go_meet
      exact⟨_,rfl,hide aqD,hide as3⟩
     ·obtain⟨W41,hW41,aBO,awM,axX⟩:=ay W37 #[.int .i64 0,.int .i64 0] 98
      clear aBO
      have aBn:=vU.size
      have afm:=vU.trans (awM.mono vU.size)
      have art:=(awM.block _ (aA ah2)).trans ah2
      refine aM rfl (by rfl) (fun K hK=>?_)
      go_simp
      go_wp2_with fail
      refine hK.out _ _ (SX.out _ afm) ?_
      clear hK K
      try simp only[Act.put,List.setIfInBounds_toArray,List.set_cons_zero,List.set_cons_succ]
      refine aQ iH ?_
      refine aM rfl (by rfl) (fun K hK=>?_)
      go_simp
      refine(qc.out _ _ afm art).mono ?_
      rintro E W42 ⟨rfl,aqX⟩
      have akC:=afm.trans (aqX.mono afm.size)
      have ha42:=(aqX.block _ (aA art)).trans art
      have aAf:=(aqX.block _ (aA axX)).trans axX
      go_wp2_with fail
      refine hK.out _ _ (SX.out _ akC) ?_
      clear hK K
      try simp only[Act.put,List.setIfInBounds_toArray,List.set_cons_zero,List.set_cons_succ]
      refine aQ fT ?_
      obtain⟨W43,hW43,aBg,g43,⟨p0,p1⟩,⟨f0,f1⟩,⟨l0,l1⟩⟩:=dR aAf (.int .i64 fe) (.int .i64 fp)
      have att:=aK akC g43 aBn akC.size
      refine aM rfl (by rfl) (fun K hK=>?_)
      go_simp
      go_wp2_with fail
      refine hK.out _ _ (SX.out _ att) ?_
      clear hK K
      try simp only[Act.put,List.setIfInBounds_toArray,List.set_cons_zero,List.set_cons_succ]
      refine dz iq ?_
      go_wp2_with fail
      go_meet
      exact⟨_,rfl,hide aBg,hide att⟩
    ·obtain⟨W44,hW44,aAq,ayH,awz⟩:=ay W36 #[.int .i64 0,.int .i64 0] 98
     clear aAq
     have aA5:=wX.size
     have afv:=wX.trans (ayH.mono wX.size)
     have axG:=(ayH.block _ (aA ak3)).trans ak3
     refine aM rfl (by rfl) (fun K hK=>?_)
     go_simp
     go_wp2_with fail
     refine hK.out _ _ (SX.out _ afv) ?_
     clear hK K
     try simp only[Act.put,List.setIfInBounds_toArray,List.set_cons_zero,List.set_cons_succ]
     refine aQ oh ?_
     refine aM rfl (by rfl) (fun K hK=>?_)
     go_simp
     refine(xE.out _ afv).mono ?_
     rintro E W45 ⟨rfl,aoL⟩
     have afi:=afv.trans (aoL.mono afv.size)
     have aqN:=(aoL.block _ (aA axG)).trans axG
     have avM:=(aoL.block _ (aA awz)).trans awz
     go_wp2_with fail
     refine hK.out _ _ (SX.out _ afi) ?_
     clear hK K
     try simp only[Act.put,List.setIfInBounds_toArray,List.set_cons_zero,List.set_cons_succ]
     refine aQ iH ?_
     refine aM rfl (by rfl) (fun K hK=>?_)
     go_simp
     refine(qc.out _ _ afi aqN).mono ?_
     rintro E W46 ⟨rfl,arf⟩
     have akU:=afi.trans (arf.mono afi.size)
     have ha46:=(arf.block _ (aA aqN)).trans aqN
     have aAC:=(arf.block _ (aA avM)).trans avM
     go_wp2_with fail
     refine hK.out _ _ (SX.out _ akU) ?_
     clear hK K
     try simp only[Act.put,List.setIfInBounds_toArray,List.set_cons_zero,List.set_cons_succ]
     refine aQ fT ?_
     obtain⟨W47,hW47,aAm,g47,⟨p0,p1⟩,⟨f0,f1⟩,⟨l0,l1⟩⟩:=dR aAC (.int .i64 fe) (.int .i64 fp)
     have ast:=aK akU g47 aA5 akU.size
     refine aM rfl (by rfl) (fun K hK=>?_)
     go_simp
     go_wp2_with fail
     refine hK.out _ _ (SX.out _ ast) ?_
     clear hK K
     try simp only[Act.put,List.setIfInBounds_toArray,List.set_cons_zero,List.set_cons_succ]
     refine dz iq ?_
     go_wp2_with fail
     go_meet
     exact⟨_,rfl,hide aAm,hide ast⟩
   ·obtain⟨W48,hW48,aAZ,ay7,hb48⟩:=ay W35 #[.int .i64 0,.int .i64 0] 98
    clear aAZ
    have aA0:=xy.size
    have afg:=xy.trans (ay7.mono xy.size)
    have ayK:=(ay7.block _ (aA aj7)).trans aj7
    refine aM rfl (by rfl) (fun K hK=>?_)
    go_simp
    go_wp2_with fail
    refine hK.out _ _ (SX.out _ afg) ?_
    clear hK K
    try simp only[Act.put,List.setIfInBounds_toArray,List.set_cons_zero,List.set_cons_succ]
    refine aQ ahY ?_
    refine aM rfl (by rfl) (fun K hK=>?_)
    go_simp
    refine(HEp.out _ afg).mono ?_
    rintro E W49 ⟨rfl,aqo⟩
    have afF:=afg.trans (aqo.mono afg.size)
    have axD:=(aqo.block _ (aA ayK)).trans ayK
    have awL:=(aqo.block _ (aA hb48)).trans hb48
    go_wp2_with fail
    refine hK.out _ _ (SX.out _ afF) ?_
    clear hK K
    try simp only[Act.put,List.setIfInBounds_toArray,List.set_cons_zero,List.set_cons_succ]
    refine aQ oh ?_
    refine aM rfl (by rfl) (fun K hK=>?_)
    go_simp
    refine(xE.out _ afF).mono ?_
    rintro E W50 ⟨rfl,aqs⟩
    have afj:=afF.trans (aqs.mono afF.size)
    have aqc:=(aqs.block _ (aA axD)).trans axD
    have aww:=(aqs.block _ (aA awL)).trans awL
    go_wp2_with fail
    refine hK.out _ _ (SX.out _ afj) ?_
    clear hK K
    try simp only[Act.put,List.setIfInBounds_toArray,List.set_cons_zero,List.set_cons_succ]
    refine aQ iH ?_
    refine aM rfl (by rfl) (fun K hK=>?_)
    go_simp
    refine(qc.out _ _ afj aqc).mono ?_
    rintro E W51 ⟨rfl,arE⟩
    have alk:=afj.trans (arE.mono afj.size)
    have ha51:=(arE.block _ (aA aqc)).trans aqc
    have aBS:=(arE.block _ (aA aww)).trans aww
    go_wp2_with fail
    refine hK.out _ _ (SX.out _ alk) ?_
    clear hK K
    try simp only[Act.put,List.setIfInBounds_toArray,List.set_cons_zero,List.set_cons_succ]
    refine aQ fT ?_
    obtain⟨W52,hW52,aA2,g52,⟨p0,p1⟩,⟨f0,f1⟩,⟨l0,l1⟩⟩:=dR aBS (.int .i64 fe) (.int .i64 fp)
    have asD:=aK alk g52 aA0 alk.size
    refine aM rfl (by rfl) (fun K hK=>?_)
    go_simp
    go_wp2_with fail
    refine hK.out _ _ (SX.out _ asD) ?_
    clear hK K
    try simp only[Act.put,List.setIfInBounds_toArray,List.set_cons_zero,List.set_cons_succ]
    refine dz iq ?_
    go_wp2_with fail
    go_meet
    exact⟨_,rfl,hide aA2,hide asD⟩
  ·obtain⟨W53,hW53,aAM,aAB,akQ⟩:=ay W0 #[.int .i64 0,.int .i64 0] 98
   clear aAM
   have aoA:=dx.size
   have zF:=dx.trans (aAB.mono dx.size)
   refine aM rfl (by rfl) (fun K hK=>?_)
   go_simp
   go_wp2_with fail
   refine hK.out _ _ (SX.out _ zF) ?_
   clear hK K
   try simp only[Act.put,List.setIfInBounds_toArray,List.set_cons_zero,List.set_cons_succ]
   refine iF apc ?_ ?_
   ·refine aM rfl (by rfl) (fun K hK=>?_)
    go_simp
    refine(HEp.out _ zF).mono ?_
    rintro E W54 ⟨rfl,awC⟩
    have zU:=zF.trans (awC.mono zF.size)
    have ajQ:=(awC.block _ (aA akQ)).trans akQ
    go_wp2_with fail
    refine hK.out _ _ (SX.out _ zU) ?_
    clear hK K
    try simp only[Act.put,List.setIfInBounds_toArray,List.set_cons_zero,List.set_cons_succ]
    refine iF ahi ?_ ?_
    ·refine aM rfl (by rfl) (fun K hK=>?_)
     go_simp
     refine(xE.out _ zU).mono ?_
     rintro E W55 ⟨rfl,av4⟩
     have ajZ:=zU.trans (av4.mono zU.size)
     have ayd:=(av4.block _ (aA ajQ)).trans ajQ
     go_wp2_with fail
     refine hK.out _ _ (SX.out _ ajZ) ?_
     clear hK K
     try simp only[Act.put,List.setIfInBounds_toArray,List.set_cons_zero,List.set_cons_succ]
     refine aQ aa6 ?_
     obtain⟨W56,hW56,aBy,axt,apB⟩:=ay W55 #[.int .i64 c.e,.int .i64 c.n,.slice ao c.l.length cap] 32
     clear aBy
     have qE:=ajZ.trans (axt.mono ajZ.size)
     have aw6:=(axt.block _ (aA ayd)).trans ayd
     refine aM rfl (by rfl) (fun K hK=>?_)
     go_simp
     go_wp2_with fail
     refine hK.out _ _ (SX.out _ qE) ?_
     clear hK K
     try simp only[Act.put,List.setIfInBounds_toArray,List.set_cons_zero,List.set_cons_succ]
     refine aQ iH ?_
     refine aM rfl (by rfl) (fun K hK=>?_)
     go_simp
     refine(qc.out _ _ qE apB).mono ?_
     rintro E W57 ⟨rfl,apO⟩
     have alC:=qE.trans (apO.mono qE.size)
     have ha57:=(apO.block _ (aA apB)).trans apB
     have aAA:=(apO.block _ (aA aw6)).trans aw6
     go_wp2_with fail
     refine hK.out _ _ (SX.out _ alC) ?_
     clear hK K
     try simp only[Act.put,List.setIfInBounds_toArray,List.set_cons_zero,List.set_cons_succ]
     refine aQ fT ?_
     obtain⟨W58,hW58,aBa,g58,⟨p0,p1⟩,⟨f0,f1⟩,⟨l0,l1⟩⟩:=dR aAA (.int .i64 fe) (.int .i64 fp)
     have asH:=aK alC g58 aoA alC.size
     refine aM rfl (by rfl) (fun K hK=>?_)
     go_simp
     go_wp2_with fail
     refine hK.out _ _ (SX.out _ asH) ?_
     clear hK K
     try simp only[Act.put,List.setIfInBounds_toArray,List.set_cons_zero,List.set_cons_succ]
     refine dz iq ?_
     go_wp2_with fail
     go_meet
     exact⟨_,rfl,hide aBa,hide asH⟩
    ·obtain⟨W59,hW59,aAF,azn,axW⟩:=ay W54 #[.int .i64 c.e,.int .i64 c.n,.slice ao c.l.length cap] 32
     clear aAF
     have afr:=zU.trans (azn.mono zU.size)
     have azd:=(azn.block _ (aA ajQ)).trans ajQ
     refine aM rfl (by rfl) (fun K hK=>?_)
     go_simp
     go_wp2_with fail
     refine hK.out _ _ (SX.out _ afr) ?_
     clear hK K
     try simp only[Act.put,List.setIfInBounds_toArray,List.set_cons_zero,List.set_cons_succ]
     refine aQ oh ?_
     refine aM rfl (by rfl) (fun K hK=>?_)
     go_simp
     refine(xE.out _ afr).mono ?_
     rintro E W60 ⟨rfl,aqh⟩
     have afH:=afr.trans (aqh.mono afr.size)
     have apz:=(aqh.block _ (aA axW)).trans axW
     have awF:=(aqh.block _ (aA azd)).trans azd
     go_wp2_with fail
     refine hK.out _ _ (SX.out _ afH) ?_
     clear hK K
     try simp only[Act.put,List.setIfInBounds_toArray,List.set_cons_zero,List.set_cons_succ]
     refine aQ iH ?_
     refine aM rfl (by rfl) (fun K hK=>?_)
     go_simp
     refine(qc.out _ _ afH apz).mono ?_
     rintro E W61 ⟨rfl,aqV⟩
     have alg:=afH.trans (aqV.mono afH.size)
     have ha61:=(aqV.block _ (aA apz)).trans apz
     have aAN:=(aqV.block _ (aA awF)).trans awF
     go_wp2_with fail
     refine hK.out _ _ (SX.out _ alg) ?_
     clear hK K
     try simp only[Act.put,List.setIfInBounds_toArray,List.set_cons_zero,List.set_cons_succ]
     refine aQ fT ?_
     obtain⟨W62,hW62,aBb,g62,⟨p0,p1⟩,⟨f0,f1⟩,⟨l0,l1⟩⟩:=dR aAN (.int .i64 fe) (.int .i64 fp)
     have ata:=aK alg g62 aoA alg.size
     refine aM rfl (by rfl) (fun K hK=>?_)
     go_simp
     go_wp2_with fail
     refine hK.out _ _ (SX.out _ ata) ?_
     clear hK K
     try simp only[Act.put,List.setIfInBounds_toArray,List.set_cons_zero,List.set_cons_succ]
     refine dz iq ?_
     go_wp2_with fail
     go_meet
     exact⟨_,rfl,hide aBb,hide ata⟩
   ·obtain⟨W63,hW63,aAL,awk,avZ⟩:=ay W53 #[.int .i64 c.e,.int .i64 c.n,.slice ao c.l.length cap] 32
    clear aAL
    have afl:=zF.trans (awk.mono zF.size)
    have awj:=(awk.block _ (aA akQ)).trans akQ
    refine aM rfl (by rfl) (fun K hK=>?_)
    go_simp
    go_wp2_with fail
    refine hK.out _ _ (SX.out _ afl) ?_
    clear hK K
    try simp only[Act.put,List.setIfInBounds_toArray,List.set_cons_zero,List.set_cons_succ]
    refine aQ ahY ?_
    refine aM rfl (by rfl) (fun K hK=>?_)
    go_simp
    refine(HEp.out _ afl).mono ?_
    rintro E W64 ⟨rfl,aoW⟩
    have afk:=afl.trans (aoW.mono afl.size)
    have awD:=(aoW.block _ (aA avZ)).trans avZ
    have avw:=(aoW.block _ (aA awj)).trans awj
    go_wp2_with fail
    refine hK.out _ _ (SX.out _ afk) ?_
    clear hK K
    try simp only[Act.put,List.setIfInBounds_toArray,List.set_cons_zero,List.set_cons_succ]
    refine aQ oh ?_
    refine aM rfl (by rfl) (fun K hK=>?_)
    go_simp
    refine(xE.out _ afk).mono ?_
    rintro E W65 ⟨rfl,aq0⟩
    have afu:=afk.trans (aq0.mono afk.size)
    have arh:=(aq0.block _ (aA awD)).trans awD
    have ayO:=(aq0.block _ (aA avw)).trans avw
    go_wp2_with fail
    refine hK.out _ _ (SX.out _ afu) ?_
    clear hK K
    try simp only[Act.put,List.setIfInBounds_toArray,List.set_cons_zero,List.set_cons_succ]
    refine aQ iH ?_
    refine aM rfl (by rfl) (fun K hK=>?_)
    go_simp
    refine(qc.out _ _ afu arh).mono ?_
    rintro E W66 ⟨rfl,apF⟩
    have akl:=afu.trans (apF.mono afu.size)
    have ha66:=(apF.block _ (aA arh)).trans arh
    have aBQ:=(apF.block _ (aA ayO)).trans ayO
    go_wp2_with fail
    refine hK.out _ _ (SX.out _ akl) ?_
    clear hK K
    try simp only[Act.put,List.setIfInBounds_toArray,List.set_cons_zero,List.set_cons_succ]
    refine aQ fT ?_
    obtain⟨W67,hW67,aAw,g67,⟨p0,p1⟩,⟨f0,f1⟩,⟨l0,l1⟩⟩:=dR aBQ (.int .i64 fe) (.int .i64 fp)
    have as8:=aK akl g67 aoA akl.size
    refine aM rfl (by rfl) (fun K hK=>?_)
    go_simp
    go_wp2_with fail
    refine hK.out _ _ (SX.out _ as8) ?_
    clear hK K
    try simp only[Act.put,List.setIfInBounds_toArray,List.set_cons_zero,List.set_cons_succ]
    refine dz iq ?_
    go_wp2_with fail
    go_meet
    exact⟨_,rfl,hide aAw,hide as8⟩
 case rest=>
  obtain⟨R,rfl,hR,bR⟩:=hcut
  obtain⟨w6,uz⟩:∃x,wc=x:=⟨_,rfl⟩
  rw[uz]at hR bR⊢
  have r0:=ai hR.out 0 rfl
  have r1:=ai hR.out 1 rfl
  simp only[List.getElem_toArray,List.getElem_cons_zero,List.getElem_cons_succ]at r0 r1
  have q1:=Tryz.aq2 fe fp 0 0
  have q2:=Tryz.acE .neq
  have B06:=hide (nJ.out.trans (bR.out.mono nJ.out.size))
  obtain⟨x0,x1,x2⟩:=SX.out _ bR.out
  clear uz HEp xE qc SX
  by_cases hf0:fe=0
  ·have hp0:=HAT.out hf0
   subst hf0
   subst hp0
   have e1:Sto.apl s c.c=(0,⟨s.r,s.l++[c.c]⟩):=by rw[HA1.out,if_neg (by simp)]
   have E1:=hide e1
   rw[e1]at HAP
   have HAD:=hide (apU ps p q F w6 s c (uG.out.below B06.out) (HI.out.1.below B06.out) HAP.out HI.out.2.2.2.2.1 HI.out.2.2.2.2.2)
   unfold cZ at HAD
   rw[nz.out]at HAD
   clear e1
   go_wp2_with fail
   refine HAD.out.mono ?_
   rintro E w7 ⟨⟨uu,rfl⟩,SS⟩
   have FIN:=hide (kG.pre B06.out SS)
   clear SS HAD
   go_wp2
   go_ret
   rw[E1.out]
   exact⟨rfl,FIN.out⟩
  ·have e1:Sto.apl s c.c=(fe,s):=by rw[HA1.out,if_pos hf0]
   have E1:=hide e1
   have hne:(fe==0)=false:=by simpa using hf0
   clear e1
   go_wp2
   go_ret
   rw[E1.out]
   exact⟨rfl,kG.same uG.out B06.out⟩
end Go.Proofs.YtpifdeoepppadaaGreatDoor
