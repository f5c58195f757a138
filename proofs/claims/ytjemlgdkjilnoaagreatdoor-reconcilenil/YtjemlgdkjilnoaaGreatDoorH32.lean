/- Texts of one layer, one behind the other. -/
import Derived.Test.YtjemlgdkjilnoaaGreatDoorH16
import Derived.Test.YtjemlgdkjilnoaaGreatDoorH8
import Derived.Test.YtjemlgdkjilnoaaGreatDoorH4
import Derived.Test.YtjemlgdkjilnoaaGreatDoorH2
set_option maxRecDepth 100000
set_option maxHeartbeats 8000000
namespace Go.Proofs.YtjemlgdkjilnoaaGreatDoor
open Go.RowKit
set_option linter.unusedVariables false
theorem acY {n:Nat}(h:n≤433):cnt n≤7:=by
 unfold cnt
 omega
theorem aky {p q N:Nat}{F1:Nat→Prop}{w w':World}{d:Dm.Ds}{l l':List Cm.Cv}{bk:Bool}{vc ve qQ rE:Value}{rs rs':List Cw}(h1:Pk q F1 w d)(hv:zw p q w l bk vc ve rs)
  (hB:w'.heap[p]? =some (.cells #[.pointer (some ⟨q,0,none⟩),.bool bk,qQ,rE] 157 (0,0))) (hL:Lw 0 w' l' qQ rE rs') (ho:Out (fun g=>g=p∨LB vc ve rs g) w w') (hs:∀g,LB qQ rE rs' g→LB vc ve rs g∨N≤g) (hN:N≤w.heap.size):
  ∃F',WW p q F' w' ⟨d,l',bk⟩∧Out (fun g=>F1 g∨g=p∨LB vc ve rs g) w w'∧∀g,F' g→(F1 g∨g=p∨LB vc ve rs g)∨N≤g:=by
 have h2:Wk p q (fun g=>g=p∨LB vc ve rs g) w l bk:=⟨vc,ve,rs,hv,rfl⟩
 refine⟨_,⟨F1,_,h1.out ho fun g hg e=>uW h2 h1 g e hg,⟨qQ,rE,rs',⟨hB,hL⟩,rfl⟩,rfl⟩,ho.mono fun g hg=>.inl (.inr hg),?_⟩
 rintro g (e|e|e)
 ·exact .inl (.inl e)
 ·exact .inl (.inr (.inl e))
 ·rcases hs g e with e|e
  ·exact .inl (.inr (.inr e))
  ·exact .inr e
theorem agw (p q:Nat)(F:Nat→Prop)(w:World)(s:Wl.Ws)(c:Cw)(h:WW p q F w s)(hs:aea s)(hi:df w c.v c.l)(hf:iR c.l)(h64:In64 c.e∧In64 c.n)(hlo:c.l.length*40≤140737488351232)(jQ:0<c.l.length→∀b,c.v.ownBlock=some b→¬F b):
  Calls Tryz.prog 112 #[.pointer (some ⟨p,0,none⟩),bT c.e c.n c.v] w fun E w'=>E=.returned (.int .i64 (Wl.mF s c.c).1)∧dx p q F w w' (Wl.mF s c.c).2:=by
 obtain⟨ao,cap,hcv,_,_⟩:=hi.shape
 obtain⟨w1,hw1,aW,aj,hB0⟩:=ak w #[.int .i64 c.e,.int .i64 c.n,c.v] 65
 have c0:w1.cell? ⟨w.heap.size,0,none⟩=some (.int .i64 c.e):=ai hB0 0 rfl
 have c1:w1.cell? ⟨w.heap.size,1,none⟩=some (.int .i64 c.n):=ai hB0 1 rfl
 have c2:w1.cell? ⟨w.heap.size,2,none⟩=some c.v:=ai hB0 2 rfl
 have hW1:=h.below aj
 have HR:=hide (qE p q F w1 s hW1)
 have hb:=hs.big
 have HLT:=hide h.lt
 have HCF:=hide jQ
 clear jQ
 unfold bT
 rw[hcv]at hw1 c2⊢
 cases ha:Wl.ask s with
 |true=>
  have e1:Wl.mF s c.c=(6,Wl.brk s):=by unfold Wl.mF;rw[ha];rfl
  rw[e1]
  have B1:=hide aj
  clear h hs hi hf h64 hlo hB0 hcv hW1 e1 hb
  go_enter Tryz.func112,Tryz.ntmps112
  go_wp2_with fail
  refine HR.out.mono ?_
  rintro E w2 (⟨_,rfl,J⟩|⟨h0,_⟩)
  ·have J:=hide (dx.pre B1.out J)
   go_wp2
   go_ret
   exact⟨rfl,J.out⟩
  ·rw[ha]at h0
   cases h0
 |false=>
  have HFR:=hide (aiZ c.e c.n c.v c.l w1 (hi.below aj) hf (by omega))
  unfold bT at HFR
  rw[hcv]at HFR
  obtain⟨ch,hch⟩:∃x,Cm.chk c.e c.n c.l=x:=⟨_,rfl⟩
  rw[hch]at HFR
  have KC:=hide hch
  have qf:=hide hcv
  have IOX:=hide hi
  have WA:=hide hW1
  have FO:=hide (show iR c.l∧(In64 c.e∧In64 c.n)∧c.l.length*40≤140737488351232 from⟨hf,h64,hlo⟩)
  have HB:=hide hB0
  have B1:=hide aj
  have BG:=hide hb
  have HS:=hide hs
  clear h hs hi hf h64 hlo hW1 hch hcv hb
  go_enter Tryz.func112,Tryz.ntmps112
  go_wp2_with fail
  refine HR.out.mono ?_
  rintro E w2 (⟨h0,_⟩|⟨_,rfl,rfl⟩)
  ·rw[ha]at h0
   cases h0
  clear HR
  go_wp2_with fail
  refine HFR.out.mono ?_
  rintro E w2 ⟨vb,rfl,own,au⟩
  have W2:=WA.out.below au
  have b02:=B1.out.trans (au.mono B1.out.size)
  have di:=au.size
  have hB2:=(au.block w.heap.size (by omega)).trans HB.out
  have d0:w2.cell? ⟨w.heap.size,0,none⟩=some (.int .i64 c.e):=ai hB2 0 rfl
  have d1:w2.cell? ⟨w.heap.size,1,none⟩=some (.int .i64 c.n):=ai hB2 1 rfl
  have d2:w2.cell? ⟨w.heap.size,2,none⟩=some c.v:=ai hB2 2 rfl
  rw[qf.out]at d2
  obtain⟨ab,cb,hvb,_,_⟩:=own.is.shape
  have OB:=hide own
  have HB2:=hide hB2
  have yV:=hide b02
  have HW2:=hide W2
  clear WA own au HFR hB2 c0 c1 c2
  by_cases hc0:ch=0
  ·subst hc0
   have hfr:frd c.e c.n c.l=Wl.fr c.c:=by unfold frd;rw[if_pos KC.out];rfl
   have hfl:(frd c.e c.n c.l).length≤433:=by rw[hfr];exact Wl.lG KC.out
   obtain⟨F1,G1,h1,h2,hF⟩:=HW2.out
   obtain⟨vc,ve,rs,hv,hG⟩:=h2
   have hgl:=eG hv.log.good
   have p0:w2.cell? ⟨p,0,none⟩=some (.pointer (some ⟨q,0,none⟩)):=ai hv.blk 0 rfl
   obtain⟨ans,dO⟩:∃x,tk s.l c.c=x:=⟨_,rfl⟩
   have hpw:p<w2.heap.size:=ax hv.blk
   have TK:Hid (∀W,Below w2.heap.size w2 W→Calls Tryz.prog 156 #[.pointer (some ⟨p,2,none⟩),.agg #[.int .i64 c.e,.int .i64 c.n,.slice ao c.l.length cap]] W fun E w'=>E=.returned (.bool ans)∧Below w2.heap.size w2 w'):=hide fun W hbW=>by
    have:=ala p 2 W vc rs (ai ((hbW.block p hpw).trans hv.blk) 2 rfl) (hv.log.r.row.row.below hbW) (by rw[hv.log.len];exact hgl) c ((IOX.out.below yV.out).below hbW) FO.out.2.1.1 FO.out.2.1.2 FO.out.1 FO.out.2.2
    unfold bT at this
    rw[qf.out,hv.log.is,dO]at this
    refine this.mono ?_
    rintro E w' ⟨rfl,hb'⟩
    exact⟨rfl,hbW.trans (hb'.mono hbW.size)⟩
   have HA:=hide dO
   have HV:=hide hv
   have H1:=hide h1
   have HFF:=hide hF
   have HGG:=hide hG
   subst hvb
   clear dO hv h1 hF hG
   go_wp2_with fail
   go_region_held3 (fun w'=>w'.cell? ⟨w.heap.size,0,none⟩=some (.int .i64 c.e)∧w'.cell? ⟨w.heap.size,1,none⟩=some (.int .i64 c.n)∧w'.cell? ⟨w.heap.size,2,none⟩=some (.slice ao c.l.length cap)∧w'.cell? ⟨p,0,none⟩=some (.pointer (some ⟨q,0,none⟩))) (first|exact⟨d0,d1,d2,p0⟩|exact⟨e0,e1,e2,p1⟩|go_keep)
    (first
    |(go_at_call 156;refine(TK.out _ ((Below.refl _ _).drew)).mono ?_;rintro E w3 ⟨rfl,aF⟩;have e0:=(aF.cell (p:=⟨w.heap.size,0,none⟩) (show w.heap.size<w2.heap.size by omega)).trans d0;have e1:=(aF.cell (p:=⟨w.heap.size,1,none⟩) (show w.heap.size<w2.heap.size by omega)).trans d1;have e2:=(aF.cell (p:=⟨w.heap.size,2,none⟩) (show w.heap.size<w2.heap.size by omega)).trans d2;have p1:=(aF.cell (p:=⟨p,0,none⟩) hpw).trans p0))
   have fo:=yV.out.trans (aF.mono yV.out.size)
   have bP:=aF.size
   have HV3:Hid (zw p q w3 s.l s.bk vc ve rs):=hide ⟨(aF.block p hpw).trans HV.out.blk,HV.out.log.below aF⟩
   have K3:=hide (H1.out.below aF)
   have O3:=hide (OB.out.below aF)
   have HB3:=hide ((aF.block w.heap.size (by omega)).trans HB2.out)
   clear HV H1 OB HB2 TK d0 d1 d2 p0
   cases ans with
   |false=>
    have e4:Wl.mF s c.c=(15,s):=by
     unfold Wl.mF
     rw[ha,if_neg (by decide),if_neg (by intro hx;exact hx KC.out),if_pos ?_]
     have:=HA.out
     unfold tk at this
     rw[decide_eq_false_iff_not]at this
     by_cases hx:c.c.n-1≠s.l.length∨c.c.e<Cm.lastE 0 s.l
     ·exact hx
     ·exact absurd ⟨KC.out,hx⟩ this
    have E4:=hide e4
    have W3:=hide (HW2.out.below aF)
    have B3:=hide fo
    clear e4 fo HV3 K3 O3
    go_wp2
    go_ret
    exact⟨by rw[E4.out];rfl,by rw[E4.out];exact⟨F,W3.out,Out.of_below B3.out,fun g hg=>.inl hg⟩⟩
   |true=>
    have hgood:Cm.Good 0 0 (s.l++[c.c]):=(arQ HV3.out.log.good c.c).1 HA.out
    have htk:=HA.out
    unfold tk at htk
    rw[decide_eq_true_iff]at htk
    have WR:=hide (oF q F1 w3 s.d 0 _ (frd c.e c.n c.l) K3.out O3.out.is (fun _ b hb hf=>by
     have h1:=(O3.out.block b hb).1
     have h2:=HLT.out b (by rw[HFF.out];exact .inl hf)
     omega) (by omega) (by have h1:=BG.out.1.2.1;have h2:=HS.out.1.2.1;have h3:=acY hfl;omega) BG.out.2 (by have h2:=HS.out.1.2.2;have h3:=acY hfl;omega))
    rw[hfr]at WR
    have e01:=acj (st:=s.d) (Wl.fr c.c)
    have e4:Wl.mF s c.c=if (Dm.write s.d 0 (Wl.fr c.c)).1≠0 then((Dm.write s.d 0 (Wl.fr c.c)).1,⟨(Dm.write s.d 0 (Wl.fr c.c)).2,s.l,true⟩)else(0,⟨(Dm.write s.d 0 (Wl.fr c.c)).2,s.l++[c.c],false⟩):=by
     unfold Wl.mF
     rw[ha,if_neg (by decide),if_neg (by intro hx;exact hx KC.out),if_neg htk.2]
    generalize hwr:Dm.write s.d 0 (Wl.fr c.c)=y at*
    obtain⟨x,d'⟩:=y
    simp only at e01 e4 WR
    have E4:=hide e4
    have GD:=hide hgood
    have W3:=hide (HW2.out.below aF)
    have B3:=hide fo
    have SZ3:w1.heap.size≤w3.heap.size:=by omega
    rw[hfr]at O3 hfl
    clear e4 hgood htk hwr fo aF hfr
    go_wp2_with fail
    refine WR.out.mono ?_
    rintro E w4 ⟨rfl,PS⟩
    obtain⟨F2,k1,k2,k3,k4⟩:=WW.disk (s:=⟨s.d,s.l,s.bk⟩) K3.out ⟨vc,ve,rs,HV3.out,rfl⟩ PS
    have HE:=hide (wH p q _ w4 ⟨d',s.l,s.bk⟩ x ⟨F2,_,k1,k2,rfl⟩)
    simp only at HE
    have T4:=hide (show Out F w3 w4∧∀g,(F2 g∨(g=p∨LB vc ve rs g))→F g∨w3.heap.size≤g from by
     refine⟨k3.mono fun g hg=>.inl (by rw[HFF.out];exact .inl hg),?_⟩
     rintro g (hg|hg)
     ·rcases k4 g hg with e|e
      ·exact .inl (by rw[HFF.out];exact .inl e)
      ·exact .inr e
     ·exact .inl (by rw[HFF.out,HGG.out];exact .inr hg))
    clear PS k1 k2 k3 k4 WR K3 HV3
    go_wp2_with fail
    refine HE.out.mono ?_
    rintro E w5 ⟨rfl,J⟩
    have J5:=hide (dx.trans T4.out.1 T4.out.2 J)
    clear HE J
    rcases e01 with rfl|rfl
    ·obtain⟨F5,⟨Fa,Ga,g1,g2,hF5⟩,o5,s5⟩:=J5.out
     obtain⟨vc5,ve5,rs5,hv5,hG5⟩:=g2
     have sH:=o5.size
     have hnF:¬F w.heap.size:=fun hf=>by have:=HLT.out _ hf;omega
     have jL:=(o5.block w.heap.size (by omega) hnF).trans HB3.out
     have x0:w5.cell? ⟨w.heap.size,0,none⟩=some (.int .i64 c.e):=ai jL 0 rfl
     have x1:w5.cell? ⟨w.heap.size,1,none⟩=some (.int .i64 c.n):=ai jL 1 rfl
     have x2:w5.cell? ⟨w.heap.size,2,none⟩=some c.v:=ai jL 2 rfl
     rw[qf.out]at x2
     have i5:df w5 c.v c.l:=(IOX.out.below B3.out).out o5 HCF.out
     have HCP:Hid (Calls Tryz.prog 50 #[.agg #[.int .i64 c.e,.int .i64 c.n,.slice ao c.l.length cap]] w5.drew fun E w6=>∃v',E=.returned (.agg #[.int .i64 c.e,.int .i64 c.n,v'])∧bz 92 0 w6 v' c.l∧Below w5.heap.size w5 w6∧(∀b,v'.ownBlock=some b→w5.heap.size≤b)∧w6.cell? ⟨w.heap.size,0,none⟩=some (.int .i64 c.e)∧w6.cell? ⟨w.heap.size,1,none⟩=some (.int .i64 c.n)∧w6.cell? ⟨w.heap.size,2,none⟩=some (.slice ao c.l.length cap)∧∃a n k,v'=.slice a n k):=hide (by
      have:=oH c.e c.n c.v c.l w5.drew (i5.drewN 1) FO.out.2.2
      unfold bT at this
      rw[qf.out]at this
      refine this.mono ?_
      rintro E w6 ⟨v',rfl,fZ,eZ⟩
      have vR:Below w5.heap.size w5 w6:=(Below.refl w5.heap.size w5).drew.trans eZ
      obtain⟨a,k,hv',_,_⟩:=fZ.is.shape
      exact⟨v',rfl,fZ.bB (Nat.zero_le _),vR,fun b hb=>(bz.block fZ b hb).1,(vR.cell (p:=⟨w.heap.size,0,none⟩) (show w.heap.size<w5.heap.size by omega)).trans x0,(vR.cell (p:=⟨w.heap.size,1,none⟩) (show w.heap.size<w5.heap.size by omega)).trans x1,(vR.cell (p:=⟨w.heap.size,2,none⟩) (show w.heap.size<w5.heap.size by omega)).trans x2,a,_,k,hv'⟩)
     have hp5:p<w5.heap.size:=ax hv5.blk
     have HGR:Hid (∀w6 v',Below w5.heap.size w5 w6→bz 92 0 w6 v' c.l→(∀b,v'.ownBlock=some b→w5.heap.size≤b)→Calls Tryz.prog 158 #[.pointer (some ⟨p,2,none⟩),.agg #[.int .i64 c.e,.int .i64 c.n,v'],.int .i64 (Wl.fr c.c).length] w6 fun E w7=>E=.returned (.tuple #[])∧dx p q F w w7 ⟨d',s.l++[c.c],false⟩∧w7.cell? ⟨w.heap.size,0,none⟩=some (.int .i64 c.e)∧w7.cell? ⟨w.heap.size,1,none⟩=some (.int .i64 c.n)∧w7.cell? ⟨w.heap.size,2,none⟩=some (.slice ao c.l.length cap)):=hide fun w6 v' vR fZ hge=>by
      have hB6:=(vR.block p hp5).trans hv5.blk
      have L6:=hv5.log.below vR
      have:=ak0 0 p 2 157 _ w6 s.l vc5 ve5 rs5 ⟨c.e,c.n,v',c.l⟩ (Wl.fr c.c).length hB6 rfl rfl (by decide) (by decide) (by decide) L6 (Nat.zero_le _) fZ GD.out rfl
      unfold bT at this
      refine this.mono ?_
      rintro E w7 ⟨rfl,vc7,ve7,hB7,L7,o7,s7⟩
      have lV:=vR.size
      have K6:=g1.below vR
      obtain⟨F7,q1,q2,q3⟩:=aky (N:=w5.heap.size) (l':=s.l++[c.c]) (qQ:=vc7) (rE:=ve7) (rs':=rs5++[(⟨c.e,c.n,v',c.l⟩:Cw)]) (w:=w6) K6 ⟨hB6,L6⟩ (by rw[hB7];rfl) L7 o7 (w':=w7) (fun g hg=>by
       rcases s7 g hg with e|e|e
       ·exact .inl e
       ·exact .inr (by omega)
       ·exact .inr (hge g e)) lV
      have s6:∀g,(Fa g∨g=p∨LB vc5 ve5 rs5 g)→F5 g:=fun g hg=>by
       rw[hF5,hG5]
       exact hg
      have o57:Out F5 w5 w7:=(Out.of_below (F:=F5) vR).trans q2 fun g hg=>.inl (s6 g hg)
      have o37:Out F w3 w7:=o5.trans o57 s5
      have f7:∀g,F7 g→F g∨w3.heap.size≤g:=fun g hg=>by
       rcases q3 g hg with e|e
       ·exact s5 g (s6 g e)
       ·exact .inr (by omega)
      have aow:=(o37.block w.heap.size (by omega) hnF).trans HB3.out
      refine⟨rfl,dx.pre B3.out ⟨F7,q1,o37,f7⟩,ai aow 0 rfl,ai aow 1 rfl,?_⟩
      rw[←qf.out]
      exact ai aow 2 rfl
     clear hv5 jL i5
     go_wp2_with fail
     go_region_held3 (fun w'=>w'.cell? ⟨w.heap.size,0,none⟩=some (.int .i64 c.e)∧w'.cell? ⟨w.heap.size,1,none⟩=some (.int .i64 c.n)∧w'.cell? ⟨w.heap.size,2,none⟩=some (.slice ao c.l.length cap)) (first|exact⟨x0,x1,x2⟩|exact⟨y0,y1,y2⟩|exact⟨z0,z1,z2⟩|go_keep)
      (first
      |(go_at_call 50;refine HCP.out.mono ?_;rintro E w6 ⟨v6,rfl,fZ,vR,hge,y0,y1,y2,a6,n6,k6,rfl⟩)
      |(go_at_call 158;refine(HGR.out _ _ vR fZ hge).mono ?_;rintro E w7 ⟨rfl,J7,z0,z1,z2⟩;have J7:=hide J7))
     all_goals
      have A7:Hid (Wl.mF s c.c=(0,⟨d',s.l++[c.c],false⟩)):=hide (by rw[E4.out];simp)
      clear E4
      go_wp2
      go_ret
      exact⟨by rw[A7.out];rfl,by rw[A7.out];exact J7.out⟩
    ·have A6:Hid (Wl.mF s c.c=(6,⟨d',s.l,true⟩)):=hide (by rw[E4.out];simp)
     clear E4
     go_wp2
     go_ret
     exact⟨by rw[A6.out];rfl,by rw[A6.out];exact dx.pre B3.out J5.out⟩
  ·have hne:(ch !=0)=true:=by simp[hc0]
   have e1:Wl.mF s c.c=(ch,s):=by
    unfold Wl.mF
    rw[ha,if_neg (by decide),if_pos (by show Cm.chk c.e c.n c.l≠0;rw[KC.out];exact hc0)]
    show(Cm.chk c.e c.n c.l,s)=_
    rw[KC.out]
   have E1:=hide e1
   clear e1
   subst hvb
   go_wp2
   go_ret
   exact⟨by rw[E1.out];rfl,by rw[E1.out];exact⟨F,HW2.out,Out.of_below yV.out,fun g hg=>.inl hg⟩⟩
theorem WW.c0 {p q:Nat}{F:Nat→Prop}{w:World}{s:Wl.Ws}(h:WW p q F w s):w.cell? ⟨p,0,none⟩=some (.pointer (some ⟨q,0,none⟩)):=by
 obtain⟨F1,G1,h1,⟨vc,ve,rs,hv,rfl⟩,rfl⟩:=h
 exact ai hv.blk 0 rfl
theorem dx.c0 {p q:Nat}{F:Nat→Prop}{w w':World}{s:Wl.Ws}(h:dx p q F w w' s):w'.cell? ⟨p,0,none⟩=some (.pointer (some ⟨q,0,none⟩)):=by
 obtain⟨F',h,_,_⟩:=h
 exact h.c0
theorem ajl (p q:Nat)(F:Nat→Prop)(w W:World)(s:Wl.Ws)(e:Int)(h:dx p q F w W s):
  Calls Tryz.prog 157 #[.pointer (some ⟨p,0,none⟩),.int .i64 e] W fun E w'=>E=.returned (.int .i64 e)∧dx p q F w w' ⟨s.d,s.l,e==6⟩:=by
 obtain⟨F1,h1,h2,h3⟩:=h
 refine(wH p q F1 W s e h1).mono ?_
 rintro E w' ⟨rfl,k⟩
 exact⟨rfl,dx.trans h2 h3 k⟩
theorem ahY (p q:Nat)(F:Nat→Prop)(w:World)(s:Wl.Ws)(k:Nat)(h:WW p q F w s)(hk:k≤s.l.length):
  Calls Tryz.prog 230 #[.pointer (some ⟨p,2,none⟩),.int .i64 k] w fun E w'=>E=.returned (.tuple #[])∧dx p q F w w' ⟨s.d,s.l.take k,s.bk⟩:=by
 obtain⟨F1,G1,h1,⟨vc,ve,rs,hv,rfl⟩,rfl⟩:=h
 refine(akK 0 p 2 157 _ w s.l vc ve rs k hv.blk rfl rfl (by decide) (by decide) (by decide) hv.log hk).mono ?_
 rintro E w' ⟨rfl,qQ,rE,hB,hL,hs,ho⟩
 refine⟨rfl,aky (N:=w.heap.size) h1 hv (by rw[hB];rfl) hL ho (fun g hg=>.inl (hs g hg)) (Nat.le_refl _)⟩
theorem apv (p q:Nat)(F:Nat→Prop)(w:World)(s:Wl.Ws)(tt:Int)(h:WW p q F w s)(hs:aea s)(hin:Wl.ask s=false→(Wl.aR s.l).length≤(Wl.hld s.d).length):
  Calls Tryz.prog 212 #[.pointer (some ⟨p,0,none⟩),.int .i64 tt] w fun E w'=>E=.returned (.int .i64 (Wl.iQ s tt).1)∧dx p q F w w' (Wl.iQ s tt).2:=by
 have HR:=hide (qE p q F w s h)
 have HH:=hide h
 have hb:=hs.big
 cases ha:Wl.ask s with
 |true=>
  have e1:Wl.iQ s tt=(6,Wl.brk s):=by unfold Wl.iQ;rw[ha];rfl
  rw[e1]
  clear h hs hin e1 hb
  go_enter Tryz.func212,Tryz.ntmps212
  go_wp2_with fail
  refine HR.out.mono ?_
  rintro E w1 (⟨_,rfl,J⟩|⟨h0,_⟩)
  ·have J:=hide J
   go_wp2
   go_ret
   exact⟨rfl,J.out⟩
  ·rw[ha]at h0
   cases h0
 |false=>
  have hle:=hin ha
  have hgl:=eG h.good
  have aiU:Hid (Calls Tryz.prog 102 #[.pointer (some ⟨p,2,none⟩)] w fun E w'=>E=.returned (.int .i64 s.l.length)∧w=w'):=hide (by
   obtain⟨F1,G1,h1,⟨vc,ve,rs,hv,rfl⟩,rfl⟩:=h
   have:=jB p 2 w vc rs (ai hv.blk 2 rfl) hv.log.r.row.row
   rw[hv.log.len]at this
   exact this)
  by_cases hneg:tt<0
  ·have e1:Wl.iQ s tt=(2,s):=by unfold Wl.iQ;rw[ha,if_neg (by decide),if_pos (.inl hneg)]
   rw[e1]
   clear h hs hin e1 hb hle aiU
   go_enter Tryz.func212,Tryz.ntmps212
   go_wp2_with fail
   refine HR.out.mono ?_
   rintro E w1 (⟨h0,_⟩|⟨_,rfl,rfl⟩)
   ·rw[ha]at h0
    cases h0
   go_wp2
   go_ret
   exact⟨rfl,dx.same HH.out (Below.refl _ _)⟩
  ·by_cases hbig:(s.l.length:Int)<tt
   ·have e1:Wl.iQ s tt=(2,s):=by unfold Wl.iQ;rw[ha,if_neg (by decide),if_pos (.inr hbig)]
    rw[e1]
    clear h hs hin e1 hb hle
    go_enter Tryz.func212,Tryz.ntmps212
    go_wp2_with fail
    refine HR.out.mono ?_
    rintro E w1 (⟨h0,_⟩|⟨_,rfl,rfl⟩)
    ·rw[ha]at h0
     cases h0
    clear HR
    go_wp2_with fail
    refine aiU.out.mono ?_
    rintro E w1 ⟨rfl,rfl⟩
    go_wp2
    go_ret
    exact⟨rfl,dx.same HH.out (Below.refl _ _)⟩
   ·obtain⟨k,rfl⟩:∃k:Nat,tt=k:=⟨tt.toNat,by omega⟩
    have hk:k≤s.l.length:=by omega
    have as2:(Wl.aR (s.l.take k)).length≤(Wl.hld s.d).length:=Nat.le_trans (agk _ _) hle
    have hon:s.d.on=true:=by
     unfold Wl.ask at ha
     revert ha
     cases s.bk<;>cases s.d.on<;>simp
    have e01:=awM hon as2
    have e1:Wl.iQ s k=if (Dm.bG s.d 0 (Wl.aR (s.l.take k)).length).1≠0 then((Dm.bG s.d 0 (Wl.aR (s.l.take k)).length).1,⟨(Dm.bG s.d 0 (Wl.aR (s.l.take k)).length).2,s.l,true⟩)else(0,⟨(Dm.bG s.d 0 (Wl.aR (s.l.take k)).length).2,s.l.take k,false⟩):=by
     unfold Wl.iQ
     rw[ha,if_neg (by decide),if_neg (by omega)]
     rfl
    have HP:Hid (∀W,Below w.heap.size w W→Calls Tryz.prog 166 #[.pointer (some ⟨p,2,none⟩),.int .i64 k] W fun E w'=>E=.returned (.int .i64 (Wl.aR (s.l.take k)).length)∧W=w'):=hide fun W hW=>by
     obtain⟨F1,G1,h1,⟨vc,ve,rs,hv,rfl⟩,rfl⟩:=h
     exact uA p 2 W ve s.l k hk hgl (ai ((hW.block p (ax hv.blk)).trans hv.blk) 3 rfl) (hv.log.r.en.is.below hW)
    have HC:Hid (∀W,Below w.heap.size w W→Calls Tryz.prog 127 #[.pointer (some ⟨q,0,none⟩),.int .i64 0,.int .i64 (Wl.aR (s.l.take k)).length] W fun E w'=>E=.returned (.int .i64 (Dm.bG s.d 0 (Wl.aR (s.l.take k)).length).1)∧dx p q F w w' ⟨(Dm.bG s.d 0 (Wl.aR (s.l.take k)).length).2,s.l,s.bk⟩∧w'.cell? ⟨p,0,none⟩=some (.pointer (some ⟨q,0,none⟩))):=hide fun W hW=>by
     have hWW:=h.below hW
     obtain⟨F1,G1,h1,h2,hF⟩:=id hWW
     refine(ahA q F1 W s.d 0 _ h1 (fun f=>Nat.le_trans (hb.1.1 f) (by decide)) (Nat.le_trans hb.1.2.1 (by decide)) hb.2 (Nat.lt_of_le_of_lt hb.1.2.2 (by decide))).mono ?_
     rintro E w' ⟨rfl,PS⟩
     have ST:dx p q F W w' ⟨(Dm.bG s.d 0 (Wl.aR (s.l.take k)).length).2,s.l,s.bk⟩:=by
      obtain⟨F2,k1,k2,k3,k4⟩:=WW.disk h1 h2 PS
      rw[hF]
      refine⟨_,⟨F2,G1,k1,k2,rfl⟩,k3.mono fun g hg=>.inl (.inl hg),?_⟩
      rintro g (e|e)
      ·rcases k4 g e with e|e
       ·exact .inl (.inl e)
       ·exact .inr e
      ·exact .inl (.inr e)
     have:=dx.pre hW ST
     exact⟨rfl,this,this.c0⟩
    have HHE:Hid (∀W x st,dx p q F w W ⟨st,s.l,s.bk⟩→Calls Tryz.prog 157 #[.pointer (some ⟨p,0,none⟩),.int .i64 x] W fun E w'=>E=.returned (.int .i64 x)∧dx p q F w w' ⟨st,s.l,x==6⟩∧w'.cell? ⟨p,0,none⟩=some (.pointer (some ⟨q,0,none⟩))):=hide fun W x st hW=>by
     refine(ajl p q F w W _ x hW).mono ?_
     rintro E w' ⟨rfl,k⟩
     exact⟨rfl,k,k.c0⟩
    have HT:Hid (∀W st,dx p q F w W ⟨st,s.l,false⟩→Calls Tryz.prog 230 #[.pointer (some ⟨p,2,none⟩),.int .i64 k] W fun E w'=>E=.returned (.tuple #[])∧dx p q F w w' ⟨st,s.l.take k,false⟩):=hide fun W st hW=>by
     obtain⟨F1,h1,h2,h3⟩:=hW
     refine(ahY p q F1 W _ k h1 hk).mono ?_
     rintro E w' ⟨rfl,kk⟩
     exact⟨rfl,dx.trans h2 h3 kk⟩
    have p0:=h.c0
    generalize (Dm.bG s.d 0 (Wl.aR (s.l.take k)).length)=y at*
    obtain⟨x,d'⟩:=y
    simp only at*
    have E1:=hide e1
    have hk':¬((s.l.length:Int)<(k:Int)):=by omega
    clear h hs hin hb hle e1 as2 hon hgl
    go_enter Tryz.func212,Tryz.ntmps212
    go_wp2_with fail
    refine HR.out.mono ?_
    rintro E w1 (⟨h0,_⟩|⟨_,rfl,rfl⟩)
    ·rw[ha]at h0
     cases h0
    clear HR
    go_wp2_with fail
    refine aiU.out.mono ?_
    rintro E w1 ⟨rfl,rfl⟩
    clear aiU
    go_wp2_with fail
    go_region_held3 (fun w'=>w'.cell? ⟨p,0,none⟩=some (.pointer (some ⟨q,0,none⟩))) (first|exact p0|exact p1|exact p2|go_keep)
     (first
     |(go_at_call 166;refine(HP.out _ ((Below.refl _ _).drew)).mono ?_;rintro E w2 ⟨rfl,rfl⟩)
     |(go_at_call 127;refine(HC.out _ ((Below.refl _ _).drew)).mono ?_;rintro E w3 ⟨rfl,J3,p1⟩;have J3:=hide J3)
     |(go_at_call 157;refine(HHE.out _ _ _ J3.out).mono ?_;rintro E w4 ⟨rfl,J4,p2⟩;have J4:=hide J4))
    all_goals
     clear HP HC HHE
     rcases e01 with rfl|rfl
     ·have A7:Hid (Wl.iQ s k=(0,⟨d',s.l.take k,false⟩)):=hide (by rw[E1.out];simp)
      have HT2:=hide (HT.out _ _ J4.out)
      clear E1 HT J3
      go_wp2_with fail
      refine HT2.out.mono ?_
      rintro E w5 ⟨rfl,J5⟩
      have J5:=hide J5
      go_wp2
      go_ret
      exact⟨by rw[A7.out];rfl,by rw[A7.out];exact J5.out⟩
     ·have A7:Hid (Wl.iQ s k=(6,⟨d',s.l,true⟩)):=hide (by rw[E1.out];simp)
      clear E1 HT J3
      go_wp2
      go_ret
      exact⟨by rw[A7.out];rfl,by rw[A7.out];exact J4.out⟩
end Go.Proofs.YtjemlgdkjilnoaaGreatDoor
