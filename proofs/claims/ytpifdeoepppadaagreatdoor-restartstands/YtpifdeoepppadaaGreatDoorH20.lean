/- Texts of one layer, one behind the other. -/
import Derived.Test.YtpifdeoepppadaaGreatDoorH14
import Derived.Test.YtpifdeoepppadaaGreatDoorH6
set_option maxRecDepth 100000
set_option maxHeartbeats 8000000
namespace Go.Proofs.YtpifdeoepppadaaGreatDoor
open Go.RowKit
set_option linter.unusedVariables false
theorem aek {n:Nat}(h:n≤433):cnt n≤7:=by
 unfold cnt
 omega
theorem awN {p q N:Nat}{F1:Nat→Prop}{w w':World}{d:Dm.Ds}{l l':List Cm.Cv}{bk:Bool}{vc ve uN uI:Value}{rs rs':List Cw}(h1:Pk q F1 w d)(hv:WkV p q w l bk vc ve rs)
  (hB:w'.heap[p]? =some (.cells #[.pointer (some ⟨q,0,none⟩),.bool bk,uN,uI] 154 (0,0))) (hL:Lw 0 w' l' uN uI rs') (ho:Out (fun g=>g=p∨LB vc ve rs g) w w') (hs:∀g,LB uN uI rs' g→LB vc ve rs g∨N≤g) (hN:N≤w.heap.size):
  ∃F',WW p q F' w' ⟨d,l',bk⟩∧Out (fun g=>F1 g∨g=p∨LB vc ve rs g) w w'∧∀g,F' g→(F1 g∨g=p∨LB vc ve rs g)∨N≤g:=by
 have h2:Wk p q (fun g=>g=p∨LB vc ve rs g) w l bk:=⟨vc,ve,rs,hv,rfl⟩
 refine⟨_,⟨F1,_,h1.out ho fun g hg e=>oC h2 h1 g e hg,⟨uN,uI,rs',⟨hB,hL⟩,rfl⟩,rfl⟩,ho.mono fun g hg=>.inl (.inr hg),?_⟩
 rintro g (e|e|e)
 ·exact .inl (.inl e)
 ·exact .inl (.inr (.inl e))
 ·rcases hs g e with e|e
  ·exact .inl (.inr (.inr e))
  ·exact .inr e
theorem ais (p q:Nat)(F:Nat→Prop)(w:World)(s:Wl.Ws)(c:Cw)(h:WW p q F w s)(hs:ald s)(hi:dm w c.v c.l)(hf:fG c.l)(h64:In64 c.e∧In64 c.n)(hlo:c.l.length*40≤140737488351232)(jB:0<c.l.length→∀b,c.v.ownBlock=some b→¬F b):
  Calls Tryz.prog 119 #[.pointer (some ⟨p,0,none⟩),cZ c.e c.n c.v] w fun E w'=>E=.returned (.int .i64 (Wl.mQ s c.c).1)∧ja p q F w w' (Wl.mQ s c.c).2:=by
 obtain⟨ao,cap,hcv,_,_⟩:=hi.shape
 obtain⟨w1,hw1,bH,ax,hB0⟩:=ay w #[.int .i64 c.e,.int .i64 c.n,c.v] 32
 have c0:w1.cell? ⟨w.heap.size,0,none⟩=some (.int .i64 c.e):=ai hB0 0 rfl
 have c1:w1.cell? ⟨w.heap.size,1,none⟩=some (.int .i64 c.n):=ai hB0 1 rfl
 have c2:w1.cell? ⟨w.heap.size,2,none⟩=some c.v:=ai hB0 2 rfl
 have hW1:=h.below ax
 have HR:=hide (yA p q F w1 s hW1)
 have hb:=hs.big
 have HLT:=hide h.lt
 have HCF:=hide jB
 clear jB
 unfold cZ
 rw[hcv]at hw1 c2⊢
 cases ha:Wl.ask s with
 |true=>
  have e1:Wl.mQ s c.c=(6,Wl.brk s):=by unfold Wl.mQ;rw[ha];rfl
  rw[e1]
  have B1:=hide ax
  clear h hs hi hf h64 hlo hB0 hcv hW1 e1 hb
  go_enter Tryz.func119,Tryz.ntmps119
  go_wp2_with fail
  refine HR.out.mono ?_
  rintro E w2 (⟨_,rfl,J⟩|⟨h0,_⟩)
  ·have J:=hide (ja.pre B1.out J)
   go_wp2
   go_ret
   exact⟨rfl,J.out⟩
  ·rw[ha]at h0
   cases h0
 |false=>
  have sH:=hide (aj8 c.e c.n c.v c.l w1 (hi.below ax) hf (by omega))
  unfold cZ at sH
  rw[hcv]at sH
  obtain⟨ch,hch⟩:∃x,Cm.aJ c.e c.n c.l=x:=⟨_,rfl⟩
  rw[hch]at sH
  have KC:=hide hch
  have nz:=hide hcv
  have IOX:=hide hi
  have WA:=hide hW1
  have FO:=hide (show fG c.l∧(In64 c.e∧In64 c.n)∧c.l.length*40≤140737488351232 from⟨hf,h64,hlo⟩)
  have HB:=hide hB0
  have B1:=hide ax
  have BG:=hide hb
  have HS:=hide hs
  clear h hs hi hf h64 hlo hW1 hch hcv hb
  go_enter Tryz.func119,Tryz.ntmps119
  go_wp2_with fail
  refine HR.out.mono ?_
  rintro E w2 (⟨h0,_⟩|⟨_,rfl,rfl⟩)
  ·rw[ha]at h0
   cases h0
  clear HR
  go_wp2_with fail
  refine sH.out.mono ?_
  rintro E w2 ⟨vb,rfl,own,aB⟩
  have W2:=WA.out.below aB
  have b02:=B1.out.trans (aB.mono B1.out.size)
  have fA:=aB.size
  have hB2:=(aB.block w.heap.size (by omega)).trans HB.out
  have d0:w2.cell? ⟨w.heap.size,0,none⟩=some (.int .i64 c.e):=ai hB2 0 rfl
  have d1:w2.cell? ⟨w.heap.size,1,none⟩=some (.int .i64 c.n):=ai hB2 1 rfl
  have d2:w2.cell? ⟨w.heap.size,2,none⟩=some c.v:=ai hB2 2 rfl
  rw[nz.out]at d2
  obtain⟨ab,cb,hvb,_,_⟩:=own.is.shape
  have OB:=hide own
  have HB2:=hide hB2
  have nJ:=hide b02
  have HW2:=hide W2
  clear WA own aB sH hB2 c0 c1 c2
  by_cases hc0:ch=0
  ·subst hc0
   have hfr:frd c.e c.n c.l=Wl.fr c.c:=by unfold frd;rw[if_pos KC.out];rfl
   have hfl:(frd c.e c.n c.l).length≤433:=by rw[hfr];exact Wl.kR KC.out
   obtain⟨F1,G1,h1,h2,hF⟩:=HW2.out
   obtain⟨vc,ve,rs,hv,hG⟩:=h2
   have hgl:=eB hv.log.good
   have p0:w2.cell? ⟨p,0,none⟩=some (.pointer (some ⟨q,0,none⟩)):=ai hv.blk 0 rfl
   obtain⟨ans,eT⟩:∃x,tk s.l c.c=x:=⟨_,rfl⟩
   have hpw:p<w2.heap.size:=aA hv.blk
   have TK:Hid (∀W,Below w2.heap.size w2 W→Calls Tryz.prog 168 #[.pointer (some ⟨p,2,none⟩),.agg #[.int .i64 c.e,.int .i64 c.n,.slice ao c.l.length cap]] W fun E w'=>E=.returned (.bool ans)∧Below w2.heap.size w2 w'):=hide fun W hbW=>by
    have:=aeJ p 2 W vc rs (ai ((hbW.block p hpw).trans hv.blk) 2 rfl) (hv.log.r.row.row.below hbW) (by rw[hv.log.len];exact hgl) c ((IOX.out.below nJ.out).below hbW) FO.out.2.1.1 FO.out.2.1.2 FO.out.1 FO.out.2.2
    unfold cZ at this
    rw[nz.out,hv.log.is,eT]at this
    refine this.mono ?_
    rintro E w' ⟨rfl,hb'⟩
    exact⟨rfl,hbW.trans (hb'.mono hbW.size)⟩
   have HA:=hide eT
   have HV:=hide hv
   have H1:=hide h1
   have yN:=hide hF
   have HGG:=hide hG
   subst hvb
   clear eT hv h1 hF hG
   go_wp2_with fail
   go_region_held3 (fun w'=>w'.cell? ⟨w.heap.size,0,none⟩=some (.int .i64 c.e)∧w'.cell? ⟨w.heap.size,1,none⟩=some (.int .i64 c.n)∧w'.cell? ⟨w.heap.size,2,none⟩=some (.slice ao c.l.length cap)∧w'.cell? ⟨p,0,none⟩=some (.pointer (some ⟨q,0,none⟩))) (first|exact⟨d0,d1,d2,p0⟩|exact⟨e0,e1,e2,p1⟩|go_keep)
    (first
    |(go_at_call 168;refine(TK.out _ ((Below.refl _ _).drew)).mono ?_;rintro E w3 ⟨rfl,aH⟩;have e0:=(aH.cell (p:=⟨w.heap.size,0,none⟩) (show w.heap.size<w2.heap.size by omega)).trans d0;have e1:=(aH.cell (p:=⟨w.heap.size,1,none⟩) (show w.heap.size<w2.heap.size by omega)).trans d1;have e2:=(aH.cell (p:=⟨w.heap.size,2,none⟩) (show w.heap.size<w2.heap.size by omega)).trans d2;have p1:=(aH.cell (p:=⟨p,0,none⟩) hpw).trans p0))
   have fH:=nJ.out.trans (aH.mono nJ.out.size)
   have fZ:=aH.size
   have ug:Hid (WkV p q w3 s.l s.bk vc ve rs):=hide ⟨(aH.block p hpw).trans HV.out.blk,HV.out.log.below aH⟩
   have K3:=hide (H1.out.below aH)
   have O3:=hide (OB.out.below aH)
   have HB3:=hide ((aH.block w.heap.size (by omega)).trans HB2.out)
   clear HV H1 OB HB2 TK d0 d1 d2 p0
   cases ans with
   |false=>
    have e4:Wl.mQ s c.c=(15,s):=by
     unfold Wl.mQ
     rw[ha,if_neg (by decide),if_neg (by intro hx;exact hx KC.out),if_pos ?_]
     have:=HA.out
     unfold tk at this
     rw[decide_eq_false_iff_not]at this
     by_cases hx:c.c.n-1≠s.l.length∨c.c.e<Cm.lastE 0 s.l
     ·exact hx
     ·exact absurd ⟨KC.out,hx⟩ this
    have E4:=hide e4
    have W3:=hide (HW2.out.below aH)
    have B3:=hide fH
    clear e4 fH ug K3 O3
    go_wp2
    go_ret
    exact⟨by rw[E4.out];rfl,by rw[E4.out];exact⟨F,W3.out,Out.of_below B3.out,fun g hg=>.inl hg⟩⟩
   |true=>
    have hgood:Cm.Good 0 0 (s.l++[c.c]):=(adT ug.out.log.good c.c).1 HA.out
    have htk:=HA.out
    unfold tk at htk
    rw[decide_eq_true_iff]at htk
    have WR:=hide (tV q F1 w3 s.d 0 _ (frd c.e c.n c.l) K3.out O3.out.is (fun _ b hb hf=>by
     have h1:=(O3.out.block b hb).1
     have h2:=HLT.out b (by rw[yN.out];exact .inl hf)
     omega) (by omega) (by have h1:=BG.out.1.2.1;have h2:=HS.out.1.2.1;have h3:=aek hfl;omega) BG.out.2 (by have h2:=HS.out.1.2.2;have h3:=aek hfl;omega))
    rw[hfr]at WR
    have e01:=zD (st:=s.d) (Wl.fr c.c)
    have e4:Wl.mQ s c.c=if (Dm.write s.d 0 (Wl.fr c.c)).1≠0 then((Dm.write s.d 0 (Wl.fr c.c)).1,⟨(Dm.write s.d 0 (Wl.fr c.c)).2,s.l,true⟩)else(0,⟨(Dm.write s.d 0 (Wl.fr c.c)).2,s.l++[c.c],false⟩):=by
     unfold Wl.mQ
     rw[ha,if_neg (by decide),if_neg (by intro hx;exact hx KC.out),if_neg htk.2]
    generalize hwr:Dm.write s.d 0 (Wl.fr c.c)=y at*
    obtain⟨x,d'⟩:=y
    simp only at e01 e4 WR
    have E4:=hide e4
    have GD:=hide hgood
    have W3:=hide (HW2.out.below aH)
    have B3:=hide fH
    have SZ3:w1.heap.size≤w3.heap.size:=by omega
    rw[hfr]at O3 hfl
    clear e4 hgood htk hwr fH aH hfr
    go_wp2_with fail
    refine WR.out.mono ?_
    rintro E w4 ⟨rfl,PS⟩
    obtain⟨F2,k1,k2,k3,k4⟩:=WW.disk (s:=⟨s.d,s.l,s.bk⟩) K3.out ⟨vc,ve,rs,ug.out,rfl⟩ PS
    have HE:=hide (ad1 p q _ w4 ⟨d',s.l,s.bk⟩ x ⟨F2,_,k1,k2,rfl⟩)
    simp only at HE
    have T4:=hide (show Out F w3 w4∧∀g,(F2 g∨(g=p∨LB vc ve rs g))→F g∨w3.heap.size≤g from by
     refine⟨k3.mono fun g hg=>.inl (by rw[yN.out];exact .inl hg),?_⟩
     rintro g (hg|hg)
     ·rcases k4 g hg with e|e
      ·exact .inl (by rw[yN.out];exact .inl e)
      ·exact .inr e
     ·exact .inl (by rw[yN.out,HGG.out];exact .inr hg))
    clear PS k1 k2 k3 k4 WR K3 ug
    go_wp2_with fail
    refine HE.out.mono ?_
    rintro E w5 ⟨rfl,J⟩
    have J5:=hide (ja.trans T4.out.1 T4.out.2 J)
    clear HE J
    rcases e01 with rfl|rfl
    ·obtain⟨F5,⟨Fa,Ga,g1,g2,hF5⟩,o5,s5⟩:=J5.out
     obtain⟨vc5,ve5,rs5,hv5,hG5⟩:=g2
     have pq:=o5.size
     have hnF:¬F w.heap.size:=fun hf=>by have:=HLT.out _ hf;omega
     have hB5:=(o5.block w.heap.size (by omega) hnF).trans HB3.out
     have x0:w5.cell? ⟨w.heap.size,0,none⟩=some (.int .i64 c.e):=ai hB5 0 rfl
     have x1:w5.cell? ⟨w.heap.size,1,none⟩=some (.int .i64 c.n):=ai hB5 1 rfl
     have x2:w5.cell? ⟨w.heap.size,2,none⟩=some c.v:=ai hB5 2 rfl
     rw[nz.out]at x2
     have i5:dm w5 c.v c.l:=(IOX.out.below B3.out).out o5 HCF.out
     have HCP:Hid (Calls Tryz.prog 92 #[.agg #[.int .i64 c.e,.int .i64 c.n,.slice ao c.l.length cap]] w5.drew fun E w6=>∃v',E=.returned (.agg #[.int .i64 c.e,.int .i64 c.n,v'])∧aV 106 0 w6 v' c.l∧Below w5.heap.size w5 w6∧(∀b,v'.ownBlock=some b→w5.heap.size≤b)∧w6.cell? ⟨w.heap.size,0,none⟩=some (.int .i64 c.e)∧w6.cell? ⟨w.heap.size,1,none⟩=some (.int .i64 c.n)∧w6.cell? ⟨w.heap.size,2,none⟩=some (.slice ao c.l.length cap)∧∃a n k,v'=.slice a n k):=hide (by
      have:=tq c.e c.n c.v c.l w5.drew (i5.drewN 1) FO.out.2.2
      unfold cZ at this
      rw[nz.out]at this
      refine this.mono ?_
      rintro E w6 ⟨v',rfl,eu,dJ⟩
      have rF:Below w5.heap.size w5 w6:=(Below.refl w5.heap.size w5).drew.trans dJ
      obtain⟨a,k,hv',_,_⟩:=eu.is.shape
      exact⟨v',rfl,eu.bz (Nat.zero_le _),rF,fun b hb=>(aV.block eu b hb).1,(rF.cell (p:=⟨w.heap.size,0,none⟩) (show w.heap.size<w5.heap.size by omega)).trans x0,(rF.cell (p:=⟨w.heap.size,1,none⟩) (show w.heap.size<w5.heap.size by omega)).trans x1,(rF.cell (p:=⟨w.heap.size,2,none⟩) (show w.heap.size<w5.heap.size by omega)).trans x2,a,_,k,hv'⟩)
     have hp5:p<w5.heap.size:=aA hv5.blk
     have HGR:Hid (∀w6 v',Below w5.heap.size w5 w6→aV 106 0 w6 v' c.l→(∀b,v'.ownBlock=some b→w5.heap.size≤b)→Calls Tryz.prog 170 #[.pointer (some ⟨p,2,none⟩),.agg #[.int .i64 c.e,.int .i64 c.n,v'],.int .i64 (Wl.fr c.c).length] w6 fun E w7=>E=.returned (.tuple #[])∧ja p q F w w7 ⟨d',s.l++[c.c],false⟩∧w7.cell? ⟨w.heap.size,0,none⟩=some (.int .i64 c.e)∧w7.cell? ⟨w.heap.size,1,none⟩=some (.int .i64 c.n)∧w7.cell? ⟨w.heap.size,2,none⟩=some (.slice ao c.l.length cap)):=hide fun w6 v' rF eu hge=>by
      have hB6:=(rF.block p hp5).trans hv5.blk
      have L6:=hv5.log.below rF
      have:=aee 0 p 2 154 _ w6 s.l vc5 ve5 rs5 ⟨c.e,c.n,v',c.l⟩ (Wl.fr c.c).length hB6 rfl rfl (by decide) (by decide) (by decide) L6 (Nat.zero_le _) eu GD.out rfl
      unfold cZ at this
      refine this.mono ?_
      rintro E w7 ⟨rfl,vc7,ve7,hB7,L7,o7,s7⟩
      have tC:=rF.size
      have K6:=g1.below rF
      obtain⟨F7,q1,q2,q3⟩:=awN (N:=w5.heap.size) (l':=s.l++[c.c]) (uN:=vc7) (uI:=ve7) (rs':=rs5++[(⟨c.e,c.n,v',c.l⟩:Cw)]) (w:=w6) K6 ⟨hB6,L6⟩ (by rw[hB7];rfl) L7 o7 (w':=w7) (fun g hg=>by
       rcases s7 g hg with e|e|e
       ·exact .inl e
       ·exact .inr (by omega)
       ·exact .inr (hge g e)) tC
      have s6:∀g,(Fa g∨g=p∨LB vc5 ve5 rs5 g)→F5 g:=fun g hg=>by
       rw[hF5,hG5]
       exact hg
      have o57:Out F5 w5 w7:=(Out.of_below (F:=F5) rF).trans q2 fun g hg=>.inl (s6 g hg)
      have o37:Out F w3 w7:=o5.trans o57 s5
      have f7:∀g,F7 g→F g∨w3.heap.size≤g:=fun g hg=>by
       rcases q3 g hg with e|e
       ·exact s5 g (s6 g e)
       ·exact .inr (by omega)
      have aoC:=(o37.block w.heap.size (by omega) hnF).trans HB3.out
      refine⟨rfl,ja.pre B3.out ⟨F7,q1,o37,f7⟩,ai aoC 0 rfl,ai aoC 1 rfl,?_⟩
      rw[←nz.out]
      exact ai aoC 2 rfl
     clear hv5 hB5 i5
     go_wp2_with fail
     go_region_held3 (fun w'=>w'.cell? ⟨w.heap.size,0,none⟩=some (.int .i64 c.e)∧w'.cell? ⟨w.heap.size,1,none⟩=some (.int .i64 c.n)∧w'.cell? ⟨w.heap.size,2,none⟩=some (.slice ao c.l.length cap)) (first|exact⟨x0,x1,x2⟩|exact⟨y0,y1,y2⟩|exact⟨z0,z1,z2⟩|go_keep)
      (first
      |(go_at_call 92;refine HCP.out.mono ?_;rintro E w6 ⟨v6,rfl,eu,rF,hge,y0,y1,y2,a6,n6,k6,rfl⟩)
      |(go_at_call 170;refine(HGR.out _ _ rF eu hge).mono ?_;rintro E w7 ⟨rfl,J7,z0,z1,z2⟩;have J7:=hide J7))
     all_goals
      have A7:Hid (Wl.mQ s c.c=(0,⟨d',s.l++[c.c],false⟩)):=hide (by rw[E4.out];simp)
      clear E4
      go_wp2
      go_ret
      exact⟨by rw[A7.out];rfl,by rw[A7.out];exact J7.out⟩
    ·have A6:Hid (Wl.mQ s c.c=(6,⟨d',s.l,true⟩)):=hide (by rw[E4.out];simp)
     clear E4
     go_wp2
     go_ret
     exact⟨by rw[A6.out];rfl,by rw[A6.out];exact ja.pre B3.out J5.out⟩
  ·have hne:(ch !=0)=true:=by simp[hc0]
   have e1:Wl.mQ s c.c=(ch,s):=by
    unfold Wl.mQ
    rw[ha,if_neg (by decide),if_pos (by show Cm.aJ c.e c.n c.l≠0;rw[KC.out];exact hc0)]
    show(Cm.aJ c.e c.n c.l,s)=_
    rw[KC.out]
   have E1:=hide e1
   clear e1
   subst hvb
   go_wp2
   go_ret
   exact⟨by rw[E1.out];rfl,by rw[E1.out];exact⟨F,HW2.out,Out.of_below nJ.out,fun g hg=>.inl hg⟩⟩
end Go.Proofs.YtpifdeoepppadaaGreatDoor
