/- Texts of one layer, one behind the other. -/
import Derived.Test.YtlmkaljjocflmaaGreatDoorAH16
import Derived.Test.YtlmkaljjocflmaaGreatDoorAH9
import Derived.Test.YtlmkaljjocflmaaGreatDoorAH13
import Derived.Test.YtlmkaljjocflmaaGreatDoorAH5
import Derived.Test.YtlmkaljjocflmaaGreatDoorAH6
import Derived.Test.YtlmkaljjocflmaaGreatDoorAH3
import Derived.Deep.CutRange
set_option maxRecDepth 100000
set_option maxHeartbeats 8000000
namespace Go.Proofs.YtlmkaljjocflmaaGreatDoor
open Go.RowKit
open Bm (Ov)
set_option linter.unusedVariables false
theorem ais (ps p q:Nat)(F:Nat→Prop)(w:World)(s:Sto.Ss)(c:Cw)(h:SW ps p q F w s)(hi:dz w c.v c.l)(hf:fZ c.l)(h64:In64 c.e∧In64 c.n)(hlo:c.l.length*40≤140737488351232)(jH:0<c.l.length→∀b,c.v.ownBlock=some b→¬F b)(hn:s.l.length≤100000):
  Calls Tryz.prog 185 #[.pointer (some ⟨ps,0,none⟩),dF c.e c.n c.v] w fun E w'=>E=.returned (.int .i64 (Sto.yh s c.c).1)∧qZ ps p q F w w' (Sto.yh s c.c).2:=by
 obtain⟨w1,hw1,aT,ak,hB⟩:=au w #[.int .i64 c.e,.int .i64 c.n,c.v] 35
 have HR:=hide (zS ps p q F w1 s (h.below ak))
 obtain⟨ao,cap,hcv,_,_⟩:=hi.shape
 have uy:=hide hcv
 have xX:=hide h.ok
 have HAP:=hide (Sto.atL h.ok c.c)
 obtain⟨fe,hfe⟩:∃x,(Cm.fol (Cm.lastE 1 s.l) (Sto.fin s) 0 [c.c]).1=x:=⟨_,rfl⟩
 obtain⟨fp,hfp⟩:∃x,(Cm.fol (Cm.lastE 1 s.l) (Sto.fin s) 0 [c.c]).2=x:=⟨_,rfl⟩
 have hat:=Cm.aaR [c.c] (Cm.lastE 1 s.l) (Sto.fin s) 0
 have hap:Sto.yh s c.c=if fe≠0 then(fe,s)else(0,⟨s.r,s.l++[c.c]⟩):=by unfold Sto.yh;rw[hfe]
 rw[hfe,hfp]at hat
 have HA1:=hide hap
 have HAT:=hide hat
 have HSW:=hide h
 have HI:=hide (And.intro hi (And.intro hf (And.intro h64 (And.intro hlo (And.intro jH hn)))))
 have HFE:=hide (And.intro hfe hfp)
 have HB:=hide hB
 have B1:=hide ak
 have hsz:=hide aT
 unfold dF
 rw[hcv]at hw1⊢
 clear h hi hf h64 hlo jH hcv hap hat hfe hfp hB ak aT hn
 go_enter Tryz.func185,Tryz.ntmps185
 go_wp2_with fail
 refine HR.out.mono ?_
 rintro E w2 ⟨rfl,az⟩
 have xR:=hide (B1.out.trans (az.mono B1.out.size))
 have hB2:=(az.block w.heap.size (by have:=hsz.out;omega)).trans HB.out
 have SX:Hid (∀W,Below w2.heap.size w2 W→W.cell? ⟨w.heap.size,0,none⟩=some (.int .i64 c.e)∧W.cell? ⟨w.heap.size,1,none⟩=some (.int .i64 c.n)∧W.cell? ⟨w.heap.size,2,none⟩=some (.slice ao c.l.length cap)):=hide fun W hW=>by
  have k:=(hW.block w.heap.size (aA hB2)).trans hB2
  rw[uy.out]at k
  exact⟨ai k 0 rfl,ai k 1 rfl,ai k 2 rfl⟩
 have HEp:Hid (∀W,Below w2.heap.size w2 W→Calls Tryz.prog 246 #[.pointer (some ⟨ps,0,none⟩)] W fun E w'=>E=.returned (.int .i64 (Cm.lastE 1 s.l))∧Below W.heap.size W w'):=hide fun W hW=>
  (aoS ps p q F W s ((HSW.out.below xR.out).below hW)).mono fun E w' h=>⟨h.1,by obtain⟨m,rfl⟩:=h.2;exact below_drewN (Below.refl _ _) m⟩
 have um:Hid (∀W,Below w2.heap.size w2 W→Calls Tryz.prog 247 #[.pointer (some ⟨ps,0,none⟩)] W fun E w'=>E=.returned (.int .i64 (Sto.fin s))∧Below W.heap.size W w'):=hide fun W hW=>
  (anM ps p q F W s ((HSW.out.below xR.out).below hW)).mono fun E w' h=>⟨h.1,by obtain⟨m,rfl⟩:=h.2;exact below_drewN (Below.refl _ _) m⟩
 have nO:Hid (∀W a,Below w2.heap.size w2 W→W.heap[a]? =some (.cells #[.int .i64 c.e,.int .i64 c.n,.slice ao c.l.length cap] 35 (0,0))→Calls Tryz.prog 10 #[.int .i64 (Cm.lastE 1 s.l),.int .i64 (Sto.fin s),.slice (some ⟨a,0,none⟩) 1 1] W fun E w'=>E=.returned (.agg #[.int .i64 fe,.int .i64 fp])∧Below W.heap.size W w'):=hide fun W a hW ha=>by
  have hc:=oJ (Cm.lastE 1 s.l) (Sto.fin s) _ [⟨c.e,c.n,.slice ao c.l.length cap,c.l⟩] W ⟨aqH ha,fun d hd=>by rw[List.mem_singleton.1 hd];exact⟨by rw[←uy.out];exact(HI.out.1.below xR.out).below hW,HI.out.2.2.1⟩⟩ (jr.one HI.out.2.1 HI.out.2.2.2.1) (by simp)
  rw[show aH [(⟨c.e,c.n,.slice ao c.l.length cap,c.l⟩:Cw)]=[c.c]from rfl]at hc
  unfold xS at hc
  rw[HFE.out.1,HFE.out.2]at hc
  exact hc
 generalize Cm.lastE 1 s.l=le at*
 generalize Sto.fin s=fn at*
 clear HR az hB2
 go_wp2_with fail
 go_cut [5]from 9 to 15 (fun v5 wx=>∃R,v5=.pointer (some ⟨R,0,none⟩)∧Hid (wx.heap[R]? =some (.cells #[.int .i64 fe,.int .i64 fp] 31 (0,0)))∧Hid (Below w2.heap.size w2 wx))
 case first=>
  obtain⟨W0,hW0⟩:∃x,w2.drew=x:=⟨_,rfl⟩
  have cZ:Below w2.heap.size w2 W0:=by rw[←hW0];exact(Below.refl _ _).drew
  refine lS (ops:=(ay 3 Tryz.f185)) (S:=fun W=>W.cell? ⟨w.heap.size,0,none⟩=some (.int .i64 c.e)∧W.cell? ⟨w.heap.size,1,none⟩=some (.int .i64 c.n)∧W.cell? ⟨w.heap.size,2,none⟩=some (.slice ao c.l.length cap)) (by kernel_rfl) am2 ?_
  rw[aq0,hW0]
  refine aD (v:=?_) aoJ (by kernel_rfl) (fun _ _ _ _ _ h=>h) (SX.out _ cZ) rfl rfl (by rfl) ?_ ?_
  rotate_left 1
  ·intro w hS
   (try dsimp only at hS)
   go_simp
   all_goals with_reducible rfl
  simp only[Act.put,List.setIfInBounds_toArray,List.set_cons_zero,List.set_cons_succ]
  refine aD (v:=?_) aoe (by kernel_rfl) (fun _ _ _ _ _ h=>h) (SX.out _ cZ) rfl rfl (by rfl) ?_ ?_
  rotate_left 1
  ·intro w hS
   (try dsimp only at hS)
   go_simp
   all_goals with_reducible rfl
  simp only[Act.put,List.setIfInBounds_toArray,List.set_cons_zero,List.set_cons_succ]
  refine aD (v:=?_) alP (by kernel_rfl) (fun _ _ _ _ _ h=>h) (SX.out _ cZ) rfl rfl (by rfl) ?_ ?_
  rotate_left 1
  ·intro w hS
   (try dsimp only at hS)
   go_simp
   all_goals with_reducible rfl
  simp only[Act.put,List.setIfInBounds_toArray,List.set_cons_zero,List.set_cons_succ]
  refine acw aq4 ?_ ?_ ?_
  ·refine aJ rfl (by rfl) (fun K hK=>?_)
   go_simp
   refine(HEp.out _ cZ).mono ?_
   rintro E W1 ⟨rfl,st1⟩
   have ak:=cZ.trans (st1.mono cZ.size)
   go_wp2_with fail
   refine hK.out _ _ (SX.out _ ak) ?_
   clear hK K
   try simp only[Act.put,List.setIfInBounds_toArray,List.set_cons_zero,List.set_cons_succ]
   refine acw arp ?_ ?_ ?_
   ·refine aJ rfl (by rfl) (fun K hK=>?_)
    go_simp
    refine(um.out _ ak).mono ?_
    rintro E W2 ⟨rfl,st2⟩
    have az:=ak.trans (st2.mono ak.size)
    go_wp2_with fail
    refine hK.out _ _ (SX.out _ az) ?_
    clear hK K
    try simp only[Act.put,List.setIfInBounds_toArray,List.set_cons_zero,List.set_cons_succ]
    refine eX aqx ?_ ?_
    ·obtain⟨W3,hW3,bJ,st3,ha3⟩:=au W2 #[.int .i64 c.e,.int .i64 c.n,.slice ao c.l.length cap] 35
     clear bJ
     have aC:=az.trans (st3.mono az.size)
     refine aJ rfl (by rfl) (fun K hK=>?_)
     go_simp
     go_wp2_with fail
     refine hK.out _ _ (SX.out _ aC) ?_
     clear hK K
     try simp only[Act.put,List.setIfInBounds_toArray,List.set_cons_zero,List.set_cons_succ]
     refine eX abz ?_ ?_
     ·refine aJ rfl (by rfl) (fun K hK=>?_)
      go_simp
      refine(nO.out _ _ aC ha3).mono ?_
      rintro E W4 ⟨rfl,st4⟩
      have aL:=aC.trans (st4.mono aC.size)
      have ha4:=(st4.block _ (aA ha3)).trans ha3
      go_wp2_with fail
      refine hK.out _ _ (SX.out _ aL) ?_
      clear hK K
      try simp only[Act.put,List.setIfInBounds_toArray,List.set_cons_zero,List.set_cons_succ]
      refine aN yE ?_
      obtain⟨W5,hW5,lU,st5,hb5⟩:=au W4 #[.int .i64 0,.int .i64 0] 31
      clear lU
      have lb5:=aL.size
      have aQ:=aL.trans (st5.mono aL.size)
      have ha5:=(st5.block _ (aA ha4)).trans ha4
      refine aJ rfl (by rfl) (fun K hK=>?_)
      go_simp
      go_wp2_with fail
      refine hK.out _ _ (SX.out _ aQ) ?_
      clear hK K
      try simp only[Act.put,List.setIfInBounds_toArray,List.set_cons_zero,List.set_cons_succ]
      refine aN eQ ?_
      obtain⟨W6,hW6,hb6,g6,⟨p0,p1⟩,⟨f0,f1⟩,⟨l0,l1⟩⟩:=dH hb5 (.int .i64 fe) (.int .i64 fp)
      have fo:=aF aQ g6 lb5 aQ.size
      refine aJ rfl (by rfl) (fun K hK=>?_)
      go_simp
      go_wp2_with fail
      refine hK.out _ _ (SX.out _ fo) ?_
      clear hK K
      try simp only[Act.put,List.setIfInBounds_toArray,List.set_cons_zero,List.set_cons_succ]
      refine bO fQ ?_
      go_wp2_with fail
      go_meet
      exact⟨_,rfl,hide hb6,hide fo⟩
     ·obtain⟨W7,hW7,sz7,st7,hb7⟩:=au W3 #[.int .i64 0,.int .i64 0] 31
      clear sz7
      have lb7:=aC.size
      have gT:=aC.trans (st7.mono aC.size)
      have ha7:=(st7.block _ (aA ha3)).trans ha3
      refine aJ rfl (by rfl) (fun K hK=>?_)
      go_simp
      go_wp2_with fail
      refine hK.out _ _ (SX.out _ gT) ?_
      clear hK K
      try simp only[Act.put,List.setIfInBounds_toArray,List.set_cons_zero,List.set_cons_succ]
      refine aN gD ?_
      refine aJ rfl (by rfl) (fun K hK=>?_)
      go_simp
      refine(nO.out _ _ gT ha7).mono ?_
      rintro E W8 ⟨rfl,st8⟩
      have o8:=gT.trans (st8.mono gT.size)
      have ha8:=(st8.block _ (aA ha7)).trans ha7
      have hb8:=(st8.block _ (aA hb7)).trans hb7
      go_wp2_with fail
      refine hK.out _ _ (SX.out _ o8) ?_
      clear hK K
      try simp only[Act.put,List.setIfInBounds_toArray,List.set_cons_zero,List.set_cons_succ]
      refine aN eQ ?_
      obtain⟨W9,hW9,hb9,g9,⟨p0,p1⟩,⟨f0,f1⟩,⟨l0,l1⟩⟩:=dH hb8 (.int .i64 fe) (.int .i64 fp)
      have nE:=aF o8 g9 lb7 o8.size
      refine aJ rfl (by rfl) (fun K hK=>?_)
      go_simp
      go_wp2_with fail
      refine hK.out _ _ (SX.out _ nE) ?_
      clear hK K
      try simp only[Act.put,List.setIfInBounds_toArray,List.set_cons_zero,List.set_cons_succ]
      refine bO fQ ?_
      go_wp2_with fail
      go_meet
      exact⟨_,rfl,hide hb9,hide nE⟩
    ·obtain⟨W10,hW10,awK,awM,auP⟩:=au W2 #[.int .i64 0,.int .i64 0] 31
     clear awK
     have awm:=az.size
     have rY:=az.trans (awM.mono az.size)
     refine aJ rfl (by rfl) (fun K hK=>?_)
     go_simp
     go_wp2_with fail
     refine hK.out _ _ (SX.out _ rY) ?_
     clear hK K
     try simp only[Act.put,List.setIfInBounds_toArray,List.set_cons_zero,List.set_cons_succ]
     refine aN yS ?_
     obtain⟨W11,hW11,avY,aui,al2⟩:=au W10 #[.int .i64 c.e,.int .i64 c.n,.slice ao c.l.length cap] 35
     clear avY
     have adv:=rY.trans (aui.mono rY.size)
     have asW:=(aui.block _ (aA auP)).trans auP
     refine aJ rfl (by rfl) (fun K hK=>?_)
     go_simp
     go_wp2_with fail
     refine hK.out _ _ (SX.out _ adv) ?_
     clear hK K
     try simp only[Act.put,List.setIfInBounds_toArray,List.set_cons_zero,List.set_cons_succ]
     refine aN gD ?_
     refine aJ rfl (by rfl) (fun K hK=>?_)
     go_simp
     refine(nO.out _ _ adv al2).mono ?_
     rintro E W12 ⟨rfl,amf⟩
     have aiy:=adv.trans (amf.mono adv.size)
     have ha12:=(amf.block _ (aA al2)).trans al2
     have aw7:=(amf.block _ (aA asW)).trans asW
     go_wp2_with fail
     refine hK.out _ _ (SX.out _ aiy) ?_
     clear hK K
     try simp only[Act.put,List.setIfInBounds_toArray,List.set_cons_zero,List.set_cons_succ]
     refine aN eQ ?_
     obtain⟨W13,hW13,axg,g13,⟨p0,p1⟩,⟨f0,f1⟩,⟨l0,l1⟩⟩:=dH aw7 (.int .i64 fe) (.int .i64 fp)
     have apa:=aF aiy g13 awm aiy.size
     refine aJ rfl (by rfl) (fun K hK=>?_)
     go_simp
     go_wp2_with fail
     refine hK.out _ _ (SX.out _ apa) ?_
     clear hK K
     try simp only[Act.put,List.setIfInBounds_toArray,List.set_cons_zero,List.set_cons_succ]
     refine bO fQ ?_
     go_wp2_with fail
     go_meet
     exact⟨_,rfl,hide axg,hide apa⟩
   ·obtain⟨W14,hW14,axu,awX,aiF⟩:=au W1 #[.int .i64 c.e,.int .i64 c.n,.slice ao c.l.length cap] 35
    clear axu
    have tO:=ak.trans (awX.mono ak.size)
    refine aJ rfl (by rfl) (fun K hK=>?_)
    go_simp
    go_wp2_with fail
    refine hK.out _ _ (SX.out _ tO) ?_
    clear hK K
    try simp only[Act.put,List.setIfInBounds_toArray,List.set_cons_zero,List.set_cons_succ]
    refine eX age ?_ ?_
    ·refine aJ rfl (by rfl) (fun K hK=>?_)
     go_simp
     refine(um.out _ tO).mono ?_
     rintro E W15 ⟨rfl,asB⟩
     have tZ:=tO.trans (asB.mono tO.size)
     have adU:=(asB.block _ (aA aiF)).trans aiF
     go_wp2_with fail
     refine hK.out _ _ (SX.out _ tZ) ?_
     clear hK K
     try simp only[Act.put,List.setIfInBounds_toArray,List.set_cons_zero,List.set_cons_succ]
     refine eX abz ?_ ?_
     ·refine aJ rfl (by rfl) (fun K hK=>?_)
      go_simp
      refine(nO.out _ _ tZ adU).mono ?_
      rintro E W16 ⟨rfl,au0⟩
      have adN:=tZ.trans (au0.mono tZ.size)
      have ha16:=(au0.block _ (aA adU)).trans adU
      go_wp2_with fail
      refine hK.out _ _ (SX.out _ adN) ?_
      clear hK K
      try simp only[Act.put,List.setIfInBounds_toArray,List.set_cons_zero,List.set_cons_succ]
      refine aN yE ?_
      obtain⟨W17,hW17,aw6,aty,awv⟩:=au W16 #[.int .i64 0,.int .i64 0] 31
      clear aw6
      have awc:=adN.size
      have ahs:=adN.trans (aty.mono adN.size)
      have ha17:=(aty.block _ (aA ha16)).trans ha16
      refine aJ rfl (by rfl) (fun K hK=>?_)
      go_simp
      go_wp2_with fail
      refine hK.out _ _ (SX.out _ ahs) ?_
      clear hK K
      try simp only[Act.put,List.setIfInBounds_toArray,List.set_cons_zero,List.set_cons_succ]
      refine aN eQ ?_
      obtain⟨W18,hW18,awN,g18,⟨p0,p1⟩,⟨f0,f1⟩,⟨l0,l1⟩⟩:=dH awv (.int .i64 fe) (.int .i64 fp)
      have apX:=aF ahs g18 awc ahs.size
      refine aJ rfl (by rfl) (fun K hK=>?_)
      go_simp
      go_wp2_with fail
      refine hK.out _ _ (SX.out _ apX) ?_
      clear hK K
      try simp only[Act.put,List.setIfInBounds_toArray,List.set_cons_zero,List.set_cons_succ]
      refine bO fQ ?_
      go_wp2_with fail
      go_meet
      exact⟨_,rfl,hide awN,hide apX⟩
     ·obtain⟨W19,hW19,awV,ar9,asJ⟩:=au W15 #[.int .i64 0,.int .i64 0] 31
      clear awV
      have axq:=tZ.size
      have adE:=tZ.trans (ar9.mono tZ.size)
      have amo:=(ar9.block _ (aA adU)).trans adU
      refine aJ rfl (by rfl) (fun K hK=>?_)
      go_simp
      go_wp2_with fail
      refine hK.out _ _ (SX.out _ adE) ?_
      clear hK K
      try simp only[Act.put,List.setIfInBounds_toArray,List.set_cons_zero,List.set_cons_succ]
      refine aN gD ?_
      refine aJ rfl (by rfl) (fun K hK=>?_)
      go_simp
      refine(nO.out _ _ adE amo).mono ?_
      rintro E W20 ⟨rfl,amJ⟩
      have aio:=adE.trans (amJ.mono adE.size)
      have ha20:=(amJ.block _ (aA amo)).trans amo
      have awn:=(amJ.block _ (aA asJ)).trans asJ
      go_wp2_with fail
      refine hK.out _ _ (SX.out _ aio) ?_
      clear hK K
      try simp only[Act.put,List.setIfInBounds_toArray,List.set_cons_zero,List.set_cons_succ]
      refine aN eQ ?_
      obtain⟨W21,hW21,av0,g21,⟨p0,p1⟩,⟨f0,f1⟩,⟨l0,l1⟩⟩:=dH awn (.int .i64 fe) (.int .i64 fp)
      have apu:=aF aio g21 axq aio.size
      refine aJ rfl (by rfl) (fun K hK=>?_)
      go_simp
      go_wp2_with fail
      refine hK.out _ _ (SX.out _ apu) ?_
      clear hK K
      try simp only[Act.put,List.setIfInBounds_toArray,List.set_cons_zero,List.set_cons_succ]
      refine bO fQ ?_
      go_wp2_with fail
      go_meet
      exact⟨_,rfl,hide av0,hide apu⟩
    ·obtain⟨W22,hW22,aw9,atI,asj⟩:=au W14 #[.int .i64 0,.int .i64 0] 31
     clear aw9
     have awE:=tO.size
     have adF:=tO.trans (atI.mono tO.size)
     have atW:=(atI.block _ (aA aiF)).trans aiF
     refine aJ rfl (by rfl) (fun K hK=>?_)
     go_simp
     go_wp2_with fail
     refine hK.out _ _ (SX.out _ adF) ?_
     clear hK K
     try simp only[Act.put,List.setIfInBounds_toArray,List.set_cons_zero,List.set_cons_succ]
     refine aN l7 ?_
     refine aJ rfl (by rfl) (fun K hK=>?_)
     go_simp
     refine(um.out _ adF).mono ?_
     rintro E W23 ⟨rfl,amM⟩
     have adg:=adF.trans (amM.mono adF.size)
     have am0:=(amM.block _ (aA atW)).trans atW
     have au6:=(amM.block _ (aA asj)).trans asj
     go_wp2_with fail
     refine hK.out _ _ (SX.out _ adg) ?_
     clear hK K
     try simp only[Act.put,List.setIfInBounds_toArray,List.set_cons_zero,List.set_cons_succ]
     refine aN gD ?_
     refine aJ rfl (by rfl) (fun K hK=>?_)
     go_simp
     refine(nO.out _ _ adg am0).mono ?_
     rintro E W24 ⟨rfl,aoG⟩
     have kF:=adg.trans (aoG.mono adg.size)
     have ha24:=(aoG.block _ (aA am0)).trans am0
     have awd:=(aoG.block _ (aA au6)).trans au6
     go_wp2_with fail
     refine hK.out _ _ (SX.out _ kF) ?_
     clear hK K
     try simp only[Act.put,List.setIfInBounds_toArray,List.set_cons_zero,List.set_cons_succ]
     refine aN eQ ?_
     obtain⟨W25,hW25,awQ,g25,⟨p0,p1⟩,⟨f0,f1⟩,⟨l0,l1⟩⟩:=dH awd (.int .i64 fe) (.int .i64 fp)
     have apM:=aF kF g25 awE kF.size
     refine aJ rfl (by rfl) (fun K hK=>?_)
     go_simp
     go_wp2_with fail
     refine hK.out _ _ (SX.out _ apM) ?_
     clear hK K
     try simp only[Act.put,List.setIfInBounds_toArray,List.set_cons_zero,List.set_cons_succ]
     refine bO fQ ?_
     go_wp2_with fail
     go_meet
     exact⟨_,rfl,hide awQ,hide apM⟩
   ·obtain⟨W26,hW26,aw8,av5,aib⟩:=au W1 #[.int .i64 0,.int .i64 0] 31
    clear aw8
    have aub:=ak.size
    have jy:=ak.trans (av5.mono ak.size)
    refine aJ rfl (by rfl) (fun K hK=>?_)
    go_simp
    go_wp2_with fail
    refine hK.out _ _ (SX.out _ jy) ?_
    clear hK K
    try simp only[Act.put,List.setIfInBounds_toArray,List.set_cons_zero,List.set_cons_succ]
    refine eX aeE ?_ ?_
    ·refine aJ rfl (by rfl) (fun K hK=>?_)
     go_simp
     refine(um.out _ jy).mono ?_
     rintro E W27 ⟨rfl,auG⟩
     have xw:=jy.trans (auG.mono jy.size)
     have arR:=(auG.block _ (aA aib)).trans aib
     go_wp2_with fail
     refine hK.out _ _ (SX.out _ xw) ?_
     clear hK K
     try simp only[Act.put,List.setIfInBounds_toArray,List.set_cons_zero,List.set_cons_succ]
     refine aN yS ?_
     obtain⟨W28,hW28,aw0,arW,anT⟩:=au W27 #[.int .i64 c.e,.int .i64 c.n,.slice ao c.l.length cap] 35
     clear aw0
     have adt:=xw.trans (arW.mono xw.size)
     have at6:=(arW.block _ (aA arR)).trans arR
     refine aJ rfl (by rfl) (fun K hK=>?_)
     go_simp
     go_wp2_with fail
     refine hK.out _ _ (SX.out _ adt) ?_
     clear hK K
     try simp only[Act.put,List.setIfInBounds_toArray,List.set_cons_zero,List.set_cons_succ]
     refine aN gD ?_
     refine aJ rfl (by rfl) (fun K hK=>?_)
     go_simp
     refine(nO.out _ _ adt anT).mono ?_
     rintro E W29 ⟨rfl,aoX⟩
     have xq:=adt.trans (aoX.mono adt.size)
     have ha29:=(aoX.block _ (aA anT)).trans anT
     have av7:=(aoX.block _ (aA at6)).trans at6
     go_wp2_with fail
     refine hK.out _ _ (SX.out _ xq) ?_
     clear hK K
     try simp only[Act.put,List.setIfInBounds_toArray,List.set_cons_zero,List.set_cons_succ]
     refine aN eQ ?_
     obtain⟨W30,hW30,awJ,g30,⟨p0,p1⟩,⟨f0,f1⟩,⟨l0,l1⟩⟩:=dH av7 (.int .i64 fe) (.int .i64 fp)
     have apJ:=aF xq g30 aub xq.size
     refine aJ rfl (by rfl) (fun K hK=>?_)
     go_simp
     go_wp2_with fail
     refine hK.out _ _ (SX.out _ apJ) ?_
     clear hK K
     try simp only[Act.put,List.setIfInBounds_toArray,List.set_cons_zero,List.set_cons_succ]
     refine bO fQ ?_
     go_wp2_with fail
     go_meet
     exact⟨_,rfl,hide awJ,hide apJ⟩
    ·obtain⟨W31,hW31,axp,asZ,atX⟩:=au W26 #[.int .i64 c.e,.int .i64 c.n,.slice ao c.l.length cap] 35
     clear axp
     have adu:=jy.trans (asZ.mono jy.size)
     have aso:=(asZ.block _ (aA aib)).trans aib
     refine aJ rfl (by rfl) (fun K hK=>?_)
     go_simp
     go_wp2_with fail
     refine hK.out _ _ (SX.out _ adu) ?_
     clear hK K
     try simp only[Act.put,List.setIfInBounds_toArray,List.set_cons_zero,List.set_cons_succ]
     refine aN l7 ?_
     refine aJ rfl (by rfl) (fun K hK=>?_)
     go_simp
     refine(um.out _ adu).mono ?_
     rintro E W32 ⟨rfl,am6⟩
     have adk:=adu.trans (am6.mono adu.size)
     have ha32:=(am6.block _ (aA atX)).trans atX
     have atd:=(am6.block _ (aA aso)).trans aso
     go_wp2_with fail
     refine hK.out _ _ (SX.out _ adk) ?_
     clear hK K
     try simp only[Act.put,List.setIfInBounds_toArray,List.set_cons_zero,List.set_cons_succ]
     refine aN gD ?_
     refine aJ rfl (by rfl) (fun K hK=>?_)
     go_simp
     refine(nO.out _ _ adk ha32).mono ?_
     rintro E W33 ⟨rfl,aoh⟩
     have aiK:=adk.trans (aoh.mono adk.size)
     have ha33:=(aoh.block _ (aA ha32)).trans ha32
     have av2:=(aoh.block _ (aA atd)).trans atd
     go_wp2_with fail
     refine hK.out _ _ (SX.out _ aiK) ?_
     clear hK K
     try simp only[Act.put,List.setIfInBounds_toArray,List.set_cons_zero,List.set_cons_succ]
     refine aN eQ ?_
     obtain⟨W34,hW34,axm,g34,⟨p0,p1⟩,⟨f0,f1⟩,⟨l0,l1⟩⟩:=dH av2 (.int .i64 fe) (.int .i64 fp)
     have ao5:=aF aiK g34 aub aiK.size
     refine aJ rfl (by rfl) (fun K hK=>?_)
     go_simp
     go_wp2_with fail
     refine hK.out _ _ (SX.out _ ao5) ?_
     clear hK K
     try simp only[Act.put,List.setIfInBounds_toArray,List.set_cons_zero,List.set_cons_succ]
     refine bO fQ ?_
     go_wp2_with fail
     go_meet
     exact⟨_,rfl,hide axm,hide ao5⟩
  ·obtain⟨W35,hW35,axd,awk,aiB⟩:=au W0 #[.int .i64 c.e,.int .i64 c.n,.slice ao c.l.length cap] 35
   clear axd
   have rX:=cZ.trans (awk.mono cZ.size)
   refine aJ rfl (by rfl) (fun K hK=>?_)
   go_simp
   go_wp2_with fail
   refine hK.out _ _ (SX.out _ rX) ?_
   clear hK K
   try simp only[Act.put,List.setIfInBounds_toArray,List.set_cons_zero,List.set_cons_succ]
   refine eX arF ?_ ?_
   ·refine aJ rfl (by rfl) (fun K hK=>?_)
    go_simp
    refine(HEp.out _ rX).mono ?_
    rintro E W36 ⟨rfl,auv⟩
    have uh:=rX.trans (auv.mono rX.size)
    have aiS:=(auv.block _ (aA aiB)).trans aiB
    go_wp2_with fail
    refine hK.out _ _ (SX.out _ uh) ?_
    clear hK K
    try simp only[Act.put,List.setIfInBounds_toArray,List.set_cons_zero,List.set_cons_succ]
    refine eX age ?_ ?_
    ·refine aJ rfl (by rfl) (fun K hK=>?_)
     go_simp
     refine(um.out _ uh).mono ?_
     rintro E W37 ⟨rfl,as8⟩
     have sJ:=uh.trans (as8.mono uh.size)
     have ael:=(as8.block _ (aA aiS)).trans aiS
     go_wp2_with fail
     refine hK.out _ _ (SX.out _ sJ) ?_
     clear hK K
     try simp only[Act.put,List.setIfInBounds_toArray,List.set_cons_zero,List.set_cons_succ]
     refine eX abz ?_ ?_
     ·refine aJ rfl (by rfl) (fun K hK=>?_)
      go_simp
      refine(nO.out _ _ sJ ael).mono ?_
      rintro E W38 ⟨rfl,au8⟩
      have adG:=sJ.trans (au8.mono sJ.size)
      have atH:=(au8.block _ (aA ael)).trans ael
      go_wp2_with fail
      refine hK.out _ _ (SX.out _ adG) ?_
      clear hK K
      try simp only[Act.put,List.setIfInBounds_toArray,List.set_cons_zero,List.set_cons_succ]
      refine aN yE ?_
      obtain⟨W39,hW39,av8,avb,axk⟩:=au W38 #[.int .i64 0,.int .i64 0] 31
      clear av8
      have axA:=adG.size
      have ahX:=adG.trans (avb.mono adG.size)
      have ha39:=(avb.block _ (aA atH)).trans atH
      refine aJ rfl (by rfl) (fun K hK=>?_)
      go_simp
      go_wp2_with fail
      refine hK.out _ _ (SX.out _ ahX) ?_
      clear hK K
      try simp only[Act.put,List.setIfInBounds_toArray,List.set_cons_zero,List.set_cons_succ]
      refine aN eQ ?_
      obtain⟨W40,hW40,axt,g40,⟨p0,p1⟩,⟨f0,f1⟩,⟨l0,l1⟩⟩:=dH axk (.int .i64 fe) (.int .i64 fp)
      have apL:=aF ahX g40 axA ahX.size
      refine aJ rfl (by rfl) (fun K hK=>?_)
      go_simp
      go_wp2_with fail
      refine hK.out _ _ (SX.out _ apL) ?_
      clear hK K
      try simp only[Act.put,List.setIfInBounds_toArray,List.set_cons_zero,List.set_cons_succ]
      refine bO fQ ?_
      go_wp2_with fail
      go_meet
      exact⟨_,rfl,hide axt,hide apL⟩
     ·obtain⟨W41,hW41,awU,atC,atS⟩:=au W37 #[.int .i64 0,.int .i64 0] 31
      clear awU
      have axv:=sJ.size
      have ads:=sJ.trans (atC.mono sJ.size)
      have amY:=(atC.block _ (aA ael)).trans ael
      refine aJ rfl (by rfl) (fun K hK=>?_)
      go_simp
      go_wp2_with fail
      refine hK.out _ _ (SX.out _ ads) ?_
      clear hK K
      try simp only[Act.put,List.setIfInBounds_toArray,List.set_cons_zero,List.set_cons_succ]
      refine aN gD ?_
      refine aJ rfl (by rfl) (fun K hK=>?_)
      go_simp
      refine(nO.out _ _ ads amY).mono ?_
      rintro E W42 ⟨rfl,am8⟩
      have ahl:=ads.trans (am8.mono ads.size)
      have ha42:=(am8.block _ (aA amY)).trans amY
      have awZ:=(am8.block _ (aA atS)).trans atS
      go_wp2_with fail
      refine hK.out _ _ (SX.out _ ahl) ?_
      clear hK K
      try simp only[Act.put,List.setIfInBounds_toArray,List.set_cons_zero,List.set_cons_succ]
      refine aN eQ ?_
      obtain⟨W43,hW43,awY,g43,⟨p0,p1⟩,⟨f0,f1⟩,⟨l0,l1⟩⟩:=dH awZ (.int .i64 fe) (.int .i64 fp)
      have ao9:=aF ahl g43 axv ahl.size
      refine aJ rfl (by rfl) (fun K hK=>?_)
      go_simp
      go_wp2_with fail
      refine hK.out _ _ (SX.out _ ao9) ?_
      clear hK K
      try simp only[Act.put,List.setIfInBounds_toArray,List.set_cons_zero,List.set_cons_succ]
      refine bO fQ ?_
      go_wp2_with fail
      go_meet
      exact⟨_,rfl,hide awY,hide ao9⟩
    ·obtain⟨W44,hW44,aw3,at1,atP⟩:=au W36 #[.int .i64 0,.int .i64 0] 31
     clear aw3
     have awF:=uh.size
     have adi:=uh.trans (at1.mono uh.size)
     have auE:=(at1.block _ (aA aiS)).trans aiS
     refine aJ rfl (by rfl) (fun K hK=>?_)
     go_simp
     go_wp2_with fail
     refine hK.out _ _ (SX.out _ adi) ?_
     clear hK K
     try simp only[Act.put,List.setIfInBounds_toArray,List.set_cons_zero,List.set_cons_succ]
     refine aN l7 ?_
     refine aJ rfl (by rfl) (fun K hK=>?_)
     go_simp
     refine(um.out _ adi).mono ?_
     rintro E W45 ⟨rfl,ane⟩
     have adf:=adi.trans (ane.mono adi.size)
     have aob:=(ane.block _ (aA auE)).trans auE
     have auD:=(ane.block _ (aA atP)).trans atP
     go_wp2_with fail
     refine hK.out _ _ (SX.out _ adf) ?_
     clear hK K
     try simp only[Act.put,List.setIfInBounds_toArray,List.set_cons_zero,List.set_cons_succ]
     refine aN gD ?_
     refine aJ rfl (by rfl) (fun K hK=>?_)
     go_simp
     refine(nO.out _ _ adf aob).mono ?_
     rintro E W46 ⟨rfl,ami⟩
     have lD:=adf.trans (ami.mono adf.size)
     have ha46:=(ami.block _ (aA aob)).trans aob
     have awT:=(ami.block _ (aA auD)).trans auD
     go_wp2_with fail
     refine hK.out _ _ (SX.out _ lD) ?_
     clear hK K
     try simp only[Act.put,List.setIfInBounds_toArray,List.set_cons_zero,List.set_cons_succ]
     refine aN eQ ?_
     obtain⟨W47,hW47,axc,g47,⟨p0,p1⟩,⟨f0,f1⟩,⟨l0,l1⟩⟩:=dH awT (.int .i64 fe) (.int .i64 fp)
     have apZ:=aF lD g47 awF lD.size
     refine aJ rfl (by rfl) (fun K hK=>?_)
     go_simp
     go_wp2_with fail
     refine hK.out _ _ (SX.out _ apZ) ?_
     clear hK K
     try simp only[Act.put,List.setIfInBounds_toArray,List.set_cons_zero,List.set_cons_succ]
     refine bO fQ ?_
     go_wp2_with fail
     go_meet
     exact⟨_,rfl,hide axc,hide apZ⟩
   ·obtain⟨W48,hW48,awG,aum,hb48⟩:=au W35 #[.int .i64 0,.int .i64 0] 31
    clear awG
    have av4:=rX.size
    have adq:=rX.trans (aum.mono rX.size)
    have arQ:=(aum.block _ (aA aiB)).trans aiB
    refine aJ rfl (by rfl) (fun K hK=>?_)
    go_simp
    go_wp2_with fail
    refine hK.out _ _ (SX.out _ adq) ?_
    clear hK K
    try simp only[Act.put,List.setIfInBounds_toArray,List.set_cons_zero,List.set_cons_succ]
    refine aN aeq ?_
    refine aJ rfl (by rfl) (fun K hK=>?_)
    go_simp
    refine(HEp.out _ adq).mono ?_
    rintro E W49 ⟨rfl,anr⟩
    have adj:=adq.trans (anr.mono adq.size)
    have as4:=(anr.block _ (aA arQ)).trans arQ
    have asz:=(anr.block _ (aA hb48)).trans hb48
    go_wp2_with fail
    refine hK.out _ _ (SX.out _ adj) ?_
    clear hK K
    try simp only[Act.put,List.setIfInBounds_toArray,List.set_cons_zero,List.set_cons_succ]
    refine aN l7 ?_
    refine aJ rfl (by rfl) (fun K hK=>?_)
    go_simp
    refine(um.out _ adj).mono ?_
    rintro E W50 ⟨rfl,aos⟩
    have ady:=adj.trans (aos.mono adj.size)
    have amy:=(aos.block _ (aA as4)).trans as4
    have au2:=(aos.block _ (aA asz)).trans asz
    go_wp2_with fail
    refine hK.out _ _ (SX.out _ ady) ?_
    clear hK K
    try simp only[Act.put,List.setIfInBounds_toArray,List.set_cons_zero,List.set_cons_succ]
    refine aN gD ?_
    refine aJ rfl (by rfl) (fun K hK=>?_)
    go_simp
    refine(nO.out _ _ ady amy).mono ?_
    rintro E W51 ⟨rfl,anJ⟩
    have aih:=ady.trans (anJ.mono ady.size)
    have ha51:=(anJ.block _ (aA amy)).trans amy
    have aw5:=(anJ.block _ (aA au2)).trans au2
    go_wp2_with fail
    refine hK.out _ _ (SX.out _ aih) ?_
    clear hK K
    try simp only[Act.put,List.setIfInBounds_toArray,List.set_cons_zero,List.set_cons_succ]
    refine aN eQ ?_
    obtain⟨W52,hW52,awC,g52,⟨p0,p1⟩,⟨f0,f1⟩,⟨l0,l1⟩⟩:=dH aw5 (.int .i64 fe) (.int .i64 fp)
    have aqc:=aF aih g52 av4 aih.size
    refine aJ rfl (by rfl) (fun K hK=>?_)
    go_simp
    go_wp2_with fail
    refine hK.out _ _ (SX.out _ aqc) ?_
    clear hK K
    try simp only[Act.put,List.setIfInBounds_toArray,List.set_cons_zero,List.set_cons_succ]
    refine bO fQ ?_
    go_wp2_with fail
    go_meet
    exact⟨_,rfl,hide awC,hide aqc⟩
  ·obtain⟨W53,hW53,axh,axx,aiC⟩:=au W0 #[.int .i64 0,.int .i64 0] 31
   clear axh
   have aoY:=cZ.size
   have wS:=cZ.trans (axx.mono cZ.size)
   refine aJ rfl (by rfl) (fun K hK=>?_)
   go_simp
   go_wp2_with fail
   refine hK.out _ _ (SX.out _ wS) ?_
   clear hK K
   try simp only[Act.put,List.setIfInBounds_toArray,List.set_cons_zero,List.set_cons_succ]
   refine eX aol ?_ ?_
   ·refine aJ rfl (by rfl) (fun K hK=>?_)
    go_simp
    refine(HEp.out _ wS).mono ?_
    rintro E W54 ⟨rfl,auh⟩
    have xu:=wS.trans (auh.mono wS.size)
    have ahI:=(auh.block _ (aA aiC)).trans aiC
    go_wp2_with fail
    refine hK.out _ _ (SX.out _ xu) ?_
    clear hK K
    try simp only[Act.put,List.setIfInBounds_toArray,List.set_cons_zero,List.set_cons_succ]
    refine eX aeE ?_ ?_
    ·refine aJ rfl (by rfl) (fun K hK=>?_)
     go_simp
     refine(um.out _ xu).mono ?_
     rintro E W55 ⟨rfl,ate⟩
     have ahz:=xu.trans (ate.mono xu.size)
     have arS:=(ate.block _ (aA ahI)).trans ahI
     go_wp2_with fail
     refine hK.out _ _ (SX.out _ ahz) ?_
     clear hK K
     try simp only[Act.put,List.setIfInBounds_toArray,List.set_cons_zero,List.set_cons_succ]
     refine aN yS ?_
     obtain⟨W56,hW56,axn,asE,aoz⟩:=au W55 #[.int .i64 c.e,.int .i64 c.n,.slice ao c.l.length cap] 35
     clear axn
     have adm:=ahz.trans (asE.mono ahz.size)
     have avi:=(asE.block _ (aA arS)).trans arS
     refine aJ rfl (by rfl) (fun K hK=>?_)
     go_simp
     go_wp2_with fail
     refine hK.out _ _ (SX.out _ adm) ?_
     clear hK K
     try simp only[Act.put,List.setIfInBounds_toArray,List.set_cons_zero,List.set_cons_succ]
     refine aN gD ?_
     refine aJ rfl (by rfl) (fun K hK=>?_)
     go_simp
     refine(nO.out _ _ adm aoz).mono ?_
     rintro E W57 ⟨rfl,amq⟩
     have aiV:=adm.trans (amq.mono adm.size)
     have ha57:=(amq.block _ (aA aoz)).trans aoz
     have avX:=(amq.block _ (aA avi)).trans avi
     go_wp2_with fail
     refine hK.out _ _ (SX.out _ aiV) ?_
     clear hK K
     try simp only[Act.put,List.setIfInBounds_toArray,List.set_cons_zero,List.set_cons_succ]
     refine aN eQ ?_
     obtain⟨W58,hW58,awL,g58,⟨p0,p1⟩,⟨f0,f1⟩,⟨l0,l1⟩⟩:=dH avX (.int .i64 fe) (.int .i64 fp)
     have ap3:=aF aiV g58 aoY aiV.size
     refine aJ rfl (by rfl) (fun K hK=>?_)
     go_simp
     go_wp2_with fail
     refine hK.out _ _ (SX.out _ ap3) ?_
     clear hK K
     try simp only[Act.put,List.setIfInBounds_toArray,List.set_cons_zero,List.set_cons_succ]
     refine bO fQ ?_
     go_wp2_with fail
     go_meet
     exact⟨_,rfl,hide awL,hide ap3⟩
    ·obtain⟨W59,hW59,awo,asV,atn⟩:=au W54 #[.int .i64 c.e,.int .i64 c.n,.slice ao c.l.length cap] 35
     clear awo
     have adh:=xu.trans (asV.mono xu.size)
     have aun:=(asV.block _ (aA ahI)).trans ahI
     refine aJ rfl (by rfl) (fun K hK=>?_)
     go_simp
     go_wp2_with fail
     refine hK.out _ _ (SX.out _ adh) ?_
     clear hK K
     try simp only[Act.put,List.setIfInBounds_toArray,List.set_cons_zero,List.set_cons_succ]
     refine aN l7 ?_
     refine aJ rfl (by rfl) (fun K hK=>?_)
     go_simp
     refine(um.out _ adh).mono ?_
     rintro E W60 ⟨rfl,alR⟩
     have adC:=adh.trans (alR.mono adh.size)
     have amX:=(alR.block _ (aA atn)).trans atn
     have asa:=(alR.block _ (aA aun)).trans aun
     go_wp2_with fail
     refine hK.out _ _ (SX.out _ adC) ?_
     clear hK K
     try simp only[Act.put,List.setIfInBounds_toArray,List.set_cons_zero,List.set_cons_succ]
     refine aN gD ?_
     refine aJ rfl (by rfl) (fun K hK=>?_)
     go_simp
     refine(nO.out _ _ adC amX).mono ?_
     rintro E W61 ⟨rfl,alQ⟩
     have aix:=adC.trans (alQ.mono adC.size)
     have ha61:=(alQ.block _ (aA amX)).trans amX
     have awp:=(alQ.block _ (aA asa)).trans asa
     go_wp2_with fail
     refine hK.out _ _ (SX.out _ aix) ?_
     clear hK K
     try simp only[Act.put,List.setIfInBounds_toArray,List.set_cons_zero,List.set_cons_succ]
     refine aN eQ ?_
     obtain⟨W62,hW62,awP,g62,⟨p0,p1⟩,⟨f0,f1⟩,⟨l0,l1⟩⟩:=dH awp (.int .i64 fe) (.int .i64 fp)
     have apq:=aF aix g62 aoY aix.size
     refine aJ rfl (by rfl) (fun K hK=>?_)
     go_simp
     go_wp2_with fail
     refine hK.out _ _ (SX.out _ apq) ?_
     clear hK K
     try simp only[Act.put,List.setIfInBounds_toArray,List.set_cons_zero,List.set_cons_succ]
     refine bO fQ ?_
     go_wp2_with fail
     go_meet
     exact⟨_,rfl,hide awP,hide apq⟩
   ·obtain⟨W63,hW63,axf,ato,auB⟩:=au W53 #[.int .i64 c.e,.int .i64 c.n,.slice ao c.l.length cap] 35
    clear axf
    have adw:=wS.trans (ato.mono wS.size)
    have atB:=(ato.block _ (aA aiC)).trans aiC
    refine aJ rfl (by rfl) (fun K hK=>?_)
    go_simp
    go_wp2_with fail
    refine hK.out _ _ (SX.out _ adw) ?_
    clear hK K
    try simp only[Act.put,List.setIfInBounds_toArray,List.set_cons_zero,List.set_cons_succ]
    refine aN aeq ?_
    refine aJ rfl (by rfl) (fun K hK=>?_)
    go_simp
    refine(HEp.out _ adw).mono ?_
    rintro E W64 ⟨rfl,alW⟩
    have adn:=adw.trans (alW.mono adw.size)
    have avf:=(alW.block _ (aA auB)).trans auB
    have auk:=(alW.block _ (aA atB)).trans atB
    go_wp2_with fail
    refine hK.out _ _ (SX.out _ adn) ?_
    clear hK K
    try simp only[Act.put,List.setIfInBounds_toArray,List.set_cons_zero,List.set_cons_succ]
    refine aN l7 ?_
    refine aJ rfl (by rfl) (fun K hK=>?_)
    go_simp
    refine(um.out _ adn).mono ?_
    rintro E W65 ⟨rfl,amG⟩
    have adK:=adn.trans (amG.mono adn.size)
    have anb:=(amG.block _ (aA avf)).trans avf
    have as6:=(amG.block _ (aA auk)).trans auk
    go_wp2_with fail
    refine hK.out _ _ (SX.out _ adK) ?_
    clear hK K
    try simp only[Act.put,List.setIfInBounds_toArray,List.set_cons_zero,List.set_cons_succ]
    refine aN gD ?_
    refine aJ rfl (by rfl) (fun K hK=>?_)
    go_simp
    refine(nO.out _ _ adK anb).mono ?_
    rintro E W66 ⟨rfl,ann⟩
    have ah1:=adK.trans (ann.mono adK.size)
    have ha66:=(ann.block _ (aA anb)).trans anb
    have axb:=(ann.block _ (aA as6)).trans as6
    go_wp2_with fail
    refine hK.out _ _ (SX.out _ ah1) ?_
    clear hK K
    try simp only[Act.put,List.setIfInBounds_toArray,List.set_cons_zero,List.set_cons_succ]
    refine aN eQ ?_
    obtain⟨W67,hW67,axl,g67,⟨p0,p1⟩,⟨f0,f1⟩,⟨l0,l1⟩⟩:=dH axb (.int .i64 fe) (.int .i64 fp)
    have ao8:=aF ah1 g67 aoY ah1.size
    refine aJ rfl (by rfl) (fun K hK=>?_)
    go_simp
    go_wp2_with fail
    refine hK.out _ _ (SX.out _ ao8) ?_
    clear hK K
    try simp only[Act.put,List.setIfInBounds_toArray,List.set_cons_zero,List.set_cons_succ]
    refine bO fQ ?_
    go_wp2_with fail
    go_meet
    exact⟨_,rfl,hide axl,hide ao8⟩
 case rest=>
  obtain⟨R,rfl,hR,bR⟩:=hcut
  obtain⟨w6,kD⟩:∃x,wc=x:=⟨_,rfl⟩
  rw[kD]at hR bR⊢
  have r0:=ai hR.out 0 rfl
  have r1:=ai hR.out 1 rfl
  simp only[List.getElem_toArray,List.getElem_cons_zero,List.getElem_cons_succ]at r0 r1
  have q1:=Tryz.adV fe fp 0 0
  have q2:=Tryz.vE .neq
  have B06:=hide (xR.out.trans (bR.out.mono xR.out.size))
  obtain⟨x0,x1,x2⟩:=SX.out _ bR.out
  clear kD HEp um nO SX
  by_cases hf0:fe=0
  ·have hp0:=HAT.out hf0
   subst hf0
   subst hp0
   have e1:Sto.yh s c.c=(0,⟨s.r,s.l++[c.c]⟩):=by rw[HA1.out,if_neg (by simp)]
   have E1:=hide e1
   rw[e1]at HAP
   have HAD:=hide (anB ps p q F w6 s c (HSW.out.below B06.out) (HI.out.1.below B06.out) HAP.out HI.out.2.2.2.2.1 HI.out.2.2.2.2.2)
   unfold dF at HAD
   rw[uy.out]at HAD
   clear e1
   go_wp2_with fail
   refine HAD.out.mono ?_
   rintro E w7 ⟨⟨uu,rfl⟩,SS⟩
   have FIN:=hide (qZ.pre B06.out SS)
   clear SS HAD
   go_wp2
   go_ret
   rw[E1.out]
   exact⟨rfl,FIN.out⟩
  ·have e1:Sto.yh s c.c=(fe,s):=by rw[HA1.out,if_pos hf0]
   have E1:=hide e1
   have hne:(fe==0)=false:=by simpa using hf0
   clear e1
   go_wp2
   go_ret
   rw[E1.out]
   exact⟨rfl,qZ.same HSW.out B06.out⟩
end Go.Proofs.YtlmkaljjocflmaaGreatDoor
