/- Texts of one layer, one behind the other. -/
import Derived.Test.YtjemlgdkjilnoaaGreatDoorH23
import Derived.Test.YtjemlgdkjilnoaaGreatDoorH20
import Derived.Test.YtjemlgdkjilnoaaGreatDoorH2
import Derived.Test.YtjemlgdkjilnoaaGreatDoorH3
import Derived.Test.YtjemlgdkjilnoaaGreatDoorH24
import Derived.Deep.CutRange
import Derived.Test.YtjemlgdkjilnoaaGreatDoorH16
import Derived.Test.YtjemlgdkjilnoaaGreatDoorH4
import Derived.Deep.RegionHeld3
import Derived.Test.YtjemlgdkjilnoaaGreatDoorH15
import Derived.Test.YtjemlgdkjilnoaaGreatDoorH1
import Derived.Test.YtjemlgdkjilnoaaGreatDoorM4
import Derived.Test.YtjemlgdkjilnoaaGreatDoorH19
import Derived.Test.YtjemlgdkjilnoaaGreatDoorH14
import Derived.Test.YtjemlgdkjilnoaaGreatDoorH8
import Derived.Test.YtjemlgdkjilnoaaGreatDoorH22
set_option maxRecDepth 100000
set_option maxHeartbeats 8000000
namespace Go.Proofs.YtjemlgdkjilnoaaGreatDoor
open Go.RowKit
open Bm (Ov)
set_option linter.unusedVariables false
theorem aiS (ps p q:Nat)(F:Nat→Prop)(w:World)(s:Sto.Ss)(c:Cw)(h:SW ps p q F w s)(hi:df w c.v c.l)(hf:iR c.l)(h64:In64 c.e∧In64 c.n)(hlo:c.l.length*40≤140737488351232)(jQ:0<c.l.length→∀b,c.v.ownBlock=some b→¬F b)(hn:s.l.length≤100000):
  Calls Tryz.prog 114 #[.pointer (some ⟨ps,0,none⟩),bT c.e c.n c.v] w fun E w'=>E=.returned (.int .i64 (Sto.zC s c.c).1)∧tH ps p q F w w' (Sto.zC s c.c).2:=by
 obtain⟨w1,hw1,aW,aj,hB⟩:=ak w #[.int .i64 c.e,.int .i64 c.n,c.v] 65
 have HR:=hide (aiq ps p q F w1 s (h.below aj))
 obtain⟨ao,cap,hcv,_,_⟩:=hi.shape
 have qf:=hide hcv
 have zq:=hide h.ok
 have HAP:=hide (Sto.av1 h.ok c.c)
 obtain⟨fe,hfe⟩:∃x,(Cm.fol (Cm.lastE 1 s.l) (Sto.fin s) 0 [c.c]).1=x:=⟨_,rfl⟩
 obtain⟨fp,hfp⟩:∃x,(Cm.fol (Cm.lastE 1 s.l) (Sto.fin s) 0 [c.c]).2=x:=⟨_,rfl⟩
 have hat:=Cm.qm [c.c] (Cm.lastE 1 s.l) (Sto.fin s) 0
 have hap:Sto.zC s c.c=if fe≠0 then(fe,s)else(0,⟨s.r,s.l++[c.c]⟩):=by unfold Sto.zC;rw[hfe]
 rw[hfe,hfp]at hat
 have HA1:=hide hap
 have HAT:=hide hat
 have HSW:=hide h
 have HI:=hide (And.intro hi (And.intro hf (And.intro h64 (And.intro hlo (And.intro jQ hn)))))
 have HFE:=hide (And.intro hfe hfp)
 have HB:=hide hB
 have B1:=hide aj
 have hsz:=hide aW
 unfold bT
 rw[hcv]at hw1⊢
 clear h hi hf h64 hlo jQ hcv hap hat hfe hfp hB aj aW hn
 go_enter Tryz.func114,Tryz.ntmps114
 go_wp2_with fail
 refine HR.out.mono ?_
 rintro E w2 ⟨rfl,au⟩
 have yV:=hide (B1.out.trans (au.mono B1.out.size))
 have hB2:=(au.block w.heap.size (by have:=hsz.out;omega)).trans HB.out
 have SX:Hid (∀W,Below w2.heap.size w2 W→W.cell? ⟨w.heap.size,0,none⟩=some (.int .i64 c.e)∧W.cell? ⟨w.heap.size,1,none⟩=some (.int .i64 c.n)∧W.cell? ⟨w.heap.size,2,none⟩=some (.slice ao c.l.length cap)):=hide fun W hW=>by
  have k:=(hW.block w.heap.size (ax hB2)).trans hB2
  rw[qf.out]at k
  exact⟨ai k 0 rfl,ai k 1 rfl,ai k 2 rfl⟩
 have HEp:Hid (∀W,Below w2.heap.size w2 W→Calls Tryz.prog 160 #[.pointer (some ⟨ps,0,none⟩)] W fun E w'=>E=.returned (.int .i64 (Cm.lastE 1 s.l))∧Below W.heap.size W w'):=hide fun W hW=>
  (amF ps p q F W s ((HSW.out.below yV.out).below hW)).mono fun E w' h=>⟨h.1,by obtain⟨m,rfl⟩:=h.2;exact below_drewN (Below.refl _ _) m⟩
 have vE:Hid (∀W,Below w2.heap.size w2 W→Calls Tryz.prog 161 #[.pointer (some ⟨ps,0,none⟩)] W fun E w'=>E=.returned (.int .i64 (Sto.fin s))∧Below W.heap.size W w'):=hide fun W hW=>
  (an6 ps p q F W s ((HSW.out.below yV.out).below hW)).mono fun E w' h=>⟨h.1,by obtain⟨m,rfl⟩:=h.2;exact below_drewN (Below.refl _ _) m⟩
 have pF:Hid (∀W a,Below w2.heap.size w2 W→W.heap[a]? =some (.cells #[.int .i64 c.e,.int .i64 c.n,.slice ao c.l.length cap] 65 (0,0))→Calls Tryz.prog 16 #[.int .i64 (Cm.lastE 1 s.l),.int .i64 (Sto.fin s),.slice (some ⟨a,0,none⟩) 1 1] W fun E w'=>E=.returned (.agg #[.int .i64 fe,.int .i64 fp])∧Below W.heap.size W w'):=hide fun W a hW ha=>by
  have hc:=jY (Cm.lastE 1 s.l) (Sto.fin s) _ [⟨c.e,c.n,.slice ao c.l.length cap,c.l⟩] W ⟨agH ha,fun d hd=>by rw[List.mem_singleton.1 hd];exact⟨by rw[←qf.out];exact(HI.out.1.below yV.out).below hW,HI.out.2.2.1⟩⟩ (dV.one HI.out.2.1 HI.out.2.2.2.1) (by simp)
  rw[show az [(⟨c.e,c.n,.slice ao c.l.length cap,c.l⟩:Cw)]=[c.c]from rfl]at hc
  unfold q9 at hc
  rw[HFE.out.1,HFE.out.2]at hc
  exact hc
 generalize Cm.lastE 1 s.l=le at*
 generalize Sto.fin s=fn at*
 clear HR au hB2
 go_wp2_with fail
 go_cut [5]from 9 to 15 (fun v5 wx=>∃R,v5=.pointer (some ⟨R,0,none⟩)∧Hid (wx.heap[R]? =some (.cells #[.int .i64 fe,.int .i64 fp] 61 (0,0)))∧Hid (Below w2.heap.size w2 wx))
 case first=>
  obtain⟨W0,hW0⟩:∃x,w2.drew=x:=⟨_,rfl⟩
  have dB:Below w2.heap.size w2 W0:=by rw[←hW0];exact(Below.refl _ _).drew
  refine mH (ops:=(aA 3 Tryz.f114)) (S:=fun W=>W.cell? ⟨w.heap.size,0,none⟩=some (.int .i64 c.e)∧W.cell? ⟨w.heap.size,1,none⟩=some (.int .i64 c.n)∧W.cell? ⟨w.heap.size,2,none⟩=some (.slice ao c.l.length cap)) (by kernel_rfl) aoL ?_
  rw[asx,hW0]
  refine aJ (v:=?_) aoW (by kernel_rfl) (fun _ _ _ _ _ h=>h) (SX.out _ dB) rfl rfl (by rfl) ?_ ?_
  rotate_left 1
  ·intro w hS
   (try dsimp only at hS)
   go_simp
   all_goals with_reducible rfl
  simp only[Act.put,List.setIfInBounds_toArray,List.set_cons_zero,List.set_cons_succ]
  refine aJ (v:=?_) aon (by kernel_rfl) (fun _ _ _ _ _ h=>h) (SX.out _ dB) rfl rfl (by rfl) ?_ ?_
  rotate_left 1
  ·intro w hS
   (try dsimp only at hS)
   go_simp
   all_goals with_reducible rfl
  simp only[Act.put,List.setIfInBounds_toArray,List.set_cons_zero,List.set_cons_succ]
  refine aJ (v:=?_) amK (by kernel_rfl) (fun _ _ _ _ _ h=>h) (SX.out _ dB) rfl rfl (by rfl) ?_ ?_
  rotate_left 1
  ·intro w hS
   (try dsimp only at hS)
   go_simp
   all_goals with_reducible rfl
  simp only[Act.put,List.setIfInBounds_toArray,List.set_cons_zero,List.set_cons_succ]
  refine acF arC ?_ ?_ ?_
  ·refine aK rfl (by rfl) (fun K hK=>?_)
   go_simp
   refine(HEp.out _ dB).mono ?_
   rintro E W1 ⟨rfl,st1⟩
   have aj:=dB.trans (st1.mono dB.size)
   go_wp2_with fail
   refine hK.out _ _ (SX.out _ aj) ?_
   clear hK K
   try simp only[Act.put,List.setIfInBounds_toArray,List.set_cons_zero,List.set_cons_succ]
   refine acF art ?_ ?_ ?_
   ·refine aK rfl (by rfl) (fun K hK=>?_)
    go_simp
    refine(vE.out _ aj).mono ?_
    rintro E W2 ⟨rfl,st2⟩
    have au:=aj.trans (st2.mono aj.size)
    go_wp2_with fail
    refine hK.out _ _ (SX.out _ au) ?_
    clear hK K
    try simp only[Act.put,List.setIfInBounds_toArray,List.set_cons_zero,List.set_cons_succ]
    refine iq arR ?_ ?_
    ·obtain⟨W3,hW3,bP,st3,ha3⟩:=ak W2 #[.int .i64 c.e,.int .i64 c.n,.slice ao c.l.length cap] 65
     clear bP
     have aF:=au.trans (st3.mono au.size)
     refine aK rfl (by rfl) (fun K hK=>?_)
     go_simp
     go_wp2_with fail
     refine hK.out _ _ (SX.out _ aF) ?_
     clear hK K
     try simp only[Act.put,List.setIfInBounds_toArray,List.set_cons_zero,List.set_cons_succ]
     refine iq abV ?_ ?_
     ·refine aK rfl (by rfl) (fun K hK=>?_)
      go_simp
      refine(pF.out _ _ aF ha3).mono ?_
      rintro E W4 ⟨rfl,kM⟩
      have aM:=aF.trans (kM.mono aF.size)
      have ha4:=(kM.block _ (ax ha3)).trans ha3
      go_wp2_with fail
      refine hK.out _ _ (SX.out _ aM) ?_
      clear hK K
      try simp only[Act.put,List.setIfInBounds_toArray,List.set_cons_zero,List.set_cons_succ]
      refine aS aag ?_
      obtain⟨W5,hW5,sH,vO,hb5⟩:=ak W4 #[.int .i64 0,.int .i64 0] 61
      clear sH
      have lb5:=aM.size
      have bn:=aM.trans (vO.mono aM.size)
      have ha5:=(vO.block _ (ax ha4)).trans ha4
      refine aK rfl (by rfl) (fun K hK=>?_)
      go_simp
      go_wp2_with fail
      refine hK.out _ _ (SX.out _ bn) ?_
      clear hK K
      try simp only[Act.put,List.setIfInBounds_toArray,List.set_cons_zero,List.set_cons_succ]
      refine aS fF ?_
      obtain⟨W6,hW6,hb6,g6,⟨p0,p1⟩,⟨f0,f1⟩,⟨l0,l1⟩⟩:=dE hb5 (.int .i64 fe) (.int .i64 fp)
      have eZ:=aD bn g6 lb5 bn.size
      refine aK rfl (by rfl) (fun K hK=>?_)
      go_simp
      go_wp2_with fail
      refine hK.out _ _ (SX.out _ eZ) ?_
      clear hK K
      try simp only[Act.put,List.setIfInBounds_toArray,List.set_cons_zero,List.set_cons_succ]
      refine dz gK ?_
      go_wp2_with fail
      go_meet
      exact⟨_,rfl,hide hb6,hide eZ⟩
     ·obtain⟨W7,hW7,sz7,st7,hb7⟩:=ak W3 #[.int .i64 0,.int .i64 0] 61
      clear sz7
      have lb7:=aF.size
      have jc:=aF.trans (st7.mono aF.size)
      have ha7:=(st7.block _ (ax ha3)).trans ha3
      refine aK rfl (by rfl) (fun K hK=>?_)
      go_simp
      go_wp2_with fail
      refine hK.out _ _ (SX.out _ jc) ?_
      clear hK K
      try simp only[Act.put,List.setIfInBounds_toArray,List.set_cons_zero,List.set_cons_succ]
      refine aS iC ?_
      refine aK rfl (by rfl) (fun K hK=>?_)
      go_simp
      refine(pF.out _ _ jc ha7).mono ?_
      rintro E W8 ⟨rfl,st8⟩
      have lF:=jc.trans (st8.mono jc.size)
      have ha8:=(st8.block _ (ax ha7)).trans ha7
      have hb8:=(st8.block _ (ax hb7)).trans hb7
      go_wp2_with fail
      refine hK.out _ _ (SX.out _ lF) ?_
      clear hK K
      try simp only[Act.put,List.setIfInBounds_toArray,List.set_cons_zero,List.set_cons_succ]
      refine aS fF ?_
      obtain⟨W9,hW9,hb9,g9,⟨p0,p1⟩,⟨f0,f1⟩,⟨l0,l1⟩⟩:=dE hb8 (.int .i64 fe) (.int .i64 fp)
      have gJ:=aD lF g9 lb7 lF.size
      refine aK rfl (by rfl) (fun K hK=>?_)
      go_simp
      go_wp2_with fail
      refine hK.out _ _ (SX.out _ gJ) ?_
      clear hK K
      try simp only[Act.put,List.setIfInBounds_toArray,List.set_cons_zero,List.set_cons_succ]
      refine dz gK ?_
      go_wp2_with fail
      go_meet
      exact⟨_,rfl,hide hb9,hide gJ⟩
    ·obtain⟨W10,hW10,axI,ayE,asY⟩:=ak W2 #[.int .i64 0,.int .i64 0] 61
     clear axI
     have axG:=au.size
     have uQ:=au.trans (ayE.mono au.size)
     refine aK rfl (by rfl) (fun K hK=>?_)
     go_simp
     go_wp2_with fail
     refine hK.out _ _ (SX.out _ uQ) ?_
     clear hK K
     try simp only[Act.put,List.setIfInBounds_toArray,List.set_cons_zero,List.set_cons_succ]
     refine aS zT ?_
     obtain⟨W11,hW11,axA,aws,amw⟩:=ak W10 #[.int .i64 c.e,.int .i64 c.n,.slice ao c.l.length cap] 65
     clear axA
     have adN:=uQ.trans (aws.mono uQ.size)
     have atK:=(aws.block _ (ax asY)).trans asY
     refine aK rfl (by rfl) (fun K hK=>?_)
     go_simp
     go_wp2_with fail
     refine hK.out _ _ (SX.out _ adN) ?_
     clear hK K
     try simp only[Act.put,List.setIfInBounds_toArray,List.set_cons_zero,List.set_cons_succ]
     refine aS iC ?_
     refine aK rfl (by rfl) (fun K hK=>?_)
     go_simp
     refine(pF.out _ _ adN amw).mono ?_
     rintro E W12 ⟨rfl,aoq⟩
     have ais:=adN.trans (aoq.mono adN.size)
     have ha12:=(aoq.block _ (ax amw)).trans amw
     have ao9:=(aoq.block _ (ax atK)).trans atK
     go_wp2_with fail
     refine hK.out _ _ (SX.out _ ais) ?_
     clear hK K
     try simp only[Act.put,List.setIfInBounds_toArray,List.set_cons_zero,List.set_cons_succ]
     refine aS fF ?_
     obtain⟨W13,hW13,ayg,g13,⟨p0,p1⟩,⟨f0,f1⟩,⟨l0,l1⟩⟩:=dE ao9 (.int .i64 fe) (.int .i64 fp)
     have nI:=aD ais g13 axG ais.size
     refine aK rfl (by rfl) (fun K hK=>?_)
     go_simp
     go_wp2_with fail
     refine hK.out _ _ (SX.out _ nI) ?_
     clear hK K
     try simp only[Act.put,List.setIfInBounds_toArray,List.set_cons_zero,List.set_cons_succ]
     refine dz gK ?_
     go_wp2_with fail
     go_meet
     exact⟨_,rfl,hide ayg,hide nI⟩
   ·obtain⟨W14,hW14,ayN,axy,ajn⟩:=ak W1 #[.int .i64 c.e,.int .i64 c.n,.slice ao c.l.length cap] 65
    clear ayN
    have uL:=aj.trans (axy.mono aj.size)
    refine aK rfl (by rfl) (fun K hK=>?_)
    go_simp
    go_wp2_with fail
    refine hK.out _ _ (SX.out _ uL) ?_
    clear hK K
    try simp only[Act.put,List.setIfInBounds_toArray,List.set_cons_zero,List.set_cons_succ]
    refine iq agB ?_ ?_
    ·refine aK rfl (by rfl) (fun K hK=>?_)
     go_simp
     refine(vE.out _ uL).mono ?_
     rintro E W15 ⟨rfl,avu⟩
     have uC:=uL.trans (avu.mono uL.size)
     have afR:=(avu.block _ (ax ajn)).trans ajn
     go_wp2_with fail
     refine hK.out _ _ (SX.out _ uC) ?_
     clear hK K
     try simp only[Act.put,List.setIfInBounds_toArray,List.set_cons_zero,List.set_cons_succ]
     refine iq abV ?_ ?_
     ·refine aK rfl (by rfl) (fun K hK=>?_)
      go_simp
      refine(pF.out _ _ uC afR).mono ?_
      rintro E W16 ⟨rfl,avb⟩
      have adP:=uC.trans (avb.mono uC.size)
      have ha16:=(avb.block _ (ax afR)).trans afR
      go_wp2_with fail
      refine hK.out _ _ (SX.out _ adP) ?_
      clear hK K
      try simp only[Act.put,List.setIfInBounds_toArray,List.set_cons_zero,List.set_cons_succ]
      refine aS aag ?_
      obtain⟨W17,hW17,axU,aun,ayJ⟩:=ak W16 #[.int .i64 0,.int .i64 0] 61
      clear axU
      have axB:=adP.size
      have aiT:=adP.trans (aun.mono adP.size)
      have ha17:=(aun.block _ (ax ha16)).trans ha16
      refine aK rfl (by rfl) (fun K hK=>?_)
      go_simp
      go_wp2_with fail
      refine hK.out _ _ (SX.out _ aiT) ?_
      clear hK K
      try simp only[Act.put,List.setIfInBounds_toArray,List.set_cons_zero,List.set_cons_succ]
      refine aS fF ?_
      obtain⟨W18,hW18,ayC,g18,⟨p0,p1⟩,⟨f0,f1⟩,⟨l0,l1⟩⟩:=dE ayJ (.int .i64 fe) (.int .i64 fp)
      have aqO:=aD aiT g18 axB aiT.size
      refine aK rfl (by rfl) (fun K hK=>?_)
      go_simp
      go_wp2_with fail
      refine hK.out _ _ (SX.out _ aqO) ?_
      clear hK K
      try simp only[Act.put,List.setIfInBounds_toArray,List.set_cons_zero,List.set_cons_succ]
      refine dz gK ?_
      go_wp2_with fail
      go_meet
      exact⟨_,rfl,hide ayC,hide aqO⟩
     ·obtain⟨W19,hW19,axW,aum,auj⟩:=ak W15 #[.int .i64 0,.int .i64 0] 61
      clear axW
      have ax2:=uC.size
      have adL:=uC.trans (aum.mono uC.size)
      have aoM:=(aum.block _ (ax afR)).trans afR
      refine aK rfl (by rfl) (fun K hK=>?_)
      go_simp
      go_wp2_with fail
      refine hK.out _ _ (SX.out _ adL) ?_
      clear hK K
      try simp only[Act.put,List.setIfInBounds_toArray,List.set_cons_zero,List.set_cons_succ]
      refine aS iC ?_
      refine aK rfl (by rfl) (fun K hK=>?_)
      go_simp
      refine(pF.out _ _ adL aoM).mono ?_
      rintro E W20 ⟨rfl,aog⟩
      have ajg:=adL.trans (aog.mono adL.size)
      have ha20:=(aog.block _ (ax aoM)).trans aoM
      have aym:=(aog.block _ (ax auj)).trans auj
      go_wp2_with fail
      refine hK.out _ _ (SX.out _ ajg) ?_
      clear hK K
      try simp only[Act.put,List.setIfInBounds_toArray,List.set_cons_zero,List.set_cons_succ]
      refine aS fF ?_
      obtain⟨W21,hW21,axw,g21,⟨p0,p1⟩,⟨f0,f1⟩,⟨l0,l1⟩⟩:=dE aym (.int .i64 fe) (.int .i64 fp)
      have aqv:=aD ajg g21 ax2 ajg.size
      refine aK rfl (by rfl) (fun K hK=>?_)
      go_simp
      go_wp2_with fail
      refine hK.out _ _ (SX.out _ aqv) ?_
      clear hK K
      try simp only[Act.put,List.setIfInBounds_toArray,List.set_cons_zero,List.set_cons_succ]
      refine dz gK ?_
      go_wp2_with fail
      go_meet
      exact⟨_,rfl,hide axw,hide aqv⟩
    ·obtain⟨W22,hW22,axF,atY,atg⟩:=ak W14 #[.int .i64 0,.int .i64 0] 61
     clear axF
     have axE:=uL.size
     have adZ:=uL.trans (atY.mono uL.size)
     have auW:=(atY.block _ (ax ajn)).trans ajn
     refine aK rfl (by rfl) (fun K hK=>?_)
     go_simp
     go_wp2_with fail
     refine hK.out _ _ (SX.out _ adZ) ?_
     clear hK K
     try simp only[Act.put,List.setIfInBounds_toArray,List.set_cons_zero,List.set_cons_succ]
     refine aS mY ?_
     refine aK rfl (by rfl) (fun K hK=>?_)
     go_simp
     refine(vE.out _ adZ).mono ?_
     rintro E W23 ⟨rfl,aoo⟩
     have jR:=adZ.trans (aoo.mono adZ.size)
     have anu:=(aoo.block _ (ax auW)).trans auW
     have asM:=(aoo.block _ (ax atg)).trans atg
     go_wp2_with fail
     refine hK.out _ _ (SX.out _ jR) ?_
     clear hK K
     try simp only[Act.put,List.setIfInBounds_toArray,List.set_cons_zero,List.set_cons_succ]
     refine aS iC ?_
     refine aK rfl (by rfl) (fun K hK=>?_)
     go_simp
     refine(pF.out _ _ jR anu).mono ?_
     rintro E W24 ⟨rfl,amY⟩
     have ahI:=jR.trans (amY.mono jR.size)
     have ha24:=(amY.block _ (ax anu)).trans anu
     have ayb:=(amY.block _ (ax asM)).trans asM
     go_wp2_with fail
     refine hK.out _ _ (SX.out _ ahI) ?_
     clear hK K
     try simp only[Act.put,List.setIfInBounds_toArray,List.set_cons_zero,List.set_cons_succ]
     refine aS fF ?_
     obtain⟨W25,hW25,ayM,g25,⟨p0,p1⟩,⟨f0,f1⟩,⟨l0,l1⟩⟩:=dE ayb (.int .i64 fe) (.int .i64 fp)
     have aqz:=aD ahI g25 axE ahI.size
     refine aK rfl (by rfl) (fun K hK=>?_)
     go_simp
     go_wp2_with fail
     refine hK.out _ _ (SX.out _ aqz) ?_
     clear hK K
     try simp only[Act.put,List.setIfInBounds_toArray,List.set_cons_zero,List.set_cons_succ]
     refine dz gK ?_
     go_wp2_with fail
     go_meet
     exact⟨_,rfl,hide ayM,hide aqz⟩
   ·obtain⟨W26,hW26,axu,ayP,aiY⟩:=ak W1 #[.int .i64 0,.int .i64 0] 61
    clear axu
    have ath:=aj.size
    have yI:=aj.trans (ayP.mono aj.size)
    refine aK rfl (by rfl) (fun K hK=>?_)
    go_simp
    go_wp2_with fail
    refine hK.out _ _ (SX.out _ yI) ?_
    clear hK K
    try simp only[Act.put,List.setIfInBounds_toArray,List.set_cons_zero,List.set_cons_succ]
    refine iq afW ?_ ?_
    ·refine aK rfl (by rfl) (fun K hK=>?_)
     go_simp
     refine(vE.out _ yI).mono ?_
     rintro E W27 ⟨rfl,asD⟩
     have ajb:=yI.trans (asD.mono yI.size)
     have auc:=(asD.block _ (ax aiY)).trans aiY
     go_wp2_with fail
     refine hK.out _ _ (SX.out _ ajb) ?_
     clear hK K
     try simp only[Act.put,List.setIfInBounds_toArray,List.set_cons_zero,List.set_cons_succ]
     refine aS zT ?_
     obtain⟨W28,hW28,ax4,av2,ano⟩:=ak W27 #[.int .i64 c.e,.int .i64 c.n,.slice ao c.l.length cap] 65
     clear ax4
     have adI:=ajb.trans (av2.mono ajb.size)
     have aww:=(av2.block _ (ax auc)).trans auc
     refine aK rfl (by rfl) (fun K hK=>?_)
     go_simp
     go_wp2_with fail
     refine hK.out _ _ (SX.out _ adI) ?_
     clear hK K
     try simp only[Act.put,List.setIfInBounds_toArray,List.set_cons_zero,List.set_cons_succ]
     refine aS iC ?_
     refine aK rfl (by rfl) (fun K hK=>?_)
     go_simp
     refine(pF.out _ _ adI ano).mono ?_
     rintro E W29 ⟨rfl,anI⟩
     have aiE:=adI.trans (anI.mono adI.size)
     have ha29:=(anI.block _ (ax ano)).trans ano
     have ax7:=(anI.block _ (ax aww)).trans aww
     go_wp2_with fail
     refine hK.out _ _ (SX.out _ aiE) ?_
     clear hK K
     try simp only[Act.put,List.setIfInBounds_toArray,List.set_cons_zero,List.set_cons_succ]
     refine aS fF ?_
     obtain⟨W30,hW30,ax8,g30,⟨p0,p1⟩,⟨f0,f1⟩,⟨l0,l1⟩⟩:=dE ax7 (.int .i64 fe) (.int .i64 fp)
     have apM:=aD aiE g30 ath aiE.size
     refine aK rfl (by rfl) (fun K hK=>?_)
     go_simp
     go_wp2_with fail
     refine hK.out _ _ (SX.out _ apM) ?_
     clear hK K
     try simp only[Act.put,List.setIfInBounds_toArray,List.set_cons_zero,List.set_cons_succ]
     refine dz gK ?_
     go_wp2_with fail
     go_meet
     exact⟨_,rfl,hide ax8,hide apM⟩
    ·obtain⟨W31,hW31,aye,auF,ati⟩:=ak W26 #[.int .i64 c.e,.int .i64 c.n,.slice ao c.l.length cap] 65
     clear aye
     have adU:=yI.trans (auF.mono yI.size)
     have auq:=(auF.block _ (ax aiY)).trans aiY
     refine aK rfl (by rfl) (fun K hK=>?_)
     go_simp
     go_wp2_with fail
     refine hK.out _ _ (SX.out _ adU) ?_
     clear hK K
     try simp only[Act.put,List.setIfInBounds_toArray,List.set_cons_zero,List.set_cons_succ]
     refine aS mY ?_
     refine aK rfl (by rfl) (fun K hK=>?_)
     go_simp
     refine(vE.out _ adU).mono ?_
     rintro E W32 ⟨rfl,amP⟩
     have adJ:=adU.trans (amP.mono adU.size)
     have ha32:=(amP.block _ (ax ati)).trans ati
     have atc:=(amP.block _ (ax auq)).trans auq
     go_wp2_with fail
     refine hK.out _ _ (SX.out _ adJ) ?_
     clear hK K
     try simp only[Act.put,List.setIfInBounds_toArray,List.set_cons_zero,List.set_cons_succ]
     refine aS iC ?_
     refine aK rfl (by rfl) (fun K hK=>?_)
     go_simp
     refine(pF.out _ _ adJ ha32).mono ?_
     rintro E W33 ⟨rfl,amJ⟩
     have ahX:=adJ.trans (amJ.mono adJ.size)
     have ha33:=(amJ.block _ (ax ha32)).trans ha32
     have ayn:=(amJ.block _ (ax atc)).trans atc
     go_wp2_with fail
     refine hK.out _ _ (SX.out _ ahX) ?_
     clear hK K
     try simp only[Act.put,List.setIfInBounds_toArray,List.set_cons_zero,List.set_cons_succ]
     refine aS fF ?_
     obtain⟨W34,hW34,axd,g34,⟨p0,p1⟩,⟨f0,f1⟩,⟨l0,l1⟩⟩:=dE ayn (.int .i64 fe) (.int .i64 fp)
     have aq4:=aD ahX g34 ath ahX.size
     refine aK rfl (by rfl) (fun K hK=>?_)
     go_simp
     go_wp2_with fail
     refine hK.out _ _ (SX.out _ aq4) ?_
     clear hK K
     try simp only[Act.put,List.setIfInBounds_toArray,List.set_cons_zero,List.set_cons_succ]
     refine dz gK ?_
     go_wp2_with fail
     go_meet
     exact⟨_,rfl,hide axd,hide aq4⟩
  ·obtain⟨W35,hW35,axp,axm,aie⟩:=ak W0 #[.int .i64 c.e,.int .i64 c.n,.slice ao c.l.length cap] 65
   clear axp
   have uM:=dB.trans (axm.mono dB.size)
   refine aK rfl (by rfl) (fun K hK=>?_)
   go_simp
   go_wp2_with fail
   refine hK.out _ _ (SX.out _ uM) ?_
   clear hK K
   try simp only[Act.put,List.setIfInBounds_toArray,List.set_cons_zero,List.set_cons_succ]
   refine iq arc ?_ ?_
   ·refine aK rfl (by rfl) (fun K hK=>?_)
    go_simp
    refine(HEp.out _ uM).mono ?_
    rintro E W36 ⟨rfl,au9⟩
    have uT:=uM.trans (au9.mono uM.size)
    have ahQ:=(au9.block _ (ax aie)).trans aie
    go_wp2_with fail
    refine hK.out _ _ (SX.out _ uT) ?_
    clear hK K
    try simp only[Act.put,List.setIfInBounds_toArray,List.set_cons_zero,List.set_cons_succ]
    refine iq agB ?_ ?_
    ·refine aK rfl (by rfl) (fun K hK=>?_)
     go_simp
     refine(vE.out _ uT).mono ?_
     rintro E W37 ⟨rfl,as5⟩
     have tT:=uT.trans (as5.mono uT.size)
     have afO:=(as5.block _ (ax ahQ)).trans ahQ
     go_wp2_with fail
     refine hK.out _ _ (SX.out _ tT) ?_
     clear hK K
     try simp only[Act.put,List.setIfInBounds_toArray,List.set_cons_zero,List.set_cons_succ]
     refine iq abV ?_ ?_
     ·refine aK rfl (by rfl) (fun K hK=>?_)
      go_simp
      refine(pF.out _ _ tT afO).mono ?_
      rintro E W38 ⟨rfl,atr⟩
      have adW:=tT.trans (atr.mono tT.size)
      have ato:=(atr.block _ (ax afO)).trans afO
      go_wp2_with fail
      refine hK.out _ _ (SX.out _ adW) ?_
      clear hK K
      try simp only[Act.put,List.setIfInBounds_toArray,List.set_cons_zero,List.set_cons_succ]
      refine aS aag ?_
      obtain⟨W39,hW39,axz,atn,axT⟩:=ak W38 #[.int .i64 0,.int .i64 0] 61
      clear axz
      have axL:=adW.size
      have ah1:=adW.trans (atn.mono adW.size)
      have ha39:=(atn.block _ (ax ato)).trans ato
      refine aK rfl (by rfl) (fun K hK=>?_)
      go_simp
      go_wp2_with fail
      refine hK.out _ _ (SX.out _ ah1) ?_
      clear hK K
      try simp only[Act.put,List.setIfInBounds_toArray,List.set_cons_zero,List.set_cons_succ]
      refine aS fF ?_
      obtain⟨W40,hW40,ayG,g40,⟨p0,p1⟩,⟨f0,f1⟩,⟨l0,l1⟩⟩:=dE axT (.int .i64 fe) (.int .i64 fp)
      have apT:=aD ah1 g40 axL ah1.size
      refine aK rfl (by rfl) (fun K hK=>?_)
      go_simp
      go_wp2_with fail
      refine hK.out _ _ (SX.out _ apT) ?_
      clear hK K
      try simp only[Act.put,List.setIfInBounds_toArray,List.set_cons_zero,List.set_cons_succ]
      refine dz gK ?_
      go_wp2_with fail
      go_meet
      exact⟨_,rfl,hide ayG,hide apT⟩
     ·obtain⟨W41,hW41,ayB,avH,asT⟩:=ak W37 #[.int .i64 0,.int .i64 0] 61
      clear ayB
      have ayi:=tT.size
      have ad5:=tT.trans (avH.mono tT.size)
      have an2:=(avH.block _ (ax afO)).trans afO
      refine aK rfl (by rfl) (fun K hK=>?_)
      go_simp
      go_wp2_with fail
      refine hK.out _ _ (SX.out _ ad5) ?_
      clear hK K
      try simp only[Act.put,List.setIfInBounds_toArray,List.set_cons_zero,List.set_cons_succ]
      refine aS iC ?_
      refine aK rfl (by rfl) (fun K hK=>?_)
      go_simp
      refine(pF.out _ _ ad5 an2).mono ?_
      rintro E W42 ⟨rfl,aof⟩
      have aiR:=ad5.trans (aof.mono ad5.size)
      have ha42:=(aof.block _ (ax an2)).trans an2
      have ayK:=(aof.block _ (ax asT)).trans asT
      go_wp2_with fail
      refine hK.out _ _ (SX.out _ aiR) ?_
      clear hK K
      try simp only[Act.put,List.setIfInBounds_toArray,List.set_cons_zero,List.set_cons_succ]
      refine aS fF ?_
      obtain⟨W43,hW43,axK,g43,⟨p0,p1⟩,⟨f0,f1⟩,⟨l0,l1⟩⟩:=dE ayK (.int .i64 fe) (.int .i64 fp)
      have aqC:=aD aiR g43 ayi aiR.size
      refine aK rfl (by rfl) (fun K hK=>?_)
      go_simp
      go_wp2_with fail
      refine hK.out _ _ (SX.out _ aqC) ?_
      clear hK K
      try simp only[Act.put,List.setIfInBounds_toArray,List.set_cons_zero,List.set_cons_succ]
      refine dz gK ?_
      go_wp2_with fail
      go_meet
      exact⟨_,rfl,hide axK,hide aqC⟩
    ·obtain⟨W44,hW44,ayL,avN,atv⟩:=ak W36 #[.int .i64 0,.int .i64 0] 61
     clear ayL
     have ayw:=uT.size
     have adS:=uT.trans (avN.mono uT.size)
     have auo:=(avN.block _ (ax ahQ)).trans ahQ
     refine aK rfl (by rfl) (fun K hK=>?_)
     go_simp
     go_wp2_with fail
     refine hK.out _ _ (SX.out _ adS) ?_
     clear hK K
     try simp only[Act.put,List.setIfInBounds_toArray,List.set_cons_zero,List.set_cons_succ]
     refine aS mY ?_
     refine aK rfl (by rfl) (fun K hK=>?_)
     go_simp
     refine(vE.out _ adS).mono ?_
     rintro E W45 ⟨rfl,anT⟩
     have ad1:=adS.trans (anT.mono adS.size)
     have anG:=(anT.block _ (ax auo)).trans auo
     have at5:=(anT.block _ (ax atv)).trans atv
     go_wp2_with fail
     refine hK.out _ _ (SX.out _ ad1) ?_
     clear hK K
     try simp only[Act.put,List.setIfInBounds_toArray,List.set_cons_zero,List.set_cons_succ]
     refine aS iC ?_
     refine aK rfl (by rfl) (fun K hK=>?_)
     go_simp
     refine(pF.out _ _ ad1 anG).mono ?_
     rintro E W46 ⟨rfl,am0⟩
     have ait:=ad1.trans (am0.mono ad1.size)
     have ha46:=(am0.block _ (ax anG)).trans anG
     have ax9:=(am0.block _ (ax at5)).trans at5
     go_wp2_with fail
     refine hK.out _ _ (SX.out _ ait) ?_
     clear hK K
     try simp only[Act.put,List.setIfInBounds_toArray,List.set_cons_zero,List.set_cons_succ]
     refine aS fF ?_
     obtain⟨W47,hW47,axr,g47,⟨p0,p1⟩,⟨f0,f1⟩,⟨l0,l1⟩⟩:=dE ax9 (.int .i64 fe) (.int .i64 fp)
     have apV:=aD ait g47 ayw ait.size
     refine aK rfl (by rfl) (fun K hK=>?_)
     go_simp
     go_wp2_with fail
     refine hK.out _ _ (SX.out _ apV) ?_
     clear hK K
     try simp only[Act.put,List.setIfInBounds_toArray,List.set_cons_zero,List.set_cons_succ]
     refine dz gK ?_
     go_wp2_with fail
     go_meet
     exact⟨_,rfl,hide axr,hide apV⟩
   ·obtain⟨W48,hW48,axZ,asH,hb48⟩:=ak W35 #[.int .i64 0,.int .i64 0] 61
    clear axZ
    have ayD:=uM.size
    have adM:=uM.trans (asH.mono uM.size)
    have avg:=(asH.block _ (ax aie)).trans aie
    refine aK rfl (by rfl) (fun K hK=>?_)
    go_simp
    go_wp2_with fail
    refine hK.out _ _ (SX.out _ adM) ?_
    clear hK K
    try simp only[Act.put,List.setIfInBounds_toArray,List.set_cons_zero,List.set_cons_succ]
    refine aS aeJ ?_
    refine aK rfl (by rfl) (fun K hK=>?_)
    go_simp
    refine(HEp.out _ adM).mono ?_
    rintro E W49 ⟨rfl,apq⟩
    have adH:=adM.trans (apq.mono adM.size)
    have auZ:=(apq.block _ (ax avg)).trans avg
    have awi:=(apq.block _ (ax hb48)).trans hb48
    go_wp2_with fail
    refine hK.out _ _ (SX.out _ adH) ?_
    clear hK K
    try simp only[Act.put,List.setIfInBounds_toArray,List.set_cons_zero,List.set_cons_succ]
    refine aS mY ?_
    refine aK rfl (by rfl) (fun K hK=>?_)
    go_simp
    refine(vE.out _ adH).mono ?_
    rintro E W50 ⟨rfl,amL⟩
    have adV:=adH.trans (amL.mono adH.size)
    have aoX:=(amL.block _ (ax auZ)).trans auZ
    have awv:=(amL.block _ (ax awi)).trans awi
    go_wp2_with fail
    refine hK.out _ _ (SX.out _ adV) ?_
    clear hK K
    try simp only[Act.put,List.setIfInBounds_toArray,List.set_cons_zero,List.set_cons_succ]
    refine aS iC ?_
    refine aK rfl (by rfl) (fun K hK=>?_)
    go_simp
    refine(pF.out _ _ adV aoX).mono ?_
    rintro E W51 ⟨rfl,aoO⟩
    have aio:=adV.trans (aoO.mono adV.size)
    have ha51:=(aoO.block _ (ax aoX)).trans aoX
    have axR:=(aoO.block _ (ax awv)).trans awv
    go_wp2_with fail
    refine hK.out _ _ (SX.out _ aio) ?_
    clear hK K
    try simp only[Act.put,List.setIfInBounds_toArray,List.set_cons_zero,List.set_cons_succ]
    refine aS fF ?_
    obtain⟨W52,hW52,axg,g52,⟨p0,p1⟩,⟨f0,f1⟩,⟨l0,l1⟩⟩:=dE axR (.int .i64 fe) (.int .i64 fp)
    have ap5:=aD aio g52 ayD aio.size
    refine aK rfl (by rfl) (fun K hK=>?_)
    go_simp
    go_wp2_with fail
    refine hK.out _ _ (SX.out _ ap5) ?_
    clear hK K
    try simp only[Act.put,List.setIfInBounds_toArray,List.set_cons_zero,List.set_cons_succ]
    refine dz gK ?_
    go_wp2_with fail
    go_meet
    exact⟨_,rfl,hide axg,hide ap5⟩
  ·obtain⟨W53,hW53,axO,ayo,aid⟩:=ak W0 #[.int .i64 0,.int .i64 0] 61
   clear axO
   have amW:=dB.size
   have xU:=dB.trans (ayo.mono dB.size)
   refine aK rfl (by rfl) (fun K hK=>?_)
   go_simp
   go_wp2_with fail
   refine hK.out _ _ (SX.out _ xU) ?_
   clear hK K
   try simp only[Act.put,List.setIfInBounds_toArray,List.set_cons_zero,List.set_cons_succ]
   refine iq aoJ ?_ ?_
   ·refine aK rfl (by rfl) (fun K hK=>?_)
    go_simp
    refine(HEp.out _ xU).mono ?_
    rintro E W54 ⟨rfl,at7⟩
    have yF:=xU.trans (at7.mono xU.size)
    have ah8:=(at7.block _ (ax aid)).trans aid
    go_wp2_with fail
    refine hK.out _ _ (SX.out _ yF) ?_
    clear hK K
    try simp only[Act.put,List.setIfInBounds_toArray,List.set_cons_zero,List.set_cons_succ]
    refine iq afW ?_ ?_
    ·refine aK rfl (by rfl) (fun K hK=>?_)
     go_simp
     refine(vE.out _ yF).mono ?_
     rintro E W55 ⟨rfl,ate⟩
     have air:=yF.trans (ate.mono yF.size)
     have atX:=(ate.block _ (ax ah8)).trans ah8
     go_wp2_with fail
     refine hK.out _ _ (SX.out _ air) ?_
     clear hK K
     try simp only[Act.put,List.setIfInBounds_toArray,List.set_cons_zero,List.set_cons_succ]
     refine aS zT ?_
     obtain⟨W56,hW56,ayv,atD,aob⟩:=ak W55 #[.int .i64 c.e,.int .i64 c.n,.slice ao c.l.length cap] 65
     clear ayv
     have adD:=air.trans (atD.mono air.size)
     have as9:=(atD.block _ (ax atX)).trans atX
     refine aK rfl (by rfl) (fun K hK=>?_)
     go_simp
     go_wp2_with fail
     refine hK.out _ _ (SX.out _ adD) ?_
     clear hK K
     try simp only[Act.put,List.setIfInBounds_toArray,List.set_cons_zero,List.set_cons_succ]
     refine aS iC ?_
     refine aK rfl (by rfl) (fun K hK=>?_)
     go_simp
     refine(pF.out _ _ adD aob).mono ?_
     rintro E W57 ⟨rfl,anX⟩
     have aiP:=adD.trans (anX.mono adD.size)
     have ha57:=(anX.block _ (ax aob)).trans aob
     have axs:=(anX.block _ (ax as9)).trans as9
     go_wp2_with fail
     refine hK.out _ _ (SX.out _ aiP) ?_
     clear hK K
     try simp only[Act.put,List.setIfInBounds_toArray,List.set_cons_zero,List.set_cons_succ]
     refine aS fF ?_
     obtain⟨W58,hW58,axe,g58,⟨p0,p1⟩,⟨f0,f1⟩,⟨l0,l1⟩⟩:=dE axs (.int .i64 fe) (.int .i64 fp)
     have aqh:=aD aiP g58 amW aiP.size
     refine aK rfl (by rfl) (fun K hK=>?_)
     go_simp
     go_wp2_with fail
     refine hK.out _ _ (SX.out _ aqh) ?_
     clear hK K
     try simp only[Act.put,List.setIfInBounds_toArray,List.set_cons_zero,List.set_cons_succ]
     refine dz gK ?_
     go_wp2_with fail
     go_meet
     exact⟨_,rfl,hide axe,hide aqh⟩
    ·obtain⟨W59,hW59,ayr,auI,au3⟩:=ak W54 #[.int .i64 c.e,.int .i64 c.n,.slice ao c.l.length cap] 65
     clear ayr
     have adT:=yF.trans (auI.mono yF.size)
     have auy:=(auI.block _ (ax ah8)).trans ah8
     refine aK rfl (by rfl) (fun K hK=>?_)
     go_simp
     go_wp2_with fail
     refine hK.out _ _ (SX.out _ adT) ?_
     clear hK K
     try simp only[Act.put,List.setIfInBounds_toArray,List.set_cons_zero,List.set_cons_succ]
     refine aS mY ?_
     refine aK rfl (by rfl) (fun K hK=>?_)
     go_simp
     refine(vE.out _ adT).mono ?_
     rintro E W60 ⟨rfl,apB⟩
     have adG:=adT.trans (apB.mono adT.size)
     have apt:=(apB.block _ (ax au3)).trans au3
     have atF:=(apB.block _ (ax auy)).trans auy
     go_wp2_with fail
     refine hK.out _ _ (SX.out _ adG) ?_
     clear hK K
     try simp only[Act.put,List.setIfInBounds_toArray,List.set_cons_zero,List.set_cons_succ]
     refine aS iC ?_
     refine aK rfl (by rfl) (fun K hK=>?_)
     go_simp
     refine(pF.out _ _ adG apt).mono ?_
     rintro E W61 ⟨rfl,aoZ⟩
     have aip:=adG.trans (aoZ.mono adG.size)
     have ha61:=(aoZ.block _ (ax apt)).trans apt
     have aw9:=(aoZ.block _ (ax atF)).trans atF
     go_wp2_with fail
     refine hK.out _ _ (SX.out _ aip) ?_
     clear hK K
     try simp only[Act.put,List.setIfInBounds_toArray,List.set_cons_zero,List.set_cons_succ]
     refine aS fF ?_
     obtain⟨W62,hW62,axi,g62,⟨p0,p1⟩,⟨f0,f1⟩,⟨l0,l1⟩⟩:=dE aw9 (.int .i64 fe) (.int .i64 fp)
     have aqS:=aD aip g62 amW aip.size
     refine aK rfl (by rfl) (fun K hK=>?_)
     go_simp
     go_wp2_with fail
     refine hK.out _ _ (SX.out _ aqS) ?_
     clear hK K
     try simp only[Act.put,List.setIfInBounds_toArray,List.set_cons_zero,List.set_cons_succ]
     refine dz gK ?_
     go_wp2_with fail
     go_meet
     exact⟨_,rfl,hide axi,hide aqS⟩
   ·obtain⟨W63,hW63,ax5,auH,avh⟩:=ak W53 #[.int .i64 c.e,.int .i64 c.n,.slice ao c.l.length cap] 65
    clear ax5
    have adC:=xU.trans (auH.mono xU.size)
    have avc:=(auH.block _ (ax aid)).trans aid
    refine aK rfl (by rfl) (fun K hK=>?_)
    go_simp
    go_wp2_with fail
    refine hK.out _ _ (SX.out _ adC) ?_
    clear hK K
    try simp only[Act.put,List.setIfInBounds_toArray,List.set_cons_zero,List.set_cons_succ]
    refine aS aeJ ?_
    refine aK rfl (by rfl) (fun K hK=>?_)
    go_simp
    refine(HEp.out _ adC).mono ?_
    rintro E W64 ⟨rfl,amO⟩
    have adX:=adC.trans (amO.mono adC.size)
    have auY:=(amO.block _ (ax avh)).trans avh
    have afC:=(amO.block _ (ax avc)).trans avc
    go_wp2_with fail
    refine hK.out _ _ (SX.out _ adX) ?_
    clear hK K
    try simp only[Act.put,List.setIfInBounds_toArray,List.set_cons_zero,List.set_cons_succ]
    refine aS mY ?_
    refine aK rfl (by rfl) (fun K hK=>?_)
    go_simp
    refine(vE.out _ adX).mono ?_
    rintro E W65 ⟨rfl,anW⟩
    have ad2:=adX.trans (anW.mono adX.size)
    have anf:=(anW.block _ (ax auY)).trans auY
    have asP:=(anW.block _ (ax afC)).trans afC
    go_wp2_with fail
    refine hK.out _ _ (SX.out _ ad2) ?_
    clear hK K
    try simp only[Act.put,List.setIfInBounds_toArray,List.set_cons_zero,List.set_cons_succ]
    refine aS iC ?_
    refine aK rfl (by rfl) (fun K hK=>?_)
    go_simp
    refine(pF.out _ _ ad2 anf).mono ?_
    rintro E W66 ⟨rfl,ank⟩
    have ajc:=ad2.trans (ank.mono ad2.size)
    have ha66:=(ank.block _ (ax anf)).trans anf
    have axf:=(ank.block _ (ax asP)).trans asP
    go_wp2_with fail
    refine hK.out _ _ (SX.out _ ajc) ?_
    clear hK K
    try simp only[Act.put,List.setIfInBounds_toArray,List.set_cons_zero,List.set_cons_succ]
    refine aS fF ?_
    obtain⟨W67,hW67,axY,g67,⟨p0,p1⟩,⟨f0,f1⟩,⟨l0,l1⟩⟩:=dE axf (.int .i64 fe) (.int .i64 fp)
    have ap1:=aD ajc g67 amW ajc.size
    refine aK rfl (by rfl) (fun K hK=>?_)
    go_simp
    go_wp2_with fail
    refine hK.out _ _ (SX.out _ ap1) ?_
    clear hK K
    try simp only[Act.put,List.setIfInBounds_toArray,List.set_cons_zero,List.set_cons_succ]
    refine dz gK ?_
    go_wp2_with fail
    go_meet
    exact⟨_,rfl,hide axY,hide ap1⟩
 case rest=>
  obtain⟨R,rfl,hR,bR⟩:=hcut
  obtain⟨w6,tO⟩:∃x,wc=x:=⟨_,rfl⟩
  rw[tO]at hR bR⊢
  have r0:=ai hR.out 0 rfl
  have r1:=ai hR.out 1 rfl
  simp only[List.getElem_toArray,List.getElem_cons_zero,List.getElem_cons_succ]at r0 r1
  have q1:=Tryz.acd fe fp 0 0
  have q2:=Tryz.sP .neq
  have B06:=hide (yV.out.trans (bR.out.mono yV.out.size))
  obtain⟨x0,x1,x2⟩:=SX.out _ bR.out
  clear tO HEp vE pF SX
  by_cases hf0:fe=0
  ·have hp0:=HAT.out hf0
   subst hf0
   subst hp0
   have e1:Sto.zC s c.c=(0,⟨s.r,s.l++[c.c]⟩):=by rw[HA1.out,if_neg (by simp)]
   have E1:=hide e1
   rw[e1]at HAP
   have HAD:=hide (ane ps p q F w6 s c (HSW.out.below B06.out) (HI.out.1.below B06.out) HAP.out HI.out.2.2.2.2.1 HI.out.2.2.2.2.2)
   unfold bT at HAD
   rw[qf.out]at HAD
   clear e1
   go_wp2_with fail
   refine HAD.out.mono ?_
   rintro E w7 ⟨⟨uu,rfl⟩,SS⟩
   have FIN:=hide (tH.pre B06.out SS)
   clear SS HAD
   go_wp2
   go_ret
   rw[E1.out]
   exact⟨rfl,FIN.out⟩
  ·have e1:Sto.zC s c.c=(fe,s):=by rw[HA1.out,if_pos hf0]
   have E1:=hide e1
   have hne:(fe==0)=false:=by simpa using hf0
   clear e1
   go_wp2
   go_ret
   rw[E1.out]
   exact⟨rfl,tH.same HSW.out B06.out⟩
end Go.Proofs.YtjemlgdkjilnoaaGreatDoor
namespace Go.Proofs.YtjemlgdkjilnoaaGreatDoor
open Go.RowKit
open Bm (Ov)
set_option linter.unusedVariables false
theorem afT (p q:Nat)(F1:Nat→Prop)(w:World)(d:Dm.Ds)(bk:Bool)(v:Value)(hB:w.heap[p]? =some (.cells #[.pointer (some ⟨q,0,none⟩),.bool bk,v] 180 (0,0)))(h1:Pk q F1 w d):
  Calls Tryz.prog 202 #[.pointer (some ⟨p,0,none⟩)] w fun E w'=>(E=.returned (.int .i64 6)∧Out (fun g=>g=p) w w')∨(E=.returned (.int .i64 0)∧w=w'):=by
 have HM:=hide (acI p q w _ _ hB)
 have HO:=hide (afl q F1 w d h1)
 have c0:=ai hB 0 rfl
 have c1:=ai hB 1 rfl
 have f1:=aC hB 1
 simp only[List.getElem_toArray,List.getElem_cons_zero,List.getElem_cons_succ]at c0 c1
 have OX:Hid (Out (fun g=>g=p) w (w.setCell ⟨p,1,none⟩ (.bool true))):=hide (Out.aV (aB w ⟨p,1,none⟩ (.bool true)) fun g hg=>by simp at hg;exact hg.symm)
 generalize d.on=on at HO
 clear hB h1
 cases bk<;>cases on
 ·go_enter Tryz.func202,Tryz.ntmps202
  go_wp2_with fail
  refine HM.out.mono ?_
  rintro E w1 ⟨rfl,rfl⟩
  go_wp2_with fail
  refine HO.out.mono ?_
  rintro E w1 ⟨rfl,rfl⟩
  go_wp2
  go_ret
  exact .inl ⟨rfl,OX.out⟩
 ·go_enter Tryz.func202,Tryz.ntmps202
  go_wp2_with fail
  refine HM.out.mono ?_
  rintro E w1 ⟨rfl,rfl⟩
  go_wp2_with fail
  refine HO.out.mono ?_
  rintro E w1 ⟨rfl,rfl⟩
  go_wp2
  go_ret
  exact .inr ⟨rfl,rfl⟩
 ·go_enter Tryz.func202,Tryz.ntmps202
  go_wp2_with fail
  refine HM.out.mono ?_
  rintro E w1 ⟨rfl,rfl⟩
  go_wp2
  go_ret
  exact .inl ⟨rfl,OX.out⟩
 ·go_enter Tryz.func202,Tryz.ntmps202
  go_wp2_with fail
  refine HM.out.mono ?_
  rintro E w1 ⟨rfl,rfl⟩
  go_wp2
  go_ret
  exact .inl ⟨rfl,OX.out⟩
theorem aiy (p q:Nat)(F1:Nat→Prop)(w:World)(d:Dm.Ds)(bk:Bool)(v:Value)(hB:w.heap[p]? =some (.cells #[.pointer (some ⟨q,0,none⟩),.bool bk,v] 180 (0,0)))(h1:Pk q F1 w d):
  Calls Tryz.prog 170 #[.pointer (some ⟨p,0,none⟩),.agg #[.int .i64 0,.int .i64 0,.slice none 0 0]] w fun E w'=>(E=.returned (.int .i64 6)∨E=.returned (.int .i64 2))∧Out (fun g=>g=p) w w':=by
 obtain⟨w1,hw1,aW,aj,hB0⟩:=ak w #[.int .i64 0,.int .i64 0,.slice none 0 0] 215
 have c0:w1.cell? ⟨w.heap.size,0,none⟩=some (.int .i64 0):=ai hB0 0 rfl
 have c1:w1.cell? ⟨w.heap.size,1,none⟩=some (.int .i64 0):=ai hB0 1 rfl
 have c2:w1.cell? ⟨w.heap.size,2,none⟩=some (.slice none 0 0):=ai hB0 2 rfl
 have HR:=hide (afT p q F1 w1 d bk v ((aj.block p (ax hB)).trans hB) (h1.below aj))
 have HFR:=hide (agt 0 0 (.slice none 0 0) [] w1 (df.nil _) (fun o ho=>by simp at ho) (by simp))
 unfold bT at HFR
 rw[show Rn.chk 0 0 []=2 from rfl]at HFR
 have B1:=hide aj
 clear hB h1 hB0 aj aW
 go_enter Tryz.func170,Tryz.ntmps170
 go_wp2_with fail
 refine HR.out.mono ?_
 rintro E w2 (⟨rfl,o2⟩|⟨rfl,rfl⟩)
 ·have O2:=hide ((Out.of_below (F:=fun g=>g=p) B1.out).trans o2 fun g hg=>.inl hg)
  clear o2 HR
  go_wp2
  go_ret
  exact⟨.inl rfl,O2.out⟩
 ·clear HR
  go_wp2_with fail
  refine HFR.out.mono ?_
  rintro E w2 ⟨vb,rfl,own,au⟩
  obtain⟨ab,cb,hvb,_,_⟩:=own.is.shape
  have O2:=hide (Out.of_below (F:=fun g=>g=p) (B1.out.trans (au.mono B1.out.size)))
  subst hvb
  clear own au
  go_wp2
  go_ret
  exact⟨.inr rfl,O2.out⟩
theorem agh (p q:Nat)(F:Nat→Prop)(w:World)(s:Rl.Rs)(h:RW p q F w s):
  Calls Tryz.prog 132 #[.pointer (some ⟨p,0,none⟩)] w fun E w'=>E=.returned (.bool true)∧Below w.heap.size w w':=by
 obtain⟨F1,G1,h1,⟨v,rs,hv,hG⟩,hF⟩:=h
 have c0:=ai hv.blk 0 rfl
 have c1:=ai hv.blk 1 rfl
 have c2:=ai hv.blk 2 rfl
 simp only[List.getElem_toArray,List.getElem_cons_zero,List.getElem_cons_succ]at c0 c1 c2
 obtain⟨V,hV1,hV,kg,bV,BV,x0,x1,x2⟩:=fH w 180 (.pointer none) (.bool false) (.slice none 0 0) (.pointer (some ⟨q,0,none⟩)) (.bool s.bk) v
 have zi:=hide (aiy w.heap.size q F1 V s.d s.bk v BV (h1.below bV))
 obtain⟨la,ln,lk,hlv⟩:∃a n k,v=.slice a n k:=by
  obtain⟨a1,k1,h1,_⟩:=hv.log.row.row.shape
  exact⟨a1,_,k1,h1⟩
 have B1:=hide bV
 generalize s.bk=bk at*
 subst hlv
 clear hv h1 hF hG bV BV kg
 go_enter Tryz.func132,Tryz.ntmps132
 go_wp2_with fail
 refine zi.out.mono ?_
 rintro E w2 ⟨rfl|rfl,o2⟩
 all_goals
  have O2:=hide (B1.out.trans (o2.below (base:=w.heap.size) (fun g hg=>by omega) B1.out.size))
  clear o2 zi
  go_wp2
  go_ret
  exact⟨rfl,O2.out⟩
theorem avO {p q:Nat}{F:Nat→Prop}{w w1 w2:World}{r:Rl.Rs}(h:RW p q F w r)(hb:Below w.heap.size w w1)(ht:Tb (w.heap.size+1) w.heap.size w1 [])(hw:w1.alloc (.cells #[.pointer (some ⟨p,0,none⟩),.slice none 0 0,.pointer (some ⟨w.heap.size+1,0,none⟩)] 186)=w2):
  Sk w1.heap.size p (SB w1.heap.size (w.heap.size+1) w.heap.size (.slice none 0 0) []) w2 []∧Below w.heap.size w w2∧∀g,SB w1.heap.size (w.heap.size+1) w.heap.size (.slice none 0 0) [] g→w.heap.size≤g:=by
 obtain⟨W,hW,sz,aG,hB⟩:=ak w1 #[.pointer (some ⟨p,0,none⟩),.slice none 0 0,.pointer (some ⟨w.heap.size+1,0,none⟩)] 186
 rw[hw]at hW
 subst hW
 have hs:=hb.size
 have hge:∀g,SB w1.heap.size (w.heap.size+1) w.heap.size (.slice none 0 0) [] g→w.heap.size≤g:=by
  rintro g (e|e|e|e|⟨c,hc,_⟩)
  ·omega
  ·omega
  ·omega
  ·simp[Value.ownBlock]at e
  ·simp at hc
 exact⟨⟨_,_,_,_,⟨hB,Rt.nil _ _,ht.below aG⟩,rfl⟩,hb.trans (aG.mono hs),hge⟩
theorem alF (p q:Nat)(F:Nat→Prop)(w:World)(r:Rl.Rs)(vr:Value)(rs:List Cw)(h:RW p q F w r)(hr:dJ w vr rs)(hf:dV rs)(hl:rs.length≤100000):
  Calls Tryz.prog 86 #[.pointer (some ⟨p,0,none⟩),vr] w fun E w'=>((Cm.fol 1 (Cm.lastN 0 r.l) 0 (az rs)).1≠0∧E=.returned (.tuple #[.pointer none,.int .i64 (Cm.fol 1 (Cm.lastN 0 r.l) 0 (az rs)).1])∧Below w.heap.size w w')∨((Cm.fol 1 (Cm.lastN 0 r.l) 0 (az rs)).1=0∧∃ps,E=.returned (.tuple #[.pointer (some ⟨ps,0,none⟩),.int .i64 0])∧∃G,Sk ps p G w' (az rs)∧(∀g,G g→w.heap.size≤g)∧Below w.heap.size w w'):=by
 have HM:=hide (agh p q F w r h)
 have HW:=hide h
 have HI:=hide hr
 have HFC:=hide hf
 have hgl:=Rl.eG h.good
 obtain⟨ra,rk,hvr,_,_⟩:=hr.1.shape
 obtain⟨fe,hfe⟩:∃x,(Cm.fol 1 (Cm.lastN 0 r.l) 0 (az rs)).1=x:=⟨_,rfl⟩
 obtain⟨fp,hfp⟩:∃x,(Cm.fol 1 (Cm.lastN 0 r.l) 0 (az rs)).2=x:=⟨_,rfl⟩
 have hat:=Cm.qm (az rs) 1 (Cm.lastN 0 r.l) 0
 rw[hfe,hfp]at hat
 rw[hfe]
 have HAT:=hide hat
 have HGD:Hid (fe=0→Cm.Good 1 (Cm.lastN 0 r.l) (az rs)):=hide fun e=>(Cm.eY _ _ _ 0).1 (by rw[hfe];exact e)
 have HFE:=hide (And.intro hfe hfp)
 obtain⟨n,hn⟩:∃n,rs.length=n:=⟨_,rfl⟩
 have HN:=hide hn
 rw[hn]at hvr hl
 have HVR:=hide hvr
 have q1:=Tryz.acd fe fp 0 0
 have q2:=Tryz.sP .neq
 clear h hr hf hat hfe hfp hn hgl
 rw[hvr]
 clear hvr
 go_enter Tryz.func86,Tryz.ntmps86
 go_wp2_with fail
 refine HM.out.mono ?_
 rintro E w1 ⟨rfl,aj⟩
 have W1:=hide (HW.out.below aj)
 have I1:=hide (show dJ w1 vr rs from⟨HI.out.1.below aj,fun c hc=>⟨(HI.out.2 c hc).1.below aj,(HI.out.2 c hc).2⟩⟩)
 have HE:=hide (l8 p q F w1 r W1.out)
 have B1:=hide aj
 clear HM aj
 go_wp2_with fail
 refine HE.out.mono ?_
 rintro E w2 ⟨rfl,rfl⟩
 have HF:=hide (jY 1 (Cm.lastN 0 r.l) vr rs w1 I1.out HFC.out (by have:=HN.out;omega))
 unfold q9 at HF
 rw[HFE.out.1,HFE.out.2,HVR.out]at HF
 clear HE
 go_wp2_with fail
 refine HF.out.mono ?_
 rintro E w2 ⟨rfl,au⟩
 obtain⟨w3,hw3,hw32,bP,aF,hF3,x0,x1⟩:=pX w2 61 (.int .i64 0) (.int .i64 0) (.int .i64 fe) (.int .i64 fp)
 have b13:=au.trans (aF.mono au.size)
 have B3:=hide (B1.out.trans (b13.mono B1.out.size))
 have W3:=hide (W1.out.below b13)
 have I3:=hide (show dJ w3 vr rs from⟨I1.out.1.below b13,fun c hc=>⟨(I1.out.2 c hc).1.below b13,(I1.out.2 c hc).2⟩⟩)
 have HF3:=hide hF3
 clear HF au aF b13 hF3 W1 I1 HW HI B1 bP
 by_cases hf0:fe=0
 ·have hp0:=HAT.out hf0
  have gd:=HGD.out hf0
  subst hf0
  subst hp0
  have GD:=hide gd
  have z0:w3.setCell ⟨w2.heap.size,0,none⟩ (.int .i64 0)=w3:=aL HF3.out (j:=0) rfl
  have z1:w3.setCell ⟨w2.heap.size,1,none⟩ (.int .i64 0)=w3:=aL HF3.out (j:=1) rfl
  have f0:=aC HF3.out 0
  have f1:=aC HF3.out 1
  clear gd HGD HAT HFE HF3
  go_wp2_with fail
  refine(aoy w3).mono ?_
  rintro E w4 ⟨rfl,T4,b4⟩
  obtain⟨w5,sS⟩:∃x,w4.alloc (.cells #[.pointer (some ⟨p,0,none⟩),.slice none 0 0,.pointer (some ⟨w3.heap.size+1,0,none⟩)] 186)=x:=⟨_,rfl⟩
  obtain⟨S5,b35,hge⟩:=avO W3.out b4 T4 sS
  have Q0:Hid (∃G,Sk w4.heap.size p G w5 (az (rs.take 0))∧(∀g,G g→w3.heap.size≤g)∧Below w3.heap.size w3 w5):=hide ⟨_,S5,hge,b35⟩
  clear S5 b35 hge T4 b4
  go_wp2
  go_loopw [28] (fun iv wr=>∃k:Nat,k≤n∧iv=.int .i64 k∧Hid (∃G,Sk w4.heap.size p G wr (az (rs.take k))∧(∀g,G g→w3.heap.size≤g)∧Below w3.heap.size w3 wr)) (fun iv _=>n-(intOf iv).toNat)
  case atStart=>exact⟨0,by omega,rfl,Q0⟩
  case round=>
   obtain⟨k,hk,rfl,HQ⟩:=hrel
   clear Q0
   by_cases hlt:k<n
   ·obtain⟨⟨ce,cn,cv,cl⟩,hc⟩:∃c,rs[k]? =some c:=⟨rs[k]'(by have:=HN.out;omega),by rw[List.getElem?_eq_getElem]⟩
    obtain⟨g,off,cq,jo,_,_,hgw,hcell⟩:=I3.out.1.full (by have:=HN.out;omega)
    rw[HN.out,HVR.out]at jo
    simp only[Value.slice.injEq,true_and]at jo
    obtain⟨rfl,rfl⟩:=jo
    obtain⟨c0,c1,c2⟩:=hcell k _ hc
    have hm:=List.mem_of_getElem? hc
    obtain⟨G,⟨pm,bm,v,rr,hs,rfl⟩,hge,BR⟩:=HQ.out
    have kU:=((I3.out.2 _ hm).1).below BR
    have d0:=(BR.cell (p:=⟨g,off+k*3,none⟩) hgw).trans c0
    have d1:=(BR.cell (p:=⟨g,off+k*3+1,none⟩) hgw).trans c1
    have d2:=(BR.cell (p:=⟨g,off+k*3+2,none⟩) hgw).trans c2
    obtain⟨oa,ok,hvo,_,_⟩:=kU.shape
    obtain⟨wc,hwc,hwc2,szc,rM,bC,y0,y1,y2⟩:=fH wr 65 (.int .i64 0) (.int .i64 0) (.slice none 0 0) (.int .i64 ce) (.int .i64 cn) cv
    have hnx:=anh hc
    have hgk:Cm.Good 1 (Cm.lastN 0 r.l) (az (rs.take k)):=by
     rw[afu]
     exact Cm.jr GD.out _
    have hch:Cm.chk ce cn cl=0:=(Sto.fV GD.out _ (List.mem_map.2 ⟨_,hm,rfl⟩)).1
    have HA:=hide (adg w4.heap.size p pm bm wc (az (rs.take k)) v rr ⟨ce,cn,cv,cl⟩ (hs.below rM) (kU.below rM) hch (fun hp b hb hf=>by
     have h1:=hge b hf
     obtain⟨g',off',cap',hv',_,_,hg',_⟩:=((I3.out.2 _ hm).1).full hp
     simp only at hv' hb
     rw[hv']at hb
     simp[Value.ownBlock]at hb
     omega) (by rw[az,List.length_map,List.length_take];omega) (Sto.ahw hgk))
    unfold bT at HA
    simp only at c0 c1 c2 d0 d1 d2 hvo HA
    rw[show az (rs.take k)++[(⟨ce,cn,cv,cl⟩:Cw).c]=az (rs.take (k+1))from hnx.symm]at HA
    subst hvo
    have hlt':(k:Int)<n:=by omega
    have hk0:(0:Int)≤(k:Int):=by omega
    have HX:=hide (And.intro BR (And.intro rM hge))
    clear hcell c0 c1 c2 hc hm kU bC rM hnx hgk hch hs BR hge
    go_wp2_with fail
    refine HA.out.mono ?_
    rintro E w6 ⟨⟨uu,rfl⟩,S6⟩
    have HQ2:Hid (∃G,Sk w4.heap.size p G w6 (az (rs.take (k+1)))∧(∀g,G g→w3.heap.size≤g)∧Below w3.heap.size w3 w6):=hide (by
     obtain⟨BR,rM,hge⟩:=HX.out
     obtain⟨G',k1,k2,k3⟩:=S6
     have b1:=BR.trans (rM.mono BR.size)
     have hz:=b1.size
     refine⟨G',k1,fun g hg=>?_,b1.trans (k2.below hge hz)⟩
     rcases k3 g hg with e|e
     ·exact hge g e
     ·omega)
    clear S6 HA HX
    go_wp2
    go_roundw
    case rel=>exact⟨k+1,by omega,by go_num,HQ2⟩
    case measure=>simp[intOf];omega
   ·have hlt':¬(k:Int)<n:=by omega
    obtain rfl:k=n:=by omega
    have HQ2:=HQ.out
    rw[List.take_of_length_le (by have:=HN.out;omega)]at HQ2
    have FIN:Hid (∃G,Sk w4.heap.size p G wr (az rs)∧(∀g,G g→w.heap.size≤g)∧Below w.heap.size w wr):=hide (by
     obtain⟨G,k1,k2,k3⟩:=HQ2
     exact⟨G,k1,fun g hg=>Nat.le_trans B3.out.size (k2 g hg),B3.out.trans (k3.mono B3.out.size)⟩)
    clear HQ2 HQ
    go_wp2
    go_ret2
    first|exact⟨_,rfl,FIN.out⟩|exact .inr ⟨rfl,_,rfl,FIN.out⟩
 ·have hne:(fe==0)=false:=by simpa using hf0
  go_wp2
  go_quiet (fail)
  go_wp2
  go_ret2
  first|exact⟨rfl,below_drewN B3.out _⟩|exact .inl ⟨hf0,rfl,below_drewN B3.out _⟩
end Go.Proofs.YtjemlgdkjilnoaaGreatDoor
namespace Go.Proofs.YtjemlgdkjilnoaaGreatDoor
open Go.RowKit
set_option linter.unusedVariables false
structure oQ (p q pw pr ps:Nat) (Gw Gr Gs:Nat→Prop) (w:World) (s:Rst.St) (lw:List Cm.Cv) (bw br:Bool):Prop where
 blk:w.heap[p]? =some (.cells (eD q s.off s.p (.pointer (some ⟨pw,0,none⟩)) s.l.length (.pointer (some ⟨pr,0,none⟩)) (.pointer (some ⟨ps,0,none⟩))) 56 (0,0))
 wal:Wk pw q Gw w lw bw
 run:Rk pr q Gr w s.r br
 sto:Sk ps pr Gs w (s.l.drop (Cm.lastN 0 s.r).toNat)
 log:s.l=lw.take s.l.length
 live:s.off=false→lw=s.l∧bw=false∧br=false
 ok:Pm.Ok s.p
 fit:eT s.p
 rest:Cm.Good 1 (Cm.lastN 0 s.r) (s.l.drop (Cm.lastN 0 s.r).toNat)
 le:Cm.lastN 0 s.r≤s.l.length
 np:¬Gw p∧¬Gr p∧¬Gs p
 wr:∀g,Gw g→¬Gr g
 ws:∀g,Gw g→¬Gs g
 rs:∀g,Gr g→¬Gs g
def PB (p:Nat) (Gw Gr Gs:Nat→Prop) (g:Nat):Prop:=g=p∨Gw g∨Gr g∨Gs g
def PO (p q:Nat) (G:Nat→Prop) (w:World) (s:Rst.St):Prop:=∃pw pr ps Gw Gr Gs lw bw br,oQ p q pw pr ps Gw Gr Gs w s lw bw br∧G=PB p Gw Gr Gs
section
variable {p q pw pr ps:Nat} {G Gw Gr Gs:Nat→Prop} {w w':World} {s:Rst.St} {lw:List Cm.Cv} {bw br:Bool}
theorem oQ.lt (h:oQ p q pw pr ps Gw Gr Gs w s lw bw br):∀g,PB p Gw Gr Gs g→g<w.heap.size:=by
 rintro g (rfl|e|e|e)
 ·exact ax h.blk
 ·exact h.wal.lt g e
 ·exact h.run.lt g e
 ·exact h.sto.lt g e
theorem oQ.agree (h:oQ p q pw pr ps Gw Gr Gs w s lw bw br)(ha:∀g,PB p Gw Gr Gs g→w'.heap[g]? =w.heap[g]?):oQ p q pw pr ps Gw Gr Gs w' s lw bw br:=
 ⟨(ha p (.inl rfl)).trans h.blk,h.wal.agree fun g e=>ha g (.inr (.inl e)),h.run.agree fun g e=>ha g (.inr (.inr (.inl e))),h.sto.agree fun g e=>ha g (.inr (.inr (.inr e))),h.log,h.live,h.ok,h.fit,h.rest,h.le,h.np,h.wr,h.ws,h.rs⟩
theorem oQ.below (h:oQ p q pw pr ps Gw Gr Gs w s lw bw br)(hb:Below w.heap.size w w'):oQ p q pw pr ps Gw Gr Gs w' s lw bw br:=h.agree fun g hg=>hb.block g (h.lt g hg)
theorem PO.lt (h:PO p q G w s):∀g,G g→g<w.heap.size:=by
 obtain⟨pw,pr,ps,Gw,Gr,Gs,lw,bw,br,h,rfl⟩:=h
 exact h.lt
theorem PO.agree (h:PO p q G w s)(ha:∀g,G g→w'.heap[g]? =w.heap[g]?)(hs:w.heap.size≤w'.heap.size):PO p q G w' s:=by
 obtain⟨pw,pr,ps,Gw,Gr,Gs,lw,bw,br,h,rfl⟩:=h
 exact⟨pw,pr,ps,Gw,Gr,Gs,lw,bw,br,h.agree ha,rfl⟩
theorem PO.disk (h:PO p q G w s)(d':Dm.Ds):PO p q G w ⟨d',s.p,s.l,s.r,s.off⟩:=by
 obtain⟨pw,pr,ps,Gw,Gr,Gs,lw,bw,br,h,rfl⟩:=h
 exact⟨pw,pr,ps,Gw,Gr,Gs,lw,bw,br,⟨h.blk,h.wal,h.run,h.sto,h.log,h.live,h.ok,h.fit,h.rest,h.le,h.np,h.wr,h.ws,h.rs⟩,rfl⟩
theorem PO.fit (h:PO p q G w s):eT s.p:=by
 obtain⟨pw,pr,ps,Gw,Gr,Gs,lw,bw,br,h,rfl⟩:=h
 exact h.fit
theorem oQ.ww {F:Nat→Prop}(h:oQ p q pw pr ps Gw Gr Gs w s lw bw br)(hd:Pk q F w s.d):WW pw q (fun g=>F g∨Gw g) w ⟨s.d,lw,bw⟩:=⟨F,Gw,hd,h.wal,rfl⟩
theorem oQ.rw {F:Nat→Prop}(h:oQ p q pw pr ps Gw Gr Gs w s lw bw br)(hd:Pk q F w s.d):RW pr q (fun g=>F g∨Gr g) w ⟨s.d,s.r,br⟩:=⟨F,Gr,hd,h.run,rfl⟩
theorem oQ.good (h:oQ p q pw pr ps Gw Gr Gs w s lw bw br):Rl.Good 0 s.r:=by
 obtain⟨v,rs,h1,_⟩:=h.run
 exact h1.log.good
end
def PS (p q:Nat) (F:Nat→Prop) (w:World) (s:Rst.St):Prop:=∃F1 G,Pk q F1 w s.d∧PO p q G w s∧(∀g,G g→¬F1 g)∧fQ w∧F=fun g=>F1 g∨G g
def bM (p q:Nat) (F:Nat→Prop) (w w':World) (s':Rst.St):Prop:=∃F',PS p q F' w' s'∧Out F w w'∧∀g,F' g→F g∨w.heap.size≤g
def o9 (s:Rst.St):Prop:=Big 50000000 500000 s.d∧s.l.length≤2000
section
variable {p q:Nat} {F G:Nat→Prop} {w w':World} {s:Rst.St}
theorem PO.out (h:PO p q G w s)(ho:Out F w w')(hd:∀g,G g→¬F g):PO p q G w' s:=h.agree (fun g hg=>ho.block g (h.lt g hg) (hd g hg)) ho.size
theorem PS.lt (h:PS p q F w s):∀g,F g→g<w.heap.size:=by
 obtain⟨F1,G,h1,h2,_,_,rfl⟩:=h
 rintro g (e|e)
 ·exact h1.lt g e
 ·exact h2.lt g e
theorem PS.agree (h:PS p q F w s)(ha:∀g,F g→w'.heap[g]? =w.heap[g]?)(hs:w.heap.size≤w'.heap.size)(hm:fQ w'):PS p q F w' s:=by
 obtain⟨F1,G,h1,h2,h3,_,rfl⟩:=h
 exact⟨F1,G,h1.agree fun g hg=>ha g (.inl hg),h2.agree (fun g hg=>ha g (.inr hg)) hs,h3,hm,rfl⟩
theorem PS.gG (h:PS p q F w s):fQ w:=by
 obtain⟨_,_,_,_,_,h,_⟩:=h
 exact h
theorem PS.fit (h:PS p q F w s):eT s.p:=by
 obtain⟨_,_,_,h,_⟩:=h
 exact h.fit
theorem gI (hm:fQ w)(ho:Out F w w')(h0:¬F 0):fQ w':=by
 have e:∀j,w'.cell? ⟨0,j,none⟩=w.cell? ⟨0,j,none⟩:=fun j=>by
  have:=ho.block 0 hm.pos h0
  simp[World.cell?,this]
 exact⟨(e 0).trans hm.c0,(e 1).trans hm.c1,(e 2).trans hm.c2,(e 3).trans hm.c3,(e 4).trans hm.c4,(e 5).trans hm.c5⟩
theorem PS.disk (h:PS p q F w s)(h0:¬F 0):∃F1,Pk q F1 w s.d∧(∀g,F1 g→F g)∧∀w' d',aY q F1 w w' d'→bM p q F w w' ⟨d',s.p,s.l,s.r,s.off⟩:=by
 obtain⟨F1,G,h1,h2,h3,hm,rfl⟩:=h
 refine⟨F1,h1,fun g hg=>.inl hg,fun w' d' k=>?_⟩
 obtain⟨F2,k1,k2,k3⟩:=k
 refine⟨fun g=>F2 g∨G g,⟨F2,G,k1,(h2.out k2 h3).disk d',fun g hg hF=>?_,gI hm k2 fun e=>h0 (.inl e),rfl⟩,k2.mono fun g hg=>.inl (.inl hg),?_⟩
 ·rcases k3 g hF with e|e
  ·exact h3 g hg e
  ·have:=h2.lt g hg;omega
 ·rintro g (e|e)
  ·rcases k3 g e with e|e
   ·exact .inl (.inl e)
   ·exact .inr e
  ·exact .inl (.inr e)
end
end Go.Proofs.YtjemlgdkjilnoaaGreatDoor
