/- Texts of one layer, one behind the other. -/
import Derived.Test.YtmngcecomcadkaaGreatDoorCH15
import Derived.Test.YtmngcecomcadkaaGreatDoorCH13
import Derived.Test.YtmngcecomcadkaaGreatDoorCH27
import Derived.Test.YtmngcecomcadkaaGreatDoorCH26
import Derived.Test.YtmngcecomcadkaaGreatDoorCH2
import Derived.Test.YtmngcecomcadkaaGreatDoorCH8
import Derived.Test.YtmngcecomcadkaaGreatDoorCH4
import Derived.Test.YtmngcecomcadkaaGreatDoorCH21
import Derived.Deep.CutRange
set_option maxRecDepth 100000
set_option maxHeartbeats 8000000
namespace Go.Proofs.YtmngcecomcadkaaGreatDoor
open Go.RowKit
set_option linter.unusedVariables false
theorem rT (p q:Nat)(w:World)(hc:w.cell? ⟨p,0,none⟩=some (.pointer (some ⟨q,0,none⟩))):
  Calls Tryz.prog 30 #[.pointer (some ⟨p,0,none⟩)] w fun E w'=>E=.returned (.bool true)∧w=w':=by
 go_enter Tryz.func30,Tryz.ntmps30
 go_wp2
 go_ret
 exact⟨rfl,rfl⟩
theorem abl (p q:Nat)(F:Nat→Prop)(w:World)(st:Dm.Ds)(off:Bool)(h:Pk q F w st)(h0:w.cell? ⟨p,0,none⟩=some (.pointer (some ⟨q,0,none⟩)))(h1:w.cell? ⟨p,1,none⟩=some (.bool off)):
  Calls Tryz.prog 58 #[.pointer (some ⟨p,0,none⟩)] w fun E w'=>E=.returned (.int .i64 (if (off|| !st.on)=true then 6 else 0))∧w=w':=by
 have HM:=hide (rT p q w h0)
 have HO:=hide (afv q F w st h)
 clear h
 generalize st.on=on at*
 cases off
 ·cases on
  all_goals
   simp only[Bool.false_or,Bool.not_true,Bool.not_false,if_true,Bool.false_eq_true,if_false]
   go_enter Tryz.func58,Tryz.ntmps58
   go_wp2_with fail
   refine HM.out.mono ?_
   rintro E w1 ⟨rfl,rfl⟩
   clear HM
   go_wp2_with fail
   refine HO.out.mono ?_
   rintro E w1 ⟨rfl,rfl⟩
   clear HO
   go_wp2
   go_ret
   exact⟨rfl,rfl⟩
 ·simp only[Bool.true_or,if_true]
  go_enter Tryz.func58,Tryz.ntmps58
  go_wp2_with fail
  refine HM.out.mono ?_
  rintro E w1 ⟨rfl,rfl⟩
  clear HM HO
  go_wp2
  go_ret
  exact⟨rfl,rfl⟩
theorem acy (v:Value)(p B n:Nat)(fs:List Value)(w:World)(Q:Int→World→Prop)(hn:fs.length=n)(hl:n≤100)(hB:w.heap[B]? =some (.cells fs.toArray 154 (0,0)))(h:Run B Q fs w)(hst:∀W,Q 6 W→v=.pointer (some ⟨p,0,none⟩)∧∃cs b,W.heap[p]? =some (.cells cs 94 (0,0))∧cs[1]? =some (.bool b)):
  Calls Tryz.prog 57 #[v,.slice (some ⟨B,0,none⟩) n n] w fun E w'=>∃e W,E=.returned (.int .i64 e)∧Q e W∧((e≠6∧w'=W)∨(e=6∧w'=W.setCell ⟨p,1,none⟩ (.bool true))):=by
 have HO:=hide (rZ B n fs w Q hn hl hB h)
 have HS:=hide hst
 clear h hB hst hn hl
 go_enter Tryz.func57,Tryz.ntmps57
 go_wp2_with fail
 refine HO.out.mono ?_
 rintro E W ⟨e,rfl,hq⟩
 clear HO
 by_cases he:e=6
 ·subst he
  obtain⟨rfl,cs,b,x1,x2⟩:=HS.out W hq
  have c1:=ai x1 1 x2
  have f1:=aA x1 1
  have HQ:=hide hq
  clear hq x1 x2 HS
  go_wp2
  go_ret
  exact⟨6,W,rfl,HQ.out,.inr ⟨rfl,rfl⟩⟩
 ·have he':(e==6)=false:=by simpa using he
  have HQ:=hide hq
  clear hq HS
  go_wp2
  go_ret
  exact⟨e,_,rfl,HQ.out,.inl ⟨he,rfl⟩⟩
end Go.Proofs.YtmngcecomcadkaaGreatDoor
namespace Go.Proofs.YtmngcecomcadkaaGreatDoor
open Go.RowKit
open Bm (Ov)
set_option linter.unusedVariables false
theorem aiD (ps p q:Nat)(F:Nat→Prop)(w:World)(s:Sto.Ss)(c:Cw)(h:SW ps p q F w s)(hi:dh w c.v c.l)(hf:iL c.l)(h64:In64 c.e∧In64 c.n)(hlo:c.l.length*40≤140737488351232)(jN:0<c.l.length→∀b,c.v.ownBlock=some b→¬F b)(hn:s.l.length≤100000):
  Calls Tryz.prog 115 #[.pointer (some ⟨ps,0,none⟩),bK c.e c.n c.v] w fun E w'=>E=.returned (.int .i64 (Sto.zk s c.c).1)∧sO ps p q F w w' (Sto.zk s c.c).2:=by
 obtain⟨w1,hw1,aT,aj,hB⟩:=ak w #[.int .i64 c.e,.int .i64 c.n,c.v] 35
 have HR:=hide (ai0 ps p q F w1 s (h.below aj))
 obtain⟨ao,cap,hcv,_,_⟩:=hi.shape
 have qM:=hide hcv
 have zf:=hide h.ok
 have HAP:=hide (Sto.aur h.ok c.c)
 obtain⟨fe,hfe⟩:∃x,(Cm.fol (Cm.lastE 1 s.l) (Sto.fin s) 0 [c.c]).1=x:=⟨_,rfl⟩
 obtain⟨fp,hfp⟩:∃x,(Cm.fol (Cm.lastE 1 s.l) (Sto.fin s) 0 [c.c]).2=x:=⟨_,rfl⟩
 have hat:=Cm.oI [c.c] (Cm.lastE 1 s.l) (Sto.fin s) 0
 have hap:Sto.zk s c.c=if fe≠0 then(fe,s)else(0,⟨s.r,s.l++[c.c]⟩):=by unfold Sto.zk;rw[hfe]
 rw[hfe,hfp]at hat
 have HA1:=hide hap
 have HAT:=hide hat
 have HSW:=hide h
 have HI:=hide (And.intro hi (And.intro hf (And.intro h64 (And.intro hlo (And.intro jN hn)))))
 have HFE:=hide (And.intro hfe hfp)
 have HB:=hide hB
 have B1:=hide aj
 have hsz:=hide aT
 unfold bK
 rw[hcv]at hw1⊢
 clear h hi hf h64 hlo jN hcv hap hat hfe hfp hB aj aT hn
 go_enter Tryz.func115,Tryz.ntmps115
 go_wp2_with fail
 refine HR.out.mono ?_
 rintro E w2 ⟨rfl,au⟩
 have zn:=hide (B1.out.trans (au.mono B1.out.size))
 have hB2:=(au.block w.heap.size (by have:=hsz.out;omega)).trans HB.out
 have SX:Hid (∀W,Below w2.heap.size w2 W→W.cell? ⟨w.heap.size,0,none⟩=some (.int .i64 c.e)∧W.cell? ⟨w.heap.size,1,none⟩=some (.int .i64 c.n)∧W.cell? ⟨w.heap.size,2,none⟩=some (.slice ao c.l.length cap)):=hide fun W hW=>by
  have k:=(hW.block w.heap.size (ax hB2)).trans hB2
  rw[qM.out]at k
  exact⟨ai k 0 rfl,ai k 1 rfl,ai k 2 rfl⟩
 have HEp:Hid (∀W,Below w2.heap.size w2 W→Calls Tryz.prog 159 #[.pointer (some ⟨ps,0,none⟩)] W fun E w'=>E=.returned (.int .i64 (Cm.lastE 1 s.l))∧Below W.heap.size W w'):=hide fun W hW=>
  (an9 ps p q F W s ((HSW.out.below zn.out).below hW)).mono fun E w' h=>⟨h.1,by obtain⟨m,rfl⟩:=h.2;exact below_drewN (Below.refl _ _) m⟩
 have vH:Hid (∀W,Below w2.heap.size w2 W→Calls Tryz.prog 160 #[.pointer (some ⟨ps,0,none⟩)] W fun E w'=>E=.returned (.int .i64 (Sto.fin s))∧Below W.heap.size W w'):=hide fun W hW=>
  (ao3 ps p q F W s ((HSW.out.below zn.out).below hW)).mono fun E w' h=>⟨h.1,by obtain⟨m,rfl⟩:=h.2;exact below_drewN (Below.refl _ _) m⟩
 have pJ:Hid (∀W a,Below w2.heap.size w2 W→W.heap[a]? =some (.cells #[.int .i64 c.e,.int .i64 c.n,.slice ao c.l.length cap] 35 (0,0))→Calls Tryz.prog 6 #[.int .i64 (Cm.lastE 1 s.l),.int .i64 (Sto.fin s),.slice (some ⟨a,0,none⟩) 1 1] W fun E w'=>E=.returned (.agg #[.int .i64 fe,.int .i64 fp])∧Below W.heap.size W w'):=hide fun W a hW ha=>by
  have hc:=jA (Cm.lastE 1 s.l) (Sto.fin s) _ [⟨c.e,c.n,.slice ao c.l.length cap,c.l⟩] W ⟨agC ha,fun d hd=>by rw[List.mem_singleton.1 hd];exact⟨by rw[←qM.out];exact(HI.out.1.below zn.out).below hW,HI.out.2.2.1⟩⟩ (dL.one HI.out.2.1 HI.out.2.2.2.1) (by simp)
  rw[show ay [(⟨c.e,c.n,.slice ao c.l.length cap,c.l⟩:Cw)]=[c.c]from rfl]at hc
  unfold rE at hc
  rw[HFE.out.1,HFE.out.2]at hc
  exact hc
 generalize Cm.lastE 1 s.l=le at*
 generalize Sto.fin s=fn at*
 clear HR au hB2
 go_wp2_with fail
 go_cut [5]from 9 to 15 (fun v5 wx=>∃R,v5=.pointer (some ⟨R,0,none⟩)∧Hid (wx.heap[R]? =some (.cells #[.int .i64 fe,.int .i64 fp] 31 (0,0)))∧Hid (Below w2.heap.size w2 wx))
 case first=>
  obtain⟨W0,hW0⟩:∃x,w2.drew=x:=⟨_,rfl⟩
  have dE:Below w2.heap.size w2 W0:=by rw[←hW0];exact(Below.refl _ _).drew
  refine kK (ops:=(aC 3 Tryz.f115)) (S:=fun W=>W.cell? ⟨w.heap.size,0,none⟩=some (.int .i64 c.e)∧W.cell? ⟨w.heap.size,1,none⟩=some (.int .i64 c.n)∧W.cell? ⟨w.heap.size,2,none⟩=some (.slice ao c.l.length cap)) (by kernel_rfl) aok ?_
  rw[arI,hW0]
  refine bG aoP (SX.out _ dE) ?_
  refine bG anw (SX.out _ dE) ?_
  refine bG amY (SX.out _ dE) ?_
  refine gn3 arP ?_ ?_ ?_
  ·refine aI rfl (by rfl) (fun K hK=>?_)
   go_simp
   refine(HEp.out _ dE).mono ?_
   rintro E W1 ⟨rfl,st1⟩
   have aj:=dE.trans (st1.mono dE.size)
   go_wp2_with fail
   refine bq hK (SX.out _ aj) ?_
   clear hK K
   refine gn3 asy ?_ ?_ ?_
   ·refine aI rfl (by rfl) (fun K hK=>?_)
    go_simp
    refine(vH.out _ aj).mono ?_
    rintro E W2 ⟨rfl,st2⟩
    have au:=aj.trans (st2.mono aj.size)
    go_wp2_with fail
    refine bq hK (SX.out _ au) ?_
    clear hK K
    refine qZ ar4 ?_ ?_
    ·obtain⟨W3,hW3,cB,st3,ha3⟩:=ak W2 #[.int .i64 c.e,.int .i64 c.n,.slice ao c.l.length cap] 35
     clear cB
     have aD:=au.trans (st3.mono au.size)
     refine aI rfl (by rfl) (fun K hK=>?_)
     go_simp
     go_wp2_with fail
     refine bq hK (SX.out _ aD) ?_
     clear hK K
     refine qZ abN ?_ ?_
     ·refine aI rfl (by rfl) (fun K hK=>?_)
      go_simp
      refine(pJ.out _ _ aD ha3).mono ?_
      rintro E W4 ⟨rfl,kP⟩
      have aK:=aD.trans (kP.mono aD.size)
      have ha4:=(kP.block _ (ax ha3)).trans ha3
      go_wp2_with fail
      refine bq hK (SX.out _ aK) ?_
      clear hK K
      refine dB zw ?_
      obtain⟨W5,hW5,tQ,vO,hb5⟩:=ak W4 #[.int .i64 0,.int .i64 0] 31
      clear tQ
      have lb5:=aK.size
      have aZ:=aK.trans (vO.mono aK.size)
      have ha5:=(vO.block _ (ax ha4)).trans ha4
      refine aI rfl (by rfl) (fun K hK=>?_)
      go_simp
      go_wp2_with fail
      refine bq hK (SX.out _ aZ) ?_
      clear hK K
      refine dB fK ?_
      obtain⟨W6,hW6,hb6,g6,⟨p0,p1⟩,⟨f0,f1⟩,⟨l0,l1⟩⟩:=dF hb5 (.int .i64 fe) (.int .i64 fp)
      have eB:=aB aZ g6 lb5 aZ.size
      refine aI rfl (by rfl) (fun K hK=>?_)
      go_simp
      go_wp2_with fail
      refine bq hK (SX.out _ eB) ?_
      clear hK K
      refine dA gH ?_
      go_wp2_with fail
      go_meet
      exact⟨_,rfl,hide hb6,hide eB⟩
     ·obtain⟨W7,hW7,sz7,st7,hb7⟩:=ak W3 #[.int .i64 0,.int .i64 0] 31
      clear sz7
      have lb7:=aD.size
      have iV:=aD.trans (st7.mono aD.size)
      have ha7:=(st7.block _ (ax ha3)).trans ha3
      refine aI rfl (by rfl) (fun K hK=>?_)
      go_simp
      go_wp2_with fail
      refine bq hK (SX.out _ iV) ?_
      clear hK K
      refine dB ib ?_
      refine aI rfl (by rfl) (fun K hK=>?_)
      go_simp
      refine(pJ.out _ _ iV ha7).mono ?_
      rintro E W8 ⟨rfl,st8⟩
      have lD:=iV.trans (st8.mono iV.size)
      have ha8:=(st8.block _ (ax ha7)).trans ha7
      have hb8:=(st8.block _ (ax hb7)).trans hb7
      go_wp2_with fail
      refine bq hK (SX.out _ lD) ?_
      clear hK K
      refine dB fK ?_
      obtain⟨W9,hW9,hb9,g9,⟨p0,p1⟩,⟨f0,f1⟩,⟨l0,l1⟩⟩:=dF hb8 (.int .i64 fe) (.int .i64 fp)
      have gG:=aB lD g9 lb7 lD.size
      refine aI rfl (by rfl) (fun K hK=>?_)
      go_simp
      go_wp2_with fail
      refine bq hK (SX.out _ gG) ?_
      clear hK K
      refine dA gH ?_
      go_wp2_with fail
      go_meet
      exact⟨_,rfl,hide hb9,hide gG⟩
    ·obtain⟨W10,hW10,axI,azl,awu⟩:=ak W2 #[.int .i64 0,.int .i64 0] 31
     clear axI
     have ay6:=au.size
     have vC:=au.trans (azl.mono au.size)
     refine aI rfl (by rfl) (fun K hK=>?_)
     go_simp
     go_wp2_with fail
     refine bq hK (SX.out _ vC) ?_
     clear hK K
     refine dB zH ?_
     obtain⟨W11,hW11,ayG,avc,aoF⟩:=ak W10 #[.int .i64 c.e,.int .i64 c.n,.slice ao c.l.length cap] 35
     clear ayG
     have adz:=vC.trans (avc.mono vC.size)
     have av1:=(avc.block _ (ax awu)).trans awu
     refine aI rfl (by rfl) (fun K hK=>?_)
     go_simp
     go_wp2_with fail
     refine bq hK (SX.out _ adz) ?_
     clear hK K
     refine dB ib ?_
     refine aI rfl (by rfl) (fun K hK=>?_)
     go_simp
     refine(pJ.out _ _ adz aoF).mono ?_
     rintro E W12 ⟨rfl,aow⟩
     have ahW:=adz.trans (aow.mono adz.size)
     have ha12:=(aow.block _ (ax aoF)).trans aoF
     have anB:=(aow.block _ (ax av1)).trans av1
     go_wp2_with fail
     refine bq hK (SX.out _ ahW) ?_
     clear hK K
     refine dB fK ?_
     obtain⟨W13,hW13,ayz,g13,⟨p0,p1⟩,⟨f0,f1⟩,⟨l0,l1⟩⟩:=dF anB (.int .i64 fe) (.int .i64 fp)
     have nY:=aB ahW g13 ay6 ahW.size
     refine aI rfl (by rfl) (fun K hK=>?_)
     go_simp
     go_wp2_with fail
     refine bq hK (SX.out _ nY) ?_
     clear hK K
     refine dA gH ?_
     go_wp2_with fail
     go_meet
     exact⟨_,rfl,hide ayz,hide nY⟩
   ·obtain⟨W14,hW14,ayY,ayh,ajx⟩:=ak W1 #[.int .i64 c.e,.int .i64 c.n,.slice ao c.l.length cap] 35
    clear ayY
    have tZ:=aj.trans (ayh.mono aj.size)
    refine aI rfl (by rfl) (fun K hK=>?_)
    go_simp
    go_wp2_with fail
    refine bq hK (SX.out _ tZ) ?_
    clear hK K
    refine qZ ahb ?_ ?_
    ·refine aI rfl (by rfl) (fun K hK=>?_)
     go_simp
     refine(vH.out _ tZ).mono ?_
     rintro E W15 ⟨rfl,atO⟩
     have uq:=tZ.trans (atO.mono tZ.size)
     have aff:=(atO.block _ (ax ajx)).trans ajx
     go_wp2_with fail
     refine bq hK (SX.out _ uq) ?_
     clear hK K
     refine qZ abN ?_ ?_
     ·refine aI rfl (by rfl) (fun K hK=>?_)
      go_simp
      refine(pJ.out _ _ uq aff).mono ?_
      rintro E W16 ⟨rfl,auC⟩
      have adN:=uq.trans (auC.mono uq.size)
      have ha16:=(auC.block _ (ax aff)).trans aff
      go_wp2_with fail
      refine bq hK (SX.out _ adN) ?_
      clear hK K
      refine dB zw ?_
      obtain⟨W17,hW17,axU,awK,aya⟩:=ak W16 #[.int .i64 0,.int .i64 0] 31
      clear axU
      have ayJ:=adN.size
      have aia:=adN.trans (awK.mono adN.size)
      have ha17:=(awK.block _ (ax ha16)).trans ha16
      refine aI rfl (by rfl) (fun K hK=>?_)
      go_simp
      go_wp2_with fail
      refine bq hK (SX.out _ aia) ?_
      clear hK K
      refine dB fK ?_
      obtain⟨W18,hW18,ayK,g18,⟨p0,p1⟩,⟨f0,f1⟩,⟨l0,l1⟩⟩:=dF aya (.int .i64 fe) (.int .i64 fp)
      have aqC:=aB aia g18 ayJ aia.size
      refine aI rfl (by rfl) (fun K hK=>?_)
      go_simp
      go_wp2_with fail
      refine bq hK (SX.out _ aqC) ?_
      clear hK K
      refine dA gH ?_
      go_wp2_with fail
      go_meet
      exact⟨_,rfl,hide ayK,hide aqC⟩
     ·obtain⟨W19,hW19,ayL,atm,avg⟩:=ak W15 #[.int .i64 0,.int .i64 0] 31
      clear ayL
      have ayT:=uq.size
      have adT:=uq.trans (atm.mono uq.size)
      have am4:=(atm.block _ (ax aff)).trans aff
      refine aI rfl (by rfl) (fun K hK=>?_)
      go_simp
      go_wp2_with fail
      refine bq hK (SX.out _ adT) ?_
      clear hK K
      refine dB ib ?_
      refine aI rfl (by rfl) (fun K hK=>?_)
      go_simp
      refine(pJ.out _ _ adT am4).mono ?_
      rintro E W20 ⟨rfl,amV⟩
      have ai5:=adT.trans (amV.mono adT.size)
      have ha20:=(amV.block _ (ax am4)).trans am4
      have ayP:=(amV.block _ (ax avg)).trans avg
      go_wp2_with fail
      refine bq hK (SX.out _ ai5) ?_
      clear hK K
      refine dB fK ?_
      obtain⟨W21,hW21,ayl,g21,⟨p0,p1⟩,⟨f0,f1⟩,⟨l0,l1⟩⟩:=dF ayP (.int .i64 fe) (.int .i64 fp)
      have ap3:=aB ai5 g21 ayT ai5.size
      refine aI rfl (by rfl) (fun K hK=>?_)
      go_simp
      go_wp2_with fail
      refine bq hK (SX.out _ ap3) ?_
      clear hK K
      refine dA gH ?_
      go_wp2_with fail
      go_meet
      exact⟨_,rfl,hide ayl,hide ap3⟩
    ·obtain⟨W22,hW22,axS,aw0,auB⟩:=ak W14 #[.int .i64 0,.int .i64 0] 31
     clear axS
     have ax8:=tZ.size
     have adZ:=tZ.trans (aw0.mono tZ.size)
     have auj:=(aw0.block _ (ax ajx)).trans ajx
     refine aI rfl (by rfl) (fun K hK=>?_)
     go_simp
     go_wp2_with fail
     refine bq hK (SX.out _ adZ) ?_
     clear hK K
     refine dB nM ?_
     refine aI rfl (by rfl) (fun K hK=>?_)
     go_simp
     refine(vH.out _ adZ).mono ?_
     rintro E W23 ⟨rfl,aoE⟩
     have jR:=adZ.trans (aoE.mono adZ.size)
     have aoS:=(aoE.block _ (ax auj)).trans auj
     have aws:=(aoE.block _ (ax auB)).trans auB
     go_wp2_with fail
     refine bq hK (SX.out _ jR) ?_
     clear hK K
     refine dB ib ?_
     refine aI rfl (by rfl) (fun K hK=>?_)
     go_simp
     refine(pJ.out _ _ jR aoS).mono ?_
     rintro E W24 ⟨rfl,anY⟩
     have aiB:=jR.trans (anY.mono jR.size)
     have ha24:=(anY.block _ (ax aoS)).trans aoS
     have ayV:=(anY.block _ (ax aws)).trans aws
     go_wp2_with fail
     refine bq hK (SX.out _ aiB) ?_
     clear hK K
     refine dB fK ?_
     obtain⟨W25,hW25,ayM,g25,⟨p0,p1⟩,⟨f0,f1⟩,⟨l0,l1⟩⟩:=dF ayV (.int .i64 fe) (.int .i64 fp)
     have aqD:=aB aiB g25 ax8 aiB.size
     refine aI rfl (by rfl) (fun K hK=>?_)
     go_simp
     go_wp2_with fail
     refine bq hK (SX.out _ aqD) ?_
     clear hK K
     refine dA gH ?_
     go_wp2_with fail
     go_meet
     exact⟨_,rfl,hide ayM,hide aqD⟩
   ·obtain⟨W26,hW26,ax3,azj,aiY⟩:=ak W1 #[.int .i64 0,.int .i64 0] 31
    clear ax3
    have avS:=aj.size
    have xY:=aj.trans (azj.mono aj.size)
    refine aI rfl (by rfl) (fun K hK=>?_)
    go_simp
    go_wp2_with fail
    refine bq hK (SX.out _ xY) ?_
    clear hK K
    refine qZ aeU ?_ ?_
    ·refine aI rfl (by rfl) (fun K hK=>?_)
     go_simp
     refine(vH.out _ xY).mono ?_
     rintro E W27 ⟨rfl,awR⟩
     have ajm:=xY.trans (awR.mono xY.size)
     have awO:=(awR.block _ (ax aiY)).trans aiY
     go_wp2_with fail
     refine bq hK (SX.out _ ajm) ?_
     clear hK K
     refine dB zH ?_
     obtain⟨W28,hW28,ax9,as2,aoU⟩:=ak W27 #[.int .i64 c.e,.int .i64 c.n,.slice ao c.l.length cap] 35
     clear ax9
     have adF:=ajm.trans (as2.mono ajm.size)
     have aun:=(as2.block _ (ax awO)).trans awO
     refine aI rfl (by rfl) (fun K hK=>?_)
     go_simp
     go_wp2_with fail
     refine bq hK (SX.out _ adF) ?_
     clear hK K
     refine dB ib ?_
     refine aI rfl (by rfl) (fun K hK=>?_)
     go_simp
     refine(pJ.out _ _ adF aoU).mono ?_
     rintro E W29 ⟨rfl,aou⟩
     have ah6:=adF.trans (aou.mono adF.size)
     have ha29:=(aou.block _ (ax aoU)).trans aoU
     have ayD:=(aou.block _ (ax aun)).trans aun
     go_wp2_with fail
     refine bq hK (SX.out _ ah6) ?_
     clear hK K
     refine dB fK ?_
     obtain⟨W30,hW30,axP,g30,⟨p0,p1⟩,⟨f0,f1⟩,⟨l0,l1⟩⟩:=dF ayD (.int .i64 fe) (.int .i64 fp)
     have aqK:=aB ah6 g30 avS ah6.size
     refine aI rfl (by rfl) (fun K hK=>?_)
     go_simp
     go_wp2_with fail
     refine bq hK (SX.out _ aqK) ?_
     clear hK K
     refine dA gH ?_
     go_wp2_with fail
     go_meet
     exact⟨_,rfl,hide axP,hide aqK⟩
    ·obtain⟨W31,hW31,axT,auh,aul⟩:=ak W26 #[.int .i64 c.e,.int .i64 c.n,.slice ao c.l.length cap] 35
     clear axT
     have adX:=xY.trans (auh.mono xY.size)
     have asX:=(auh.block _ (ax aiY)).trans aiY
     refine aI rfl (by rfl) (fun K hK=>?_)
     go_simp
     go_wp2_with fail
     refine bq hK (SX.out _ adX) ?_
     clear hK K
     refine dB nM ?_
     refine aI rfl (by rfl) (fun K hK=>?_)
     go_simp
     refine(vH.out _ adX).mono ?_
     rintro E W32 ⟨rfl,amZ⟩
     have adD:=adX.trans (amZ.mono adX.size)
     have ha32:=(amZ.block _ (ax aul)).trans aul
     have auc:=(amZ.block _ (ax asX)).trans asX
     go_wp2_with fail
     refine bq hK (SX.out _ adD) ?_
     clear hK K
     refine dB ib ?_
     refine aI rfl (by rfl) (fun K hK=>?_)
     go_simp
     refine(pJ.out _ _ adD ha32).mono ?_
     rintro E W33 ⟨rfl,anU⟩
     have aiz:=adD.trans (anU.mono adD.size)
     have ha33:=(anU.block _ (ax ha32)).trans ha32
     have aye:=(anU.block _ (ax auc)).trans auc
     go_wp2_with fail
     refine bq hK (SX.out _ aiz) ?_
     clear hK K
     refine dB fK ?_
     obtain⟨W34,hW34,ayI,g34,⟨p0,p1⟩,⟨f0,f1⟩,⟨l0,l1⟩⟩:=dF aye (.int .i64 fe) (.int .i64 fp)
     have aqQ:=aB aiz g34 avS aiz.size
     refine aI rfl (by rfl) (fun K hK=>?_)
     go_simp
     go_wp2_with fail
     refine bq hK (SX.out _ aqQ) ?_
     clear hK K
     refine dA gH ?_
     go_wp2_with fail
     go_meet
     exact⟨_,rfl,hide ayI,hide aqQ⟩
  ·obtain⟨W35,hW35,azc,axV,ahT⟩:=ak W0 #[.int .i64 c.e,.int .i64 c.n,.slice ao c.l.length cap] 35
   clear azc
   have uk:=dE.trans (axV.mono dE.size)
   refine aI rfl (by rfl) (fun K hK=>?_)
   go_simp
   go_wp2_with fail
   refine bq hK (SX.out _ uk) ?_
   clear hK K
   refine qZ asq ?_ ?_
   ·refine aI rfl (by rfl) (fun K hK=>?_)
    go_simp
    refine(HEp.out _ uk).mono ?_
    rintro E W36 ⟨rfl,awt⟩
    have um:=uk.trans (awt.mono uk.size)
    have aiC:=(awt.block _ (ax ahT)).trans ahT
    go_wp2_with fail
    refine bq hK (SX.out _ um) ?_
    clear hK K
    refine qZ ahb ?_ ?_
    ·refine aI rfl (by rfl) (fun K hK=>?_)
     go_simp
     refine(vH.out _ um).mono ?_
     rintro E W37 ⟨rfl,awD⟩
     have uJ:=um.trans (awD.mono um.size)
     have afZ:=(awD.block _ (ax aiC)).trans aiC
     go_wp2_with fail
     refine bq hK (SX.out _ uJ) ?_
     clear hK K
     refine qZ abN ?_ ?_
     ·refine aI rfl (by rfl) (fun K hK=>?_)
      go_simp
      refine(pJ.out _ _ uJ afZ).mono ?_
      rintro E W38 ⟨rfl,auD⟩
      have adI:=uJ.trans (auD.mono uJ.size)
      have auH:=(auD.block _ (ax afZ)).trans afZ
      go_wp2_with fail
      refine bq hK (SX.out _ adI) ?_
      clear hK K
      refine dB zw ?_
      obtain⟨W39,hW39,axW,atC,azg⟩:=ak W38 #[.int .i64 0,.int .i64 0] 31
      clear axW
      have ayU:=adI.size
      have aiT:=adI.trans (atC.mono adI.size)
      have ha39:=(atC.block _ (ax auH)).trans auH
      refine aI rfl (by rfl) (fun K hK=>?_)
      go_simp
      go_wp2_with fail
      refine bq hK (SX.out _ aiT) ?_
      clear hK K
      refine dB fK ?_
      obtain⟨W40,hW40,ayC,g40,⟨p0,p1⟩,⟨f0,f1⟩,⟨l0,l1⟩⟩:=dF azg (.int .i64 fe) (.int .i64 fp)
      have arl:=aB aiT g40 ayU aiT.size
      refine aI rfl (by rfl) (fun K hK=>?_)
      go_simp
      go_wp2_with fail
      refine bq hK (SX.out _ arl) ?_
      clear hK K
      refine dA gH ?_
      go_wp2_with fail
      go_meet
      exact⟨_,rfl,hide ayC,hide arl⟩
     ·obtain⟨W41,hW41,ay1,as8,aw2⟩:=ak W37 #[.int .i64 0,.int .i64 0] 31
      clear ay1
      have ayS:=uJ.size
      have adA:=uJ.trans (as8.mono uJ.size)
      have anm:=(as8.block _ (ax afZ)).trans afZ
      refine aI rfl (by rfl) (fun K hK=>?_)
      go_simp
      go_wp2_with fail
      refine bq hK (SX.out _ adA) ?_
      clear hK K
      refine dB ib ?_
      refine aI rfl (by rfl) (fun K hK=>?_)
      go_simp
      refine(pJ.out _ _ adA anm).mono ?_
      rintro E W42 ⟨rfl,aoH⟩
      have air:=adA.trans (aoH.mono adA.size)
      have ha42:=(aoH.block _ (ax anm)).trans anm
      have ayE:=(aoH.block _ (ax aw2)).trans aw2
      go_wp2_with fail
      refine bq hK (SX.out _ air) ?_
      clear hK K
      refine dB fK ?_
      obtain⟨W43,hW43,ay3,g43,⟨p0,p1⟩,⟨f0,f1⟩,⟨l0,l1⟩⟩:=dF ayE (.int .i64 fe) (.int .i64 fp)
      have aqk:=aB air g43 ayS air.size
      refine aI rfl (by rfl) (fun K hK=>?_)
      go_simp
      go_wp2_with fail
      refine bq hK (SX.out _ aqk) ?_
      clear hK K
      refine dA gH ?_
      go_wp2_with fail
      go_meet
      exact⟨_,rfl,hide ay3,hide aqk⟩
    ·obtain⟨W44,hW44,ayR,atp,as7⟩:=ak W36 #[.int .i64 0,.int .i64 0] 31
     clear ayR
     have ays:=um.size
     have adQ:=um.trans (atp.mono um.size)
     have atF:=(atp.block _ (ax aiC)).trans aiC
     refine aI rfl (by rfl) (fun K hK=>?_)
     go_simp
     go_wp2_with fail
     refine bq hK (SX.out _ adQ) ?_
     clear hK K
     refine dB nM ?_
     refine aI rfl (by rfl) (fun K hK=>?_)
     go_simp
     refine(vH.out _ adQ).mono ?_
     rintro E W45 ⟨rfl,am9⟩
     have adP:=adQ.trans (am9.mono adQ.size)
     have apD:=(am9.block _ (ax atF)).trans atF
     have avN:=(am9.block _ (ax as7)).trans as7
     go_wp2_with fail
     refine bq hK (SX.out _ adP) ?_
     clear hK K
     refine dB ib ?_
     refine aI rfl (by rfl) (fun K hK=>?_)
     go_simp
     refine(pJ.out _ _ adP apD).mono ?_
     rintro E W46 ⟨rfl,apQ⟩
     have ajc:=adP.trans (apQ.mono adP.size)
     have ha46:=(apQ.block _ (ax apD)).trans apD
     have azm:=(apQ.block _ (ax avN)).trans avN
     go_wp2_with fail
     refine bq hK (SX.out _ ajc) ?_
     clear hK K
     refine dB fK ?_
     obtain⟨W47,hW47,axM,g47,⟨p0,p1⟩,⟨f0,f1⟩,⟨l0,l1⟩⟩:=dF azm (.int .i64 fe) (.int .i64 fp)
     have ap5:=aB ajc g47 ays ajc.size
     refine aI rfl (by rfl) (fun K hK=>?_)
     go_simp
     go_wp2_with fail
     refine bq hK (SX.out _ ap5) ?_
     clear hK K
     refine dA gH ?_
     go_wp2_with fail
     go_meet
     exact⟨_,rfl,hide axM,hide ap5⟩
   ·obtain⟨W48,hW48,aze,auJ,hb48⟩:=ak W35 #[.int .i64 0,.int .i64 0] 31
    clear aze
    have azh:=uk.size
    have adG:=uk.trans (auJ.mono uk.size)
    have awZ:=(auJ.block _ (ax ahT)).trans ahT
    refine aI rfl (by rfl) (fun K hK=>?_)
    go_simp
    go_wp2_with fail
    refine bq hK (SX.out _ adG) ?_
    clear hK K
    refine dB agb ?_
    refine aI rfl (by rfl) (fun K hK=>?_)
    go_simp
    refine(HEp.out _ adG).mono ?_
    rintro E W49 ⟨rfl,apf⟩
    have adO:=adG.trans (apf.mono adG.size)
    have auK:=(apf.block _ (ax awZ)).trans awZ
    have av2:=(apf.block _ (ax hb48)).trans hb48
    go_wp2_with fail
    refine bq hK (SX.out _ adO) ?_
    clear hK K
    refine dB nM ?_
    refine aI rfl (by rfl) (fun K hK=>?_)
    go_simp
    refine(vH.out _ adO).mono ?_
    rintro E W50 ⟨rfl,am0⟩
    have adv:=adO.trans (am0.mono adO.size)
    have am5:=(am0.block _ (ax auK)).trans auK
    have avW:=(am0.block _ (ax av2)).trans av2
    go_wp2_with fail
    refine bq hK (SX.out _ adv) ?_
    clear hK K
    refine dB ib ?_
    refine aI rfl (by rfl) (fun K hK=>?_)
    go_simp
    refine(pJ.out _ _ adv am5).mono ?_
    rintro E W51 ⟨rfl,an7⟩
    have aik:=adv.trans (an7.mono adv.size)
    have ha51:=(an7.block _ (ax am5)).trans am5
    have ay7:=(an7.block _ (ax avW)).trans avW
    go_wp2_with fail
    refine bq hK (SX.out _ aik) ?_
    clear hK K
    refine dB fK ?_
    obtain⟨W52,hW52,ayt,g52,⟨p0,p1⟩,⟨f0,f1⟩,⟨l0,l1⟩⟩:=dF ay7 (.int .i64 fe) (.int .i64 fp)
    have aq7:=aB aik g52 azh aik.size
    refine aI rfl (by rfl) (fun K hK=>?_)
    go_simp
    go_wp2_with fail
    refine bq hK (SX.out _ aq7) ?_
    clear hK K
    refine dA gH ?_
    go_wp2_with fail
    go_meet
    exact⟨_,rfl,hide ayt,hide aq7⟩
  ·obtain⟨W53,hW53,axH,ayN,aiX⟩:=ak W0 #[.int .i64 0,.int .i64 0] 31
   clear axH
   have ao8:=dE.size
   have yg:=dE.trans (ayN.mono dE.size)
   refine aI rfl (by rfl) (fun K hK=>?_)
   go_simp
   go_wp2_with fail
   refine bq hK (SX.out _ yg) ?_
   clear hK K
   refine qZ apa ?_ ?_
   ·refine aI rfl (by rfl) (fun K hK=>?_)
    go_simp
    refine(HEp.out _ yg).mono ?_
    rintro E W54 ⟨rfl,auF⟩
    have yj:=yg.trans (auF.mono yg.size)
    have ajb:=(auF.block _ (ax aiX)).trans aiX
    go_wp2_with fail
    refine bq hK (SX.out _ yj) ?_
    clear hK K
    refine qZ aeU ?_ ?_
    ·refine aI rfl (by rfl) (fun K hK=>?_)
     go_simp
     refine(vH.out _ yj).mono ?_
     rintro E W55 ⟨rfl,avV⟩
     have aiV:=yj.trans (avV.mono yj.size)
     have au5:=(avV.block _ (ax ajb)).trans ajb
     go_wp2_with fail
     refine bq hK (SX.out _ aiV) ?_
     clear hK K
     refine dB zH ?_
     obtain⟨W56,hW56,ax7,awW,aoz⟩:=ak W55 #[.int .i64 c.e,.int .i64 c.n,.slice ao c.l.length cap] 35
     clear ax7
     have adB:=aiV.trans (awW.mono aiV.size)
     have awf:=(awW.block _ (ax au5)).trans au5
     refine aI rfl (by rfl) (fun K hK=>?_)
     go_simp
     go_wp2_with fail
     refine bq hK (SX.out _ adB) ?_
     clear hK K
     refine dB ib ?_
     refine aI rfl (by rfl) (fun K hK=>?_)
     go_simp
     refine(pJ.out _ _ adB aoz).mono ?_
     rintro E W57 ⟨rfl,apg⟩
     have ahV:=adB.trans (apg.mono adB.size)
     have ha57:=(apg.block _ (ax aoz)).trans aoz
     have ayo:=(apg.block _ (ax awf)).trans awf
     go_wp2_with fail
     refine bq hK (SX.out _ ahV) ?_
     clear hK K
     refine dB fK ?_
     obtain⟨W58,hW58,ayq,g58,⟨p0,p1⟩,⟨f0,f1⟩,⟨l0,l1⟩⟩:=dF ayo (.int .i64 fe) (.int .i64 fp)
     have apZ:=aB ahV g58 ao8 ahV.size
     refine aI rfl (by rfl) (fun K hK=>?_)
     go_simp
     go_wp2_with fail
     refine bq hK (SX.out _ apZ) ?_
     clear hK K
     refine dA gH ?_
     go_wp2_with fail
     go_meet
     exact⟨_,rfl,hide ayq,hide apZ⟩
    ·obtain⟨W59,hW59,ay4,aug,awm⟩:=ak W54 #[.int .i64 c.e,.int .i64 c.n,.slice ao c.l.length cap] 35
     clear ay4
     have adS:=yj.trans (aug.mono yj.size)
     have avE:=(aug.block _ (ax ajb)).trans ajb
     refine aI rfl (by rfl) (fun K hK=>?_)
     go_simp
     go_wp2_with fail
     refine bq hK (SX.out _ adS) ?_
     clear hK K
     refine dB nM ?_
     refine aI rfl (by rfl) (fun K hK=>?_)
     go_simp
     refine(vH.out _ adS).mono ?_
     rintro E W60 ⟨rfl,amL⟩
     have adV:=adS.trans (amL.mono adS.size)
     have apt:=(amL.block _ (ax awm)).trans awm
     have au8:=(amL.block _ (ax avE)).trans avE
     go_wp2_with fail
     refine bq hK (SX.out _ adV) ?_
     clear hK K
     refine dB ib ?_
     refine aI rfl (by rfl) (fun K hK=>?_)
     go_simp
     refine(pJ.out _ _ adV apt).mono ?_
     rintro E W61 ⟨rfl,amS⟩
     have aiE:=adV.trans (amS.mono adV.size)
     have ha61:=(amS.block _ (ax apt)).trans apt
     have axJ:=(amS.block _ (ax au8)).trans au8
     go_wp2_with fail
     refine bq hK (SX.out _ aiE) ?_
     clear hK K
     refine dB fK ?_
     obtain⟨W62,hW62,azd,g62,⟨p0,p1⟩,⟨f0,f1⟩,⟨l0,l1⟩⟩:=dF axJ (.int .i64 fe) (.int .i64 fp)
     have aqj:=aB aiE g62 ao8 aiE.size
     refine aI rfl (by rfl) (fun K hK=>?_)
     go_simp
     go_wp2_with fail
     refine bq hK (SX.out _ aqj) ?_
     clear hK K
     refine dA gH ?_
     go_wp2_with fail
     go_meet
     exact⟨_,rfl,hide azd,hide aqj⟩
   ·obtain⟨W63,hW63,azf,awC,awT⟩:=ak W53 #[.int .i64 c.e,.int .i64 c.n,.slice ao c.l.length cap] 35
    clear azf
    have adH:=yg.trans (awC.mono yg.size)
    have auT:=(awC.block _ (ax aiX)).trans aiX
    refine aI rfl (by rfl) (fun K hK=>?_)
    go_simp
    go_wp2_with fail
    refine bq hK (SX.out _ adH) ?_
    clear hK K
    refine dB agb ?_
    refine aI rfl (by rfl) (fun K hK=>?_)
    go_simp
    refine(HEp.out _ adH).mono ?_
    rintro E W64 ⟨rfl,ao6⟩
    have adE:=adH.trans (ao6.mono adH.size)
    have avd:=(ao6.block _ (ax awT)).trans awT
    have aeB:=(ao6.block _ (ax auT)).trans auT
    go_wp2_with fail
    refine bq hK (SX.out _ adE) ?_
    clear hK K
    refine dB nM ?_
    refine aI rfl (by rfl) (fun K hK=>?_)
    go_simp
    refine(vH.out _ adE).mono ?_
    rintro E W65 ⟨rfl,anN⟩
    have adM:=adE.trans (anN.mono adE.size)
    have aop:=(anN.block _ (ax avd)).trans avd
    have auM:=(anN.block _ (ax aeB)).trans aeB
    go_wp2_with fail
    refine bq hK (SX.out _ adM) ?_
    clear hK K
    refine dB ib ?_
    refine aI rfl (by rfl) (fun K hK=>?_)
    go_simp
    refine(pJ.out _ _ adM aop).mono ?_
    rintro E W66 ⟨rfl,an1⟩
    have ahQ:=adM.trans (an1.mono adM.size)
    have ha66:=(an1.block _ (ax aop)).trans aop
    have axY:=(an1.block _ (ax auM)).trans auM
    go_wp2_with fail
    refine bq hK (SX.out _ ahQ) ?_
    clear hK K
    refine dB fK ?_
    obtain⟨W67,hW67,ayb,g67,⟨p0,p1⟩,⟨f0,f1⟩,⟨l0,l1⟩⟩:=dF axY (.int .i64 fe) (.int .i64 fp)
    have aqs:=aB ahQ g67 ao8 ahQ.size
    refine aI rfl (by rfl) (fun K hK=>?_)
    go_simp
    go_wp2_with fail
    refine bq hK (SX.out _ aqs) ?_
    clear hK K
    refine dA gH ?_
    go_wp2_with fail
    go_meet
    exact⟨_,rfl,hide ayb,hide aqs⟩
 case rest=>
  obtain⟨R,rfl,hR,bR⟩:=hcut
  obtain⟨w6,rQ⟩:∃x,wc=x:=⟨_,rfl⟩
  rw[rQ]at hR bR⊢
  have r0:=ai hR.out 0 rfl
  have r1:=ai hR.out 1 rfl
  simp only[List.getElem_toArray,List.getElem_cons_zero,List.getElem_cons_succ]at r0 r1
  have q1:=Tryz.zV fe fp 0 0
  have q2:=Tryz.oG .neq
  have B06:=hide (zn.out.trans (bR.out.mono zn.out.size))
  obtain⟨x0,x1,x2⟩:=SX.out _ bR.out
  clear rQ HEp vH pJ SX
  by_cases hf0:fe=0
  ·have hp0:=HAT.out hf0
   subst hf0
   subst hp0
   have e1:Sto.zk s c.c=(0,⟨s.r,s.l++[c.c]⟩):=by rw[HA1.out,if_neg (by simp)]
   have E1:=hide e1
   rw[e1]at HAP
   have HAD:=hide (anp ps p q F w6 s c (HSW.out.below B06.out) (HI.out.1.below B06.out) HAP.out HI.out.2.2.2.2.1 HI.out.2.2.2.2.2)
   unfold bK at HAD
   rw[qM.out]at HAD
   clear e1
   go_wp2_with fail
   refine HAD.out.mono ?_
   rintro E w7 ⟨⟨uu,rfl⟩,SS⟩
   have FIN:=hide (sO.pre B06.out SS)
   clear SS HAD
   go_wp2
   go_ret
   rw[E1.out]
   exact⟨rfl,FIN.out⟩
  ·have e1:Sto.zk s c.c=(fe,s):=by rw[HA1.out,if_pos hf0]
   have E1:=hide e1
   have hne:(fe==0)=false:=by simpa using hf0
   clear e1
   go_wp2
   go_ret
   rw[E1.out]
   exact⟨rfl,sO.same HSW.out B06.out⟩
end Go.Proofs.YtmngcecomcadkaaGreatDoor
