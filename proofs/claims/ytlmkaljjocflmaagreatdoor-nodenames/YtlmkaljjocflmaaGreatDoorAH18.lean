/- Texts of one layer, one behind the other. -/
import Derived.Test.YtlmkaljjocflmaaGreatDoorAH17
import Derived.Test.YtlmkaljjocflmaaGreatDoorAH15
import Derived.Test.YtlmkaljjocflmaaGreatDoorAM4
import Derived.Test.YtlmkaljjocflmaaGreatDoorAH2
import Derived.Test.YtlmkaljjocflmaaGreatDoorAH19
import Derived.Test.YtlmkaljjocflmaaGreatDoorAH20
import Derived.Test.YtlmkaljjocflmaaGreatDoorAH22
import Derived.Test.YtlmkaljjocflmaaGreatDoorAH26
import Derived.Deep.RegionHeld3
import Derived.Test.YtlmkaljjocflmaaGreatDoorAH27
import Derived.Defers
import Derived.Test.YtlmkaljjocflmaaGreatDoorAH29
import Derived.Test.YtlmkaljjocflmaaGreatDoorAH23
import Derived.Deep.RegionWith
set_option maxRecDepth 100000
set_option maxHeartbeats 8000000
namespace Go.Proofs.YtlmkaljjocflmaaGreatDoor
open Go.RowKit
open Bm (Ov)
set_option linter.unusedVariables false
theorem ae2 (p q:Nat)(F1:Nat→Prop)(w:World)(d:Dm.Ds)(bk:Bool)(v:Value)(hB:w.heap[p]? =some (.cells #[.pointer (some ⟨q,0,none⟩),.bool bk,v] 276 (0,0)))(h1:Pk q F1 w d):
  Calls Tryz.prog 319 #[.pointer (some ⟨p,0,none⟩)] w fun E w'=>(E=.returned (.int .i64 6)∧Out (fun g=>g=p) w w')∨(E=.returned (.int .i64 0)∧w=w'):=by
 have HM:=hide (vP p q w _ _ hB)
 have HO:=hide (zR q F1 w d h1)
 have c0:=ai hB 0 rfl
 have c1:=ai hB 1 rfl
 have f1:=aB hB 1
 simp only[List.getElem_toArray,List.getElem_cons_zero,List.getElem_cons_succ]at c0 c1
 have OX:Hid (Out (fun g=>g=p) w (w.setCell ⟨p,1,none⟩ (.bool true))):=hide (Out.aP (ax w ⟨p,1,none⟩ (.bool true)) fun g hg=>by simp at hg;exact hg.symm)
 generalize d.on=on at HO
 clear hB h1
 cases bk<;>cases on
 ·go_enter Tryz.func319,Tryz.ntmps319
  go_wp2_with fail
  refine HM.out.mono ?_
  rintro E w1 ⟨rfl,rfl⟩
  go_wp2_with fail
  refine HO.out.mono ?_
  rintro E w1 ⟨rfl,rfl⟩
  go_wp2
  go_ret
  exact .inl ⟨rfl,OX.out⟩
 ·go_enter Tryz.func319,Tryz.ntmps319
  go_wp2_with fail
  refine HM.out.mono ?_
  rintro E w1 ⟨rfl,rfl⟩
  go_wp2_with fail
  refine HO.out.mono ?_
  rintro E w1 ⟨rfl,rfl⟩
  go_wp2
  go_ret
  exact .inr ⟨rfl,rfl⟩
 ·go_enter Tryz.func319,Tryz.ntmps319
  go_wp2_with fail
  refine HM.out.mono ?_
  rintro E w1 ⟨rfl,rfl⟩
  go_wp2
  go_ret
  exact .inl ⟨rfl,OX.out⟩
 ·go_enter Tryz.func319,Tryz.ntmps319
  go_wp2_with fail
  refine HM.out.mono ?_
  rintro E w1 ⟨rfl,rfl⟩
  go_wp2
  go_ret
  exact .inl ⟨rfl,OX.out⟩
theorem ahN (p q:Nat)(F1:Nat→Prop)(w:World)(d:Dm.Ds)(bk:Bool)(v:Value)(hB:w.heap[p]? =some (.cells #[.pointer (some ⟨q,0,none⟩),.bool bk,v] 276 (0,0)))(h1:Pk q F1 w d):
  Calls Tryz.prog 293 #[.pointer (some ⟨p,0,none⟩),.agg #[.int .i64 0,.int .i64 0,.slice none 0 0]] w fun E w'=>(E=.returned (.int .i64 6)∨E=.returned (.int .i64 2))∧Out (fun g=>g=p) w w':=by
 obtain⟨w1,hw1,aT,ak,hB0⟩:=au w #[.int .i64 0,.int .i64 0,.slice none 0 0] 273
 have c0:w1.cell? ⟨w.heap.size,0,none⟩=some (.int .i64 0):=ai hB0 0 rfl
 have c1:w1.cell? ⟨w.heap.size,1,none⟩=some (.int .i64 0):=ai hB0 1 rfl
 have c2:w1.cell? ⟨w.heap.size,2,none⟩=some (.slice none 0 0):=ai hB0 2 rfl
 have HR:=hide (ae2 p q F1 w1 d bk v ((ak.block p (aA hB)).trans hB) (h1.below ak))
 have HFR:=hide (afY 0 0 (.slice none 0 0) [] w1 (dz.nil _) (fun o ho=>by simp at ho) (by simp))
 unfold dF at HFR
 rw[show Rn.chk 0 0 []=2 from rfl]at HFR
 have B1:=hide ak
 clear hB h1 hB0 ak aT
 go_enter Tryz.func293,Tryz.ntmps293
 go_wp2_with fail
 refine HR.out.mono ?_
 rintro E w2 (⟨rfl,o2⟩|⟨rfl,rfl⟩)
 ·have O2:=hide ((Out.of_below (F:=fun g=>g=p) B1.out).trans o2 fun g hg=>.inl hg)
  clear o2 HR
  go_wp2
  go_ret
  exact⟨.inl rfl,O2.out⟩
 ·clear HR
  go_wp2_with fail
  refine HFR.out.mono ?_
  rintro E w2 ⟨vb,rfl,own,az⟩
  obtain⟨ab,cb,hvb,_,_⟩:=own.is.shape
  have O2:=hide (Out.of_below (F:=fun g=>g=p) (B1.out.trans (az.mono B1.out.size)))
  subst hvb
  clear own az
  go_wp2
  go_ret
  exact⟨.inr rfl,O2.out⟩
theorem af1 (p q:Nat)(F:Nat→Prop)(w:World)(s:Rl.Rs)(h:RW p q F w s):
  Calls Tryz.prog 239 #[.pointer (some ⟨p,0,none⟩)] w fun E w'=>E=.returned (.bool true)∧Below w.heap.size w w':=by
 obtain⟨F1,G1,h1,⟨v,rs,hv,hG⟩,hF⟩:=h
 have c0:=ai hv.blk 0 rfl
 have c1:=ai hv.blk 1 rfl
 have c2:=ai hv.blk 2 rfl
 simp only[List.getElem_toArray,List.getElem_cons_zero,List.getElem_cons_succ]at c0 c1 c2
 obtain⟨V,hV1,hV,jE,bV,BV,x0,x1,x2⟩:=gG w 276 (.pointer none) (.bool false) (.slice none 0 0) (.pointer (some ⟨q,0,none⟩)) (.bool s.bk) v
 have yf:=hide (ahN w.heap.size q F1 V s.d s.bk v BV (h1.below bV))
 obtain⟨la,ln,lk,hlv⟩:∃a n k,v=.slice a n k:=by
  obtain⟨a1,k1,h1,_⟩:=hv.log.row.row.shape
  exact⟨a1,_,k1,h1⟩
 have B1:=hide bV
 generalize s.bk=bk at*
 subst hlv
 clear hv h1 hF hG bV BV jE
 go_enter Tryz.func239,Tryz.ntmps239
 go_wp2_with fail
 refine yf.out.mono ?_
 rintro E w2 ⟨rfl|rfl,o2⟩
 all_goals
  have O2:=hide (B1.out.trans (o2.below (base:=w.heap.size) (fun g hg=>by omega) B1.out.size))
  clear o2 yf
  go_wp2
  go_ret
  exact⟨rfl,O2.out⟩
theorem atp {p q:Nat}{F:Nat→Prop}{w w1 w2:World}{r:Rl.Rs}(h:RW p q F w r)(hb:Below w.heap.size w w1)(ht:Tb (w.heap.size+1) w.heap.size w1 [])(hw:w1.alloc (.cells #[.pointer (some ⟨p,0,none⟩),.slice none 0 0,.pointer (some ⟨w.heap.size+1,0,none⟩)] 288)=w2):
  Sk w1.heap.size p (SB w1.heap.size (w.heap.size+1) w.heap.size (.slice none 0 0) []) w2 []∧Below w.heap.size w w2∧∀g,SB w1.heap.size (w.heap.size+1) w.heap.size (.slice none 0 0) [] g→w.heap.size≤g:=by
 obtain⟨W,hW,sz,aK,hB⟩:=au w1 #[.pointer (some ⟨p,0,none⟩),.slice none 0 0,.pointer (some ⟨w.heap.size+1,0,none⟩)] 288
 rw[hw]at hW
 subst hW
 have hs:=hb.size
 have hge:∀g,SB w1.heap.size (w.heap.size+1) w.heap.size (.slice none 0 0) [] g→w.heap.size≤g:=by
  rintro g (e|e|e|e|⟨c,hc,_⟩)
  ·omega
  ·omega
  ·omega
  ·simp[Value.ownBlock]at e
  ·simp at hc
 exact⟨⟨_,_,_,_,⟨hB,Rt.nil _ _,ht.below aK⟩,rfl⟩,hb.trans (aK.mono hs),hge⟩
theorem ald (p q:Nat)(F:Nat→Prop)(w:World)(r:Rl.Rs)(vr:Value)(rs:List Cw)(h:RW p q F w r)(hr:iy w vr rs)(hf:jr rs)(hl:rs.length≤100000):
  Calls Tryz.prog 181 #[.pointer (some ⟨p,0,none⟩),vr] w fun E w'=>((Cm.fol 1 (Cm.lastN 0 r.l) 0 (aH rs)).1≠0∧E=.returned (.tuple #[.pointer none,.int .i64 (Cm.fol 1 (Cm.lastN 0 r.l) 0 (aH rs)).1])∧Below w.heap.size w w')∨((Cm.fol 1 (Cm.lastN 0 r.l) 0 (aH rs)).1=0∧∃ps,E=.returned (.tuple #[.pointer (some ⟨ps,0,none⟩),.int .i64 0])∧∃G,Sk ps p G w' (aH rs)∧(∀g,G g→w.heap.size≤g)∧Below w.heap.size w w'):=by
 have HM:=hide (af1 p q F w r h)
 have HW:=hide h
 have HI:=hide hr
 have HFC:=hide hf
 have hgl:=Rl.eU h.good
 obtain⟨ra,rk,hvr,_,_⟩:=hr.1.shape
 obtain⟨fe,hfe⟩:∃x,(Cm.fol 1 (Cm.lastN 0 r.l) 0 (aH rs)).1=x:=⟨_,rfl⟩
 obtain⟨fp,hfp⟩:∃x,(Cm.fol 1 (Cm.lastN 0 r.l) 0 (aH rs)).2=x:=⟨_,rfl⟩
 have hat:=Cm.aaR (aH rs) 1 (Cm.lastN 0 r.l) 0
 rw[hfe,hfp]at hat
 rw[hfe]
 have HAT:=hide hat
 have HGD:Hid (fe=0→Cm.Good 1 (Cm.lastN 0 r.l) (aH rs)):=hide fun e=>(Cm.gH _ _ _ 0).1 (by rw[hfe];exact e)
 have HFE:=hide (And.intro hfe hfp)
 obtain⟨n,hn⟩:∃n,rs.length=n:=⟨_,rfl⟩
 have HN:=hide hn
 rw[hn]at hvr hl
 have HVR:=hide hvr
 have q1:=Tryz.adV fe fp 0 0
 have q2:=Tryz.vE .neq
 clear h hr hf hat hfe hfp hn hgl
 rw[hvr]
 clear hvr
 go_enter Tryz.func181,Tryz.ntmps181
 go_wp2_with fail
 refine HM.out.mono ?_
 rintro E w1 ⟨rfl,ak⟩
 have W1:=hide (HW.out.below ak)
 have I1:=hide (show iy w1 vr rs from⟨HI.out.1.below ak,fun c hc=>⟨(HI.out.2 c hc).1.below ak,(HI.out.2 c hc).2⟩⟩)
 have HE:=hide (mY p q F w1 r W1.out)
 have B1:=hide ak
 clear HM ak
 go_wp2_with fail
 refine HE.out.mono ?_
 rintro E w2 ⟨rfl,rfl⟩
 have HF:=hide (oJ 1 (Cm.lastN 0 r.l) vr rs w1 I1.out HFC.out (by have:=HN.out;omega))
 unfold xS at HF
 rw[HFE.out.1,HFE.out.2,HVR.out]at HF
 clear HE
 go_wp2_with fail
 refine HF.out.mono ?_
 rintro E w2 ⟨rfl,az⟩
 obtain⟨w3,hw3,hw32,bJ,aC,hF3,x0,x1⟩:=wR w2 31 (.int .i64 0) (.int .i64 0) (.int .i64 fe) (.int .i64 fp)
 have b13:=az.trans (aC.mono az.size)
 have B3:=hide (B1.out.trans (b13.mono B1.out.size))
 have W3:=hide (W1.out.below b13)
 have I3:=hide (show iy w3 vr rs from⟨I1.out.1.below b13,fun c hc=>⟨(I1.out.2 c hc).1.below b13,(I1.out.2 c hc).2⟩⟩)
 have HF3:=hide hF3
 clear HF az aC b13 hF3 W1 I1 HW HI B1 bJ
 by_cases hf0:fe=0
 ·have hp0:=HAT.out hf0
  have gd:=HGD.out hf0
  subst hf0
  subst hp0
  have GD:=hide gd
  have z0:w3.setCell ⟨w2.heap.size,0,none⟩ (.int .i64 0)=w3:=aM HF3.out (j:=0) rfl
  have z1:w3.setCell ⟨w2.heap.size,1,none⟩ (.int .i64 0)=w3:=aM HF3.out (j:=1) rfl
  have f0:=aB HF3.out 0
  have f1:=aB HF3.out 1
  clear gd HGD HAT HFE HF3
  go_wp2_with fail
  refine(amT w3).mono ?_
  rintro E w4 ⟨rfl,T4,b4⟩
  obtain⟨w5,gM⟩:∃x,w4.alloc (.cells #[.pointer (some ⟨p,0,none⟩),.slice none 0 0,.pointer (some ⟨w3.heap.size+1,0,none⟩)] 288)=x:=⟨_,rfl⟩
  obtain⟨S5,b35,hge⟩:=atp W3.out b4 T4 gM
  have Q0:Hid (∃G,Sk w4.heap.size p G w5 (aH (rs.take 0))∧(∀g,G g→w3.heap.size≤g)∧Below w3.heap.size w3 w5):=hide ⟨_,S5,hge,b35⟩
  clear S5 b35 hge T4 b4
  go_wp2
  go_loopw [28] (fun iv wr=>∃k:Nat,k≤n∧iv=.int .i64 k∧Hid (∃G,Sk w4.heap.size p G wr (aH (rs.take k))∧(∀g,G g→w3.heap.size≤g)∧Below w3.heap.size w3 wr)) (fun iv _=>n-(intOf iv).toNat)
  case atStart=>exact⟨0,by omega,rfl,Q0⟩
  case round=>
   obtain⟨k,hk,rfl,HQ⟩:=hrel
   clear Q0
   by_cases hlt:k<n
   ·obtain⟨⟨ce,cn,cv,cl⟩,hc⟩:∃c,rs[k]? =some c:=⟨rs[k]'(by have:=HN.out;omega),by rw[List.getElem?_eq_getElem]⟩
    obtain⟨g,off,cq,fH,_,_,hgw,hcell⟩:=I3.out.1.full (by have:=HN.out;omega)
    rw[HN.out,HVR.out]at fH
    simp only[Value.slice.injEq,true_and]at fH
    obtain⟨rfl,rfl⟩:=fH
    obtain⟨c0,c1,c2⟩:=hcell k _ hc
    have hm:=List.mem_of_getElem? hc
    obtain⟨G,⟨pm,bm,v,rr,hs,rfl⟩,hge,BR⟩:=HQ.out
    have nV:=((I3.out.2 _ hm).1).below BR
    have d0:=(BR.cell (p:=⟨g,off+k*3,none⟩) hgw).trans c0
    have d1:=(BR.cell (p:=⟨g,off+k*3+1,none⟩) hgw).trans c1
    have d2:=(BR.cell (p:=⟨g,off+k*3+2,none⟩) hgw).trans c2
    obtain⟨oa,ok,hvo,_,_⟩:=nV.shape
    obtain⟨wc,hwc,hwc2,szc,abA,bC,y0,y1,y2⟩:=gG wr 35 (.int .i64 0) (.int .i64 0) (.slice none 0 0) (.int .i64 ce) (.int .i64 cn) cv
    have hnx:=aoR hc
    have hgk:Cm.Good 1 (Cm.lastN 0 r.l) (aH (rs.take k)):=by
     rw[amk]
     exact Cm.acv GD.out _
    have hch:Cm.chk ce cn cl=0:=(Sto.iJ GD.out _ (List.mem_map.2 ⟨_,hm,rfl⟩)).1
    have HA:=hide (acM w4.heap.size p pm bm wc (aH (rs.take k)) v rr ⟨ce,cn,cv,cl⟩ (hs.below abA) (nV.below abA) hch (fun hp b hb hf=>by
     have h1:=hge b hf
     obtain⟨g',off',cap',hv',_,_,hg',_⟩:=((I3.out.2 _ hm).1).full hp
     simp only at hv' hb
     rw[hv']at hb
     simp[Value.ownBlock]at hb
     omega) (by rw[aH,List.length_map,List.length_take];omega) (Sto.agQ hgk))
    unfold dF at HA
    simp only at c0 c1 c2 d0 d1 d2 hvo HA
    rw[show aH (rs.take k)++[(⟨ce,cn,cv,cl⟩:Cw).c]=aH (rs.take (k+1))from hnx.symm]at HA
    subst hvo
    have hlt':(k:Int)<n:=by omega
    have hk0:(0:Int)≤(k:Int):=by omega
    have HX:=hide (And.intro BR (And.intro abA hge))
    clear hcell c0 c1 c2 hc hm nV bC abA hnx hgk hch hs BR hge
    go_wp2_with fail
    refine HA.out.mono ?_
    rintro E w6 ⟨⟨uu,rfl⟩,S6⟩
    have HQ2:Hid (∃G,Sk w4.heap.size p G w6 (aH (rs.take (k+1)))∧(∀g,G g→w3.heap.size≤g)∧Below w3.heap.size w3 w6):=hide (by
     obtain⟨BR,abA,hge⟩:=HX.out
     obtain⟨G',k1,k2,k3⟩:=S6
     have b1:=BR.trans (abA.mono BR.size)
     have hz:=b1.size
     refine⟨G',k1,fun g hg=>?_,b1.trans (k2.below hge hz)⟩
     rcases k3 g hg with e|e
     ·exact hge g e
     ·omega)
    clear S6 HA HX
    go_wp2
    go_roundw
    case rel=>exact⟨k+1,by omega,by go_num,HQ2⟩
    case measure=>simp[intOf];omega
   ·have hlt':¬(k:Int)<n:=by omega
    obtain rfl:k=n:=by omega
    have HQ2:=HQ.out
    rw[List.take_of_length_le (by have:=HN.out;omega)]at HQ2
    have FIN:Hid (∃G,Sk w4.heap.size p G wr (aH rs)∧(∀g,G g→w.heap.size≤g)∧Below w.heap.size w wr):=hide (by
     obtain⟨G,k1,k2,k3⟩:=HQ2
     exact⟨G,k1,fun g hg=>Nat.le_trans B3.out.size (k2 g hg),B3.out.trans (k3.mono B3.out.size)⟩)
    clear HQ2 HQ
    go_wp2
    go_ret2
    first|exact⟨_,rfl,FIN.out⟩|exact .inr ⟨rfl,_,rfl,FIN.out⟩
 ·have hne:(fe==0)=false:=by simpa using hf0
  go_wp2
  go_quiet (fail)
  go_wp2
  go_ret2
  first|exact⟨rfl,below_drewN B3.out _⟩|exact .inl ⟨hf0,rfl,below_drewN B3.out _⟩
end Go.Proofs.YtlmkaljjocflmaaGreatDoor
namespace Go.Proofs.YtlmkaljjocflmaaGreatDoor
open Go.RowKit
set_option linter.unusedVariables false
structure lW (p q pw pr ps:Nat) (Gw Gr Gs:Nat→Prop) (w:World) (s:Rst.St) (lw:List Cm.Cv) (bw br:Bool):Prop where
 blk:w.heap[p]? =some (.cells (dQ q s.off s.p (.pointer (some ⟨pw,0,none⟩)) s.l.length (.pointer (some ⟨pr,0,none⟩)) (.pointer (some ⟨ps,0,none⟩))) 137 (0,0))
 wal:Wk pw q Gw w lw bw
 run:Rk pr q Gr w s.r br
 gK:Sk ps pr Gs w (s.l.drop (Cm.lastN 0 s.r).toNat)
 log:s.l=lw.take s.l.length
 live:s.off=false→lw=s.l∧bw=false∧br=false
 ok:Pm.Ok s.p
 fit:gF s.p
 rest:Cm.Good 1 (Cm.lastN 0 s.r) (s.l.drop (Cm.lastN 0 s.r).toNat)
 le:Cm.lastN 0 s.r≤s.l.length
 np:¬Gw p∧¬Gr p∧¬Gs p
 wr:∀g,Gw g→¬Gr g
 ws:∀g,Gw g→¬Gs g
 rs:∀g,Gr g→¬Gs g
def PB (p:Nat) (Gw Gr Gs:Nat→Prop) (g:Nat):Prop:=g=p∨Gw g∨Gr g∨Gs g
def PO (p q:Nat) (G:Nat→Prop) (w:World) (s:Rst.St):Prop:=∃pw pr ps Gw Gr Gs lw bw br,lW p q pw pr ps Gw Gr Gs w s lw bw br∧G=PB p Gw Gr Gs
section
variable {p q pw pr ps:Nat} {G Gw Gr Gs:Nat→Prop} {w w':World} {s:Rst.St} {lw:List Cm.Cv} {bw br:Bool}
theorem lW.lt (h:lW p q pw pr ps Gw Gr Gs w s lw bw br):∀g,PB p Gw Gr Gs g→g<w.heap.size:=by
 rintro g (rfl|e|e|e)
 ·exact aA h.blk
 ·exact h.wal.lt g e
 ·exact h.run.lt g e
 ·exact h.gK.lt g e
theorem lW.agree (h:lW p q pw pr ps Gw Gr Gs w s lw bw br)(ha:∀g,PB p Gw Gr Gs g→w'.heap[g]? =w.heap[g]?):lW p q pw pr ps Gw Gr Gs w' s lw bw br:=
 ⟨(ha p (.inl rfl)).trans h.blk,h.wal.agree fun g e=>ha g (.inr (.inl e)),h.run.agree fun g e=>ha g (.inr (.inr (.inl e))),h.gK.agree fun g e=>ha g (.inr (.inr (.inr e))),h.log,h.live,h.ok,h.fit,h.rest,h.le,h.np,h.wr,h.ws,h.rs⟩
theorem lW.below (h:lW p q pw pr ps Gw Gr Gs w s lw bw br)(hb:Below w.heap.size w w'):lW p q pw pr ps Gw Gr Gs w' s lw bw br:=h.agree fun g hg=>hb.block g (h.lt g hg)
theorem PO.lt (h:PO p q G w s):∀g,G g→g<w.heap.size:=by
 obtain⟨pw,pr,ps,Gw,Gr,Gs,lw,bw,br,h,rfl⟩:=h
 exact h.lt
theorem PO.agree (h:PO p q G w s)(ha:∀g,G g→w'.heap[g]? =w.heap[g]?)(hs:w.heap.size≤w'.heap.size):PO p q G w' s:=by
 obtain⟨pw,pr,ps,Gw,Gr,Gs,lw,bw,br,h,rfl⟩:=h
 exact⟨pw,pr,ps,Gw,Gr,Gs,lw,bw,br,h.agree ha,rfl⟩
theorem PO.fit (h:PO p q G w s):gF s.p:=by
 obtain⟨pw,pr,ps,Gw,Gr,Gs,lw,bw,br,h,rfl⟩:=h
 exact h.fit
theorem lW.ww {F:Nat→Prop}(h:lW p q pw pr ps Gw Gr Gs w s lw bw br)(hd:Pk q F w s.d):WW pw q (fun g=>F g∨Gw g) w ⟨s.d,lw,bw⟩:=⟨F,Gw,hd,h.wal,rfl⟩
theorem lW.rw {F:Nat→Prop}(h:lW p q pw pr ps Gw Gr Gs w s lw bw br)(hd:Pk q F w s.d):RW pr q (fun g=>F g∨Gr g) w ⟨s.d,s.r,br⟩:=⟨F,Gr,hd,h.run,rfl⟩
theorem lW.good (h:lW p q pw pr ps Gw Gr Gs w s lw bw br):Rl.Good 0 s.r:=by
 obtain⟨v,rs,h1,_⟩:=h.run
 exact h1.log.good
theorem lW.sw {F:Nat→Prop}(h:lW p q pw pr ps Gw Gr Gs w s lw bw br)(hd:Pk q F w s.d)(hG:∀g,PB p Gw Gr Gs g→¬F g):SW ps pr q (fun g=>(F g∨Gr g)∨Gs g) w ⟨⟨s.d,s.r,br⟩,s.l.drop (Cm.lastN 0 s.r).toNat⟩:=
 ⟨fun g=>F g∨Gr g,Gs,h.rw hd,h.gK,fun g e=>by
  rintro(k|k)
  ·exact hG g (.inr (.inr (.inr e))) k
  ·exact h.rs g k e,⟨h.good,h.rest⟩,rfl⟩
end
def PS (p q:Nat) (F:Nat→Prop) (w:World) (s:Rst.St):Prop:=∃F1 G,Pk q F1 w s.d∧PO p q G w s∧(∀g,G g→¬F1 g)∧fC w∧F=fun g=>F1 g∨G g
def jk (p q:Nat) (F:Nat→Prop) (w w':World) (s':Rst.St):Prop:=∃F',PS p q F' w' s'∧Out F w w'∧∀g,F' g→F g∨w.heap.size≤g
def iV (s:Rst.St):Prop:=Big 50000000 500000 s.d∧s.l.length≤2000
section
variable {p q:Nat} {F G:Nat→Prop} {w w':World} {s:Rst.St}
theorem PS.lt (h:PS p q F w s):∀g,F g→g<w.heap.size:=by
 obtain⟨F1,G,h1,h2,_,_,rfl⟩:=h
 rintro g (e|e)
 ·exact h1.lt g e
 ·exact h2.lt g e
theorem PS.agree (h:PS p q F w s)(ha:∀g,F g→w'.heap[g]? =w.heap[g]?)(hs:w.heap.size≤w'.heap.size)(hm:fC w'):PS p q F w' s:=by
 obtain⟨F1,G,h1,h2,h3,_,rfl⟩:=h
 exact⟨F1,G,h1.agree fun g hg=>ha g (.inl hg),h2.agree (fun g hg=>ha g (.inr hg)) hs,h3,hm,rfl⟩
theorem PS.gu (h:PS p q F w s):fC w:=by
 obtain⟨_,_,_,_,_,h,_⟩:=h
 exact h
theorem PS.fit (h:PS p q F w s):gF s.p:=by
 obtain⟨_,_,_,h,_⟩:=h
 exact h.fit
theorem gz (hm:fC w)(ho:Out F w w')(h0:¬F 0):fC w':=by
 have e:∀j,w'.cell? ⟨0,j,none⟩=w.cell? ⟨0,j,none⟩:=fun j=>by
  have:=ho.block 0 hm.pos h0
  simp[World.cell?,this]
 exact⟨(e 0).trans hm.c0,(e 1).trans hm.c1,(e 2).trans hm.c2,(e 3).trans hm.c3,(e 4).trans hm.c4,(e 5).trans hm.c5⟩
end
theorem acv {l:List Cm.Cv}(h:Cm.Good 0 0 l)(n:Nat):Cm.Good 0 0 (l.take n):=by
 rw[←List.take_append_drop n l]at h
 exact((Cm.dL _ _ _ _).1 h).1
theorem iZ (p q:Nat)(F:Nat→Prop)(w:World)(s:Rst.St)(h:PS p q F w s)(hR:iV s):Calls Tryz.prog 16 #[.pointer (some ⟨p,0,none⟩)] w fun E w'=>E=.returned (vp s.p)∧Below w.heap.size w w':=by
 obtain⟨F1,G,h1,⟨pw,pr,ps,Gw,Gr,Gs,lw,bw,br,V,rfl⟩,h3,hm,rfl⟩:=h
 have hb:=V.blk
 have hpl:=aA hb
 obtain⟨w1,hw1,s1,b1,P1⟩:=au w #[.int .i64 0,.int .u8 0,.int .i64 0,.int .u8 0,.int .i64 0,.int .i64 0] 46
 obtain⟨c0,c1,c2,c3,c4,c5,c6,c7,c8,c9,c10,c11,c12⟩:=mM ((b1.block p hpl).trans hb)
 have HM:=hide (qf p q w1 c0)
 obtain⟨V',hV',fu,dP,⟨a0,a1,a2,a3,a4,a5⟩,fr,⟨z0,z1,z2,z3,z4,z5⟩⟩:=fq P1 (.int .i64 s.p.e) (.int .u8 s.p.r) (.int .i64 s.p.a) (.int .u8 s.p.p) (.int .i64 s.p.f) (.int .i64 s.p.b)
 have f0:=fr 0;have f1:=fr 1;have f2:=fr 2;have f3:=fr 3;have f4:=fr 4;have f5:=fr 5
 have BV:=hide (aF b1 dP (Nat.le_refl _) (by omega))
 clear V h1 h3 hm hb b1 P1 fu dP fr s1 hpl hR
 go_enter Tryz.func16,Tryz.ntmps16
 go_wp2_with fail
 refine HM.out.mono ?_
 rintro E w2 ⟨rfl,rfl⟩
 clear HM
 go_wp2
 refine bodyPost_ret (v:=vp s.p) (by simp[results,Tryz.results16,go_sem,z0,z1,z2,z3,z4,z5,vp]) rfl ?_
 exact⟨rfl,BV.out⟩
theorem tJ (p q:Nat)(F:Nat→Prop)(w:World)(s:Rst.St)(h:PS p q F w s)(hR:iV s):Calls Tryz.prog 24 #[.pointer (some ⟨p,0,none⟩)] w fun E w'=>E=.returned (.int .i64 s.l.length)∧Below w.heap.size w w':=by
 obtain⟨F1,G,h1,⟨pw,pr,ps,Gw,Gr,Gs,lw,bw,br,V,rfl⟩,h3,hm,rfl⟩:=h
 obtain⟨c0,c1,c2,c3,c4,c5,c6,c7,c8,c9,c10,c11,c12⟩:=mM V.blk
 have HM:=hide (qf p q w c0)
 clear V h1 h3 hm hR
 generalize (s.l.length:Int)=n at*
 go_enter Tryz.func24,Tryz.ntmps24
 go_wp2_with fail
 refine HM.out.mono ?_
 rintro E w2 ⟨rfl,rfl⟩
 clear HM
 go_wp2
 go_ret
 exact⟨rfl,Below.refl _ _⟩
theorem aor (p q:Nat)(F:Nat→Prop)(w:World)(s:Rst.St)(h:PS p q F w s)(hR:iV s)(k:ByteArray)(hk:k.size≤140737488355328):Calls Tryz.prog 81 #[.pointer (some ⟨p,0,none⟩),.string k] w fun E w'=>E=.returned (.tuple #[.string (gv (Sto.fold (Rst.gK s)) k),.bool (gp (Sto.fold (Rst.gK s)) k)])∧Below w.heap.size w w':=by
 obtain⟨F1,G,h1,⟨pw,pr,ps,Gw,Gr,Gs,lw,bw,br,V,rfl⟩,h3,hm,rfl⟩:=h
 obtain⟨c0,c1,c2,c3,c4,c5,c6,c7,c8,c9,c10,c11,c12⟩:=mM V.blk
 have HM:=hide (qf p q w c0)
 have HG:=hide (aoc ps pr q _ w _ k (V.sw h1 h3) hk)
 have e:Sto.fold ⟨⟨s.d,s.r,br⟩,s.l.drop (Cm.lastN 0 s.r).toNat⟩=Sto.fold (Rst.gK s):=rfl
 rw[e]at HG
 generalize Sto.fold (Rst.gK s)=t at*
 clear V h1 h3 hm hR e
 go_enter Tryz.func81,Tryz.ntmps81
 go_wp2_with fail
 refine HM.out.mono ?_
 rintro E w2 ⟨rfl,rfl⟩
 clear HM
 go_wp2_with fail
 refine HG.out.mono ?_
 rintro E w2 ⟨rfl,b2⟩
 have B2:=hide b2
 clear HG b2
 go_wp2
 go_ret2
 exact⟨rfl,B2.out⟩
structure Ns where
 u:Int
 t:Int
 a:Int
 k:Int
 m:Mw
 s:Rst.St
def ndC (q p:Nat) (x:Ns):Array Value:=#[.int .i64 x.u,.int .i64 x.t,.pointer (some ⟨q,0,none⟩),.pointer (some ⟨p,0,none⟩),.int .i64 x.a,.int .i64 x.k,.int .i64 x.m.k,.int .i64 x.m.e,.int .u8 x.m.r,.int .i64 x.m.n,x.m.vs,.int .i64 x.m.f,.int .i64 x.m.p,x.m.vc]
structure Nd (n p q:Nat) (F:Nat→Prop) (w:World) (x:Ns):Prop where
 blk:w.heap[n]? =some (.cells (ndC q p x) 86 (0,0))
 st:PS p q F w x.s
 ne:¬F n
def dA (n p q:Nat) (F:Nat→Prop) (w w':World) (x:Ns):Prop:=∃F',Nd n p q F' w' x∧Out (fun g=>F g∨g=n) w w'∧∀g,F' g→F g∨w.heap.size≤g
section
variable {n p q:Nat} {F:Nat→Prop} {w w' w'':World} {x y:Ns}
theorem Nd.lt (h:Nd n p q F w x):∀g,F g∨g=n→g<w.heap.size:=by
 rintro g (e|rfl)
 ·exact h.st.lt g e
 ·exact aA h.blk
theorem Nd.agree (h:Nd n p q F w x)(ha:∀g,F g∨g=n→w'.heap[g]? =w.heap[g]?)(hs:w.heap.size≤w'.heap.size)(hm:fC w'):Nd n p q F w' x:=
 ⟨(ha n (.inr rfl)).trans h.blk,h.st.agree (fun g e=>ha g (.inl e)) hs hm,h.ne⟩
theorem Nd.below (h:Nd n p q F w x)(hb:Below w.heap.size w w'):Nd n p q F w' x:=
 h.agree (fun g e=>hb.block g (h.lt g e)) hb.size (h.st.gu.below hb)
theorem dA.same (h:Nd n p q F w x)(hb:Below w.heap.size w w'):dA n p q F w w' x:=
 ⟨F,h.below hb,Out.of_below hb,fun g e=>.inl e⟩
theorem Nd.step {s':Rst.St}(h:Nd n p q F w x)(k:jk p q F w w' s'):dA n p q F w w' ⟨x.u,x.t,x.a,x.k,x.m,s'⟩:=by
 obtain⟨F',k1,k2,k3⟩:=k
 refine⟨F',⟨(k2.block n (h.lt n (.inr rfl)) h.ne).trans h.blk,k1,fun e=>?_⟩,k2.mono fun g e=>.inl (.inl e),k3⟩
 rcases k3 n e with e|e
 ·exact h.ne e
 ·have:=h.lt n (.inr rfl);omega
theorem dA.join {F1:Nat→Prop}(h2:Out (fun g=>F g∨g=n) w w')(h3:∀g,F1 g→F g∨w.heap.size≤g)(k:dA n p q F1 w' w'' y):dA n p q F w w'' y:=by
 obtain⟨F2,k1,k2,k3⟩:=k
 have hs:=h2.size
 refine⟨F2,k1,h2.trans k2 ?_,fun g e=>?_⟩
 ·rintro g (e|e)
  ·rcases h3 g e with e|e
   ·exact .inl (.inl e)
   ·exact .inr e
  ·exact .inl (.inr e)
 ·rcases k3 g e with e|e
  ·exact h3 g e
  ·exact .inr (by omega)
def qF (n p q:Nat) (F:Nat→Prop) (w W w':World) (x:Ns):Prop:=∃F',Nd n p q F' w' x∧Out (fun g=>F g∨g=n) w w'∧∀g,F' g→F g∨W.heap.size≤g
theorem dA.toQ {W:World}(hb:Below w.heap.size w W)(k:dA n p q F W w' y):qF n p q F w W w' y:=by
 obtain⟨F',k1,k2,k3⟩:=k
 exact⟨F',k1,(Out.of_below hb (F:=fun g=>F g∨g=n)).trans k2 fun g e=>.inl e,k3⟩
theorem qF.toS {W:World}(hb:w.heap.size≤W.heap.size)(k:qF n p q F w W w' y):dA n p q F w w' y:=by
 obtain⟨F',k1,k2,k3⟩:=k
 refine⟨F',k1,k2,fun g e=>?_⟩
 rcases k3 g e with e|e
 ·exact .inl e
 ·exact .inr (by omega)
theorem dA.ahead {W:World}(hb:Below w.heap.size w W)(k:dA n p q F W w' y):dA n p q F w w' y:=(k.toQ hb).toS hb.size
theorem Nd.put (h:Nd n p q F w x)(h0:n≠0)(g:w.grownBy w' (some n))(hb:w'.heap[n]? =some (.cells (ndC q p y) 86 (0,0)))(hs:y.s=x.s):dA n p q F w w' y:=by
 have oo:Out (fun g=>g=n) w w':=Out.aP g fun g e=>(Option.some.inj e).symm
 refine⟨F,⟨hb,?_,h.ne⟩,oo.mono fun g e=>.inl (.inr e),fun g e=>.inl e⟩
 rw[hs]
 exact h.st.agree (fun i e=>oo.block i (h.st.lt i e) fun c=>h.ne (c▸e)) oo.size (gz h.st.gu oo fun e=>h0 e.symm)
theorem qF.put {W:World}{B:Nat}(h:∀g,F g∨g=n→g<w.heap.size)(hw:0<w.heap.size)(k:qF n p q F w W w' y)(hB:w.heap.size≤B∧B<W.heap.size)(g:w'.grownBy w'' (some B)):qF n p q F w W w'' y:=by
 obtain⟨F',k1,k2,k3⟩:=k
 have nB:∀g,F' g∨g=n→g≠B:=fun g e=>by
  rcases e with e|e
  ·rcases k3 g e with e|e
   ·have:=h g (.inl e);omega
   ·omega
  ·have:=h g (.inr e);omega
 have oo:Out (fun g=>g=B) w' w'':=Out.aP g fun g e=>(Option.some.inj e).symm
 refine⟨F',k1.agree (fun g' e=>g.block g' (k1.lt g' e) fun c=>nB g' e (Option.some.inj c)) g.size (gz k1.st.gu oo fun e=>by omega),k2.trans oo fun g e=>.inr (by omega),k3⟩
end
structure NdA (n q p:Nat) (w:World) (x:Ns):Prop where
 c0:w.cell? ⟨n,0,none⟩=some (.int .i64 x.u)
 c1:w.cell? ⟨n,1,none⟩=some (.int .i64 x.t)
 c2:w.cell? ⟨n,2,none⟩=some (.pointer (some ⟨q,0,none⟩))
 c3:w.cell? ⟨n,3,none⟩=some (.pointer (some ⟨p,0,none⟩))
 c4:w.cell? ⟨n,4,none⟩=some (.int .i64 x.a)
 c5:w.cell? ⟨n,5,none⟩=some (.int .i64 x.k)
theorem Nd.cs {n p q:Nat}{F:Nat→Prop}{w:World}{x:Ns}(h:Nd n p q F w x):NdA n q p w x:=
 ⟨ai h.blk 0 rfl,ai h.blk 1 rfl,ai h.blk 2 rfl,ai h.blk 3 rfl,ai h.blk 4 rfl,ai h.blk 5 rfl⟩
theorem Nd.n0 {n p q:Nat}{F:Nat→Prop}{w:World}{x:Ns}(h:Nd n p q F w x):n≠0:=fun e=>by
 have a:=h.st.gu.c2
 have b:=h.cs.c2
 rw[e,a]at b
 cases b
theorem aeD (n p q:Nat)(w:World)(h2:w.cell? ⟨n,2,none⟩=some (.pointer (some ⟨q,0,none⟩)))(h3:w.cell? ⟨n,3,none⟩=some (.pointer (some ⟨p,0,none⟩))):
  Calls Tryz.prog 88 #[.pointer (some ⟨n,0,none⟩)] w fun E w'=>E=.returned (.int .i64 0)∧w=w':=by
 go_enter Tryz.func88,Tryz.ntmps88
 go_wp2
 go_ret
 exact⟨rfl,rfl⟩
theorem ahg (n p q:Nat)(w:World)(h2:w.cell? ⟨n,2,none⟩=some (.pointer (some ⟨q,0,none⟩)))(h3:w.cell? ⟨n,3,none⟩=some (.pointer (some ⟨p,0,none⟩))):
  Calls Tryz.prog 40 #[.pointer (some ⟨n,0,none⟩)] w fun E w'=>E=.returned (.bool true)∧w=w':=by
 have R:=hide (aeD n p q w h2 h3)
 go_enter Tryz.func40,Tryz.ntmps40
 go_wp2_with fail
 refine R.out.mono ?_
 rintro E w1 ⟨rfl,rfl⟩
 go_wp2
 go_ret
 exact⟨rfl,rfl⟩
theorem amK (B A:Nat)(e:Int)(he:(e==6)=false)(w:World)(hc:w.cell? ⟨B,0,none⟩=some (.int .i64 e))(u:FrameMode):
  CallsD Tryz.prog 149 #[.pointer (some ⟨B,0,none⟩),.pointer (some ⟨A,0,none⟩)] u w fun E u' w'=>u'=u∧(E=.returned (.tuple #[])∧w=w'):=by
 go_enter_d Tryz.func149,Tryz.ntmps149
 go_wp2
 go_end0
 exact⟨rfl,rfl⟩
theorem qK (n p q:Nat)(F:Nat→Prop)(w:World)(x:Ns)(h:Nd n p q F w x)(hon:x.s.d.on=true)(f:FuncId)(first cap xs:Array Value)(eg:∀args w,(callFunc f args).run Tryz.prog w=.ok (.enter f args) w)(ha:first++cap=xs)(Q:Int→World→World→Prop)
  (hf:∀W,Below w.heap.size w W→Calls Tryz.prog f xs W fun E w'=>∃e,E=.returned (.int .i64 e)∧(e==6)=false∧(∀g,w.heap.size≤g→g<W.heap.size→w'.heap[g]? =W.heap[g]?)∧W.heap.size≤w'.heap.size∧Q e W w'):
  Calls Tryz.prog 72 #[.pointer (some ⟨n,0,none⟩),.func (.func f) first cap] w fun E w'=>∃e,E=.returned (.int .i64 e)∧∃W W1 B,Below w.heap.size w W∧(w.heap.size≤B∧B<W.heap.size)∧W1.grownBy w' (some B)∧Q e W W1:=by
 have kW:∀(fn:Fn) (first cap:Array Value) (w:World),(Instr.makeFunc fn first cap).run Tryz.prog w=.ok (.func fn first cap) w:=fun _ _ _ _=>rfl
 obtain⟨w1,hw1,s1,b1,P1⟩:=au w #[.pointer (some ⟨n,0,none⟩)] 66
 obtain⟨w2,hw2,s2,b2,P2⟩:=au w1 #[.int .i64 0] 29
 have b12:Below w.heap.size w w2:=b1.trans (b2.mono (by omega))
 rw[s1]at P2
 have P1':=(b2.block w.heap.size (by omega)).trans P1
 have h2:=h.below b12
 obtain⟨c0,c1,c2,c3,c4,c5⟩:=h2.cs
 have k0:w2.cell? ⟨w.heap.size,0,none⟩=some (.pointer (some ⟨n,0,none⟩)):=ai P1' 0 rfl
 have RF:=hide (aeD n p q w2 c2 c3)
 obtain⟨F1,G,d1,d2,d3,d4,rfl⟩:=h2.st
 have ON:=hide (zR q F1 w2 x.s.d d1)
 rw[hon]at ON
 have HF:=hide (hf w2 b12)
 rw[←ha]at HF
 have PP:=hide (And.intro P2 (And.intro b12 s2))
 clear h h2 d1 d2 d3 d4 hon ha hf P1 P2 P1' b1 b2 b12 s2
 go_enter_defers Tryz.func72,Tryz.ntmps72
 go_wp2_with fail
 refine RF.out.mono ?_
 rintro E w3 ⟨rfl,rfl⟩
 clear RF
 go_wp2_with fail
 refine ON.out.mono ?_
 rintro E w3 ⟨rfl,rfl⟩
 clear ON
 go_wp2_with fail
 refine HF.out.mono ?_
 rintro E w4 ⟨e,rfl,he,K,iE,hQ⟩
 obtain⟨P2,b12,s2⟩:=PP.out
 have P4:=(K (w.heap.size+1) (by omega) (by omega)).trans P2
 obtain⟨V,hV,bV,gV,fV⟩:=qI P4 0 (.int .i64 e)
 have e4:w4.cell? ⟨w.heap.size+1,0,none⟩=some (.int .i64 0):=ai P4 0 rfl
 have eV:V.cell? ⟨w.heap.size+1,0,none⟩=some (.int .i64 e):=ai bV 0 rfl
 have DD:=hide (amK (w.heap.size+1) w.heap.size e he V eV .returning)
 have RES:Hid (∃W W1 B,Below w.heap.size w W∧(w.heap.size≤B∧B<W.heap.size)∧W1.grownBy V (some B)∧Q e W W1):=hide ⟨w2,w4,w.heap.size+1,b12,by omega,gV,hQ⟩
 clear HF PP K hQ P2 b12 s2 P4 bV gV
 go_wp2
 refine leaves_cons (f:=149) (args:=#[.pointer (some ⟨w.heap.size+1,0,none⟩),.pointer (some ⟨w.heap.size,0,none⟩)]) (by simp) (by simp[go_sem]) ?_
 refine DD.out.mono ?_
 rintro E u' w5 ⟨rfl,rfl,rfl⟩
 refine⟨_,by simp[results,Tryz.results72,go_sem,eV],e,rfl,RES.out⟩
theorem ai4 (n p q:Nat)(F:Nat→Prop)(w:World)(x:Ns)(h:Nd n p q F w x)(hR:iV x.s):
  Calls Tryz.prog 43 #[.pointer (some ⟨n,0,none⟩)] w fun E w'=>E=.returned (vp x.s.p)∧Below w.heap.size w w':=by
 obtain⟨w1,hw1,s1,b1,P1⟩:=au w #[.int .i64 0,.int .u8 0,.int .i64 0,.int .u8 0,.int .i64 0,.int .i64 0] 46
 have h1:=h.below b1
 obtain⟨c0,c1,c2,c3,c4,c5⟩:=h1.cs
 have UP:=hide (ahg n p q w1 c2 c3)
 have PG:=hide (iZ p q F w1 x.s h1.st hR)
 have PP:=hide (And.intro P1 b1)
 generalize x.s.p=y at*
 have HV:vp y=.agg #[.int .i64 y.e,.int .u8 y.r,.int .i64 y.a,.int .u8 y.p,.int .i64 y.f,.int .i64 y.b]:=rfl
 rw[HV]at PG
 clear h h1 hR P1 b1 HV
 go_enter Tryz.func43,Tryz.ntmps43
 go_wp2_with fail
 refine UP.out.mono ?_
 rintro E w2 ⟨rfl,rfl⟩
 clear UP
 go_wp2_with fail
 refine PG.out.mono ?_
 rintro E w2 ⟨rfl,b2⟩
 obtain⟨P1,b1⟩:=PP.out
 obtain⟨V',hV',fu,dP,⟨a0,a1,a2,a3,a4,a5⟩,fr,⟨z0,z1,z2,z3,z4,z5⟩⟩:=fq ((b2.block w.heap.size (by omega)).trans P1) (.int .i64 y.e) (.int .u8 y.r) (.int .i64 y.a) (.int .u8 y.p) (.int .i64 y.f) (.int .i64 y.b)
 have f0:=fr 0;have f1:=fr 1;have f2:=fr 2;have f3:=fr 3;have f4:=fr 4;have f5:=fr 5
 have z2':=b2.size
 have BV:=hide (aF (b1.trans (b2.mono (by omega))) dP (Nat.le_refl _) (by omega))
 clear PG PP P1 b1 b2 fu dP fr z2' s1
 go_wp2
 refine bodyPost_ret (v:=vp y) (by simp[results,Tryz.results43,go_sem,z0,z1,z2,z3,z4,z5,vp]) rfl ?_
 exact⟨rfl,BV.out⟩
theorem adY (n p q:Nat)(F:Nat→Prop)(w:World)(x:Ns)(h:Nd n p q F w x)(hR:iV x.s)(hr:x.s.p.r=1):
  Calls Tryz.prog 32 #[.pointer (some ⟨n,0,none⟩)] w fun E w'=>E=.returned (.int .i64 (bg.oV x.s.l.length x.a))∧Below w.heap.size w w':=by
 have hfd:=fun(a b c d e f:Int) (w:World)=>show(Instr.field 46 (.agg #[.int .i64 a,.int .u8 b,.int .i64 c,.int .u8 d,.int .i64 e,.int .i64 f]) 1).run Tryz.prog w=.ok (.int .u8 b) w by kernel_rfl
 have PG:=hide (ai4 n p q F w x h hR)
 have HV:vp x.s.p=.agg #[.int .i64 x.s.p.e,.int .u8 1,.int .i64 x.s.p.a,.int .u8 x.s.p.p,.int .i64 x.s.p.f,.int .i64 x.s.p.b]:=by rw[←hr];rfl
 rw[HV]at PG
 have HH:=hide (And.intro h hR)
 have EN:Hid (∀W,Below w.heap.size w W→Calls Tryz.prog 24 #[.pointer (some ⟨p,0,none⟩)] W fun E w'=>E=.returned (.int .i64 x.s.l.length)∧Below w.heap.size w w'):=hide fun W hW=>by
  refine(tJ p q F W x.s (h.below hW).st hR).mono ?_
  rintro E w' ⟨rfl,b⟩
  exact⟨rfl,hW.trans (b.mono hW.size)⟩
 have CE:Hid (∀W,Below w.heap.size w W→W.cell? ⟨n,3,none⟩=some (.pointer (some ⟨p,0,none⟩))∧W.cell? ⟨n,4,none⟩=some (.int .i64 x.a)):=hide fun W hW=>⟨(h.below hW).cs.c3,(h.below hW).cs.c4⟩
 have LO:=hide (fun W=>il x.s.l.length x.a W)
 generalize (x.s.l.length:Int)=en at*
 obtain⟨xa,hxa⟩:∃y,x.a=y:=⟨_,rfl⟩
 rw[hxa]at CE LO⊢
 generalize bg.oV en xa=r at*
 generalize bg.oE en xa=re at*
 clear h hR hr HV HH hxa
 go_enter Tryz.func32,Tryz.ntmps32
 go_wp2_with fail
 refine PG.out.mono ?_
 rintro E w2 ⟨rfl,b2⟩
 obtain⟨c3,c4⟩:=CE.out w2 b2
 have EN2:Hid (Calls Tryz.prog 24 #[.pointer (some ⟨p,0,none⟩)] w2.drew fun E w'=>E=.returned (.int .i64 en)∧Below w.heap.size w w'):=hide (EN.out _ b2.drew)
 have B2:=hide b2
 clear PG EN b2
 go_wp2_with fail
 go_region_held3 (fun w'=>w'.cell? ⟨n,3,none⟩=some (.pointer (some ⟨p,0,none⟩))∧w'.cell? ⟨n,4,none⟩=some (.int .i64 xa)) (first|exact⟨c3,c4⟩|exact⟨d3,d4⟩|go_keep)
  (first
  |(go_at_call 78;have z:=B3;refine(LO.out _).mono ?_;rintro E w4 ⟨rfl,rfl⟩)
  |(go_at_call 24;refine EN2.out.mono ?_;rintro E w3 ⟨rfl,b3⟩;obtain⟨d3,d4⟩:=CE.out w3 b3;have B3:=hide b3;clear b3))
 go_wp2
 go_ret
 exact⟨rfl,B3.out⟩
theorem alq (n p q:Nat)(F:Nat→Prop)(w:World)(x:Ns)(h:Nd n p q F w x)(hk:x.k=-1):
  Calls Tryz.prog 36 #[.pointer (some ⟨n,0,none⟩)] w fun E w'=>E=.returned (.tuple #[.int .i64 0,.bool false])∧w=w':=by
 obtain⟨c0,c1,c2,c3,c4,c5⟩:=h.cs
 have UP:=hide (ahg n p q w c2 c3)
 rw[hk]at c5
 clear h hk
 go_enter Tryz.func36,Tryz.ntmps36
 go_wp2_with fail
 refine UP.out.mono ?_
 rintro E w2 ⟨rfl,rfl⟩
 clear UP
 go_wp2
 go_ret2
 exact⟨rfl,rfl⟩
def sets (R:Nat):World→Nat→List Value→World
 |V,_,[]=>V
 |V,o,a::l=>sets R (V.setCell ⟨R,o,none⟩ a) (o+1) l
theorem yU (R:Nat)(t:TypeId):∀(l:List Value) (V:World) (o:Nat) (cs:List Value),V.heap[R]? =some (.cells cs.toArray t (0,0))→o+l.length≤cs.length→(sets R V o l).heap[R]? =some (.cells (cs.take o++(l++cs.drop (o+l.length))).toArray t (0,0))∧V.grownBy (sets R V o l) (some R)
 |[],V,o,cs,h,_=>⟨by simp[sets,h],World.grownBy.refl _ _⟩
 |a::l,V,o,cs,h,hl=>by
  rw[List.length_cons]at hl
  have h1:(V.setCell ⟨R,o,none⟩ a).heap[R]? =some (.cells (cs.set o a).toArray t (0,0)):=by rw[aG h o a,List.setIfInBounds_toArray]
  obtain⟨k1,k2⟩:=yU R t l _ (o+1) (cs.set o a) h1 (by rw[List.length_set];omega)
  refine⟨?_,aI (ax V ⟨R,o,none⟩ a) k2⟩
  show(sets R (V.setCell ⟨R,o,none⟩ a) (o+1) l).heap[R]? =_
  rw[k1]
  have e1:(cs.set o a).take (o+1)=cs.take o++[a]:=by
   rw[List.take_add_one,List.take_set_of_le (Nat.le_refl _),List.getElem?_set_self (by omega)]
   rfl
  have e2:(cs.set o a).drop (o+1+l.length)=cs.drop (o+(a::l).length):=by
   rw[List.drop_set_of_lt (by omega),List.length_cons]
   congr 1
   omega
  rw[e1,e2]
  simp
def kG (p:Nat) (a:Int):List Value:=[.pointer (some ⟨p,0,none⟩),.int .i64 a,.int .i64 (-1),.int .i64 0,.int .i64 0,.int .u8 0,.int .i64 0,.slice none 0 0,.int .i64 0,.int .i64 0,.slice none 0 0]
theorem aat (p q:Nat)(F:Nat→Prop)(w:World)(s:Rst.St)(h:PS p q F w s)(hR:iV s):
  Calls Tryz.prog 89 #[.pointer (some ⟨p,0,none⟩)] w fun E w'=>E=.returned (.agg (kG p s.p.a).toArray)∧Below w.heap.size w w':=by
 have hfd:=fun(a b c d e f:Int) (w:World)=>show(Instr.field 46 (.agg #[.int .i64 a,.int .u8 b,.int .i64 c,.int .u8 d,.int .i64 e,.int .i64 f]) 2).run Tryz.prog w=.ok (.int .i64 c) w by kernel_rfl
 obtain⟨w1,hw1,s1,b1,P1⟩:=au w #[.pointer none,.int .i64 0,.int .i64 0,.int .i64 0,.int .i64 0,.int .u8 0,.int .i64 0,.slice none 0 0,.int .i64 0,.int .i64 0,.slice none 0 0] 84
 have PG:=hide (iZ p q F w1 s (h.agree (fun g hg=>b1.block g (h.lt g hg)) b1.size (h.gu.below b1)) hR)
 have HV:vp s.p=.agg #[.int .i64 s.p.e,.int .u8 s.p.r,.int .i64 s.p.a,.int .u8 s.p.p,.int .i64 s.p.f,.int .i64 s.p.b]:=rfl
 rw[HV]at PG
 have PP:=hide (And.intro P1 b1)
 obtain⟨a,ha⟩:∃a,s.p.a=a:=⟨_,rfl⟩
 rw[ha]at PG⊢
 clear h hR P1 b1 HV ha
 go_enter Tryz.func89,Tryz.ntmps89
 go_wp2_with fail
 refine PG.out.mono ?_
 rintro E w2 ⟨rfl,b2⟩
 obtain⟨P1,b1⟩:=PP.out
 have P2:=(b2.block w.heap.size (by omega)).trans P1
 obtain⟨V,hV⟩:∃V,sets w.heap.size w2 0 (kG p a)=V:=⟨_,rfl⟩
 obtain⟨k1,k2⟩:=yU w.heap.size 84 (kG p a) w2 0 [.pointer none,.int .i64 0,.int .i64 0,.int .i64 0,.int .i64 0,.int .u8 0,.int .i64 0,.slice none 0 0,.int .i64 0,.int .i64 0,.slice none 0 0] P2 (Nat.le_refl _)
 rw[hV]at k1 k2
 have z2:=b2.size
 have BV:=hide (aF (b1.trans (b2.mono (by omega))) k2 (Nat.le_refl _) (by omega))
 simp only[sets,kG,Nat.reduceAdd]at hV
 have f:=aB P2
 have f0:=f 0;have f1:=f 1;have f2:=f 2;have f3:=f 3;have f4:=f 4;have f5:=f 5;have f6:=f 6;have f7:=f 7;have f8:=f 8;have f9:=f 9;have f10:=f 10
 have c:=fun j v (e:_[j]? =some v)=>ai P2 j e
 have c0:=c 0 _ rfl;have c1:=c 1 _ rfl;have c2:=c 2 _ rfl;have c3:=c 3 _ rfl;have c4:=c 4 _ rfl;have c5:=c 5 _ rfl;have c6:=c 6 _ rfl;have c7:=c 7 _ rfl;have c8:=c 8 _ rfl;have c9:=c 9 _ rfl;have c10:=c 10 _ rfl
 have d:=fun j v (e:_[j]? =some v)=>ai k1 j e
 have d0:=d 0 _ rfl;have d1:=d 1 _ rfl;have d2:=d 2 _ rfl;have d3:=d 3 _ rfl;have d4:=d 4 _ rfl;have d5:=d 5 _ rfl;have d6:=d 6 _ rfl;have d7:=d 7 _ rfl;have d8:=d 8 _ rfl;have d9:=d 9 _ rfl;have d10:=d 10 _ rfl
 clear PG PP P1 b1 b2 P2 k1 k2 z2 f c d s1
 go_wp2
 refine bodyPost_ret (v:=.agg (kG p a).toArray) (by simp[results,Tryz.results89,go_sem,d0,d1,d2,d3,d4,d5,d6,d7,d8,d9,d10,kG]) rfl ?_
 exact⟨rfl,BV.out⟩
theorem aiM (n p q A:Nat)(F:Nat→Prop)(W:World)(x:Ns)(h:Nd n p q F W x)(hR:iV x.s)(hr:Rol.lN x.s.p=0)(k:ByteArray)(hk:k.size≤140737488355328)(q0:W.heap[A]? =some (.cells #[.pointer (some ⟨n,0,none⟩)] 66 (0,0)))(q1:W.heap[A+1]? =some (.cells #[.string k] 9 (0,0)))(q2:W.heap[A+1+1]? =some (.cells #[.string ⟨#[]⟩] 9 (0,0)))(q3:W.heap[A+1+1+1]? =some (.cells #[.bool false] 4 (0,0))):
  Calls Tryz.prog 79 #[.pointer (some ⟨A,0,none⟩),.pointer (some ⟨A+1,0,none⟩),.pointer (some ⟨A+1+1,0,none⟩),.pointer (some ⟨A+1+1+1,0,none⟩)] W fun E w'=>E=.returned (.int .i64 0)∧w'.heap[A+1+1]? =some (.cells #[.string (gv (Sto.fold (Rst.gK x.s)) k)] 9 (0,0))∧w'.heap[A+1+1+1]? =some (.cells #[.bool (gp (Sto.fold (Rst.gK x.s)) k)] 4 (0,0))∧Out (fun g=>g=A+1+1∨g=A+1+1+1) W w':=by
 have PG:=hide (iZ p q F W x.s h.st hR)
 obtain⟨y,hy⟩:∃y,x.s.p=y:=⟨_,rfl⟩
 have uM:gF y:=by rw[←hy];exact h.st.fit
 rw[hy]at PG hr
 have HV:vp y=.agg #[.int .i64 y.e,.int .u8 y.r,.int .i64 y.a,.int .u8 y.p,.int .i64 y.f,.int .i64 y.b]:=rfl
 have RD:Hid (∀W',fC W'→Calls Tryz.prog 80 #[vp y] W' fun E w'=>E=.returned (.int .i64 0)∧Below W'.heap.size W' w'):=hide fun W' hm=>by
  have:=aie y W' uM hm
  rw[hr]at this
  exact this
 rw[HV]at PG RD
 generalize ht:Sto.fold (Rst.gK x.s)=T at*
 have GE:Hid (∀W',Below W.heap.size W W'→Calls Tryz.prog 81 #[.pointer (some ⟨p,0,none⟩),.string k] W' fun E w'=>E=.returned (.tuple #[.string (gv T k),.bool (gp T k)])∧Below W.heap.size W w'):=hide fun W' hW=>by
  refine(aor p q F W' x.s (h.below hW).st hR k hk).mono ?_
  rw[ht]
  rintro E w' ⟨rfl,b⟩
  exact⟨rfl,hW.trans (b.mono hW.size)⟩
 have CE:Hid (∀W',Below W.heap.size W W'→W'.cell? ⟨A,0,none⟩=some (.pointer (some ⟨n,0,none⟩))∧W'.cell? ⟨n,3,none⟩=some (.pointer (some ⟨p,0,none⟩))∧W'.cell? ⟨A+1,0,none⟩=some (.string k)∧fC W'∧W'.heap[A+1+1]? =some (.cells #[.string ⟨#[]⟩] 9 (0,0))∧W'.heap[A+1+1+1]? =some (.cells #[.bool false] 4 (0,0))):=hide fun W' hW=>⟨ai ((hW.block _ (aA q0)).trans q0) 0 rfl,(h.below hW).cs.c3,ai ((hW.block _ (aA q1)).trans q1) 0 rfl,(h.below hW).st.gu,(hW.block _ (aA q2)).trans q2,(hW.block _ (aA q3)).trans q3⟩
 obtain⟨e0,e3,e1,_,_,_⟩:=CE.out W (Below.refl _ _)
 generalize gv T k=gvv at*
 generalize gp T k=gpp at*
 clear h hR hr hk q0 q1 q2 q3 hy uM HV ht
 go_enter Tryz.func79,Tryz.ntmps79
 go_wp2_with fail
 refine PG.out.mono ?_
 rintro E w1 ⟨rfl,b1⟩
 have R1:=hide (RD.out w1 (CE.out w1 b1).2.2.2.1)
 have B1:=hide b1
 clear PG RD b1 e0 e1 e3
 go_wp2_with fail
 refine R1.out.mono ?_
 rintro E w2 ⟨rfl,b2⟩
 have B2:=hide (B1.out.trans (b2.mono B1.out.size))
 obtain⟨e0,e3,e1,_,_,_⟩:=CE.out w2 B2.out
 have G2:=hide (GE.out w2.drew B2.out.drew)
 clear R1 B1 b2 GE
 go_wp2_with fail
 go_region_with (go_at_call 81;refine G2.out.mono ?_;rintro E w3 ⟨rfl,b3⟩;obtain⟨_,_,_,_,q2,q3⟩:=CE.out w3 b3;obtain⟨V,hV,bV,gV,fV⟩:=qI q2 0 (.string gvv);have q3':=(gV.block _ (aA q3) (by simp)).trans q3;obtain⟨V2,hV2,bV2,gV2,fV2⟩:=qI q3' 0 (.bool gpp);have d2:w3.cell? ⟨A+1+1,0,none⟩=some (.string ⟨#[]⟩):=ai q2 0 rfl;have d3:V.cell? ⟨A+1+1+1,0,none⟩=some (.bool false):=ai q3' 0 rfl;have B3:=hide b3;have RR:=hide (And.intro ((gV2.block _ (aA bV) (by simp)).trans bV) (And.intro bV2 (And.intro gV gV2)));clear q2 q3 q3' bV gV bV2 gV2 b3)
 all_goals
  go_wp2
  go_ret
  obtain⟨r1,r2,r3,r4⟩:=RR.out
  exact⟨rfl,r1,r2,((Out.of_below B3.out (F:=fun g=>g=A+1+1∨g=A+1+1+1)).trans (Out.aP (F:=fun g=>g=A+1+1∨g=A+1+1+1) r3 fun g e=>.inl (Option.some.inj e).symm) fun g e=>.inl e).trans (Out.aP (F:=fun g=>g=A+1+1∨g=A+1+1+1) r4 fun g e=>.inr (Option.some.inj e).symm) fun g e=>.inl e⟩
theorem acD (n p q:Nat)(F:Nat→Prop)(w:World)(x:Ns)(h:Nd n p q F w x)(hR:iV x.s)(hon:x.s.d.on=true)(hr:Rol.lN x.s.p=0)(k:ByteArray)(hk:k.size≤140737488355328):
  Calls Tryz.prog 33 #[.pointer (some ⟨n,0,none⟩),.string k] w fun E w'=>E=.returned (.tuple #[.string (gv (Sto.fold (Rst.gK x.s)) k),.bool (gp (Sto.fold (Rst.gK x.s)) k),.int .i64 0])∧Below w.heap.size w w':=by
 have kW:∀(fn:Fn) (first cap:Array Value) (w:World),(Instr.makeFunc fn first cap).run Tryz.prog w=.ok (.func fn first cap) w:=fun _ _ _ _=>rfl
 obtain⟨w1,hw1,s1,b1,P1⟩:=au w #[.pointer (some ⟨n,0,none⟩)] 66
 obtain⟨w2,hw2,s2,b2,P2⟩:=au w1 #[.string k] 9
 obtain⟨w3,hw3,s3,b3,P3⟩:=au w2 #[.string ⟨#[]⟩] 9
 obtain⟨w4,hw4,s4,b4,P4⟩:=au w3 #[.bool false] 4
 rw[s1]at P2
 rw[s2,s1]at P3
 rw[s3,s2,s1]at P4
 have kZ:Below w.heap.size w w4:=((b1.trans (b2.mono (by omega))).trans (b3.mono (by omega))).trans (b4.mono (by omega))
 have P1:=(b4.block _ (by omega)).trans ((b3.block _ (by omega)).trans ((b2.block _ (by omega)).trans P1))
 have P2:=(b4.block _ (by omega)).trans ((b3.block _ (by omega)).trans P2)
 have P3:=(b4.block _ (by omega)).trans P3
 have R1:=fun W hW=>aiM n p q w.heap.size F W x (h.below hW) hR hr k hk
 generalize gv (Sto.fold (Rst.gK x.s)) k=gvv at*
 generalize gp (Sto.fold (Rst.gK x.s)) k=gpp at*
 have CL:=qK n p q F w4 x (h.below kZ) hon 79 #[] #[.pointer (some ⟨w.heap.size,0,none⟩),.pointer (some ⟨w.heap.size+1,0,none⟩),.pointer (some ⟨w.heap.size+1+1,0,none⟩),.pointer (some ⟨w.heap.size+1+1+1,0,none⟩)] _ (enters_of Tryz.func79 (by kernel_rfl) rfl) rfl (fun e W w'=>e=0∧w'.heap[w.heap.size+1+1]? =some (.cells #[.string gvv] 9 (0,0))∧w'.heap[w.heap.size+1+1+1]? =some (.cells #[.bool gpp] 4 (0,0))∧Below w.heap.size w w') (fun W hW=>by
  have zW:=hW.size
  refine(R1 W (kZ.trans (hW.mono (by omega))) ((hW.block _ (by omega)).trans P1) ((hW.block _ (by omega)).trans P2) ((hW.block _ (by omega)).trans P3) ((hW.block _ (by omega)).trans P4)).mono ?_
  rintro E w' ⟨rfl,r1,r2,o⟩
  exact⟨0,rfl,rfl,fun g g1 g2=>o.block g g2 (by omega),o.size,rfl,r1,r2,(kZ.trans (hW.mono (by omega))).trans (o.below (base:=w.heap.size) (fun g e=>by omega) (by omega))⟩)
 have CL:=hide CL
 have FIN:Hid (∀W W1 B w5,Below w4.heap.size w4 W→w4.heap.size≤B∧B<W.heap.size→W1.grownBy w5 (some B)→W1.heap[w.heap.size+1+1]? =some (.cells #[.string gvv] 9 (0,0))→W1.heap[w.heap.size+1+1+1]? =some (.cells #[.bool gpp] 4 (0,0))→Below w.heap.size w W1→w5.heap[w.heap.size+1+1]? =some (.cells #[.string gvv] 9 (0,0))∧w5.heap[w.heap.size+1+1+1]? =some (.cells #[.bool gpp] 4 (0,0))∧Below w.heap.size w w5):=hide fun W W1 B w5 hW hB g c d k=>
  ⟨(g.block _ (aA c) (fun e=>by have:=Option.some.inj e;omega)).trans c,(g.block _ (aA d) (fun e=>by have:=Option.some.inj e;omega)).trans d,aF k g (by omega) k.size⟩
 have d1:w4.cell? ⟨w.heap.size,0,none⟩=some (.pointer (some ⟨n,0,none⟩)):=ai P1 0 rfl
 clear R1 P1 P2 P3 P4 b1 b2 b3 b4 kZ s4 h hR hon hr hk
 go_enter Tryz.func33,Tryz.ntmps33
 go_wp2_with fail
 refine CL.out.mono ?_
 rintro E w5 ⟨e,rfl,W,W1,B,hW,hB,g,rfl,c,d,k⟩
 obtain⟨q4,q5,b5⟩:=FIN.out W W1 B w5 hW hB g c d k
 have RR:=hide b5
 have e4:w5.cell? ⟨w.heap.size+1+1,0,none⟩=some (.string gvv):=ai q4 0 rfl
 have f4:=aB q4 0
 have u4:w5.setCell ⟨w.heap.size+1+1,0,none⟩ (.string gvv)=w5:=aM q4 (j:=0) rfl
 have e5:w5.cell? ⟨w.heap.size+1+1+1,0,none⟩=some (.bool gpp):=ai q5 0 rfl
 have f5:=aB q5 0
 have u5:w5.setCell ⟨w.heap.size+1+1+1,0,none⟩ (.bool gpp)=w5:=aM q5 (j:=0) rfl
 clear CL FIN hW hB g c d k q4 q5 b5
 go_wp2_with fail
 go_region
 all_goals
  go_wp2
  refine bodyPost_ret (v:=.tuple #[.string gvv,.bool gpp,.int .i64 0]) (by simp[results,Tryz.results33,go_sem,e4,e5]) rfl ?_
  exact⟨rfl,RR.out.drew⟩
end Go.Proofs.YtlmkaljjocflmaaGreatDoor
