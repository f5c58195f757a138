/- Texts of one layer, one behind the other. -/
import Derived.Test.YtpifdeoepppadaaGreatDoorH7
import Derived.Test.YtpifdeoepppadaaGreatDoorH3
import Derived.Test.YtpifdeoepppadaaGreatDoorG5
import Derived.Test.YtpifdeoepppadaaGreatDoorG8
import Derived.Test.YtpifdeoepppadaaGreatDoorH8
import Derived.Test.YtpifdeoepppadaaGreatDoorH10
import Derived.Test.YtpifdeoepppadaaGreatDoorH11
import Derived.Test.YtpifdeoepppadaaGreatDoorH12
import Derived.Test.YtpifdeoepppadaaGreatDoorH14
import Derived.Deep.RegionHeld3
import Derived.Test.YtpifdeoepppadaaGreatDoorH18
import Derived.Test.YtpifdeoepppadaaGreatDoorH20
import Derived.Test.YtpifdeoepppadaaGreatDoorG11
set_option maxRecDepth 100000
set_option maxHeartbeats 8000000
namespace Go.Proofs.YtpifdeoepppadaaGreatDoor
open Go.RowKit
open Bm (Ov)
set_option linter.unusedVariables false
theorem afP (p q:Nat)(F1:Nat→Prop)(w:World)(d:Dm.Ds)(bk:Bool)(v:Value)(hB:w.heap[p]? =some (.cells #[.pointer (some ⟨q,0,none⟩),.bool bk,v] 179 (0,0)))(h1:Pk q F1 w d):
  Calls Tryz.prog 175 #[.pointer (some ⟨p,0,none⟩)] w fun E w'=>(E=.returned (.int .i64 6)∧Out (fun g=>g=p) w w')∨(E=.returned (.int .i64 0)∧w=w'):=by
 have HM:=hide (oM p q w _ _ hB)
 have HO:=hide (yE q F1 w d h1)
 have c0:=ai hB 0 rfl
 have c1:=ai hB 1 rfl
 have f1:=az hB 1
 simp only[List.getElem_toArray,List.getElem_cons_zero,List.getElem_cons_succ]at c0 c1
 have OX:Hid (Out (fun g=>g=p) w (w.setCell ⟨p,1,none⟩ (.bool true))):=hide (Out.aT (aC w ⟨p,1,none⟩ (.bool true)) fun g hg=>by simp at hg;exact hg.symm)
 generalize d.on=on at HO
 clear hB h1
 cases bk<;>cases on
 ·go_enter Tryz.func175,Tryz.ntmps175
  go_wp2_with fail
  refine HM.out.mono ?_
  rintro E w1 ⟨rfl,rfl⟩
  go_wp2_with fail
  refine HO.out.mono ?_
  rintro E w1 ⟨rfl,rfl⟩
  go_wp2
  go_ret
  exact .inl ⟨rfl,OX.out⟩
 ·go_enter Tryz.func175,Tryz.ntmps175
  go_wp2_with fail
  refine HM.out.mono ?_
  rintro E w1 ⟨rfl,rfl⟩
  go_wp2_with fail
  refine HO.out.mono ?_
  rintro E w1 ⟨rfl,rfl⟩
  go_wp2
  go_ret
  exact .inr ⟨rfl,rfl⟩
 ·go_enter Tryz.func175,Tryz.ntmps175
  go_wp2_with fail
  refine HM.out.mono ?_
  rintro E w1 ⟨rfl,rfl⟩
  go_wp2
  go_ret
  exact .inl ⟨rfl,OX.out⟩
 ·go_enter Tryz.func175,Tryz.ntmps175
  go_wp2_with fail
  refine HM.out.mono ?_
  rintro E w1 ⟨rfl,rfl⟩
  go_wp2
  go_ret
  exact .inl ⟨rfl,OX.out⟩
theorem alb (p q:Nat)(F1:Nat→Prop)(w:World)(d:Dm.Ds)(bk:Bool)(v:Value)(hB:w.heap[p]? =some (.cells #[.pointer (some ⟨q,0,none⟩),.bool bk,v] 179 (0,0)))(h1:Pk q F1 w d):
  Calls Tryz.prog 128 #[.pointer (some ⟨p,0,none⟩),.agg #[.int .i64 0,.int .i64 0,.slice none 0 0]] w fun E w'=>(E=.returned (.int .i64 6)∨E=.returned (.int .i64 2))∧Out (fun g=>g=p) w w':=by
 obtain⟨w1,hw1,bH,ax,hB0⟩:=ay w #[.int .i64 0,.int .i64 0,.slice none 0 0] 122
 have c0:w1.cell? ⟨w.heap.size,0,none⟩=some (.int .i64 0):=ai hB0 0 rfl
 have c1:w1.cell? ⟨w.heap.size,1,none⟩=some (.int .i64 0):=ai hB0 1 rfl
 have c2:w1.cell? ⟨w.heap.size,2,none⟩=some (.slice none 0 0):=ai hB0 2 rfl
 have HR:=hide (afP p q F1 w1 d bk v ((ax.block p (aA hB)).trans hB) (h1.below ax))
 have sH:=hide (aal 0 0 (.slice none 0 0) [] w1 (dm.nil _) (fun o ho=>by simp at ho) (by simp))
 unfold cZ at sH
 rw[show Rn.aJ 0 0 []=2 from rfl]at sH
 have B1:=hide ax
 clear hB h1 hB0 ax bH
 go_enter Tryz.func128,Tryz.ntmps128
 go_wp2_with fail
 refine HR.out.mono ?_
 rintro E w2 (⟨rfl,o2⟩|⟨rfl,rfl⟩)
 ·have O2:=hide ((Out.of_below (F:=fun g=>g=p) B1.out).trans o2 fun g hg=>.inl hg)
  clear o2 HR
  go_wp2
  go_ret
  exact⟨.inl rfl,O2.out⟩
 ·clear HR
  go_wp2_with fail
  refine sH.out.mono ?_
  rintro E w2 ⟨vb,rfl,own,aB⟩
  obtain⟨ab,cb,hvb,_,_⟩:=own.is.shape
  have O2:=hide (Out.of_below (F:=fun g=>g=p) (B1.out.trans (aB.mono B1.out.size)))
  subst hvb
  clear own aB
  go_wp2
  go_ret
  exact⟨.inr rfl,O2.out⟩
theorem aiu (p q:Nat)(F:Nat→Prop)(w:World)(s:Rl.Rs)(h:RW p q F w s):
  Calls Tryz.prog 163 #[.pointer (some ⟨p,0,none⟩)] w fun E w'=>E=.returned (.bool true)∧Below w.heap.size w w':=by
 obtain⟨F1,G1,h1,⟨v,rs,hv,hG⟩,hF⟩:=h
 have c0:=ai hv.blk 0 rfl
 have c1:=ai hv.blk 1 rfl
 have c2:=ai hv.blk 2 rfl
 simp only[List.getElem_toArray,List.getElem_cons_zero,List.getElem_cons_succ]at c0 c1 c2
 obtain⟨V,hV1,hV,fE,bV,BV,x0,x1,x2⟩:=dO w 179 (.pointer none) (.bool false) (.slice none 0 0) (.pointer (some ⟨q,0,none⟩)) (.bool s.bk) v
 have kZ:=hide (alb w.heap.size q F1 V s.d s.bk v BV (h1.below bV))
 obtain⟨la,ln,lk,hlv⟩:∃a n k,v=.slice a n k:=by
  obtain⟨a1,k1,h1,_⟩:=hv.log.row.row.shape
  exact⟨a1,_,k1,h1⟩
 have B1:=hide bV
 generalize s.bk=bk at*
 subst hlv
 clear hv h1 hF hG bV BV fE
 go_enter Tryz.func163,Tryz.ntmps163
 go_wp2_with fail
 refine kZ.out.mono ?_
 rintro E w2 ⟨rfl|rfl,o2⟩
 all_goals
  have O2:=hide (B1.out.trans (o2.below (base:=w.heap.size) (fun g hg=>by omega) B1.out.size))
  clear o2 kZ
  go_wp2
  go_ret
  exact⟨rfl,O2.out⟩
theorem axU {p q:Nat}{F:Nat→Prop}{w w1 w2:World}{r:Rl.Rs}(h:RW p q F w r)(hb:Below w.heap.size w w1)(ht:Tb (w.heap.size+1) w.heap.size w1 [])(hw:w1.alloc (.cells #[.pointer (some ⟨p,0,none⟩),.slice none 0 0,.pointer (some ⟨w.heap.size+1,0,none⟩)] 159)=w2):
  Sk w1.heap.size p (SB w1.heap.size (w.heap.size+1) w.heap.size (.slice none 0 0) []) w2 []∧Below w.heap.size w w2∧∀g,SB w1.heap.size (w.heap.size+1) w.heap.size (.slice none 0 0) [] g→w.heap.size≤g:=by
 obtain⟨W,hW,sz,aF,hB⟩:=ay w1 #[.pointer (some ⟨p,0,none⟩),.slice none 0 0,.pointer (some ⟨w.heap.size+1,0,none⟩)] 159
 rw[hw]at hW
 subst hW
 have hs:=hb.size
 have hge:∀g,SB w1.heap.size (w.heap.size+1) w.heap.size (.slice none 0 0) [] g→w.heap.size≤g:=by
  rintro g (e|e|e|e|⟨c,hc,_⟩)
  ·omega
  ·omega
  ·omega
  ·simp[Value.ownBlock]at e
  ·simp at hc
 exact⟨⟨_,_,_,_,⟨hB,Rt.nil _ _,ht.below aF⟩,rfl⟩,hb.trans (aF.mono hs),hge⟩
theorem aod (p q:Nat)(F:Nat→Prop)(w:World)(r:Rl.Rs)(vr:Value)(rs:List Cw)(h:RW p q F w r)(hr:fJ w vr rs)(hf:fF rs)(hl:rs.length≤100000):
  Calls Tryz.prog 115 #[.pointer (some ⟨p,0,none⟩),vr] w fun E w'=>((Cm.fol 1 (Cm.lastN 0 r.l) 0 (aD rs)).1≠0∧E=.returned (.tuple #[.pointer none,.int .i64 (Cm.fol 1 (Cm.lastN 0 r.l) 0 (aD rs)).1])∧Below w.heap.size w w')∨((Cm.fol 1 (Cm.lastN 0 r.l) 0 (aD rs)).1=0∧∃ps,E=.returned (.tuple #[.pointer (some ⟨ps,0,none⟩),.int .i64 0])∧∃G,Sk ps p G w' (aD rs)∧(∀g,G g→w.heap.size≤g)∧Below w.heap.size w w'):=by
 have HM:=hide (aiu p q F w r h)
 have HW:=hide h
 have HI:=hide hr
 have HFC:=hide hf
 have hgl:=Rl.eB h.good
 obtain⟨ra,rk,hvr,_,_⟩:=hr.1.shape
 obtain⟨fe,hfe⟩:∃x,(Cm.fol 1 (Cm.lastN 0 r.l) 0 (aD rs)).1=x:=⟨_,rfl⟩
 obtain⟨fp,hfp⟩:∃x,(Cm.fol 1 (Cm.lastN 0 r.l) 0 (aD rs)).2=x:=⟨_,rfl⟩
 have hat:=Cm.ahX (aD rs) 1 (Cm.lastN 0 r.l) 0
 rw[hfe,hfp]at hat
 rw[hfe]
 have HAT:=hide hat
 have HGD:Hid (fe=0→Cm.Good 1 (Cm.lastN 0 r.l) (aD rs)):=hide fun e=>(Cm.il _ _ _ 0).1 (by rw[hfe];exact e)
 have HFE:=hide (And.intro hfe hfp)
 obtain⟨n,hn⟩:∃n,rs.length=n:=⟨_,rfl⟩
 have HN:=hide hn
 rw[hn]at hvr hl
 have HVR:=hide hvr
 have q1:=Tryz.aq2 fe fp 0 0
 have q2:=Tryz.acE .neq
 clear h hr hf hat hfe hfp hn hgl
 rw[hvr]
 clear hvr
 go_enter Tryz.func115,Tryz.ntmps115
 go_wp2_with fail
 refine HM.out.mono ?_
 rintro E w1 ⟨rfl,ax⟩
 have W1:=hide (HW.out.below ax)
 have I1:=hide (show fJ w1 vr rs from⟨HI.out.1.below ax,fun c hc=>⟨(HI.out.2 c hc).1.below ax,(HI.out.2 c hc).2⟩⟩)
 have HE:=hide (jH p q F w1 r W1.out)
 have B1:=hide ax
 clear HM ax
 go_wp2_with fail
 refine HE.out.mono ?_
 rintro E w2 ⟨rfl,rfl⟩
 have HF:=hide (rR 1 (Cm.lastN 0 r.l) vr rs w1 I1.out HFC.out (by have:=HN.out;omega))
 unfold flv at HF
 rw[HFE.out.1,HFE.out.2,HVR.out]at HF
 clear HE
 go_wp2_with fail
 refine HF.out.mono ?_
 rintro E w2 ⟨rfl,aB⟩
 obtain⟨w3,hw3,hw32,fZ,aH,hF3,x0,x1⟩:=adN w2 98 (.int .i64 0) (.int .i64 0) (.int .i64 fe) (.int .i64 fp)
 have b13:=aB.trans (aH.mono aB.size)
 have B3:=hide (B1.out.trans (b13.mono B1.out.size))
 have W3:=hide (W1.out.below b13)
 have I3:=hide (show fJ w3 vr rs from⟨I1.out.1.below b13,fun c hc=>⟨(I1.out.2 c hc).1.below b13,(I1.out.2 c hc).2⟩⟩)
 have HF3:=hide hF3
 clear HF aB aH b13 hF3 W1 I1 HW HI B1 fZ
 by_cases hf0:fe=0
 ·have hp0:=HAT.out hf0
  have gd:=HGD.out hf0
  subst hf0
  subst hp0
  have GD:=hide gd
  have z0:w3.setCell ⟨w2.heap.size,0,none⟩ (.int .i64 0)=w3:=aI HF3.out (j:=0) rfl
  have z1:w3.setCell ⟨w2.heap.size,1,none⟩ (.int .i64 0)=w3:=aI HF3.out (j:=1) rfl
  have f0:=az HF3.out 0
  have f1:=az HF3.out 1
  clear gd HGD HAT HFE HF3
  go_wp2_with fail
  refine(abh w3).mono ?_
  rintro E w4 ⟨rfl,T4,b4⟩
  obtain⟨w5,kL⟩:∃x,w4.alloc (.cells #[.pointer (some ⟨p,0,none⟩),.slice none 0 0,.pointer (some ⟨w3.heap.size+1,0,none⟩)] 159)=x:=⟨_,rfl⟩
  obtain⟨S5,b35,hge⟩:=axU W3.out b4 T4 kL
  have Q0:Hid (∃G,Sk w4.heap.size p G w5 (aD (rs.take 0))∧(∀g,G g→w3.heap.size≤g)∧Below w3.heap.size w3 w5):=hide ⟨_,S5,hge,b35⟩
  clear S5 b35 hge T4 b4
  go_wp2
  go_loopw [28] (fun iv wr=>∃k:Nat,k≤n∧iv=.int .i64 k∧Hid (∃G,Sk w4.heap.size p G wr (aD (rs.take k))∧(∀g,G g→w3.heap.size≤g)∧Below w3.heap.size w3 wr)) (fun iv _=>n-(intOf iv).toNat)
  case atStart=>exact⟨0,by omega,rfl,Q0⟩
  case round=>
   obtain⟨k,hk,rfl,HQ⟩:=hrel
   clear Q0
   by_cases hlt:k<n
   ·obtain⟨⟨ce,cn,cv,cl⟩,hc⟩:∃c,rs[k]? =some c:=⟨rs[k]'(by have:=HN.out;omega),by rw[List.getElem?_eq_getElem]⟩
    obtain⟨g,off,cq,dL,_,_,hgw,hcell⟩:=I3.out.1.full (by have:=HN.out;omega)
    rw[HN.out,HVR.out]at dL
    simp only[Value.slice.injEq,true_and]at dL
    obtain⟨rfl,rfl⟩:=dL
    obtain⟨c0,c1,c2⟩:=hcell k _ hc
    have hm:=List.mem_of_getElem? hc
    obtain⟨G,⟨pm,bm,v,rr,hs,rfl⟩,hge,BR⟩:=HQ.out
    have jo:=((I3.out.2 _ hm).1).below BR
    have d0:=(BR.cell (p:=⟨g,off+k*3,none⟩) hgw).trans c0
    have d1:=(BR.cell (p:=⟨g,off+k*3+1,none⟩) hgw).trans c1
    have d2:=(BR.cell (p:=⟨g,off+k*3+2,none⟩) hgw).trans c2
    obtain⟨oa,ok,sj,_,_⟩:=jo.shape
    obtain⟨wc,hwc,ac8,szc,eU,bC,y0,y1,y2⟩:=dO wr 32 (.int .i64 0) (.int .i64 0) (.slice none 0 0) (.int .i64 ce) (.int .i64 cn) cv
    have hnx:=agf hc
    have hgk:Cm.Good 1 (Cm.lastN 0 r.l) (aD (rs.take k)):=by
     rw[wN]
     exact Cm.lY GD.out _
    have hch:Cm.aJ ce cn cl=0:=(Sto.gF GD.out _ (List.mem_map.2 ⟨_,hm,rfl⟩)).1
    have HA:=hide (aed w4.heap.size p pm bm wc (aD (rs.take k)) v rr ⟨ce,cn,cv,cl⟩ (hs.below eU) (jo.below eU) hch (fun hp b hb hf=>by
     have h1:=hge b hf
     obtain⟨g',off',cap',hv',_,_,hg',_⟩:=((I3.out.2 _ hm).1).full hp
     simp only at hv' hb
     rw[hv']at hb
     simp[Value.ownBlock]at hb
     omega) (by rw[aD,List.length_map,List.length_take];omega) (Sto.ac4 hgk))
    unfold cZ at HA
    simp only at c0 c1 c2 d0 d1 d2 sj HA
    rw[show aD (rs.take k)++[(⟨ce,cn,cv,cl⟩:Cw).c]=aD (rs.take (k+1))from hnx.symm]at HA
    subst sj
    have hlt':(k:Int)<n:=by omega
    have hk0:(0:Int)≤(k:Int):=by omega
    have HX:=hide (And.intro BR (And.intro eU hge))
    clear hcell c0 c1 c2 hc hm jo bC eU hnx hgk hch hs BR hge
    go_wp2_with fail
    refine HA.out.mono ?_
    rintro E w6 ⟨⟨uu,rfl⟩,S6⟩
    have HQ2:Hid (∃G,Sk w4.heap.size p G w6 (aD (rs.take (k+1)))∧(∀g,G g→w3.heap.size≤g)∧Below w3.heap.size w3 w6):=hide (by
     obtain⟨BR,eU,hge⟩:=HX.out
     obtain⟨G',k1,k2,k3⟩:=S6
     have b1:=BR.trans (eU.mono BR.size)
     have hz:=b1.size
     refine⟨G',k1,fun g hg=>?_,b1.trans (k2.below hge hz)⟩
     rcases k3 g hg with e|e
     ·exact hge g e
     ·omega)
    clear S6 HA HX
    go_wp2
    go_roundw
    case rel=>exact⟨k+1,by omega,by go_num,HQ2⟩
    case measure=>simp[intOf];omega
   ·have hlt':¬(k:Int)<n:=by omega
    obtain rfl:k=n:=by omega
    have HQ2:=HQ.out
    rw[List.take_of_length_le (by have:=HN.out;omega)]at HQ2
    have FIN:Hid (∃G,Sk w4.heap.size p G wr (aD rs)∧(∀g,G g→w.heap.size≤g)∧Below w.heap.size w wr):=hide (by
     obtain⟨G,k1,k2,k3⟩:=HQ2
     exact⟨G,k1,fun g hg=>Nat.le_trans B3.out.size (k2 g hg),B3.out.trans (k3.mono B3.out.size)⟩)
    clear HQ2 HQ
    go_wp2
    go_ret2
    first|exact⟨_,rfl,FIN.out⟩|exact .inr ⟨rfl,_,rfl,FIN.out⟩
 ·have hne:(fe==0)=false:=by simpa using hf0
  go_wp2
  go_quiet (fail)
  go_wp2
  go_ret2
  first|exact⟨rfl,below_drewN B3.out _⟩|exact .inl ⟨hf0,rfl,below_drewN B3.out _⟩
end Go.Proofs.YtpifdeoepppadaaGreatDoor
namespace Go.Proofs.YtpifdeoepppadaaGreatDoor
open Go.RowKit
set_option linter.unusedVariables false
structure nE (p q pw pr ps:Nat) (Gw Gr Gs:Nat→Prop) (w:World) (s:Rst.St) (lw:List Cm.Cv) (bw br:Bool):Prop where
 blk:w.heap[p]? =some (.cells (fw q s.off s.p (.pointer (some ⟨pw,0,none⟩)) s.l.length (.pointer (some ⟨pr,0,none⟩)) (.pointer (some ⟨ps,0,none⟩))) 60 (0,0))
 wal:Wk pw q Gw w lw bw
 run:Rk pr q Gr w s.r br
 aZ:Sk ps pr Gs w (s.l.drop (Cm.lastN 0 s.r).toNat)
 log:s.l=lw.take s.l.length
 live:s.off=false→lw=s.l∧bw=false∧br=false
 ok:Pm.Ok s.p
 fit:dW s.p
 rest:Cm.Good 1 (Cm.lastN 0 s.r) (s.l.drop (Cm.lastN 0 s.r).toNat)
 le:Cm.lastN 0 s.r≤s.l.length
 np:¬Gw p∧¬Gr p∧¬Gs p
 wr:∀g,Gw g→¬Gr g
 ws:∀g,Gw g→¬Gs g
 rs:∀g,Gr g→¬Gs g
def PB (p:Nat) (Gw Gr Gs:Nat→Prop) (g:Nat):Prop:=g=p∨Gw g∨Gr g∨Gs g
def PO (p q:Nat) (G:Nat→Prop) (w:World) (s:Rst.St):Prop:=∃pw pr ps Gw Gr Gs lw bw br,nE p q pw pr ps Gw Gr Gs w s lw bw br∧G=PB p Gw Gr Gs
section
variable {p q pw pr ps:Nat} {G Gw Gr Gs:Nat→Prop} {w w':World} {s:Rst.St} {lw:List Cm.Cv} {bw br:Bool}
theorem nE.lt (h:nE p q pw pr ps Gw Gr Gs w s lw bw br):∀g,PB p Gw Gr Gs g→g<w.heap.size:=by
 rintro g (rfl|e|e|e)
 ·exact aA h.blk
 ·exact h.wal.lt g e
 ·exact h.run.lt g e
 ·exact h.aZ.lt g e
theorem nE.agree (h:nE p q pw pr ps Gw Gr Gs w s lw bw br)(ha:∀g,PB p Gw Gr Gs g→w'.heap[g]? =w.heap[g]?):nE p q pw pr ps Gw Gr Gs w' s lw bw br:=
 ⟨(ha p (.inl rfl)).trans h.blk,h.wal.agree fun g e=>ha g (.inr (.inl e)),h.run.agree fun g e=>ha g (.inr (.inr (.inl e))),h.aZ.agree fun g e=>ha g (.inr (.inr (.inr e))),h.log,h.live,h.ok,h.fit,h.rest,h.le,h.np,h.wr,h.ws,h.rs⟩
theorem nE.below (h:nE p q pw pr ps Gw Gr Gs w s lw bw br)(hb:Below w.heap.size w w'):nE p q pw pr ps Gw Gr Gs w' s lw bw br:=h.agree fun g hg=>hb.block g (h.lt g hg)
theorem PO.lt (h:PO p q G w s):∀g,G g→g<w.heap.size:=by
 obtain⟨pw,pr,ps,Gw,Gr,Gs,lw,bw,br,h,rfl⟩:=h
 exact h.lt
theorem PO.agree (h:PO p q G w s)(ha:∀g,G g→w'.heap[g]? =w.heap[g]?)(hs:w.heap.size≤w'.heap.size):PO p q G w' s:=by
 obtain⟨pw,pr,ps,Gw,Gr,Gs,lw,bw,br,h,rfl⟩:=h
 exact⟨pw,pr,ps,Gw,Gr,Gs,lw,bw,br,h.agree ha,rfl⟩
theorem PO.disk (h:PO p q G w s)(d':Dm.Ds):PO p q G w ⟨d',s.p,s.l,s.r,s.off⟩:=by
 obtain⟨pw,pr,ps,Gw,Gr,Gs,lw,bw,br,h,rfl⟩:=h
 exact⟨pw,pr,ps,Gw,Gr,Gs,lw,bw,br,⟨h.blk,h.wal,h.run,h.aZ,h.log,h.live,h.ok,h.fit,h.rest,h.le,h.np,h.wr,h.ws,h.rs⟩,rfl⟩
theorem nE.ww {F:Nat→Prop}(h:nE p q pw pr ps Gw Gr Gs w s lw bw br)(hd:Pk q F w s.d):WW pw q (fun g=>F g∨Gw g) w ⟨s.d,lw,bw⟩:=⟨F,Gw,hd,h.wal,rfl⟩
theorem nE.rw {F:Nat→Prop}(h:nE p q pw pr ps Gw Gr Gs w s lw bw br)(hd:Pk q F w s.d):RW pr q (fun g=>F g∨Gr g) w ⟨s.d,s.r,br⟩:=⟨F,Gr,hd,h.run,rfl⟩
theorem nE.good (h:nE p q pw pr ps Gw Gr Gs w s lw bw br):Rl.Good 0 s.r:=by
 obtain⟨v,rs,h1,_⟩:=h.run
 exact h1.log.good
theorem nE.sw {F:Nat→Prop}(h:nE p q pw pr ps Gw Gr Gs w s lw bw br)(hd:Pk q F w s.d)(hG:∀g,PB p Gw Gr Gs g→¬F g):SW ps pr q (fun g=>(F g∨Gr g)∨Gs g) w ⟨⟨s.d,s.r,br⟩,s.l.drop (Cm.lastN 0 s.r).toNat⟩:=
 ⟨fun g=>F g∨Gr g,Gs,h.rw hd,h.aZ,fun g e=>by
  rintro(k|k)
  ·exact hG g (.inr (.inr (.inr e))) k
  ·exact h.rs g k e,⟨h.good,h.rest⟩,rfl⟩
end
def PS (p q:Nat) (F:Nat→Prop) (w:World) (s:Rst.St):Prop:=∃F1 G,Pk q F1 w s.d∧PO p q G w s∧(∀g,G g→¬F1 g)∧ib w∧F=fun g=>F1 g∨G g
def iA (p q:Nat) (F:Nat→Prop) (w w':World) (s':Rst.St):Prop:=∃F',PS p q F' w' s'∧Out F w w'∧∀g,F' g→F g∨w.heap.size≤g
def yf (s:Rst.St):Prop:=Big 50000000 500000 s.d∧s.l.length≤2000
section
variable {p q:Nat} {F G:Nat→Prop} {w w':World} {s:Rst.St}
theorem PO.out (h:PO p q G w s)(ho:Out F w w')(hd:∀g,G g→¬F g):PO p q G w' s:=h.agree (fun g hg=>ho.block g (h.lt g hg) (hd g hg)) ho.size
theorem PS.lt (h:PS p q F w s):∀g,F g→g<w.heap.size:=by
 obtain⟨F1,G,h1,h2,_,_,rfl⟩:=h
 rintro g (e|e)
 ·exact h1.lt g e
 ·exact h2.lt g e
theorem PS.agree (h:PS p q F w s)(ha:∀g,F g→w'.heap[g]? =w.heap[g]?)(hs:w.heap.size≤w'.heap.size)(hm:ib w'):PS p q F w' s:=by
 obtain⟨F1,G,h1,h2,h3,_,rfl⟩:=h
 exact⟨F1,G,h1.agree fun g hg=>ha g (.inl hg),h2.agree (fun g hg=>ha g (.inr hg)) hs,h3,hm,rfl⟩
theorem PS.gB (h:PS p q F w s):ib w:=by
 obtain⟨_,_,_,_,_,h,_⟩:=h
 exact h
theorem gm (hm:ib w)(ho:Out F w w')(h0:¬F 0):ib w':=by
 have e:∀j,w'.cell? ⟨0,j,none⟩=w.cell? ⟨0,j,none⟩:=fun j=>by
  have:=ho.block 0 hm.pos h0
  simp[World.cell?,this]
 exact⟨(e 0).trans hm.c0,(e 1).trans hm.c1,(e 2).trans hm.c2,(e 3).trans hm.c3,(e 4).trans hm.c4,(e 5).trans hm.c5⟩
theorem PS.disk (h:PS p q F w s)(h0:¬F 0):∃F1,Pk q F1 w s.d∧(∀g,F1 g→F g)∧∀w' d',aP q F1 w w' d'→iA p q F w w' ⟨d',s.p,s.l,s.r,s.off⟩:=by
 obtain⟨F1,G,h1,h2,h3,hm,rfl⟩:=h
 refine⟨F1,h1,fun g hg=>.inl hg,fun w' d' k=>?_⟩
 obtain⟨F2,k1,k2,k3⟩:=k
 refine⟨fun g=>F2 g∨G g,⟨F2,G,k1,(h2.out k2 h3).disk d',fun g hg hF=>?_,gm hm k2 fun e=>h0 (.inl e),rfl⟩,k2.mono fun g hg=>.inl (.inl hg),?_⟩
 ·rcases k3 g hF with e|e
  ·exact h3 g hg e
  ·have:=h2.lt g hg;omega
 ·rintro g (e|e)
  ·rcases k3 g e with e|e
   ·exact .inl (.inl e)
   ·exact .inr e
  ·exact .inl (.inr e)
end
theorem apv (l:List Cm.Cv)(n:Nat)(h:n≤l.length):frl l 1 n=l.take n:=by
 unfold frl
 split
 ·rename_i k
  rcases n with _|n
  ·simp
  ·exfalso;omega
 ·simp
theorem lY {l:List Cm.Cv}(h:Cm.Good 0 0 l)(n:Nat):Cm.Good 0 0 (l.take n):=by
 rw[←List.take_append_drop n l]at h
 exact((Cm.dG _ _ _ _).1 h).1
theorem lW (p q:Nat)(F:Nat→Prop)(w:World)(s:Rst.St)(h:PS p q F w s)(hR:yf s):Calls Tryz.prog 23 #[.pointer (some ⟨p,0,none⟩)] w fun E w'=>E=.returned (vp s.p)∧Below w.heap.size w w':=by
 obtain⟨F1,G,h1,⟨pw,pr,ps,Gw,Gr,Gs,lw,bw,br,V,rfl⟩,h3,hm,rfl⟩:=h
 have hb:=V.blk
 have hpl:=aA hb
 obtain⟨w1,hw1,s1,b1,P1⟩:=ay w #[.int .i64 0,.int .u8 0,.int .i64 0,.int .u8 0,.int .i64 0,.int .i64 0] 41
 obtain⟨c0,c1,c2,c3,c4,c5,c6,c7,c8,c9,c10,c11,c12⟩:=kH ((b1.block p hpl).trans hb)
 have HM:=hide (mq p q w1 c0)
 obtain⟨V',hV',ic,dK,⟨a0,a1,a2,a3,a4,a5⟩,fr,⟨z0,z1,z2,z3,z4,z5⟩⟩:=lL P1 (.int .i64 s.p.e) (.int .u8 s.p.r) (.int .i64 s.p.a) (.int .u8 s.p.p) (.int .i64 s.p.f) (.int .i64 s.p.b)
 have f0:=fr 0;have f1:=fr 1;have f2:=fr 2;have f3:=fr 3;have f4:=fr 4;have f5:=fr 5
 have BV:=hide (aK b1 dK (Nat.le_refl _) (by omega))
 clear V h1 h3 hm hb b1 P1 ic dK fr s1 hpl hR
 go_enter Tryz.func23,Tryz.ntmps23
 go_wp2_with fail
 refine HM.out.mono ?_
 rintro E w2 ⟨rfl,rfl⟩
 clear HM
 go_wp2
 refine bodyPost_ret (v:=vp s.p) (by simp[results,Tryz.results23,go_sem,z0,z1,z2,z3,z4,z5,vp]) rfl ?_
 exact⟨rfl,BV.out⟩
theorem aa9 (p q:Nat)(F:Nat→Prop)(w:World)(s:Rst.St)(h:PS p q F w s)(hR:yf s):Calls Tryz.prog 19 #[.pointer (some ⟨p,0,none⟩)] w fun E w'=>E=.returned (.int .i64 s.l.length)∧Below w.heap.size w w':=by
 obtain⟨F1,G,h1,⟨pw,pr,ps,Gw,Gr,Gs,lw,bw,br,V,rfl⟩,h3,hm,rfl⟩:=h
 obtain⟨c0,c1,c2,c3,c4,c5,c6,c7,c8,c9,c10,c11,c12⟩:=kH V.blk
 have HM:=hide (mq p q w c0)
 clear V h1 h3 hm hR
 generalize (s.l.length:Int)=n at*
 go_enter Tryz.func19,Tryz.ntmps19
 go_wp2_with fail
 refine HM.out.mono ?_
 rintro E w2 ⟨rfl,rfl⟩
 clear HM
 go_wp2
 go_ret
 exact⟨rfl,Below.refl _ _⟩
theorem wS (p q:Nat)(F:Nat→Prop)(w:World)(s:Rst.St)(h:PS p q F w s)(hR:yf s)(k:ByteArray)(hk:k.size≤140737488355328):Calls Tryz.prog 14 #[.pointer (some ⟨p,0,none⟩),.string k] w fun E w'=>E=.returned (.tuple #[.string (gv (Sto.fold (Rst.aZ s)) k),.bool (gp (Sto.fold (Rst.aZ s)) k)])∧Below w.heap.size w w':=by
 obtain⟨F1,G,h1,⟨pw,pr,ps,Gw,Gr,Gs,lw,bw,br,V,rfl⟩,h3,hm,rfl⟩:=h
 obtain⟨c0,c1,c2,c3,c4,c5,c6,c7,c8,c9,c10,c11,c12⟩:=kH V.blk
 have HM:=hide (mq p q w c0)
 have HG:=hide (aqK ps pr q _ w _ k (V.sw h1 h3) hk)
 have e:Sto.fold ⟨⟨s.d,s.r,br⟩,s.l.drop (Cm.lastN 0 s.r).toNat⟩=Sto.fold (Rst.aZ s):=rfl
 rw[e]at HG
 generalize Sto.fold (Rst.aZ s)=t at*
 clear V h1 h3 hm hR e
 go_enter Tryz.func14,Tryz.ntmps14
 go_wp2_with fail
 refine HM.out.mono ?_
 rintro E w2 ⟨rfl,rfl⟩
 clear HM
 go_wp2_with fail
 refine HG.out.mono ?_
 rintro E w2 ⟨rfl,b2⟩
 have B2:=hide b2
 clear HG b2
 go_wp2
 go_ret2
 exact⟨rfl,B2.out⟩
theorem xX (p q:Nat)(F:Nat→Prop)(w:World)(s:Rst.St)(h:PS p q F w s)(hR:yf s):Calls Tryz.prog 21 #[.pointer (some ⟨p,0,none⟩)] w fun E w'=>∃v rs,E=.returned v∧Rq w.heap.size w' s.r v rs∧nH rs∧Below w.heap.size w w':=by
 obtain⟨F1,G,h1,⟨pw,pr,ps,Gw,Gr,Gs,lw,bw,br,V,rfl⟩,h3,hm,rfl⟩:=h
 obtain⟨c0,c1,c2,c3,c4,c5,c6,c7,c8,c9,c10,c11,c12⟩:=kH V.blk
 have HM:=hide (mq p q w c0)
 have HG:=hide (anV pr q _ w _ (V.rw h1))
 clear V h1 h3 hm hR
 go_enter Tryz.func21,Tryz.ntmps21
 go_wp2_with fail
 refine HM.out.mono ?_
 rintro E w2 ⟨rfl,rfl⟩
 clear HM
 go_wp2_with fail
 refine HG.out.mono ?_
 rintro E w2 ⟨v,rs,rfl,X⟩
 have X:=hide X
 clear HG
 go_wp2
 go_ret
 exact⟨v,rs,rfl,X.out⟩
theorem sD (p q:Nat)(F:Nat→Prop)(w:World)(s:Rst.St)(h:PS p q F w s)(hR:yf s):Calls Tryz.prog 20 #[.pointer (some ⟨p,0,none⟩)] w fun E w'=>∃v rs,E=.returned v∧gL w.heap.size w' v rs∧aD rs=s.l∧Below w.heap.size w w':=by
 obtain⟨F1,G,h1,⟨pw,pr,ps,Gw,Gr,Gs,lw,bw,br,V,rfl⟩,h3,hm,rfl⟩:=h
 have hb:=V.blk
 have hpl:=aA hb
 obtain⟨c0,c1,c2,c3,c4,c5,c6,c7,c8,c9,c10,c11,c12⟩:=kH V.blk
 have HM:=hide (mq p q w c0)
 have hl:s.l.length≤lw.length:=by
  have:=congrArg List.length V.log
  rw[List.length_take]at this
  omega
 have hg:Cm.Good 0 0 s.l:=by rw[V.log];exact lY V.wal.good _
 have HF:Hid (Calls Tryz.prog 91 #[.pointer (some ⟨pw,0,none⟩),.int .i64 1,.int .i64 s.l.length] w.drew fun E w'=>∃v rs,E=.returned v∧Hid (gL w.heap.size w' v rs∧aD rs=s.l)∧Below w.heap.size w w'∧w'.cell? ⟨p,8,none⟩=some (.pointer (some ⟨pw,0,none⟩))∧w'.cell? ⟨p,9,none⟩=some (.int .i64 s.l.length)∧w'.cell? ⟨p,10,none⟩=some (.slice none 0 0)):=hide (by
  have hd:Below w.heap.size w w.drew:=(Below.refl _ _).drew
  refine(aeu pw q _ w.drew _ 1 s.l.length ((V.ww h1).below hd)).mono ?_
  rintro E w' ⟨v,rs,rfl,o1,o2,o3,o4,o5⟩
  have o3:aD rs=s.l:=by rw[o3,apv lw _ hl];exact V.log.symm
  have o5:Below w.heap.size w w':=hd.trans o5
  obtain⟨f1,f2⟩:=abd hg o3
  obtain⟨_,_,_,_,_,_,_,_,k8,k9,k10,_⟩:=kH ((o5.block p hpl).trans hb)
  exact⟨v,rs,rfl,hide ⟨⟨o1,o2,fun c hc=>⟨(f2 c hc).1,(f2 c hc).2.1⟩,o4,f1⟩,o3⟩,o5,k8,k9,k10⟩)
 generalize (s.l.length:Int)=n at*
 clear V h1 h3 hm hR hb hg hl hpl
 go_enter Tryz.func20,Tryz.ntmps20
 go_wp2_with fail
 refine HM.out.mono ?_
 rintro E w2 ⟨rfl,rfl⟩
 clear HM
 go_wp2_with fail
 go_region_held3 (fun w'=>w'.cell? ⟨p,8,none⟩=some (.pointer (some ⟨pw,0,none⟩))∧w'.cell? ⟨p,9,none⟩=some (.int .i64 n)) (first|exact⟨c8,c9⟩|exact⟨d8,d9⟩|go_keep)
  (first
  |(go_at_call 91;refine HF.out.mono ?_;rintro E w3 ⟨vv,rs,rfl,X,b3,d8,d9,d10⟩;have B3:=hide b3;clear b3))
 clear HF
 go_wp2_with fail
 go_loopw [3,26] (fun v3 iv wr=>v3=vv∧iv=.int .i64 0∧wr=w3) (fun _ _ _=>0)
 case atStart=>exact⟨rfl,rfl,rfl⟩
 case round=>
  obtain⟨rfl,rfl,rfl⟩:=hrel
  go_wp2
  go_ret
  exact⟨_,rs,rfl,X.out.1,X.out.2,B3.out⟩
section
variable {p q:Nat} {F:Nat→Prop} {w W:World} {s s1:Rst.St}
theorem PS.at (h:PS p q F w s):F p∧∃vw vr vs,w.heap[p]? =some (.cells (fw q s.off s.p vw s.l.length vr vs) 60 (0,0)):=by
 obtain⟨F1,G,h1,⟨pw,pr,ps,Gw,Gr,Gs,lw,bw,br,V,rfl⟩,h3,hm,rfl⟩:=h
 exact⟨.inr (.inl rfl),_,_,_,V.blk⟩
theorem PS.below (h:PS p q F w s)(hb:Below w.heap.size w W):PS p q F W s:=h.agree (fun g hg=>hb.block g (h.lt g hg)) hb.size (h.gB.below hb)
theorem iA.same (h:PS p q F w s)(hb:Below w.heap.size w W):iA p q F w W s:=⟨F,h.below hb,Out.of_below hb,fun g hg=>.inl hg⟩
theorem acB {cs:Array Value}{t:TypeId}{fr:Nat×Nat}{a:Option Addr}(hm:ib w)(hb:w.heap[p]? =some (.cells cs t fr))(hc:cs[0]? =some (.pointer a)):p≠0:=by
 rintro rfl
 have:=ai hb 0 hc
 rw[hm.c0]at this
 cases this
theorem iA.brk (h:iA p q F w W s1):iA p q F w (W.setCell ⟨p,1,none⟩ (.bool true)) (Rst.brk s1):=by
 obtain⟨F',⟨F1,G,h1,⟨pw,pr,ps,Gw,Gr,Gs,lw,bw,br,V,rfl⟩,h3,hm,rfl⟩,ho,hn⟩:=h
 have hp:p≠0:=acB hm V.blk rfl
 have oZ:Out (fun g=>g=p) W (W.setCell ⟨p,1,none⟩ (.bool true)):=Out.aT (aC W ⟨p,1,none⟩ (.bool true)) fun i hi=>by simpa using hi.symm
 have pz:(W.setCell ⟨p,1,none⟩ (.bool true)).heap[p]? =some (.cells (fw q true s1.p (.pointer (some ⟨pw,0,none⟩)) s1.l.length (.pointer (some ⟨pr,0,none⟩)) (.pointer (some ⟨ps,0,none⟩))) 60 (0,0)):=aL V.blk 1 (.bool true)
 generalize W.setCell ⟨p,1,none⟩ (.bool true)=Z at*
 have hF1:¬F1 p:=h3 p (.inl rfl)
 refine⟨fun g=>F1 g∨PB p Gw Gr Gs g,⟨F1,PB p Gw Gr Gs,h1.agree fun g hg=>oZ.block g (h1.lt g hg) fun e=>hF1 (e▸hg),⟨pw,pr,ps,Gw,Gr,Gs,lw,bw,br,⟨pz,V.wal.out oZ fun g hg e=>V.np.1 (e▸hg),V.run.out oZ fun g hg e=>V.np.2.1 (e▸hg),V.aZ.out oZ fun g hg e=>V.np.2.2 (e▸hg),V.log,(fun e=>absurd e (by simp[Rst.brk])),V.ok,V.fit,V.rest,V.le,V.np,V.wr,V.ws,V.rs⟩,rfl⟩,h3,gm hm oZ fun e=>hp e.symm,rfl⟩,ho.trans oZ fun g hg=>?_,hn⟩
 rw[hg]
 exact hn p (.inr (.inl rfl))
theorem ajq {pw pr ps:Nat}{F1 F2 Gw Gr Gs:Nat→Prop}{w5 w6:World}{lw:List Cm.Cv}{bw br:Bool}{x:Pm.Pg}{d':Dm.Ds}(V:nE p q pw pr ps Gw Gr Gs w5 s lw bw br)(hd:∀g,PB p Gw Gr Gs g→¬F1 g)(hm:ib w5)(h0:¬F1 0)(hok:Pm.Ok x)(k1:Pk q F2 w6 d')(k2:w6.heap[p]? =some (.cells (fw q s.off x (.pointer (some ⟨pw,0,none⟩)) s.l.length (.pointer (some ⟨pr,0,none⟩)) (.pointer (some ⟨ps,0,none⟩))) 60 (0,0)))(k3:Out (fun g=>F1 g∨g=p) w5 w6)(k4:∀g,F2 g→F1 g∨w5.heap.size≤g):
  iA p q (fun g=>F1 g∨PB p Gw Gr Gs g) w5 w6 ⟨d',x,s.l,s.r,s.off⟩:=by
 have hp:p≠0:=acB hm V.blk rfl
 have ne:∀g,PB p Gw Gr Gs g→g≠p→¬(F1 g∨g=p):=fun g hg hn e=>e.elim (hd g hg) hn
 refine⟨fun g=>F2 g∨PB p Gw Gr Gs g,⟨F2,PB p Gw Gr Gs,k1,⟨pw,pr,ps,Gw,Gr,Gs,lw,bw,br,⟨k2,V.wal.out k3 fun g hg=>ne g (.inr (.inl hg)) fun e=>V.np.1 (e▸hg),V.run.out k3 fun g hg=>ne g (.inr (.inr (.inl hg))) fun e=>V.np.2.1 (e▸hg),V.aZ.out k3 fun g hg=>ne g (.inr (.inr (.inr hg))) fun e=>V.np.2.2 (e▸hg),V.log,V.live,hok,agL hok,V.rest,V.le,V.np,V.wr,V.ws,V.rs⟩,rfl⟩,fun g hg e=>?_,gm hm k3 fun e=>?_,rfl⟩,k3.mono fun g hg=>?_,fun g hg=>?_⟩
 ·rcases k4 g e with e|e
  ·exact hd g hg e
  ·have:=V.lt g hg;omega
 ·rcases e with e|e
  ·exact h0 e
  ·exact hp e.symm
 ·rcases hg with e|e
  ·exact .inl (.inl e)
  ·exact .inl (.inr (.inl e))
 ·rcases hg with e|e
  ·exact(k4 g e).imp Or.inl id
  ·exact .inl (.inr e)
theorem iA.pre (hb:Below w.heap.size w W){W2:World}(k:iA p q F W W2 s):iA p q F w W2 s:=by
 obtain⟨F',k1,k2,k3⟩:=k
 have:=hb.size
 exact⟨F',k1,(Out.of_below hb).trans k2 fun g hg=>.inl hg,fun g hg=>(k3 g hg).imp id fun e=>by omega⟩
def QS (p q:Nat) (F:Nat→Prop) (w:World) (r:Int×Rst.St) (e:Int) (W:World):Prop:=e=r.1∧(e≠6→iA p q F w W r.2)∧(e=6→iA p q F w (W.setCell ⟨p,1,none⟩ (.bool true)) r.2∧∃cs b,W.heap[p]? =some (.cells cs 60 (0,0))∧cs[1]? =some (.bool b))
theorem QS.no {r:Int×Rst.St}{e:Int}(h1:r=(e,s1))(h6:e≠6)(h:iA p q F w W s1):QS p q F w r e W:=by
 subst h1
 exact⟨rfl,fun _=>h,fun k=>absurd k h6⟩
theorem QS.six {r:Int×Rst.St}(h1:r=(6,Rst.brk s1))(h:iA p q F w W s1):QS p q F w r 6 W:=by
 subst h1
 refine⟨rfl,fun k=>absurd rfl k,fun _=>⟨h.brk,?_⟩⟩
 obtain⟨F',h,_⟩:=h
 obtain⟨_,vw,vr,vs,hb⟩:=h.at
 exact⟨_,_,hb,rfl⟩
theorem zo {r:Int×Rst.St}{B n:Nat}{fs:List Value}(hn:fs.length=n)(hl:n≤100)(hB:W.heap[B]? =some (.cells fs.toArray 134 (0,0)))(h:Run B (QS p q F w r) fs W):
  Calls Tryz.prog 50 #[.pointer (some ⟨p,0,none⟩),.slice (some ⟨B,0,none⟩) n n] W fun E w'=>E=.returned (.int .i64 r.1)∧iA p q F w w' r.2:=by
 refine(kJ (.pointer (some ⟨p,0,none⟩)) p B n fs W _ hn hl hB h ?_).mono ?_
 ·rintro W ⟨_,_,h⟩
  exact⟨rfl,(h rfl).2⟩
 ·rintro E w' ⟨e,W,rfl,⟨rfl,h2,h3⟩,⟨k,rfl⟩|⟨k,rfl⟩⟩
  ·exact⟨rfl,h2 k⟩
  ·exact⟨rfl,(h3 k).1⟩
theorem wU {r:Int×Rst.St}{B:Nat}{l:List Value}(h:PS p q F W s)(h0:iA p q F w W s)(ha:Rst.asked s=true→r=(6,Rst.brk s))(hr:Rst.asked s=false→Run B (QS p q F w r) l W):Run B (QS p q F w r) (.func (.func 51) #[.pointer (some ⟨p,0,none⟩)] #[]::l) W:=by
 obtain⟨F1,G,h1,⟨pw,pr,ps,Gw,Gr,Gs,lw,bw,br,V,rfl⟩,h3,hm,rfl⟩:=h
 refine Run.cons (enters_of Tryz.func51 (by kernel_rfl) rfl) (by simp) ((aln p q F1 W s.d s.off h1 (ai V.blk 0 rfl) (ai V.blk 1 rfl)).mono ?_)
 rintro E w' ⟨rfl,rfl⟩
 refine⟨_,rfl,rfl,?_⟩
 cases hc:Rst.asked s with
 |true=>
  have hc':(s.off|| !s.d.on)=true:=hc
  rw[if_pos hc',ha hc]
  exact .inl ⟨by decide,QS.six rfl h0⟩
 |false=>
  have hc':¬(s.off|| !s.d.on)=true:=by rw[show(s.off|| !s.d.on)=Rst.asked s from rfl,hc];simp
  rw[if_neg hc']
  exact .inr ⟨rfl,hr hc⟩
end
theorem akX (p q:Nat)(F:Nat→Prop)(w:World)(st:Dm.Ds)(h:Pk q F w st)(hs:Big 50000000 500000 st)(hp:w.cell? ⟨p,0,none⟩=some (.pointer (some ⟨q,0,none⟩)))(hpl:p<w.heap.size)(ho:st.on=true)(h3:T3 st):∀W,Below w.heap.size w W→
  Calls Tryz.prog 114 #[.pointer (some ⟨p,0,none⟩)] W fun E w'=>E=.returned (.int .i64 (Rst.hf 3 st).length)∧Below W.heap.size W w':=by
 intro W hW
 have e:W.cell? ⟨p,0,none⟩=w.cell? ⟨p,0,none⟩:=by have:=hW.block p hpl;simp[World.cell?,this]
 refine(ahl p q F W st (h.below hW) (hs.mono (by decide) (by decide)) (e.trans hp) ho).mono ?_
 rintro E w' ⟨ss,rfl,k,b⟩
 obtain⟨s2,r2,e2⟩:=h3
 have k:=k.out
 rw[e2]at k⊢
 rw[Orp.vC k (Orp.zW r2)]
 exact⟨rfl,b⟩
theorem ao3 (g:Nat)(x:Pm.Pg)(w:World)(hg:w.heap[g]? =some (.cells (cp x) 41 (0,0)))(hx:dW x)(hm:ib w):
  Calls Tryz.prog 76 #[.pointer (some ⟨g,0,none⟩)] w fun E w'=>E=.returned (.int .i64 (Pm.aJ x))∧Below w.heap.size w w':=by
 unfold cp at hg
 obtain⟨c0,c1,c2,c3,c4,c5⟩:=bO hg
 have PC:=hide (uj x w hx hm)
 unfold vp at PC
 clear hg hx hm
 go_enter Tryz.func76,Tryz.ntmps76
 go_wp2_with fail
 refine PC.out.mono ?_
 rintro E w' ⟨rfl,b⟩
 have B:=hide b
 clear b PC
 go_wp2
 go_ret
 exact⟨rfl,B.out⟩
theorem arq (g2 g3 p:Nat)(w:World)(r:Int)(h2:w.cell? ⟨g2,0,none⟩=some (.pointer (some ⟨p,0,none⟩)))(hs:Calls Tryz.prog 56 #[.pointer (some ⟨p,0,none⟩),.func (.func 79) #[] #[.pointer (some ⟨g3,0,none⟩)]] w fun E w'=>E=.returned (.int .i64 r)∧Below w.heap.size w w'):
  Calls Tryz.prog 78 #[.pointer (some ⟨g2,0,none⟩),.pointer (some ⟨g3,0,none⟩)] w fun E w'=>E=.returned (.int .i64 r)∧Below w.heap.size w w':=by
 have qf:∀(fn:Fn) (first cap:Array Value) (w:World),(Instr.makeFunc fn first cap).run Tryz.prog w=.ok (.func fn first cap) w:=fun _ _ _ _=>rfl
 have PC:=hide hs
 clear hs
 go_enter Tryz.func78,Tryz.ntmps78
 go_wp2_with fail
 refine PC.out.mono ?_
 rintro E w' ⟨rfl,b⟩
 have B:=hide b
 clear b PC
 go_wp2
 go_ret
 exact⟨rfl,B.out⟩
theorem apP (g2 g3 p:Nat)(x:Pm.Pg)(w:World)(R:Ending→World→Prop)(h2:w.cell? ⟨g2,0,none⟩=some (.pointer (some ⟨p,0,none⟩)))(hg:w.heap[g3]? =some (.cells (cp x) 41 (0,0)))(r:Int)(X:World→Prop)(hs:Calls Tryz.prog 81 #[.pointer (some ⟨p,0,none⟩),vp x] w fun E w'=>E=.returned (.int .i64 r)∧X w'):
  Calls Tryz.prog 80 #[.pointer (some ⟨g2,0,none⟩),.pointer (some ⟨g3,0,none⟩)] w fun E w'=>E=.returned (.int .i64 r)∧X w':=by
 unfold cp at hg
 obtain⟨c0,c1,c2,c3,c4,c5⟩:=bO hg
 have PC:=hide hs
 unfold vp at PC
 clear hs hg
 go_enter Tryz.func80,Tryz.ntmps80
 go_wp2_with fail
 refine PC.out.mono ?_
 rintro E w' ⟨rfl,b⟩
 have B:=hide b
 clear b PC
 go_wp2
 go_ret
 exact⟨rfl,B.out⟩
theorem aaT (p q:Nat)(F:Nat→Prop)(w:World)(s:Rst.St)(h:PS p q F w s)(hR:yf s)(h3:T3 s.d∧¬F 0)(x:Pm.Pg)(hx:dW x):Calls Tryz.prog 15 #[.pointer (some ⟨p,0,none⟩),vp x] w fun E w'=>E=.returned (.int .i64 (Rst.bQ s x).1)∧iA p q F w w' (Rst.bQ s x).2:=by
 have qf:∀(fn:Fn) (first cap:Array Value) (w:World),(Instr.makeFunc fn first cap).run Tryz.prog w=.ok (.func fn first cap) w:=fun _ _ _ _=>rfl
 obtain⟨w1,hw1,s1,b1,P1⟩:=ay w #[.pointer (some ⟨p,0,none⟩)] 25
 obtain⟨w2,hw2,s2,b2,P2⟩:=ay w1 (cp x) 41
 obtain⟨w3,hw3,s3,b3,P3⟩:=ay w2 #[.func (.func 51) #[.pointer (some ⟨p,0,none⟩)] #[],.func (.func 76) #[] #[.pointer (some ⟨w.heap.size+1,0,none⟩)],.func (.func 78) #[] #[.pointer (some ⟨w.heap.size,0,none⟩),.pointer (some ⟨w.heap.size+1,0,none⟩)],.func (.func 80) #[] #[.pointer (some ⟨w.heap.size,0,none⟩),.pointer (some ⟨w.heap.size+1,0,none⟩)]] 134
 have z2:w2.heap.size=w.heap.size+2:=by omega
 have z3:w3.heap.size=w.heap.size+3:=by omega
 rw[s1]at P2
 rw[z2]at P3
 have fH:Below w.heap.size w w3:=(b1.trans (b2.mono (by omega))).trans (b3.mono (by omega))
 have c2:w2.cell? ⟨w.heap.size,0,none⟩=some (.pointer (some ⟨p,0,none⟩)):=ai ((b2.block _ (by omega)).trans P1) 0 rfl
 have t3:=(b3.block _ (by omega)).trans ((b2.block _ (by omega)).trans P1)
 have u3:=(b3.block _ (by omega)).trans P2
 have qY:=h.below fH
 have RUN:Run (w.heap.size+2) (QS p q F w (Rst.bQ s x)) [.func (.func 51) #[.pointer (some ⟨p,0,none⟩)] #[],.func (.func 76) #[] #[.pointer (some ⟨w.heap.size+1,0,none⟩)],.func (.func 78) #[] #[.pointer (some ⟨w.heap.size,0,none⟩),.pointer (some ⟨w.heap.size+1,0,none⟩)],.func (.func 80) #[] #[.pointer (some ⟨w.heap.size,0,none⟩),.pointer (some ⟨w.heap.size+1,0,none⟩)]] w3:=by
  refine wU qY (iA.same h fH) (fun k=>by unfold Rst.bQ;rw[if_pos k]) fun gu=>?_
  have hon:s.d.on=true:=by
   unfold Rst.asked at gu
   revert gu
   cases s.d.on<;>simp
  have hoff:s.off=false:=by
   unfold Rst.asked at gu
   revert gu
   cases s.off<;>simp
  refine Run.cons (enters_of Tryz.func76 (by kernel_rfl) rfl) (by simp) ((ao3 _ x w3 u3 hx qY.gB).mono ?_)
  rintro E w4 ⟨rfl,b4⟩
  have nI:=fH.trans (b4.mono (by omega))
  refine⟨_,rfl,b4.block _ (by omega),?_⟩
  by_cases hc:Pm.aJ x=0
  ·have hok:Pm.Ok x:=Pm.adw.1 hc
   refine .inr ⟨hc,?_⟩
   have hS4:=h.below nI
   have z4:=b4.size
   have t4:=(b4.block _ (by omega)).trans t3
   have u4:=(b4.block _ (by omega)).trans u3
   obtain⟨F1,G,h1,⟨pw,pr,ps,Gw,Gr,Gs,lw,bw,br,V,rfl⟩,hd,hm,rfl⟩:=hS4
   obtain⟨rfl,rfl,rfl⟩:=V.live hoff
   have hb:=V.blk
   have SC:=ym p q pw pr _ _ w4 _ _ _ _ _ _ hb (V.ww h1) (V.rw h1) 79 #[.pointer (some ⟨w.heap.size+1,0,none⟩)] (enters_of Tryz.func79 (by kernel_rfl) rfl) x _ _ _ (Rst.hf 3 s.d).length (at7 w4 p (w.heap.size+1) s.p x _ _ _ u4) (fun _=>akX p q F1 w4 s.d h1 hR.1 (ai hb 0 rfl) (aA hb) hon h3.1)
   simp only at SC
   rw[zx hok]at SC
   refine Run.cons (enters_of Tryz.func78 (by kernel_rfl) rfl) (by simp) ((arq _ _ p w4 _ (ai t4 0 rfl) SC).mono ?_)
   rintro E w5 ⟨rfl,b5⟩
   have oH:=nI.trans (b5.mono (by omega))
   have z5:=b5.size
   refine⟨_,rfl,b5.block _ (by omega),?_⟩
   have hfi:Rst.fine s x s.l (Cm.lastN 0 s.r)=Rst.snd x s.l (Cm.lastN 0 s.r) (Rst.hf 3 s.d).length:=rfl
   cases hsn:Rst.snd x s.l (Cm.lastN 0 s.r) (Rst.hf 3 s.d).length with
   |false=>
    rw[if_neg (by simp)]
    have hr:Rst.bQ s x=(5,s):=by
     unfold Rst.bQ
     rw[if_neg (by simp[gu]),if_neg (by simp[hc]),if_pos (hfi.trans hsn)]
    exact .inl ⟨by decide,QS.no hr (by decide) (iA.same h oH)⟩
   |true=>
    rw[if_pos rfl]
    refine .inr ⟨rfl,?_⟩
    have V5:=V.below b5
    have h15:=h1.below b5
    have hm5:=hm.below b5
    have TU:=aqW p q F1 w5 s.d s.off s.p x _ _ _ _ h15 hR.1 V5.blk (hd p (.inl rfl)) hok hm5
    have hr:Rst.bQ s x=if (Rst.ext s.d 1 (Fm.dh (Pm.enc x))).1≠0 then(6,⟨(Rst.ext s.d 1 (Fm.dh (Pm.enc x))).2,s.p,s.l,s.r,true⟩)else(0,⟨(Rst.ext s.d 1 (Fm.dh (Pm.enc x))).2,x,s.l,s.r,s.off⟩):=by
     unfold Rst.bQ
     rw[if_neg (by simp[gu]),if_neg (by simp[hc]),if_neg (by rw[hfi,hsn];simp)]
    have qU:(Rst.ext s.d 1 (Fm.dh (Pm.enc x))).1=0∨(Rst.ext s.d 1 (Fm.dh (Pm.enc x))).1=6:=by
     unfold Rst.ext
     split
     ·exact .inr rfl
     ·split
      ·exact .inr rfl
      ·exact .inl rfl
    generalize Rst.ext s.d 1 (Fm.dh (Pm.enc x))=ex at*
    obtain⟨ee,d'⟩:=ex
    simp only at*
    refine Run.cons (enters_of Tryz.func80 (by kernel_rfl) rfl) (by simp) ((apP _ _ p x w5 (fun _ _=>True) (ai ((b5.block _ (by omega)).trans t4) 0 rfl) ((b5.block _ (by omega)).trans u4) _ _ TU).mono ?_)
    rintro E w6 ⟨rfl,F2,k1,k2,k3,k4⟩
    have hsz:=k3.size
    have nF:¬(F1 (w.heap.size+2)∨w.heap.size+2=p):=by
     rintro(e|e)
     ·have:=h.lt _ (.inl e);omega
     ·have:=h.lt _ (.inr (.inl e));omega
    refine⟨_,rfl,k3.block _ (by omega) nF,?_⟩
    rcases qU with rfl|rfl
    ·rw[if_pos rfl]at k2
     rw[if_neg (by simp)]at hr
     exact .inr ⟨rfl,QS.no hr (by decide) ((ajq V5 hd hm5 (fun e=>h3.2 (.inl e)) hok k1 k2 k3 k4).pre oH)⟩
    ·rw[if_neg (by decide)]at k2
     rw[if_pos (by simp)]at hr
     exact .inl ⟨by decide,QS.six (s1:=⟨d',s.p,s.l,s.r,s.off⟩) hr ((ajq V5 hd hm5 (fun e=>h3.2 (.inl e)) V.ok k1 k2 k3 k4).pre oH)⟩
  ·have hr:Rst.bQ s x=(Pm.aJ x,s):=by
    unfold Rst.bQ
    rw[if_neg (by simp[gu]),if_pos hc]
   have h6:Pm.aJ x≠6:=by unfold Pm.aJ;split<;>decide
   exact .inl ⟨hc,QS.no hr h6 (iA.same h nI)⟩
 have HC:=hide (zo (n:=4) rfl (by omega) P3 RUN)
 generalize Rst.bQ s x=r at*
 unfold cp at hw2
 unfold vp
 clear RUN h hR h3 hx b1 b2 b3 P1 P2 P3 s2 s3 z3 fH t3 u3 qY
 go_enter Tryz.func15,Tryz.ntmps15
 go_wp2_with fail
 refine HC.out.mono ?_
 rintro E w' ⟨rfl,X⟩
 have X:=hide X
 clear HC
 go_wp2
 go_ret
 exact⟨rfl,X.out⟩
theorem alU {l cs:List Cm.Cv}(hl:Cm.Good 0 0 l)(h:Cm.Good (Cm.lastE 0 l) l.length cs)(k:Nat)(hk:k<cs.length):Cm.Good 0 0 (l++cs.take k)∧Cm.aJ (cs[k]).e (cs[k]).n (cs[k]).l=0∧(cs[k]).n-1=(l++cs.take k).length∧Cm.lastE 0 (l++cs.take k)≤(cs[k]).e:=by
 have h0:Cm.Good 0 0 (l++cs):=(Cm.dG _ _ _ _).2 ⟨hl,by rw[Wl.kU hl];exact h⟩
 rw[←List.take_append_drop k cs,←List.append_assoc]at h0
 obtain⟨h1,h2⟩:=(Cm.dG _ _ _ _).1 h0
 rw[Wl.kU h1,List.drop_eq_getElem_cons hk]at h2
 exact⟨h1,h2.1,h2.2.1,h2.2.2.1⟩
theorem atN {d:Dm.Ds}{l:List Cm.Cv}{c:Cm.Cv}(h1:Cm.aJ c.e c.n c.l=0)(h2:c.n-1=l.length)(h3:Cm.lastE 0 l≤c.e):
  Wl.mQ ⟨d,l,false⟩ c=if (Dm.write d 0 (Wl.fr c)).1≠0 then(6,⟨(Dm.write d 0 (Wl.fr c)).2,l,true⟩)else(0,⟨(Dm.write d 0 (Wl.fr c)).2,l++[c],false⟩):=by
 unfold Wl.mQ
 cases ho:d.on with
 |false=>
  have ha:Wl.ask ⟨d,l,false⟩=true:=by simp[Wl.ask,ho]
  have hw:Dm.write d 0 (Wl.fr c)=(6,d):=by unfold Dm.write;rw[if_pos ho]
  rw[if_pos ha,hw]
  rfl
 |true=>
  have ha:¬Wl.ask ⟨d,l,false⟩=true:=by simp[Wl.ask,ho]
  rw[if_neg ha,if_neg (by simp[h1]),if_neg (by simp only;omega)]
  have e:=zD (st:=d) (Wl.fr c)
  split
  ·rename_i hx
   rcases e with e|e
   ·exact absurd e hx
   ·rw[e]
  ·rfl
theorem auQ (d:Dm.Ds)(l:List Cm.Cv):∃bk,Wl.ahu ⟨d,l,false⟩=((Dm.sync d).1,⟨(Dm.sync d).2,l,bk⟩)∧((Dm.sync d).1=0→bk=false):=by
 unfold Wl.ahu
 cases ho:d.on with
 |false=>
  have ha:Wl.ask ⟨d,l,false⟩=true:=by simp[Wl.ask,ho]
  have hw:Dm.sync d=(6,d):=by unfold Dm.sync;rw[if_pos ho]
  rw[if_pos ha,hw]
  exact⟨true,rfl,fun k=>absurd k (by show ¬(6:Int)=0;decide)⟩
 |true=>
  have ha:¬Wl.ask ⟨d,l,false⟩=true:=by simp[Wl.ask,ho]
  rw[if_neg ha]
  exact⟨_,rfl,fun k=>by simp[k]⟩
def sQ (pw q:Nat) (FW:Nat→Prop) (w wr:World) (l cs:List Cm.Cv) (d:Dm.Ds) (k:Nat):Prop:=
 ∃Fk dk,WW pw q Fk wr ⟨dk,l++cs.take k,false⟩∧Out FW w wr∧(∀g,Fk g→FW g∨w.heap.size≤g)∧Rst.wrs d cs=Rst.wrs dk (cs.drop k)∧Big (50000000+433*k) (500000+7*k) dk
def ExO (pw q:Nat) (FW:Nat→Prop) (w w':World) (l cs:List Cm.Cv) (d:Dm.Ds):Prop:=
 ∃F' lw bk,WW pw q F' w' ⟨(Rst.fK d cs).2,lw,bk⟩∧l=lw.take l.length∧((Rst.fK d cs).1=0→lw=l++cs∧bk=false)∧Out FW w w'∧∀g,F' g→FW g∨w.heap.size≤g
theorem sQ.box {pw q:Nat}{FW:Nat→Prop}{w wr V:World}{l cs:List Cm.Cv}{d:Dm.Ds}{k:Nat}(h:sQ pw q FW w wr l cs d k)(hb:Below wr.heap.size wr V):sQ pw q FW w V l cs d k:=by
 obtain⟨Fk,dk,h1,h2,h3,h4,h5⟩:=h
 exact⟨Fk,dk,h1.below hb,h2.trans (Out.of_below (F:=fun _=>False) hb) fun g hg=>hg.elim,h3,h4,h5⟩
theorem anm (v:Value)(pw q:Nat)(FW:Nat→Prop)(w V:World)(l:List Cm.Cv)(rs:List Cw)(d:Dm.Ds)(k:Nat)(hk:k<rs.length)(h:sQ pw q FW w V l (aD rs) d k)(hl:Cm.Good 0 0 l)(hg:Cm.Good (Cm.lastE 0 l) l.length (aD rs))(hn:rs.length≤100)(hc:fJ V v rs)(hf:fF rs)(jB:∀c∈rs,0<c.l.length→∀b,c.v.ownBlock=some b→b<w.heap.size∧¬FW b):
  Calls Tryz.prog 119 #[.pointer (some ⟨pw,0,none⟩),cZ (rs[k]).e (rs[k]).n (rs[k]).v] V fun E w'=>∃e,E=.returned (.int .i64 e)∧Out FW w w'∧((e=0∧sQ pw q FW w w' l (aD rs) d (k+1))∨(e≠0∧e=(Rst.fK d (aD rs)).1∧ExO pw q FW w w' l (aD rs) d)):=by
 obtain⟨Fk,dk,h1,h2,h3,h4,h5⟩:=h
 have hm:rs[k]∈rs:=List.getElem_mem hk
 have hkc:k<(aD rs).length:=by unfold aD;simpa using hk
 have hce:(aD rs)[k]=(rs[k]).c:=List.getElem_map _
 obtain⟨g1,g2,g3,g4⟩:=alU hl hg k hkc
 rw[hce]at g2 g3 g4
 obtain⟨i1,i2⟩:=hc.2 _ hm
 have hlo:(rs[k]).l.length*40≤140737488351232:=by
  have:=(hf _ hm).2
  omega
 have AP:=ais pw q Fk V ⟨dk,l++(aD rs).take k,false⟩ (rs[k]) h1 (h5.mono (by omega) (by omega)) i1 (hf _ hm).1 i2 hlo (fun h0 b hb hF=>by
  obtain⟨q1,q2⟩:=jB _ hm h0 b hb
  rcases h3 b hF with e|e
  ·exact q2 e
  ·omega)
 rw[atN g2 g3 g4]at AP
 rw[List.drop_eq_getElem_cons hkc,hce,show Rst.wrs dk ((rs[k]).c::(aD rs).drop (k+1))=(if (Dm.write dk 0 (Wl.fr (rs[k]).c)).1≠0 then(6,(Dm.write dk 0 (Wl.fr (rs[k]).c)).2)else Rst.wrs (Dm.write dk 0 (Wl.fr (rs[k]).c)).2 ((aD rs).drop (k+1)))from rfl]at h4
 have hb:=mo h5 0 (Wl.fr (rs[k]).c)
 have hfs:=Wl.kR (c:=(rs[k]).c) g2
 have hcn:cnt (Wl.fr (rs[k]).c).length≤7:=by unfold cnt;omega
 refine AP.mono ?_
 rintro E w' ⟨rfl,F',k1,k2,k3⟩
 have o':Out FW w w':=h2.trans k2 h3
 have hs:=h2.size
 have n':∀g,F' g→FW g∨w.heap.size≤g:=fun g hg=>by
  rcases k3 g hg with e|e
  ·exact h3 g e
  ·exact .inr (by omega)
 by_cases he:(Dm.write dk 0 (Wl.fr (rs[k]).c)).1=0
 ·rw[if_neg (by simp[he])]at k1 h4⊢
  refine⟨0,rfl,o',.inl ⟨rfl,F',_,?_,o',n',h4,hb.mono (by omega) (by omega)⟩⟩
  rw[show(aD rs).take (k+1)=(aD rs).take k++[(rs[k]).c]by rw[List.take_add_one,List.getElem?_eq_getElem hkc,hce];rfl,←List.append_assoc]
  exact k1
 ·rw[if_pos he]at k1 h4⊢
  have hw:Rst.fK d (aD rs)=(6,(Dm.write dk 0 (Wl.fr (rs[k]).c)).2):=by unfold Rst.fK;rw[h4];simp
  refine⟨6,rfl,o',.inr ⟨by decide,by rw[hw],F',l++(aD rs).take k,true,?_,by simp,fun k=>by rw[hw]at k;exact absurd k (by show ¬(6:Int)=0;decide),o',n'⟩⟩
  rw[hw]
  exact k1
theorem aqi (pw q:Nat)(FW:Nat→Prop)(w V:World)(l:List Cm.Cv)(cs:List Cm.Cv)(d:Dm.Ds)(h:sQ pw q FW w V l cs d cs.length)(hn:cs.length≤100):
  Calls Tryz.prog 120 #[.pointer (some ⟨pw,0,none⟩)] V fun E w'=>E=.returned (.int .i64 (Rst.fK d cs).1)∧ExO pw q FW w w' l cs d:=by
 obtain⟨Fk,dk,h1,h2,h3,h4,h5⟩:=h
 rw[List.drop_length]at h4
 rw[List.take_length]at h1
 have hw:Rst.fK d cs=((Dm.sync dk).1,(Dm.sync dk).2):=by
  unfold Rst.fK
  rw[h4]
  unfold Rst.wrs
  rw[if_neg (by simp)]
  rcases mJ dk with e|e
  ·rw[if_neg (by simp[e]),e]
  ·rw[if_pos (by simp[e]),e]
 obtain⟨bk,e1,e2⟩:=auQ dk (l++cs)
 have SY:=amU pw q Fk V ⟨dk,l++cs,false⟩ h1 (h5.mono (by omega) (by omega))
 rw[e1]at SY
 refine SY.mono ?_
 rintro E w' ⟨rfl,F',k1,k2,k3⟩
 have hs:=h2.size
 refine⟨by rw[hw],F',l++cs,bk,?_,by simp,fun k=>⟨rfl,e2 (by rw[hw]at k;exact k)⟩,h2.trans k2 h3,fun g hg=>?_⟩
 ·rw[hw];exact k1
 ·rcases k3 g hg with e|e
  ·exact h3 g e
  ·exact .inr (by omega)
end Go.Proofs.YtpifdeoepppadaaGreatDoor
