/- Texts. -/
import Derived.Test.YtlmkaljjocflmaaGreatDoorBH16
import Derived.Test.YtlmkaljjocflmaaGreatDoorBH12
import Derived.Test.YtlmkaljjocflmaaGreatDoorBM4
import Derived.Test.YtlmkaljjocflmaaGreatDoorBH2
import Derived.Test.YtlmkaljjocflmaaGreatDoorBH18
import Derived.Test.YtlmkaljjocflmaaGreatDoorBH19
import Derived.Test.YtlmkaljjocflmaaGreatDoorBH21
import Derived.Test.YtlmkaljjocflmaaGreatDoorBH22
import Derived.Deep.RegionHeld3
import Derived.Test.YtlmkaljjocflmaaGreatDoorBH24
import Derived.Defers
import Derived.Test.YtlmkaljjocflmaaGreatDoorBH20
import Derived.Test.YtlmkaljjocflmaaGreatDoorBH23
import Derived.Deep.RegionWith
set_option maxRecDepth 100000
set_option maxHeartbeats 8000000
set_option linter.unusedVariables false
open Go.Proofs.Tryz
namespace Go.Proofs.YtlmkaljjocflmaaGreatDoor
open Go.RowKit
open Bm (Ov)
theorem afD (p q:Nat)(F1:Nat→Prop)(w:World)(d:Dm.Ds)(bk:Bool)(v:Value)(hB:w.heap[p]? =some (.cells #[.pointer (some ⟨q,0,none⟩),.bool bk,v] 276 (0,0)))(h1:Pk q F1 w d):
  Calls prog 319 #[.pointer (some ⟨p,0,none⟩)] w fun E w'=>(E=.returned (.int .i64 6)∧Out (fun g=>g=p) w w')∨(E=.returned (.int .i64 0)∧w=w'):=by
 have HM:=hide (nR p q w _ _ hB)
 have HO:=hide (xU q F1 w d h1)
 have c0:=ai hB 0 rfl
 have c1:=ai hB 1 rfl
 have f1:=aA hB 1
 simp only[List.getElem_toArray,List.getElem_cons_zero,List.getElem_cons_succ]at c0 c1
 have OX:Hid (Out (fun g=>g=p) w (w.setCell ⟨p,1,none⟩ (.bool true))):=hide (Out.aM (ax w ⟨p,1,none⟩ (.bool true)) fun g hg=>by simp at hg;exact hg.symm)
 generalize d.on=on at HO
 clear hB h1
 cases bk<;>cases on
 ·go_enter func319,ntmps319
  go_wp2_with fail
  refine HM.out.mono ?_
  rintro E w1 ⟨rfl,rfl⟩
  go_wp2_with fail
  refine HO.out.mono ?_
  rintro E w1 ⟨rfl,rfl⟩
  go_wp2
  go_ret
  exact .inl ⟨rfl,OX.out⟩
 ·go_enter func319,ntmps319
  go_wp2_with fail
  refine HM.out.mono ?_
  rintro E w1 ⟨rfl,rfl⟩
  go_wp2_with fail
  refine HO.out.mono ?_
  rintro E w1 ⟨rfl,rfl⟩
  go_wp2
  go_ret
  exact .inr ⟨rfl,rfl⟩
 ·go_enter func319,ntmps319
  go_wp2_with fail
  refine HM.out.mono ?_
  rintro E w1 ⟨rfl,rfl⟩
  go_wp2
  go_ret
  exact .inl ⟨rfl,OX.out⟩
 ·go_enter func319,ntmps319
  go_wp2_with fail
  refine HM.out.mono ?_
  rintro E w1 ⟨rfl,rfl⟩
  go_wp2
  go_ret
  exact .inl ⟨rfl,OX.out⟩
theorem ajw (p q:Nat)(F1:Nat→Prop)(w:World)(d:Dm.Ds)(bk:Bool)(v:Value)(hB:w.heap[p]? =some (.cells #[.pointer (some ⟨q,0,none⟩),.bool bk,v] 276 (0,0)))(h1:Pk q F1 w d):
  Calls prog 293 #[.pointer (some ⟨p,0,none⟩),.agg #[.int .i64 0,.int .i64 0,.slice none 0 0]] w fun E w'=>(E=.returned (.int .i64 6)∨E=.returned (.int .i64 2))∧Out (fun g=>g=p) w w':=by
 obtain⟨w1,hw1,aV,aj,hB0⟩:=au w #[.int .i64 0,.int .i64 0,.slice none 0 0] 273
 have c0:w1.cell? ⟨w.heap.size,0,none⟩=some (.int .i64 0):=ai hB0 0 rfl
 have c1:w1.cell? ⟨w.heap.size,1,none⟩=some (.int .i64 0):=ai hB0 1 rfl
 have c2:w1.cell? ⟨w.heap.size,2,none⟩=some (.slice none 0 0):=ai hB0 2 rfl
 have HR:=hide (afD p q F1 w1 d bk v ((aj.block p (ay hB)).trans hB) (h1.below aj))
 have qN:=hide (zM 0 0 (.slice none 0 0) [] w1 (bM.nil _) (fun o ho=>by simp at ho) (by simp))
 unfold cK at qN
 rw[show Rn.chk 0 0 []=2 from rfl]at qN
 have B1:=hide aj
 clear hB h1 hB0 aj aV
 go_enter func293,ntmps293
 go_wp2_with fail
 refine HR.out.mono ?_
 rintro E w2 (⟨rfl,o2⟩|⟨rfl,rfl⟩)
 ·have O2:=hide ((Out.of_below (F:=fun g=>g=p) B1.out).trans o2 fun g hg=>.inl hg)
  clear o2 HR
  go_wp2
  go_ret
  exact⟨.inl rfl,O2.out⟩
 ·clear HR
  go_wp2_with fail
  refine qN.out.mono ?_
  rintro E w2 ⟨vb,rfl,own,az⟩
  obtain⟨ab,cb,hvb,_,_⟩:=own.is.shape
  have O2:=hide (Out.of_below (F:=fun g=>g=p) (B1.out.trans (az.mono B1.out.size)))
  subst hvb
  clear own az
  go_wp2
  go_ret
  exact⟨.inr rfl,O2.out⟩
theorem ahc (p q:Nat)(F:Nat→Prop)(w:World)(s:Rl.Rs)(h:RW p q F w s):
  Calls prog 239 #[.pointer (some ⟨p,0,none⟩)] w fun E w'=>E=.returned (.bool true)∧Below w.heap.size w w':=by
 obtain⟨F1,G1,h1,⟨v,rs,hv,hG⟩,hF⟩:=h
 have c0:=ai hv.blk 0 rfl
 have c1:=ai hv.blk 1 rfl
 have c2:=ai hv.blk 2 rfl
 simp only[List.getElem_toArray,List.getElem_cons_zero,List.getElem_cons_succ]at c0 c1 c2
 obtain⟨V,hV1,hV,iy,bV,BV,x0,x1,x2⟩:=eY w 276 (.pointer none) (.bool false) (.slice none 0 0) (.pointer (some ⟨q,0,none⟩)) (.bool s.bk) v
 have kR:=hide (ajw w.heap.size q F1 V s.d s.bk v BV (h1.below bV))
 obtain⟨la,ln,lk,hlv⟩:∃a n k,v=.slice a n k:=by
  obtain⟨a1,k1,h1,_⟩:=hv.log.row.row.shape
  exact⟨a1,_,k1,h1⟩
 have B1:=hide bV
 generalize s.bk=bk at*
 subst hlv
 clear hv h1 hF hG bV BV iy
 go_enter func239,ntmps239
 go_wp2_with fail
 refine kR.out.mono ?_
 rintro E w2 ⟨rfl|rfl,o2⟩
 all_goals
  have O2:=hide (B1.out.trans (o2.below (base:=w.heap.size) (fun g hg=>by omega) B1.out.size))
  clear o2 kR
  go_wp2
  go_ret
  exact⟨rfl,O2.out⟩
theorem avC {p q:Nat}{F:Nat→Prop}{w w1 w2:World}{r:Rl.Rs}(h:RW p q F w r)(hb:Below w.heap.size w w1)(ht:Tb (w.heap.size+1) w.heap.size w1 [])(hw:w1.alloc (.cells #[.pointer (some ⟨p,0,none⟩),.slice none 0 0,.pointer (some ⟨w.heap.size+1,0,none⟩)] 288)=w2):
  Sk w1.heap.size p (SB w1.heap.size (w.heap.size+1) w.heap.size (.slice none 0 0) []) w2 []∧Below w.heap.size w w2∧∀g,SB w1.heap.size (w.heap.size+1) w.heap.size (.slice none 0 0) [] g→w.heap.size≤g:=by
 obtain⟨W,hW,sz,aI,hB⟩:=au w1 #[.pointer (some ⟨p,0,none⟩),.slice none 0 0,.pointer (some ⟨w.heap.size+1,0,none⟩)] 288
 rw[hw]at hW
 subst hW
 have hs:=hb.size
 have hge:∀g,SB w1.heap.size (w.heap.size+1) w.heap.size (.slice none 0 0) [] g→w.heap.size≤g:=by
  rintro g (e|e|e|e|⟨c,hc,_⟩)
  ·omega
  ·omega
  ·omega
  ·simp[Value.ownBlock]at e
  ·simp at hc
 exact⟨⟨_,_,_,_,⟨hB,Rt.nil _ _,ht.below aI⟩,rfl⟩,hb.trans (aI.mono hs),hge⟩
theorem al4 (p q:Nat)(F:Nat→Prop)(w:World)(r:Rl.Rs)(vr:Value)(rs:List Cw)(h:RW p q F w r)(hr:gD w vr rs)(hf:jH rs)(hl:rs.length≤100000):
  Calls prog 181 #[.pointer (some ⟨p,0,none⟩),vr] w fun E w'=>((Cm.fol 1 (Cm.lastN 0 r.l) 0 (aD rs)).1≠0∧E=.returned (.tuple #[.pointer none,.int .i64 (Cm.fol 1 (Cm.lastN 0 r.l) 0 (aD rs)).1])∧Below w.heap.size w w')∨((Cm.fol 1 (Cm.lastN 0 r.l) 0 (aD rs)).1=0∧∃ps,E=.returned (.tuple #[.pointer (some ⟨ps,0,none⟩),.int .i64 0])∧∃G,Sk ps p G w' (aD rs)∧(∀g,G g→w.heap.size≤g)∧Below w.heap.size w w'):=by
 have HM:=hide (ahc p q F w r h)
 have HW:=hide h
 have HI:=hide hr
 have HFC:=hide hf
 have hgl:=Rl.fM h.good
 obtain⟨ra,rk,hvr,_,_⟩:=hr.1.shape
 obtain⟨fe,hfe⟩:∃x,(Cm.fol 1 (Cm.lastN 0 r.l) 0 (aD rs)).1=x:=⟨_,rfl⟩
 obtain⟨fp,hfp⟩:∃x,(Cm.fol 1 (Cm.lastN 0 r.l) 0 (aD rs)).2=x:=⟨_,rfl⟩
 have hat:=Cm.abW (aD rs) 1 (Cm.lastN 0 r.l) 0
 rw[hfe,hfp]at hat
 rw[hfe]
 have HAT:=hide hat
 have HGD:Hid (fe=0→Cm.Good 1 (Cm.lastN 0 r.l) (aD rs)):=hide fun e=>(Cm.iN _ _ _ 0).1 (by rw[hfe];exact e)
 have HFE:=hide (And.intro hfe hfp)
 obtain⟨n,hn⟩:∃n,rs.length=n:=⟨_,rfl⟩
 have HN:=hide hn
 rw[hn]at hvr hl
 have HVR:=hide hvr
 have q1:=Tryz.agJ fe fp 0 0
 have q2:=Tryz.yE .neq
 clear h hr hf hat hfe hfp hn hgl
 rw[hvr]
 clear hvr
 go_enter func181,ntmps181
 go_wp2_with fail
 refine HM.out.mono ?_
 rintro E w1 ⟨rfl,aj⟩
 have W1:=hide (HW.out.below aj)
 have I1:=hide (show gD w1 vr rs from⟨HI.out.1.below aj,fun c hc=>⟨(HI.out.2 c hc).1.below aj,(HI.out.2 c hc).2⟩⟩)
 have HE:=hide (jy p q F w1 r W1.out)
 have B1:=hide aj
 clear HM aj
 go_wp2_with fail
 refine HE.out.mono ?_
 rintro E w2 ⟨rfl,rfl⟩
 have HF:=hide (q9 1 (Cm.lastN 0 r.l) vr rs w1 I1.out HFC.out (by have:=HN.out;omega))
 unfold zP at HF
 rw[HFE.out.1,HFE.out.2,HVR.out]at HF
 clear HE
 go_wp2_with fail
 refine HF.out.mono ?_
 rintro E w2 ⟨rfl,az⟩
 obtain⟨w3,hw3,hw32,bO,aC,hF3,x0,x1⟩:=zt w2 31 (.int .i64 0) (.int .i64 0) (.int .i64 fe) (.int .i64 fp)
 have b13:=az.trans (aC.mono az.size)
 have B3:=hide (B1.out.trans (b13.mono B1.out.size))
 have W3:=hide (W1.out.below b13)
 have I3:=hide (show gD w3 vr rs from⟨I1.out.1.below b13,fun c hc=>⟨(I1.out.2 c hc).1.below b13,(I1.out.2 c hc).2⟩⟩)
 have HF3:=hide hF3
 clear HF az aC b13 hF3 W1 I1 HW HI B1 bO
 by_cases hf0:fe=0
 ·have hp0:=HAT.out hf0
  have gd:=HGD.out hf0
  subst hf0
  subst hp0
  have GD:=hide gd
  have z0:w3.setCell ⟨w2.heap.size,0,none⟩ (.int .i64 0)=w3:=aK HF3.out (j:=0) rfl
  have z1:w3.setCell ⟨w2.heap.size,1,none⟩ (.int .i64 0)=w3:=aK HF3.out (j:=1) rfl
  have f0:=aA HF3.out 0
  have f1:=aA HF3.out 1
  clear gd HGD HAT HFE HF3
  go_wp2_with fail
  refine(aaI w3).mono ?_
  rintro E w4 ⟨rfl,T4,b4⟩
  obtain⟨w5,iw⟩:∃x,w4.alloc (.cells #[.pointer (some ⟨p,0,none⟩),.slice none 0 0,.pointer (some ⟨w3.heap.size+1,0,none⟩)] 288)=x:=⟨_,rfl⟩
  obtain⟨S5,b35,hge⟩:=avC W3.out b4 T4 iw
  have Q0:Hid (∃G,Sk w4.heap.size p G w5 (aD (rs.take 0))∧(∀g,G g→w3.heap.size≤g)∧Below w3.heap.size w3 w5):=hide ⟨_,S5,hge,b35⟩
  clear S5 b35 hge T4 b4
  go_wp2
  go_loopw [28] (fun iv wr=>∃k:Nat,k≤n∧iv=.int .i64 k∧Hid (∃G,Sk w4.heap.size p G wr (aD (rs.take k))∧(∀g,G g→w3.heap.size≤g)∧Below w3.heap.size w3 wr)) (fun iv _=>n-(intOf iv).toNat)
  case atStart=>exact⟨0,by omega,rfl,Q0⟩
  case round=>
   obtain⟨k,hk,rfl,HQ⟩:=hrel
   clear Q0
   by_cases hlt:k<n
   ·obtain⟨⟨ce,cn,cv,cl⟩,hc⟩:∃c,rs[k]? =some c:=⟨rs[k]'(by have:=HN.out;omega),by rw[List.getElem?_eq_getElem]⟩
    obtain⟨g,off,cq,dI,_,_,hgw,hcell⟩:=I3.out.1.full (by have:=HN.out;omega)
    rw[HN.out,HVR.out]at dI
    simp only[Value.slice.injEq,true_and]at dI
    obtain⟨rfl,rfl⟩:=dI
    obtain⟨c0,c1,c2⟩:=hcell k _ hc
    have hm:=List.mem_of_getElem? hc
    obtain⟨G,⟨pm,bm,v,rr,hs,rfl⟩,hge,BR⟩:=HQ.out
    have jP:=((I3.out.2 _ hm).1).below BR
    have d0:=(BR.cell (p:=⟨g,off+k*3,none⟩) hgw).trans c0
    have d1:=(BR.cell (p:=⟨g,off+k*3+1,none⟩) hgw).trans c1
    have d2:=(BR.cell (p:=⟨g,off+k*3+2,none⟩) hgw).trans c2
    obtain⟨oa,ok,hvo,_,_⟩:=jP.shape
    obtain⟨wc,hwc,aqX,szc,kU,bC,y0,y1,y2⟩:=eY wr 35 (.int .i64 0) (.int .i64 0) (.slice none 0 0) (.int .i64 ce) (.int .i64 cn) cv
    have hnx:=agj hc
    have hgk:Cm.Good 1 (Cm.lastN 0 r.l) (aD (rs.take k)):=by
     rw[aak]
     exact Cm.kr GD.out _
    have hch:Cm.chk ce cn cl=0:=(Sto.gI GD.out _ (List.mem_map.2 ⟨_,hm,rfl⟩)).1
    have HA:=hide (adJ w4.heap.size p pm bm wc (aD (rs.take k)) v rr ⟨ce,cn,cv,cl⟩ (hs.below kU) (jP.below kU) hch (fun hp b hb hf=>by
     have h1:=hge b hf
     obtain⟨g',off',cap',hv',_,_,hg',_⟩:=((I3.out.2 _ hm).1).full hp
     simp only at hv' hb
     rw[hv']at hb
     simp[Value.ownBlock]at hb
     omega) (by rw[aD,List.length_map,List.length_take];omega) (Sto.zb hgk))
    unfold cK at HA
    simp only at c0 c1 c2 d0 d1 d2 hvo HA
    rw[show aD (rs.take k)++[(⟨ce,cn,cv,cl⟩:Cw).c]=aD (rs.take (k+1))from hnx.symm]at HA
    subst hvo
    have hlt':(k:Int)<n:=by omega
    have hk0:(0:Int)≤(k:Int):=by omega
    have HX:=hide (And.intro BR (And.intro kU hge))
    clear hcell c0 c1 c2 hc hm jP bC kU hnx hgk hch hs BR hge
    go_wp2_with fail
    refine HA.out.mono ?_
    rintro E w6 ⟨⟨uu,rfl⟩,S6⟩
    have HQ2:Hid (∃G,Sk w4.heap.size p G w6 (aD (rs.take (k+1)))∧(∀g,G g→w3.heap.size≤g)∧Below w3.heap.size w3 w6):=hide (by
     obtain⟨BR,kU,hge⟩:=HX.out
     obtain⟨G',k1,k2,k3⟩:=S6
     have b1:=BR.trans (kU.mono BR.size)
     have hz:=b1.size
     refine⟨G',k1,fun g hg=>?_,b1.trans (k2.below hge hz)⟩
     rcases k3 g hg with e|e
     ·exact hge g e
     ·omega)
    clear S6 HA HX
    go_wp2
    go_roundw
    case rel=>exact⟨k+1,by omega,by go_num,HQ2⟩
    case measure=>simp[intOf];omega
   ·have hlt':¬(k:Int)<n:=by omega
    obtain rfl:k=n:=by omega
    have HQ2:=HQ.out
    rw[List.take_of_length_le (by have:=HN.out;omega)]at HQ2
    have FIN:Hid (∃G,Sk w4.heap.size p G wr (aD rs)∧(∀g,G g→w.heap.size≤g)∧Below w.heap.size w wr):=hide (by
     obtain⟨G,k1,k2,k3⟩:=HQ2
     exact⟨G,k1,fun g hg=>Nat.le_trans B3.out.size (k2 g hg),B3.out.trans (k3.mono B3.out.size)⟩)
    clear HQ2 HQ
    go_wp2
    go_ret2
    first|exact⟨_,rfl,FIN.out⟩|exact .inr ⟨rfl,_,rfl,FIN.out⟩
 ·have hne:(fe==0)=false:=by simpa using hf0
  go_wp2
  go_quiet (fail)
  go_wp2
  go_ret2
  first|exact⟨rfl,below_drewN B3.out _⟩|exact .inl ⟨hf0,rfl,below_drewN B3.out _⟩
end Go.Proofs.YtlmkaljjocflmaaGreatDoor
namespace Go.Proofs.YtlmkaljjocflmaaGreatDoor
open Go.RowKit
structure mQ (p q pw pr ps:Nat) (Gw Gr Gs:Nat→Prop) (w:World) (s:Rst.St) (lw:List Cm.Cv) (bw br:Bool):Prop where
 blk:w.heap[p]? =some (.cells (fo q s.off s.p (.pointer (some ⟨pw,0,none⟩)) s.l.length (.pointer (some ⟨pr,0,none⟩)) (.pointer (some ⟨ps,0,none⟩))) 137 (0,0))
 wal:Wk pw q Gw w lw bw
 run:Rk pr q Gr w s.r br
 aP:Sk ps pr Gs w (s.l.drop (Cm.lastN 0 s.r).toNat)
 log:s.l=lw.take s.l.length
 live:s.off=false→lw=s.l∧bw=false∧br=false
 ok:Pm.Ok s.p
 fit:ig s.p
 rest:Cm.Good 1 (Cm.lastN 0 s.r) (s.l.drop (Cm.lastN 0 s.r).toNat)
 le:Cm.lastN 0 s.r≤s.l.length
 np:¬Gw p∧¬Gr p∧¬Gs p
 wr:∀g,Gw g→¬Gr g
 ws:∀g,Gw g→¬Gs g
 rs:∀g,Gr g→¬Gs g
def PB (p:Nat) (Gw Gr Gs:Nat→Prop) (g:Nat):Prop:=g=p∨Gw g∨Gr g∨Gs g
def PO (p q:Nat) (G:Nat→Prop) (w:World) (s:Rst.St):Prop:=∃pw pr ps Gw Gr Gs lw bw br,mQ p q pw pr ps Gw Gr Gs w s lw bw br∧G=PB p Gw Gr Gs
section
variable {p q pw pr ps:Nat} {G Gw Gr Gs:Nat→Prop} {w w':World} {s:Rst.St} {lw:List Cm.Cv} {bw br:Bool}
theorem mQ.lt (h:mQ p q pw pr ps Gw Gr Gs w s lw bw br):∀g,PB p Gw Gr Gs g→g<w.heap.size:=by
 rintro g (rfl|e|e|e)
 ·exact ay h.blk
 ·exact h.wal.lt g e
 ·exact h.run.lt g e
 ·exact h.aP.lt g e
theorem mQ.agree (h:mQ p q pw pr ps Gw Gr Gs w s lw bw br)(ha:∀g,PB p Gw Gr Gs g→w'.heap[g]? =w.heap[g]?):mQ p q pw pr ps Gw Gr Gs w' s lw bw br:=
 ⟨(ha p (.inl rfl)).trans h.blk,h.wal.agree fun g e=>ha g (.inr (.inl e)),h.run.agree fun g e=>ha g (.inr (.inr (.inl e))),h.aP.agree fun g e=>ha g (.inr (.inr (.inr e))),h.log,h.live,h.ok,h.fit,h.rest,h.le,h.np,h.wr,h.ws,h.rs⟩
theorem mQ.below (h:mQ p q pw pr ps Gw Gr Gs w s lw bw br)(hb:Below w.heap.size w w'):mQ p q pw pr ps Gw Gr Gs w' s lw bw br:=h.agree fun g hg=>hb.block g (h.lt g hg)
theorem PO.lt (h:PO p q G w s):∀g,G g→g<w.heap.size:=by
 obtain⟨pw,pr,ps,Gw,Gr,Gs,lw,bw,br,h,rfl⟩:=h
 exact h.lt
theorem PO.agree (h:PO p q G w s)(ha:∀g,G g→w'.heap[g]? =w.heap[g]?)(hs:w.heap.size≤w'.heap.size):PO p q G w' s:=by
 obtain⟨pw,pr,ps,Gw,Gr,Gs,lw,bw,br,h,rfl⟩:=h
 exact⟨pw,pr,ps,Gw,Gr,Gs,lw,bw,br,h.agree ha,rfl⟩
theorem PO.fit (h:PO p q G w s):ig s.p:=by
 obtain⟨pw,pr,ps,Gw,Gr,Gs,lw,bw,br,h,rfl⟩:=h
 exact h.fit
theorem mQ.ww {F:Nat→Prop}(h:mQ p q pw pr ps Gw Gr Gs w s lw bw br)(hd:Pk q F w s.d):WW pw q (fun g=>F g∨Gw g) w ⟨s.d,lw,bw⟩:=⟨F,Gw,hd,h.wal,rfl⟩
theorem mQ.rw {F:Nat→Prop}(h:mQ p q pw pr ps Gw Gr Gs w s lw bw br)(hd:Pk q F w s.d):RW pr q (fun g=>F g∨Gr g) w ⟨s.d,s.r,br⟩:=⟨F,Gr,hd,h.run,rfl⟩
theorem mQ.good (h:mQ p q pw pr ps Gw Gr Gs w s lw bw br):Rl.Good 0 s.r:=by
 obtain⟨v,rs,h1,_⟩:=h.run
 exact h1.log.good
theorem mQ.sw {F:Nat→Prop}(h:mQ p q pw pr ps Gw Gr Gs w s lw bw br)(hd:Pk q F w s.d)(hG:∀g,PB p Gw Gr Gs g→¬F g):SW ps pr q (fun g=>(F g∨Gr g)∨Gs g) w ⟨⟨s.d,s.r,br⟩,s.l.drop (Cm.lastN 0 s.r).toNat⟩:=
 ⟨fun g=>F g∨Gr g,Gs,h.rw hd,h.aP,fun g e=>by
  rintro(k|k)
  ·exact hG g (.inr (.inr (.inr e))) k
  ·exact h.rs g k e,⟨h.good,h.rest⟩,rfl⟩
end
def PS (p q:Nat) (F:Nat→Prop) (w:World) (s:Rst.St):Prop:=∃F1 G,Pk q F1 w s.d∧PO p q G w s∧(∀g,G g→¬F1 g)∧fU w∧F=fun g=>F1 g∨G g
def iO (p q:Nat) (F:Nat→Prop) (w w':World) (s':Rst.St):Prop:=∃F',PS p q F' w' s'∧Out F w w'∧∀g,F' g→F g∨w.heap.size≤g
def iY (s:Rst.St):Prop:=Big 50000000 500000 s.d∧s.l.length≤2000
section
variable {p q:Nat} {F G:Nat→Prop} {w w':World} {s:Rst.St}
theorem PS.lt (h:PS p q F w s):∀g,F g→g<w.heap.size:=by
 obtain⟨F1,G,h1,h2,_,_,rfl⟩:=h
 rintro g (e|e)
 ·exact h1.lt g e
 ·exact h2.lt g e
theorem PS.agree (h:PS p q F w s)(ha:∀g,F g→w'.heap[g]? =w.heap[g]?)(hs:w.heap.size≤w'.heap.size)(hm:fU w'):PS p q F w' s:=by
 obtain⟨F1,G,h1,h2,h3,_,rfl⟩:=h
 exact⟨F1,G,h1.agree fun g hg=>ha g (.inl hg),h2.agree (fun g hg=>ha g (.inr hg)) hs,h3,hm,rfl⟩
theorem PS.gQ (h:PS p q F w s):fU w:=by
 obtain⟨_,_,_,_,_,h,_⟩:=h
 exact h
theorem PS.fit (h:PS p q F w s):ig s.p:=by
 obtain⟨_,_,_,h,_⟩:=h
 exact h.fit
theorem gz (hm:fU w)(ho:Out F w w')(h0:¬F 0):fU w':=by
 have e:∀j,w'.cell? ⟨0,j,none⟩=w.cell? ⟨0,j,none⟩:=fun j=>by
  have:=ho.block 0 hm.pos h0
  simp[World.cell?,this]
 exact⟨(e 0).trans hm.c0,(e 1).trans hm.c1,(e 2).trans hm.c2,(e 3).trans hm.c3,(e 4).trans hm.c4,(e 5).trans hm.c5⟩
end
theorem ark (l:List Cm.Cv)(n:Nat)(h:n≤l.length):zC l 1 n=l.take n:=by
 unfold zC
 split
 ·rename_i k
  rcases n with _|n
  ·simp
  ·exfalso;omega
 ·simp
theorem kr {l:List Cm.Cv}(h:Cm.Good 0 0 l)(n:Nat):Cm.Good 0 0 (l.take n):=by
 rw[←List.take_append_drop n l]at h
 exact((Cm.fB _ _ _ _).1 h).1
theorem jA (p q:Nat)(F:Nat→Prop)(w:World)(s:Rst.St)(h:PS p q F w s)(hR:iY s):Calls prog 16 #[.pointer (some ⟨p,0,none⟩)] w fun E w'=>E=.returned (vp s.p)∧Below w.heap.size w w':=by
 obtain⟨F1,G,h1,⟨pw,pr,ps,Gw,Gr,Gs,lw,bw,br,V,rfl⟩,h3,hm,rfl⟩:=h
 have hb:=V.blk
 have hpl:=ay hb
 obtain⟨w1,hw1,s1,b1,P1⟩:=au w #[.int .i64 0,.int .u8 0,.int .i64 0,.int .u8 0,.int .i64 0,.int .i64 0] 46
 obtain⟨c0,c1,c2,c3,c4,c5,c6,c7,c8,c9,c10,c11,c12⟩:=ku ((b1.block p hpl).trans hb)
 have HM:=hide (lT p q w1 c0)
 obtain⟨V',hV',fI,dO,⟨a0,a1,a2,a3,a4,a5⟩,fr,⟨z0,z1,z2,z3,z4,z5⟩⟩:=gN P1 (.int .i64 s.p.e) (.int .u8 s.p.r) (.int .i64 s.p.a) (.int .u8 s.p.p) (.int .i64 s.p.f) (.int .i64 s.p.b)
 have f0:=fr 0;have f1:=fr 1;have f2:=fr 2;have f3:=fr 3;have f4:=fr 4;have f5:=fr 5
 have BV:=hide (aG b1 dO (Nat.le_refl _) (by omega))
 clear V h1 h3 hm hb b1 P1 fI dO fr s1 hpl hR
 go_enter func16,ntmps16
 go_wp2_with fail
 refine HM.out.mono ?_
 rintro E w2 ⟨rfl,rfl⟩
 clear HM
 go_wp2
 refine bodyPost_ret (v:=vp s.p) (by simp[results,results16,go_sem,z0,z1,z2,z3,z4,z5,vp]) rfl ?_
 exact⟨rfl,BV.out⟩
theorem vR (p q:Nat)(F:Nat→Prop)(w:World)(s:Rst.St)(h:PS p q F w s)(hR:iY s):Calls prog 24 #[.pointer (some ⟨p,0,none⟩)] w fun E w'=>E=.returned (.int .i64 s.l.length)∧Below w.heap.size w w':=by
 obtain⟨F1,G,h1,⟨pw,pr,ps,Gw,Gr,Gs,lw,bw,br,V,rfl⟩,h3,hm,rfl⟩:=h
 obtain⟨c0,c1,c2,c3,c4,c5,c6,c7,c8,c9,c10,c11,c12⟩:=ku V.blk
 have HM:=hide (lT p q w c0)
 clear V h1 h3 hm hR
 generalize (s.l.length:Int)=n at*
 go_enter func24,ntmps24
 go_wp2_with fail
 refine HM.out.mono ?_
 rintro E w2 ⟨rfl,rfl⟩
 clear HM
 go_wp2
 go_ret
 exact⟨rfl,Below.refl _ _⟩
theorem aqu (p q:Nat)(F:Nat→Prop)(w:World)(s:Rst.St)(h:PS p q F w s)(hR:iY s)(k:ByteArray)(hk:k.size≤140737488355328):Calls prog 81 #[.pointer (some ⟨p,0,none⟩),.string k] w fun E w'=>E=.returned (.tuple #[.string (gv (Sto.fold (Rst.aP s)) k),.bool (gp (Sto.fold (Rst.aP s)) k)])∧Below w.heap.size w w':=by
 obtain⟨F1,G,h1,⟨pw,pr,ps,Gw,Gr,Gs,lw,bw,br,V,rfl⟩,h3,hm,rfl⟩:=h
 obtain⟨c0,c1,c2,c3,c4,c5,c6,c7,c8,c9,c10,c11,c12⟩:=ku V.blk
 have HM:=hide (lT p q w c0)
 have HG:=hide (apP ps pr q _ w _ k (V.sw h1 h3) hk)
 have e:Sto.fold ⟨⟨s.d,s.r,br⟩,s.l.drop (Cm.lastN 0 s.r).toNat⟩=Sto.fold (Rst.aP s):=rfl
 rw[e]at HG
 generalize Sto.fold (Rst.aP s)=t at*
 clear V h1 h3 hm hR e
 go_enter func81,ntmps81
 go_wp2_with fail
 refine HM.out.mono ?_
 rintro E w2 ⟨rfl,rfl⟩
 clear HM
 go_wp2_with fail
 refine HG.out.mono ?_
 rintro E w2 ⟨rfl,b2⟩
 have B2:=hide b2
 clear HG b2
 go_wp2
 go_ret2
 exact⟨rfl,B2.out⟩
theorem alU (p q:Nat)(F:Nat→Prop)(w:World)(s:Rst.St)(h:PS p q F w s)(hR:iY s):Calls prog 91 #[.pointer (some ⟨p,0,none⟩)] w fun E w'=>∃v rs,E=.returned v∧Rq w.heap.size w' s.r v rs∧qE rs∧Below w.heap.size w w':=by
 obtain⟨F1,G,h1,⟨pw,pr,ps,Gw,Gr,Gs,lw,bw,br,V,rfl⟩,h3,hm,rfl⟩:=h
 obtain⟨c0,c1,c2,c3,c4,c5,c6,c7,c8,c9,c10,c11,c12⟩:=ku V.blk
 have HM:=hide (lT p q w c0)
 have HG:=hide (anv pr q _ w _ (V.rw h1))
 clear V h1 h3 hm hR
 go_enter func91,ntmps91
 go_wp2_with fail
 refine HM.out.mono ?_
 rintro E w2 ⟨rfl,rfl⟩
 clear HM
 go_wp2_with fail
 refine HG.out.mono ?_
 rintro E w2 ⟨v,rs,rfl,X⟩
 have X:=hide X
 clear HG
 go_wp2
 go_ret
 exact⟨v,rs,rfl,X.out⟩
theorem aq8 (p q:Nat)(F:Nat→Prop)(w:World)(s:Rst.St)(h:PS p q F w s)(hR:iY s):Calls prog 21 #[.pointer (some ⟨p,0,none⟩)] w fun E w'=>∃v rs,E=.returned v∧lh w.heap.size w' v rs∧aD rs=s.l∧Below w.heap.size w w':=by
 obtain⟨F1,G,h1,⟨pw,pr,ps,Gw,Gr,Gs,lw,bw,br,V,rfl⟩,h3,hm,rfl⟩:=h
 have hb:=V.blk
 have hpl:=ay hb
 obtain⟨c0,c1,c2,c3,c4,c5,c6,c7,c8,c9,c10,c11,c12⟩:=ku V.blk
 have HM:=hide (lT p q w c0)
 have hl:s.l.length≤lw.length:=by
  have:=congrArg List.length V.log
  rw[List.length_take]at this
  omega
 have hg:Cm.Good 0 0 s.l:=by rw[V.log];exact kr V.wal.good _
 have HF:Hid (Calls prog 63 #[.pointer (some ⟨pw,0,none⟩),.int .i64 1,.int .i64 s.l.length] w.drew fun E w'=>∃v rs,E=.returned v∧Hid (lh w.heap.size w' v rs∧aD rs=s.l)∧Below w.heap.size w w'∧w'.cell? ⟨p,8,none⟩=some (.pointer (some ⟨pw,0,none⟩))∧w'.cell? ⟨p,9,none⟩=some (.int .i64 s.l.length)∧w'.cell? ⟨p,10,none⟩=some (.slice none 0 0)):=hide (by
  have hd:Below w.heap.size w w.drew:=(Below.refl _ _).drew
  refine(adS pw q _ w.drew _ 1 s.l.length ((V.ww h1).below hd)).mono ?_
  rintro E w' ⟨v,rs,rfl,o1,o2,o3,o4,o5⟩
  have o3:aD rs=s.l:=by rw[o3,ark lw _ hl];exact V.log.symm
  have o5:Below w.heap.size w w':=hd.trans o5
  obtain⟨f1,f2⟩:=aeY hg o3
  obtain⟨_,_,_,_,_,_,_,_,k8,k9,k10,_⟩:=ku ((o5.block p hpl).trans hb)
  exact⟨v,rs,rfl,hide ⟨⟨o1,o2,fun c hc=>⟨(f2 c hc).1,(f2 c hc).2.1⟩,o4,f1⟩,o3⟩,o5,k8,k9,k10⟩)
 generalize (s.l.length:Int)=n at*
 clear V h1 h3 hm hR hb hg hl hpl
 go_enter func21,ntmps21
 go_wp2_with fail
 refine HM.out.mono ?_
 rintro E w2 ⟨rfl,rfl⟩
 clear HM
 go_wp2_with fail
 go_region_held3 (fun w'=>w'.cell? ⟨p,8,none⟩=some (.pointer (some ⟨pw,0,none⟩))∧w'.cell? ⟨p,9,none⟩=some (.int .i64 n)) (first|exact⟨c8,c9⟩|exact⟨d8,d9⟩|go_keep)
  (first
  |(go_at_call 63;refine HF.out.mono ?_;rintro E w3 ⟨vv,rs,rfl,X,b3,d8,d9,d10⟩;have B3:=hide b3;clear b3))
 clear HF
 go_wp2_with fail
 go_loopw [3,26] (fun v3 iv wr=>v3=vv∧iv=.int .i64 0∧wr=w3) (fun _ _ _=>0)
 case atStart=>exact⟨rfl,rfl,rfl⟩
 case round=>
  obtain⟨rfl,rfl,rfl⟩:=hrel
  go_wp2
  go_ret
  exact⟨_,rs,rfl,X.out.1,X.out.2,B3.out⟩
structure Ns where
 u:Int
 t:Int
 a:Int
 k:Int
 m:Mw
 s:Rst.St
def ndC (q p:Nat) (x:Ns):Array Value:=#[.int .i64 x.u,.int .i64 x.t,.pointer (some ⟨q,0,none⟩),.pointer (some ⟨p,0,none⟩),.int .i64 x.a,.int .i64 x.k,.int .i64 x.m.k,.int .i64 x.m.e,.int .u8 x.m.r,.int .i64 x.m.n,x.m.vs,.int .i64 x.m.f,.int .i64 x.m.p,x.m.vc]
structure Nd (n p q:Nat) (F:Nat→Prop) (w:World) (x:Ns):Prop where
 blk:w.heap[n]? =some (.cells (ndC q p x) 86 (0,0))
 st:PS p q F w x.s
 ne:¬F n
def dF (n p q:Nat) (F:Nat→Prop) (w w':World) (x:Ns):Prop:=∃F',Nd n p q F' w' x∧Out (fun g=>F g∨g=n) w w'∧∀g,F' g→F g∨w.heap.size≤g
section
variable {n p q:Nat} {F:Nat→Prop} {w w' w'':World} {x y:Ns}
theorem Nd.lt (h:Nd n p q F w x):∀g,F g∨g=n→g<w.heap.size:=by
 rintro g (e|rfl)
 ·exact h.st.lt g e
 ·exact ay h.blk
theorem Nd.agree (h:Nd n p q F w x)(ha:∀g,F g∨g=n→w'.heap[g]? =w.heap[g]?)(hs:w.heap.size≤w'.heap.size)(hm:fU w'):Nd n p q F w' x:=
 ⟨(ha n (.inr rfl)).trans h.blk,h.st.agree (fun g e=>ha g (.inl e)) hs hm,h.ne⟩
theorem Nd.below (h:Nd n p q F w x)(hb:Below w.heap.size w w'):Nd n p q F w' x:=
 h.agree (fun g e=>hb.block g (h.lt g e)) hb.size (h.st.gQ.below hb)
theorem dF.same (h:Nd n p q F w x)(hb:Below w.heap.size w w'):dF n p q F w w' x:=
 ⟨F,h.below hb,Out.of_below hb,fun g e=>.inl e⟩
theorem Nd.step {s':Rst.St}(h:Nd n p q F w x)(k:iO p q F w w' s'):dF n p q F w w' ⟨x.u,x.t,x.a,x.k,x.m,s'⟩:=by
 obtain⟨F',k1,k2,k3⟩:=k
 refine⟨F',⟨(k2.block n (h.lt n (.inr rfl)) h.ne).trans h.blk,k1,fun e=>?_⟩,k2.mono fun g e=>.inl (.inl e),k3⟩
 rcases k3 n e with e|e
 ·exact h.ne e
 ·have:=h.lt n (.inr rfl);omega
theorem dF.join {F1:Nat→Prop}(h2:Out (fun g=>F g∨g=n) w w')(h3:∀g,F1 g→F g∨w.heap.size≤g)(k:dF n p q F1 w' w'' y):dF n p q F w w'' y:=by
 obtain⟨F2,k1,k2,k3⟩:=k
 have hs:=h2.size
 refine⟨F2,k1,h2.trans k2 ?_,fun g e=>?_⟩
 ·rintro g (e|e)
  ·rcases h3 g e with e|e
   ·exact .inl (.inl e)
   ·exact .inr e
  ·exact .inl (.inr e)
 ·rcases k3 g e with e|e
  ·exact h3 g e
  ·exact .inr (by omega)
def wK (n p q:Nat) (F:Nat→Prop) (w W w':World) (x:Ns):Prop:=∃F',Nd n p q F' w' x∧Out (fun g=>F g∨g=n) w w'∧∀g,F' g→F g∨W.heap.size≤g
theorem dF.toQ {W:World}(hb:Below w.heap.size w W)(k:dF n p q F W w' y):wK n p q F w W w' y:=by
 obtain⟨F',k1,k2,k3⟩:=k
 exact⟨F',k1,(Out.of_below hb (F:=fun g=>F g∨g=n)).trans k2 fun g e=>.inl e,k3⟩
theorem wK.toS {W:World}(hb:w.heap.size≤W.heap.size)(k:wK n p q F w W w' y):dF n p q F w w' y:=by
 obtain⟨F',k1,k2,k3⟩:=k
 refine⟨F',k1,k2,fun g e=>?_⟩
 rcases k3 g e with e|e
 ·exact .inl e
 ·exact .inr (by omega)
theorem dF.ahead {W:World}(hb:Below w.heap.size w W)(k:dF n p q F W w' y):dF n p q F w w' y:=(k.toQ hb).toS hb.size
theorem Nd.put (h:Nd n p q F w x)(h0:n≠0)(g:w.grownBy w' (some n))(hb:w'.heap[n]? =some (.cells (ndC q p y) 86 (0,0)))(hs:y.s=x.s):dF n p q F w w' y:=by
 have oo:Out (fun g=>g=n) w w':=Out.aM g fun g e=>(Option.some.inj e).symm
 refine⟨F,⟨hb,?_,h.ne⟩,oo.mono fun g e=>.inl (.inr e),fun g e=>.inl e⟩
 rw[hs]
 exact h.st.agree (fun i e=>oo.block i (h.st.lt i e) fun c=>h.ne (c▸e)) oo.size (gz h.st.gQ oo fun e=>h0 e.symm)
theorem wK.put {W:World}{B:Nat}(h:∀g,F g∨g=n→g<w.heap.size)(hw:0<w.heap.size)(k:wK n p q F w W w' y)(hB:w.heap.size≤B∧B<W.heap.size)(g:w'.grownBy w'' (some B)):wK n p q F w W w'' y:=by
 obtain⟨F',k1,k2,k3⟩:=k
 have nB:∀g,F' g∨g=n→g≠B:=fun g e=>by
  rcases e with e|e
  ·rcases k3 g e with e|e
   ·have:=h g (.inl e);omega
   ·omega
  ·have:=h g (.inr e);omega
 have oo:Out (fun g=>g=B) w' w'':=Out.aM g fun g e=>(Option.some.inj e).symm
 refine⟨F',k1.agree (fun g' e=>g.block g' (k1.lt g' e) fun c=>nB g' e (Option.some.inj c)) g.size (gz k1.st.gQ oo fun e=>by omega),k2.trans oo fun g e=>.inr (by omega),k3⟩
end
structure NdA (n q p:Nat) (w:World) (x:Ns):Prop where
 c0:w.cell? ⟨n,0,none⟩=some (.int .i64 x.u)
 c1:w.cell? ⟨n,1,none⟩=some (.int .i64 x.t)
 c2:w.cell? ⟨n,2,none⟩=some (.pointer (some ⟨q,0,none⟩))
 c3:w.cell? ⟨n,3,none⟩=some (.pointer (some ⟨p,0,none⟩))
 c4:w.cell? ⟨n,4,none⟩=some (.int .i64 x.a)
 c5:w.cell? ⟨n,5,none⟩=some (.int .i64 x.k)
theorem Nd.cs {n p q:Nat}{F:Nat→Prop}{w:World}{x:Ns}(h:Nd n p q F w x):NdA n q p w x:=
 ⟨ai h.blk 0 rfl,ai h.blk 1 rfl,ai h.blk 2 rfl,ai h.blk 3 rfl,ai h.blk 4 rfl,ai h.blk 5 rfl⟩
theorem Nd.n0 {n p q:Nat}{F:Nat→Prop}{w:World}{x:Ns}(h:Nd n p q F w x):n≠0:=fun e=>by
 have a:=h.st.gQ.c2
 have b:=h.cs.c2
 rw[e,a]at b
 cases b
theorem af6 (n p q:Nat)(w:World)(h2:w.cell? ⟨n,2,none⟩=some (.pointer (some ⟨q,0,none⟩)))(h3:w.cell? ⟨n,3,none⟩=some (.pointer (some ⟨p,0,none⟩))):
  Calls prog 88 #[.pointer (some ⟨n,0,none⟩)] w fun E w'=>E=.returned (.int .i64 0)∧w=w':=by
 go_enter func88,ntmps88
 go_wp2
 go_ret
 exact⟨rfl,rfl⟩
theorem acR (n p q:Nat)(w:World)(h2:w.cell? ⟨n,2,none⟩=some (.pointer (some ⟨q,0,none⟩)))(h3:w.cell? ⟨n,3,none⟩=some (.pointer (some ⟨p,0,none⟩))):
  Calls prog 40 #[.pointer (some ⟨n,0,none⟩)] w fun E w'=>E=.returned (.bool true)∧w=w':=by
 have R:=hide (af6 n p q w h2 h3)
 go_enter func40,ntmps40
 go_wp2_with fail
 refine R.out.mono ?_
 rintro E w1 ⟨rfl,rfl⟩
 go_wp2
 go_ret
 exact⟨rfl,rfl⟩
theorem apu (B A:Nat)(e:Int)(he:(e==6)=false)(w:World)(hc:w.cell? ⟨B,0,none⟩=some (.int .i64 e))(u:FrameMode):
  CallsD prog 149 #[.pointer (some ⟨B,0,none⟩),.pointer (some ⟨A,0,none⟩)] u w fun E u' w'=>u'=u∧(E=.returned (.tuple #[])∧w=w'):=by
 go_enter_d func149,ntmps149
 go_wp2
 go_end0
 exact⟨rfl,rfl⟩
theorem rD (n p q:Nat)(F:Nat→Prop)(w:World)(x:Ns)(h:Nd n p q F w x)(hon:x.s.d.on=true)(f:FuncId)(first cap xs:Array Value)(eg:∀args w,(callFunc f args).run prog w=.ok (.enter f args) w)(ha:first++cap=xs)(Q:Int→World→World→Prop)
  (hf:∀W,Below w.heap.size w W→Calls prog f xs W fun E w'=>∃e,E=.returned (.int .i64 e)∧(e==6)=false∧(∀g,w.heap.size≤g→g<W.heap.size→w'.heap[g]? =W.heap[g]?)∧W.heap.size≤w'.heap.size∧Q e W w'):
  Calls prog 72 #[.pointer (some ⟨n,0,none⟩),.func (.func f) first cap] w fun E w'=>∃e,E=.returned (.int .i64 e)∧∃W W1 B,Below w.heap.size w W∧(w.heap.size≤B∧B<W.heap.size)∧W1.grownBy w' (some B)∧Q e W W1:=by
 have kQ:∀(fn:Fn) (first cap:Array Value) (w:World),(Instr.makeFunc fn first cap).run prog w=.ok (.func fn first cap) w:=fun _ _ _ _=>rfl
 obtain⟨w1,hw1,s1,b1,P1⟩:=au w #[.pointer (some ⟨n,0,none⟩)] 66
 obtain⟨w2,hw2,s2,b2,P2⟩:=au w1 #[.int .i64 0] 29
 have b12:Below w.heap.size w w2:=b1.trans (b2.mono (by omega))
 rw[s1]at P2
 have P1':=(b2.block w.heap.size (by omega)).trans P1
 have h2:=h.below b12
 obtain⟨c0,c1,c2,c3,c4,c5⟩:=h2.cs
 have k0:w2.cell? ⟨w.heap.size,0,none⟩=some (.pointer (some ⟨n,0,none⟩)):=ai P1' 0 rfl
 have RF:=hide (af6 n p q w2 c2 c3)
 obtain⟨F1,G,d1,d2,d3,d4,rfl⟩:=h2.st
 have ON:=hide (xU q F1 w2 x.s.d d1)
 rw[hon]at ON
 have HF:=hide (hf w2 b12)
 rw[←ha]at HF
 have PP:=hide (And.intro P2 (And.intro b12 s2))
 clear h h2 d1 d2 d3 d4 hon ha hf P1 P2 P1' b1 b2 b12 s2
 go_enter_defers func72,ntmps72
 go_wp2_with fail
 refine RF.out.mono ?_
 rintro E w3 ⟨rfl,rfl⟩
 clear RF
 go_wp2_with fail
 refine ON.out.mono ?_
 rintro E w3 ⟨rfl,rfl⟩
 clear ON
 go_wp2_with fail
 refine HF.out.mono ?_
 rintro E w4 ⟨e,rfl,he,K,iK,hQ⟩
 obtain⟨P2,b12,s2⟩:=PP.out
 have P4:=(K (w.heap.size+1) (by omega) (by omega)).trans P2
 obtain⟨V,hV,bV,gV,fV⟩:=uM P4 0 (.int .i64 e)
 have e4:w4.cell? ⟨w.heap.size+1,0,none⟩=some (.int .i64 0):=ai P4 0 rfl
 have eV:V.cell? ⟨w.heap.size+1,0,none⟩=some (.int .i64 e):=ai bV 0 rfl
 have DD:=hide (apu (w.heap.size+1) w.heap.size e he V eV .returning)
 have RES:Hid (∃W W1 B,Below w.heap.size w W∧(w.heap.size≤B∧B<W.heap.size)∧W1.grownBy V (some B)∧Q e W W1):=hide ⟨w2,w4,w.heap.size+1,b12,by omega,gV,hQ⟩
 clear HF PP K hQ P2 b12 s2 P4 bV gV
 go_wp2
 refine leaves_cons (f:=149) (args:=#[.pointer (some ⟨w.heap.size+1,0,none⟩),.pointer (some ⟨w.heap.size,0,none⟩)]) (by simp) (by simp[go_sem]) ?_
 refine DD.out.mono ?_
 rintro E u' w5 ⟨rfl,rfl,rfl⟩
 refine⟨_,by simp[results,results72,go_sem,eV],e,rfl,RES.out⟩
theorem alG (n p q:Nat)(F:Nat→Prop)(w:World)(x:Ns)(h:Nd n p q F w x)(hR:iY x.s):
  Calls prog 43 #[.pointer (some ⟨n,0,none⟩)] w fun E w'=>E=.returned (vp x.s.p)∧Below w.heap.size w w':=by
 obtain⟨w1,hw1,s1,b1,P1⟩:=au w #[.int .i64 0,.int .u8 0,.int .i64 0,.int .u8 0,.int .i64 0,.int .i64 0] 46
 have h1:=h.below b1
 obtain⟨c0,c1,c2,c3,c4,c5⟩:=h1.cs
 have UP:=hide (acR n p q w1 c2 c3)
 have PG:=hide (jA p q F w1 x.s h1.st hR)
 have PP:=hide (And.intro P1 b1)
 generalize x.s.p=y at*
 have HV:vp y=.agg #[.int .i64 y.e,.int .u8 y.r,.int .i64 y.a,.int .u8 y.p,.int .i64 y.f,.int .i64 y.b]:=rfl
 rw[HV]at PG
 clear h h1 hR P1 b1 HV
 go_enter func43,ntmps43
 go_wp2_with fail
 refine UP.out.mono ?_
 rintro E w2 ⟨rfl,rfl⟩
 clear UP
 go_wp2_with fail
 refine PG.out.mono ?_
 rintro E w2 ⟨rfl,b2⟩
 obtain⟨P1,b1⟩:=PP.out
 obtain⟨V',hV',fI,dO,⟨a0,a1,a2,a3,a4,a5⟩,fr,⟨z0,z1,z2,z3,z4,z5⟩⟩:=gN ((b2.block w.heap.size (by omega)).trans P1) (.int .i64 y.e) (.int .u8 y.r) (.int .i64 y.a) (.int .u8 y.p) (.int .i64 y.f) (.int .i64 y.b)
 have f0:=fr 0;have f1:=fr 1;have f2:=fr 2;have f3:=fr 3;have f4:=fr 4;have f5:=fr 5
 have z2':=b2.size
 have BV:=hide (aG (b1.trans (b2.mono (by omega))) dO (Nat.le_refl _) (by omega))
 clear PG PP P1 b1 b2 fI dO fr z2' s1
 go_wp2
 refine bodyPost_ret (v:=vp y) (by simp[results,results43,go_sem,z0,z1,z2,z3,z4,z5,vp]) rfl ?_
 exact⟨rfl,BV.out⟩
theorem afz (n p q:Nat)(F:Nat→Prop)(w:World)(x:Ns)(h:Nd n p q F w x)(hR:iY x.s):
  Calls prog 41 #[.pointer (some ⟨n,0,none⟩)] w fun E w'=>∃v rs,E=.returned v∧lh w.heap.size w' v rs∧aD rs=x.s.l∧Below w.heap.size w w':=by
 obtain⟨c0,c1,c2,c3,c4,c5⟩:=h.cs
 have UP:=hide (acR n p q w c2 c3)
 have PG:=hide (aq8 p q F w x.s h.st hR)
 clear h hR
 go_enter func41,ntmps41
 go_wp2_with fail
 refine UP.out.mono ?_
 rintro E w2 ⟨rfl,rfl⟩
 clear UP
 go_wp2_with fail
 refine PG.out.mono ?_
 rintro E w2 ⟨v,rs,rfl,X⟩
 have X:=hide X
 clear PG
 go_wp2
 go_ret
 exact⟨v,rs,rfl,X.out⟩
theorem aao (n p q:Nat)(F:Nat→Prop)(w:World)(x:Ns)(h:Nd n p q F w x)(hR:iY x.s)(hr:x.s.p.r=1):
  Calls prog 32 #[.pointer (some ⟨n,0,none⟩)] w fun E w'=>E=.returned (.int .i64 (aZ.oV x.s.l.length x.a))∧Below w.heap.size w w':=by
 have hfd:=fun(a b c d e f:Int) (w:World)=>show(Instr.field 46 (.agg #[.int .i64 a,.int .u8 b,.int .i64 c,.int .u8 d,.int .i64 e,.int .i64 f]) 1).run prog w=.ok (.int .u8 b) w by kernel_rfl
 have PG:=hide (alG n p q F w x h hR)
 have HV:vp x.s.p=.agg #[.int .i64 x.s.p.e,.int .u8 1,.int .i64 x.s.p.a,.int .u8 x.s.p.p,.int .i64 x.s.p.f,.int .i64 x.s.p.b]:=by rw[←hr];rfl
 rw[HV]at PG
 have HH:=hide (And.intro h hR)
 have EN:Hid (∀W,Below w.heap.size w W→Calls prog 24 #[.pointer (some ⟨p,0,none⟩)] W fun E w'=>E=.returned (.int .i64 x.s.l.length)∧Below w.heap.size w w'):=hide fun W hW=>by
  refine(vR p q F W x.s (h.below hW).st hR).mono ?_
  rintro E w' ⟨rfl,b⟩
  exact⟨rfl,hW.trans (b.mono hW.size)⟩
 have CE:Hid (∀W,Below w.heap.size w W→W.cell? ⟨n,3,none⟩=some (.pointer (some ⟨p,0,none⟩))∧W.cell? ⟨n,4,none⟩=some (.int .i64 x.a)):=hide fun W hW=>⟨(h.below hW).cs.c3,(h.below hW).cs.c4⟩
 have LO:=hide (fun W=>iJ x.s.l.length x.a W)
 generalize (x.s.l.length:Int)=en at*
 obtain⟨xa,hxa⟩:∃y,x.a=y:=⟨_,rfl⟩
 rw[hxa]at CE LO⊢
 generalize aZ.oV en xa=r at*
 generalize aZ.oE en xa=re at*
 clear h hR hr HV HH hxa
 go_enter func32,ntmps32
 go_wp2_with fail
 refine PG.out.mono ?_
 rintro E w2 ⟨rfl,b2⟩
 obtain⟨c3,c4⟩:=CE.out w2 b2
 have EN2:Hid (Calls prog 24 #[.pointer (some ⟨p,0,none⟩)] w2.drew fun E w'=>E=.returned (.int .i64 en)∧Below w.heap.size w w'):=hide (EN.out _ b2.drew)
 have B2:=hide b2
 clear PG EN b2
 go_wp2_with fail
 go_region_held3 (fun w'=>w'.cell? ⟨n,3,none⟩=some (.pointer (some ⟨p,0,none⟩))∧w'.cell? ⟨n,4,none⟩=some (.int .i64 xa)) (first|exact⟨c3,c4⟩|exact⟨d3,d4⟩|go_keep)
  (first
  |(go_at_call 78;have z:=B3;refine(LO.out _).mono ?_;rintro E w4 ⟨rfl,rfl⟩)
  |(go_at_call 24;refine EN2.out.mono ?_;rintro E w3 ⟨rfl,b3⟩;obtain⟨d3,d4⟩:=CE.out w3 b3;have B3:=hide b3;clear b3))
 go_wp2
 go_ret
 exact⟨rfl,B3.out⟩
theorem akX (n p q:Nat)(F:Nat→Prop)(w:World)(x:Ns)(h:Nd n p q F w x)(hk:x.k=-1):
  Calls prog 36 #[.pointer (some ⟨n,0,none⟩)] w fun E w'=>E=.returned (.tuple #[.int .i64 0,.bool false])∧w=w':=by
 obtain⟨c0,c1,c2,c3,c4,c5⟩:=h.cs
 have UP:=hide (acR n p q w c2 c3)
 rw[hk]at c5
 clear h hk
 go_enter func36,ntmps36
 go_wp2_with fail
 refine UP.out.mono ?_
 rintro E w2 ⟨rfl,rfl⟩
 clear UP
 go_wp2
 go_ret2
 exact⟨rfl,rfl⟩
def sets (R:Nat):World→Nat→List Value→World
 |V,_,[]=>V
 |V,o,a::l=>sets R (V.setCell ⟨R,o,none⟩ a) (o+1) l
theorem aaj (R:Nat)(t:TypeId):∀(l:List Value) (V:World) (o:Nat) (cs:List Value),V.heap[R]? =some (.cells cs.toArray t (0,0))→o+l.length≤cs.length→(sets R V o l).heap[R]? =some (.cells (cs.take o++(l++cs.drop (o+l.length))).toArray t (0,0))∧V.grownBy (sets R V o l) (some R)
 |[],V,o,cs,h,_=>⟨by simp[sets,h],World.grownBy.refl _ _⟩
 |a::l,V,o,cs,h,hl=>by
  rw[List.length_cons]at hl
  have h1:(V.setCell ⟨R,o,none⟩ a).heap[R]? =some (.cells (cs.set o a).toArray t (0,0)):=by rw[aF h o a,List.setIfInBounds_toArray]
  obtain⟨k1,k2⟩:=aaj R t l _ (o+1) (cs.set o a) h1 (by rw[List.length_set];omega)
  refine⟨?_,aH (ax V ⟨R,o,none⟩ a) k2⟩
  show(sets R (V.setCell ⟨R,o,none⟩ a) (o+1) l).heap[R]? =_
  rw[k1]
  have e1:(cs.set o a).take (o+1)=cs.take o++[a]:=by
   rw[List.take_add_one,List.take_set_of_le (Nat.le_refl _),List.getElem?_set_self (by omega)]
   rfl
  have e2:(cs.set o a).drop (o+1+l.length)=cs.drop (o+(a::l).length):=by
   rw[List.drop_set_of_lt (by omega),List.length_cons]
   congr 1
   omega
  rw[e1,e2]
  simp
def mX (p:Nat) (a:Int):List Value:=[.pointer (some ⟨p,0,none⟩),.int .i64 a,.int .i64 (-1),.int .i64 0,.int .i64 0,.int .u8 0,.int .i64 0,.slice none 0 0,.int .i64 0,.int .i64 0,.slice none 0 0]
theorem aj1 (p q:Nat)(F:Nat→Prop)(w:World)(s:Rst.St)(h:PS p q F w s)(hR:iY s):
  Calls prog 89 #[.pointer (some ⟨p,0,none⟩)] w fun E w'=>E=.returned (.agg (mX p s.p.a).toArray)∧Below w.heap.size w w':=by
 have hfd:=fun(a b c d e f:Int) (w:World)=>show(Instr.field 46 (.agg #[.int .i64 a,.int .u8 b,.int .i64 c,.int .u8 d,.int .i64 e,.int .i64 f]) 2).run prog w=.ok (.int .i64 c) w by kernel_rfl
 obtain⟨w1,hw1,s1,b1,P1⟩:=au w #[.pointer none,.int .i64 0,.int .i64 0,.int .i64 0,.int .i64 0,.int .u8 0,.int .i64 0,.slice none 0 0,.int .i64 0,.int .i64 0,.slice none 0 0] 84
 have PG:=hide (jA p q F w1 s (h.agree (fun g hg=>b1.block g (h.lt g hg)) b1.size (h.gQ.below b1)) hR)
 have HV:vp s.p=.agg #[.int .i64 s.p.e,.int .u8 s.p.r,.int .i64 s.p.a,.int .u8 s.p.p,.int .i64 s.p.f,.int .i64 s.p.b]:=rfl
 rw[HV]at PG
 have PP:=hide (And.intro P1 b1)
 obtain⟨a,ha⟩:∃a,s.p.a=a:=⟨_,rfl⟩
 rw[ha]at PG⊢
 clear h hR P1 b1 HV ha
 go_enter func89,ntmps89
 go_wp2_with fail
 refine PG.out.mono ?_
 rintro E w2 ⟨rfl,b2⟩
 obtain⟨P1,b1⟩:=PP.out
 have P2:=(b2.block w.heap.size (by omega)).trans P1
 obtain⟨V,hV⟩:∃V,sets w.heap.size w2 0 (mX p a)=V:=⟨_,rfl⟩
 obtain⟨k1,k2⟩:=aaj w.heap.size 84 (mX p a) w2 0 [.pointer none,.int .i64 0,.int .i64 0,.int .i64 0,.int .i64 0,.int .u8 0,.int .i64 0,.slice none 0 0,.int .i64 0,.int .i64 0,.slice none 0 0] P2 (Nat.le_refl _)
 rw[hV]at k1 k2
 have z2:=b2.size
 have BV:=hide (aG (b1.trans (b2.mono (by omega))) k2 (Nat.le_refl _) (by omega))
 simp only[sets,mX,Nat.reduceAdd]at hV
 have f:=aA P2
 have f0:=f 0;have f1:=f 1;have f2:=f 2;have f3:=f 3;have f4:=f 4;have f5:=f 5;have f6:=f 6;have f7:=f 7;have f8:=f 8;have f9:=f 9;have f10:=f 10
 have c:=fun j v (e:_[j]? =some v)=>ai P2 j e
 have c0:=c 0 _ rfl;have c1:=c 1 _ rfl;have c2:=c 2 _ rfl;have c3:=c 3 _ rfl;have c4:=c 4 _ rfl;have c5:=c 5 _ rfl;have c6:=c 6 _ rfl;have c7:=c 7 _ rfl;have c8:=c 8 _ rfl;have c9:=c 9 _ rfl;have c10:=c 10 _ rfl
 have d:=fun j v (e:_[j]? =some v)=>ai k1 j e
 have d0:=d 0 _ rfl;have d1:=d 1 _ rfl;have d2:=d 2 _ rfl;have d3:=d 3 _ rfl;have d4:=d 4 _ rfl;have d5:=d 5 _ rfl;have d6:=d 6 _ rfl;have d7:=d 7 _ rfl;have d8:=d 8 _ rfl;have d9:=d 9 _ rfl;have d10:=d 10 _ rfl
 clear PG PP P1 b1 b2 P2 k1 k2 z2 f c d s1
 go_wp2
 refine bodyPost_ret (v:=.agg (mX p a).toArray) (by simp[results,results89,go_sem,d0,d1,d2,d3,d4,d5,d6,d7,d8,d9,d10,mX]) rfl ?_
 exact⟨rfl,BV.out⟩
theorem aj7 (n p q A:Nat)(F:Nat→Prop)(W:World)(x:Ns)(h:Nd n p q F W x)(hR:iY x.s)(hr:Rol.mE x.s.p=0)(k:ByteArray)(hk:k.size≤140737488355328)(q0:W.heap[A]? =some (.cells #[.pointer (some ⟨n,0,none⟩)] 66 (0,0)))(q1:W.heap[A+1]? =some (.cells #[.string k] 9 (0,0)))(q2:W.heap[A+1+1]? =some (.cells #[.string ⟨#[]⟩] 9 (0,0)))(q3:W.heap[A+1+1+1]? =some (.cells #[.bool false] 4 (0,0))):
  Calls prog 79 #[.pointer (some ⟨A,0,none⟩),.pointer (some ⟨A+1,0,none⟩),.pointer (some ⟨A+1+1,0,none⟩),.pointer (some ⟨A+1+1+1,0,none⟩)] W fun E w'=>E=.returned (.int .i64 0)∧w'.heap[A+1+1]? =some (.cells #[.string (gv (Sto.fold (Rst.aP x.s)) k)] 9 (0,0))∧w'.heap[A+1+1+1]? =some (.cells #[.bool (gp (Sto.fold (Rst.aP x.s)) k)] 4 (0,0))∧Out (fun g=>g=A+1+1∨g=A+1+1+1) W w':=by
 have PG:=hide (jA p q F W x.s h.st hR)
 obtain⟨y,hy⟩:∃y,x.s.p=y:=⟨_,rfl⟩
 have xL:ig y:=by rw[←hy];exact h.st.fit
 rw[hy]at PG hr
 have HV:vp y=.agg #[.int .i64 y.e,.int .u8 y.r,.int .i64 y.a,.int .u8 y.p,.int .i64 y.f,.int .i64 y.b]:=rfl
 have RD:Hid (∀W',fU W'→Calls prog 80 #[vp y] W' fun E w'=>E=.returned (.int .i64 0)∧Below W'.heap.size W' w'):=hide fun W' hm=>by
  have:=ajb y W' xL hm
  rw[hr]at this
  exact this
 rw[HV]at PG RD
 generalize ht:Sto.fold (Rst.aP x.s)=T at*
 have GE:Hid (∀W',Below W.heap.size W W'→Calls prog 81 #[.pointer (some ⟨p,0,none⟩),.string k] W' fun E w'=>E=.returned (.tuple #[.string (gv T k),.bool (gp T k)])∧Below W.heap.size W w'):=hide fun W' hW=>by
  refine(aqu p q F W' x.s (h.below hW).st hR k hk).mono ?_
  rw[ht]
  rintro E w' ⟨rfl,b⟩
  exact⟨rfl,hW.trans (b.mono hW.size)⟩
 have CE:Hid (∀W',Below W.heap.size W W'→W'.cell? ⟨A,0,none⟩=some (.pointer (some ⟨n,0,none⟩))∧W'.cell? ⟨n,3,none⟩=some (.pointer (some ⟨p,0,none⟩))∧W'.cell? ⟨A+1,0,none⟩=some (.string k)∧fU W'∧W'.heap[A+1+1]? =some (.cells #[.string ⟨#[]⟩] 9 (0,0))∧W'.heap[A+1+1+1]? =some (.cells #[.bool false] 4 (0,0))):=hide fun W' hW=>⟨ai ((hW.block _ (ay q0)).trans q0) 0 rfl,(h.below hW).cs.c3,ai ((hW.block _ (ay q1)).trans q1) 0 rfl,(h.below hW).st.gQ,(hW.block _ (ay q2)).trans q2,(hW.block _ (ay q3)).trans q3⟩
 obtain⟨e0,e3,e1,_,_,_⟩:=CE.out W (Below.refl _ _)
 generalize gv T k=gvv at*
 generalize gp T k=gpp at*
 clear h hR hr hk q0 q1 q2 q3 hy xL HV ht
 go_enter func79,ntmps79
 go_wp2_with fail
 refine PG.out.mono ?_
 rintro E w1 ⟨rfl,b1⟩
 have R1:=hide (RD.out w1 (CE.out w1 b1).2.2.2.1)
 have B1:=hide b1
 clear PG RD b1 e0 e1 e3
 go_wp2_with fail
 refine R1.out.mono ?_
 rintro E w2 ⟨rfl,b2⟩
 have B2:=hide (B1.out.trans (b2.mono B1.out.size))
 obtain⟨e0,e3,e1,_,_,_⟩:=CE.out w2 B2.out
 have G2:=hide (GE.out w2.drew B2.out.drew)
 clear R1 B1 b2 GE
 go_wp2_with fail
 go_region_with (go_at_call 81;refine G2.out.mono ?_;rintro E w3 ⟨rfl,b3⟩;obtain⟨_,_,_,_,q2,q3⟩:=CE.out w3 b3;obtain⟨V,hV,bV,gV,fV⟩:=uM q2 0 (.string gvv);have q3':=(gV.block _ (ay q3) (by simp)).trans q3;obtain⟨V2,hV2,bV2,gV2,fV2⟩:=uM q3' 0 (.bool gpp);have d2:w3.cell? ⟨A+1+1,0,none⟩=some (.string ⟨#[]⟩):=ai q2 0 rfl;have d3:V.cell? ⟨A+1+1+1,0,none⟩=some (.bool false):=ai q3' 0 rfl;have B3:=hide b3;have RR:=hide (And.intro ((gV2.block _ (ay bV) (by simp)).trans bV) (And.intro bV2 (And.intro gV gV2)));clear q2 q3 q3' bV gV bV2 gV2 b3)
 all_goals
  go_wp2
  go_ret
  obtain⟨r1,r2,r3,r4⟩:=RR.out
  exact⟨rfl,r1,r2,((Out.of_below B3.out (F:=fun g=>g=A+1+1∨g=A+1+1+1)).trans (Out.aM (F:=fun g=>g=A+1+1∨g=A+1+1+1) r3 fun g e=>.inl (Option.some.inj e).symm) fun g e=>.inl e).trans (Out.aM (F:=fun g=>g=A+1+1∨g=A+1+1+1) r4 fun g e=>.inr (Option.some.inj e).symm) fun g e=>.inl e⟩
theorem acV (n p q:Nat)(F:Nat→Prop)(w:World)(x:Ns)(h:Nd n p q F w x)(hR:iY x.s)(hon:x.s.d.on=true)(hr:Rol.mE x.s.p=0)(k:ByteArray)(hk:k.size≤140737488355328):
  Calls prog 33 #[.pointer (some ⟨n,0,none⟩),.string k] w fun E w'=>E=.returned (.tuple #[.string (gv (Sto.fold (Rst.aP x.s)) k),.bool (gp (Sto.fold (Rst.aP x.s)) k),.int .i64 0])∧Below w.heap.size w w':=by
 have kQ:∀(fn:Fn) (first cap:Array Value) (w:World),(Instr.makeFunc fn first cap).run prog w=.ok (.func fn first cap) w:=fun _ _ _ _=>rfl
 obtain⟨w1,hw1,s1,b1,P1⟩:=au w #[.pointer (some ⟨n,0,none⟩)] 66
 obtain⟨w2,hw2,s2,b2,P2⟩:=au w1 #[.string k] 9
 obtain⟨w3,hw3,s3,b3,P3⟩:=au w2 #[.string ⟨#[]⟩] 9
 obtain⟨w4,hw4,s4,b4,P4⟩:=au w3 #[.bool false] 4
 rw[s1]at P2
 rw[s2,s1]at P3
 rw[s3,s2,s1]at P4
 have jN:Below w.heap.size w w4:=((b1.trans (b2.mono (by omega))).trans (b3.mono (by omega))).trans (b4.mono (by omega))
 have P1:=(b4.block _ (by omega)).trans ((b3.block _ (by omega)).trans ((b2.block _ (by omega)).trans P1))
 have P2:=(b4.block _ (by omega)).trans ((b3.block _ (by omega)).trans P2)
 have P3:=(b4.block _ (by omega)).trans P3
 have R1:=fun W hW=>aj7 n p q w.heap.size F W x (h.below hW) hR hr k hk
 generalize gv (Sto.fold (Rst.aP x.s)) k=gvv at*
 generalize gp (Sto.fold (Rst.aP x.s)) k=gpp at*
 have CL:=rD n p q F w4 x (h.below jN) hon 79 #[] #[.pointer (some ⟨w.heap.size,0,none⟩),.pointer (some ⟨w.heap.size+1,0,none⟩),.pointer (some ⟨w.heap.size+1+1,0,none⟩),.pointer (some ⟨w.heap.size+1+1+1,0,none⟩)] _ (enters_of func79 (by kernel_rfl) rfl) rfl (fun e W w'=>e=0∧w'.heap[w.heap.size+1+1]? =some (.cells #[.string gvv] 9 (0,0))∧w'.heap[w.heap.size+1+1+1]? =some (.cells #[.bool gpp] 4 (0,0))∧Below w.heap.size w w') (fun W hW=>by
  have zW:=hW.size
  refine(R1 W (jN.trans (hW.mono (by omega))) ((hW.block _ (by omega)).trans P1) ((hW.block _ (by omega)).trans P2) ((hW.block _ (by omega)).trans P3) ((hW.block _ (by omega)).trans P4)).mono ?_
  rintro E w' ⟨rfl,r1,r2,o⟩
  exact⟨0,rfl,rfl,fun g g1 g2=>o.block g g2 (by omega),o.size,rfl,r1,r2,(jN.trans (hW.mono (by omega))).trans (o.below (base:=w.heap.size) (fun g e=>by omega) (by omega))⟩)
 have CL:=hide CL
 have FIN:Hid (∀W W1 B w5,Below w4.heap.size w4 W→w4.heap.size≤B∧B<W.heap.size→W1.grownBy w5 (some B)→W1.heap[w.heap.size+1+1]? =some (.cells #[.string gvv] 9 (0,0))→W1.heap[w.heap.size+1+1+1]? =some (.cells #[.bool gpp] 4 (0,0))→Below w.heap.size w W1→w5.heap[w.heap.size+1+1]? =some (.cells #[.string gvv] 9 (0,0))∧w5.heap[w.heap.size+1+1+1]? =some (.cells #[.bool gpp] 4 (0,0))∧Below w.heap.size w w5):=hide fun W W1 B w5 hW hB g c d k=>
  ⟨(g.block _ (ay c) (fun e=>by have:=Option.some.inj e;omega)).trans c,(g.block _ (ay d) (fun e=>by have:=Option.some.inj e;omega)).trans d,aG k g (by omega) k.size⟩
 have d1:w4.cell? ⟨w.heap.size,0,none⟩=some (.pointer (some ⟨n,0,none⟩)):=ai P1 0 rfl
 clear R1 P1 P2 P3 P4 b1 b2 b3 b4 jN s4 h hR hon hr hk
 go_enter func33,ntmps33
 go_wp2_with fail
 refine CL.out.mono ?_
 rintro E w5 ⟨e,rfl,W,W1,B,hW,hB,g,rfl,c,d,k⟩
 obtain⟨q4,q5,b5⟩:=FIN.out W W1 B w5 hW hB g c d k
 have RR:=hide b5
 have e4:w5.cell? ⟨w.heap.size+1+1,0,none⟩=some (.string gvv):=ai q4 0 rfl
 have f4:=aA q4 0
 have u4:w5.setCell ⟨w.heap.size+1+1,0,none⟩ (.string gvv)=w5:=aK q4 (j:=0) rfl
 have e5:w5.cell? ⟨w.heap.size+1+1+1,0,none⟩=some (.bool gpp):=ai q5 0 rfl
 have f5:=aA q5 0
 have u5:w5.setCell ⟨w.heap.size+1+1+1,0,none⟩ (.bool gpp)=w5:=aK q5 (j:=0) rfl
 clear CL FIN hW hB g c d k q4 q5 b5
 go_wp2_with fail
 go_region
 all_goals
  go_wp2
  refine bodyPost_ret (v:=.tuple #[.string gvv,.bool gpp,.int .i64 0]) (by simp[results,results33,go_sem,e4,e5]) rfl ?_
  exact⟨rfl,RR.out.drew⟩
end Go.Proofs.YtlmkaljjocflmaaGreatDoor
