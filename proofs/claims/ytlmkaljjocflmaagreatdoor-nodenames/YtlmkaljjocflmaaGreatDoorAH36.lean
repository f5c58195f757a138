/- Texts of one layer, one behind the other. -/
import Derived.Test.YtlmkaljjocflmaaGreatDoorAH22
import Derived.Test.YtlmkaljjocflmaaGreatDoorAG3
import Derived.Test.YtlmkaljjocflmaaGreatDoorAH6
import Derived.Test.YtlmkaljjocflmaaGreatDoorAH1
import Derived.Test.YtlmkaljjocflmaaGreatDoorAH5
import Derived.Deep.RegionLaw
import Derived.Test.YtlmkaljjocflmaaGreatDoorAH16
import Derived.Deep.CutRange
import Derived.BigQuiet
import Derived.Test.YtlmkaljjocflmaaGreatDoorAH27
import Derived.Deep.RegionHeld3
import Derived.Deep.QuietTactic
set_option maxRecDepth 100000
set_option maxHeartbeats 8000000
namespace Go.Proofs.YtlmkaljjocflmaaGreatDoor
open Go.RowKit
set_option linter.unusedVariables false
theorem bM.base {B:Nat}{w0 w w':World}{vb:Value}{bs:List Int}{a:Nat}{bad:Bool}{m:Mw}(h:bM B w0 w vb bs a bad m)(hb:Below (B+5) w w'):bM B w0 w' vb bs a bad m:=
 ⟨⟨h.r.xQ,h.r.hB,h.r.aK.trans (hb.mono (by omega)),(hb.block _ (by omega)).trans h.r.bx,(hb.block _ (by omega)).trans h.r.at',(hb.block _ (by omega)).trans h.r.er,h.r.le⟩,(hb.block _ (by omega)).trans h.f,(hb.block _ (by omega)).trans h.m⟩
def av3 (B:Nat) (w0:World) (vb:Value) (bs:List Int) (a:Nat) (bad:Bool) (w:World) (v:Value) (w':World):Prop:=
 ∃(e n:Int) (xa:Option Addr) (xl xc:Nat) (l:List Bm.Ov) (a':Nat) (bad':Bool),v=.agg #[.int .i64 e,.int .i64 n,.slice xa xl xc]∧Hid (bu 71 w.heap.size w' (.slice xa xl xc) l∧Mm.tQ bs a bad ⟨e,n,l⟩ a' bad'∧aaW e n l∧Rst B w0 w' vb bs a' bad'∧Out (Wr B) w w')
theorem auZ (B:Nat)(w0 w:World)(vb:Value)(bs:List Int)(a:Nat)(bad:Bool)(h:Rst B w0 w vb bs a bad)(hn:zB B w)(hl:bs.length≤100000000000000):
  Calls Tryz.prog 274 (#[]++#[.pointer (some ⟨B+4,0,none⟩),.pointer (some ⟨B,0,none⟩),.pointer (some ⟨B+2,0,none⟩),.pointer (some ⟨B+3,0,none⟩)]) w fun E w'=>∃v,E=.returned v∧av3 B w0 vb bs a bad w v w':=by
 refine(aqG B w0 w vb bs a bad h hn hl).mono ?_
 rintro E w' ⟨e,n,v,l,a',bad',rfl,H⟩
 obtain⟨xa,xc,hv,_,_⟩:=H.out.1.is.shape
 subst hv
 exact⟨_,rfl,e,n,xa,_,xc,l,a',bad',rfl,H⟩
theorem Tryz.akf:∀args w,(callFunc 274 args).run Tryz.prog w=.ok (.enter 274 args) w:=enters_of Tryz.func274 (by kernel_rfl) rfl
def sm2 (e f p:Int) (vc:Value) (cs:List Cw):Mw:=⟨2,e,0,0,.slice none 0 0,[],f,p,vc,cs⟩
theorem asl {b:Nat}{w:World}{e f p:Int}{vc:Value}{cs:List Cw}(h:mO b w vc cs):bP b w (sm2 e f p vc cs):=⟨dI.nil _ _ _ _ _,h.c,h.o,h.i,h.ap⟩
theorem auO (vb:Value)(bs:List Int)(w:World)(hb:Is .u8 w vb bs)(hl:bs.length≤100000000000000)(a1:Nat)(b1:Bool)(S1:jB bs 3 0 false 2 a1 b1):
  Calls Tryz.prog 209 #[vb] w (zZ w bs):=by
 obtain⟨ao,ln,cap,hv⟩:=hb.form
 subst hv
 obtain⟨w1,w2,w3,w4,w5,w6,hw1,hw2,hw3,hw4,aT,dm,bJ,iE,gM,vN,wI,kD,r6⟩:=oz w _ bs hb
 have kW:∀(fn:Fn) (first cap:Array Value) (w:World),(Instr.makeFunc fn first cap).run Tryz.prog w=.ok (.func fn first cap) w:=fun _ _ _ _=>rfl
 have hst:=run_store Tryz.prog w5 ⟨w.heap.size+4,0,none⟩ (.func (.func 273) #[] #[.pointer (some ⟨w.heap.size+3,0,none⟩),.pointer (some ⟨w.heap.size,0,none⟩),.pointer (some ⟨w.heap.size+2,0,none⟩)]) .plain rfl
 simp only[vN,wI,kD]at hst
 simp only[Bool.false_eq_true,if_false]at hst
 obtain⟨u2,a2,b2,S2⟩:=fF bs 1048576 a1 b1
 have hu2:=dZ S2
 have R6:=hide r6
 have cf:=r6.cf
 have X1:=hide S1
 have X2:=hide S2
 have G2:Hid (Mm.Go bs [2,(u2:Int)] a2 b2):=hide (Mm.eu (Mm.eu (Mm.pR bs) S1 Mm.aht) S2 (Mm.aiX _))
 have O6:Hid (bP (w.heap.size+5) w6 fD):=hide (bP.no _ _)
 have C1:=hide (dK w.heap.size w w6 _ bs 0 false 3 2 a1 b1 r6.r hl (by omega) S1)
 clear S1 S2 r6 hb
 go_enter Tryz.func209,Tryz.ntmps209
 go_wp2_with fail
 refine C1.out.mono ?_
 rintro E w7 ⟨rfl,H7⟩
 have R7:=hide (R6.out.step H7.out.1 H7.out.2)
 have O7:=hide (O6.out.wr H7.out.2)
 clear H7 C1 hw1 hw2 hw3 hw4 gM kD R6 O6 cf vN wI hst
 obtain⟨w8,hw8⟩:∃V,w7.setCell ⟨w.heap.size+1,0,none⟩ (.int .i64 2)=V:=⟨_,rfl⟩
 have R8:Hid (bM w.heap.size w w8 (.slice ao ln cap) bs a1 b1 ⟨2,0,0,0,.slice none 0 0,[],0,0,.slice none 0 0,[]⟩):=hide (by rw[←hw8];exact R7.out.put 0 _ _ rfl)
 have O8:Hid (bP (w.heap.size+5) w8 fD):=hide (by rw[←hw8];exact O7.out.set 0 _)
 obtain⟨c0,c1,c2,c3,c4,c5,c6,c7⟩:=df R7.out.m
 have f0:=R7.out.fm 0
 have cf:=R8.out.cf
 have C2:=hide (dK w.heap.size w w8 _ bs a1 b1 1048576 u2 a2 b2 R8.out.r hl (by omega) X2.out)
 clear R7 O7
 go_wp2_with fail
 refine C2.out.mono ?_
 rintro E w9 ⟨rfl,H9⟩
 have R9:=hide (R8.out.step H9.out.1 H9.out.2)
 have O9:=hide (O8.out.wr H9.out.2)
 clear H9 C2 R8 O8 cf hw8 c0 c1 c2 c3 c4 c5 c6 c7 f0
 obtain⟨wA,nQ⟩:∃V,w9.setCell ⟨w.heap.size+1,1,none⟩ (.int .i64 u2)=V:=⟨_,rfl⟩
 have RA:Hid (bM w.heap.size w wA (.slice ao ln cap) bs a2 b2 ⟨2,u2,0,0,.slice none 0 0,[],0,0,.slice none 0 0,[]⟩):=hide (by rw[←nQ];exact R9.out.put 1 _ _ rfl)
 have OA:Hid (bP (w.heap.size+5) wA fD):=hide (by rw[←nQ];exact O9.out.set 1 _)
 obtain⟨c0,c1,c2,c3,c4,c5,c6,c7⟩:=df R9.out.m
 obtain⟨d0,d1,d2,d3,d4,d5,d6,d7⟩:=df RA.out.m
 have f1:=R9.out.fm 1
 obtain⟨u3,a3,b3,S3⟩:=fF bs 1048576 a2 b2
 obtain⟨u4,a4,b4,S4⟩:=fF bs 1048576 a3 b3
 obtain⟨u5,a5,b5,S5⟩:=fF bs 4 a4 b4
 have hu3:=dZ S3
 have hu4:=dZ S4
 have hu5:=dZ S5
 have G5:Hid (Mm.uj bs [2,(u2:Int),(u3:Int),(u4:Int),(u5:Int)] (aH []) a5 b5):=hide (Mm.eu (Mm.eu (Mm.eu G2.out S3 (Mm.avA _)) S4 (Mm.avO _ _)) S5 (Mm.avC _ _ _)).c
 have X4:=hide S4
 have X5:=hide S5
 have cf:=RA.out.cf
 have C3:=hide (dK w.heap.size w wA _ bs a2 b2 1048576 u3 a3 b3 RA.out.r hl (by omega) S3)
 clear R9 O9 S3 S4 S5
 go_wp2_with fail
 refine C3.out.mono ?_
 rintro E wB ⟨rfl,HB⟩
 have RB:=hide (RA.out.step HB.out.1 HB.out.2)
 clear HB C3 RA OA cf nQ c0 c1 c2 c3 c4 c5 c6 c7 d0 d1 d2 d3 d4 d5 d6 d7 f1
 obtain⟨wC,hwC⟩:∃V,wB.setCell ⟨w.heap.size+1,5,none⟩ (.int .i64 u3)=V:=⟨_,rfl⟩
 have RC:Hid (bM w.heap.size w wC (.slice ao ln cap) bs a3 b3 (sm2 u2 u3 0 (.slice none 0 0) [])):=hide (by rw[←hwC];exact RB.out.put 5 _ _ rfl)
 obtain⟨c0,c1,c2,c3,c4,c5,c6,c7⟩:=df RB.out.m
 have f2:=RB.out.fm 5
 have cf:=RC.out.cf
 have C4:=hide (dK w.heap.size w wC _ bs a3 b3 1048576 u4 a4 b4 RC.out.r hl (by omega) X4.out)
 clear RB
 go_wp2_with fail
 refine C4.out.mono ?_
 rintro E wD ⟨rfl,HD⟩
 have RD:=hide (RC.out.step HD.out.1 HD.out.2)
 clear HD C4 RC cf hwC c0 c1 c2 c3 c4 c5 c6 c7 f2
 obtain⟨wE,hwE⟩:∃V,wD.setCell ⟨w.heap.size+1,6,none⟩ (.int .i64 u4)=V:=⟨_,rfl⟩
 have RE:Hid (bM w.heap.size w wE (.slice ao ln cap) bs a4 b4 (sm2 u2 u3 u4 (.slice none 0 0) [])):=hide (by rw[←hwE];exact RD.out.put 6 _ _ rfl)
 obtain⟨c0,c1,c2,c3,c4,c5,c6,c7⟩:=df RD.out.m
 have f3:=RD.out.fm 6
 have cf:=RE.out.cf
 have C5:=hide (dK w.heap.size w wE _ bs a4 b4 4 u5 a5 b5 RE.out.r hl (by omega) X5.out)
 clear RD
 go_wp2_with fail
 refine C5.out.mono ?_
 rintro E wF ⟨rfl,HF⟩
 have RF:=hide (RE.out.step HF.out.1 HF.out.2)
 clear HF C5 RE cf hwE c0 c1 c2 c3 c4 c5 c6 c7 f3
 go_wp2
 go_loopw [8] (fun lv wr=>∃(left a:Nat) (bad:Bool) (vc:Value) (cs:List Cw),lv=.int .i64 left∧left≤4∧Hid (cs.length+left=u5)∧Hid (bM w.heap.size w wr (.slice ao ln cap) bs a bad (sm2 u2 u3 u4 vc cs)∧mO (w.heap.size+5) wr vc cs)∧Hid (Mm.uj bs [2,(u2:Int),(u3:Int),(u4:Int),(u5:Int)] (aH cs) a bad)) (fun lv _=>(intOf lv).toNat)
 case atStart=>exact⟨u5,a5,b5,_,[],rfl,hu5,hide (by simp),hide ⟨RF.out,mO.nil _ _⟩,G5⟩
 case round=>
  clear RF G5
  obtain⟨left,a,bad,vc,cs,rfl,hlf,HL,HR,HG⟩:=hrel
  have ce:wr.cell? ⟨w.heap.size+3,0,none⟩=some (.int .i64 (eT bad)):=HR.out.1.ce
  obtain⟨xa,xl,xc,hvs⟩:∃x y z,vc=.slice x y z:=by
   obtain⟨x,z,hv,_,_⟩:=HR.out.2.c.row.shape
   exact⟨x,_,z,hv⟩
  subst hvs
  by_cases hcont:0<left∧bad=false
  ·obtain⟨hlt,rfl⟩:=hcont
   have hlt':(0:Int)<left:=by omega
   have hb0:eT false=0:=rfl
   rw[hb0]at ce
   have RD1:=hide (HR.out.1.drewN 1)
   have OD1:Hid (mO (w.heap.size+5) (wr.drewN 1) (.slice xa xl xc) cs):=hide (HR.out.2.below (below_drewN (Below.refl _ _) 1))
   have C1:=hide (auZ w.heap.size w (wr.drewN 1) _ bs a false RD1.out.r RD1.out.f hl)
   have cv:wr.cell? ⟨w.heap.size+1,7,none⟩=some (.slice xa xl xc):=HR.out.1.m.ei.c7
   have hll:=HL.out
   have hl5:=HR.out.1.lt
   have HLT:Hid (∀d∈cs,∀g,d.v.ownBlock=some g→g<(wr.drewN 1).heap.size):=hide fun d hd g hg=>(World.ownsRow.lt (OD1.out.o d hd) g hg).2
   have HL5:Hid (w.heap.size+5≤(wr.drewN 1).heap.size):=hide (by have:=RD1.out.lt;omega)
   go_wp2_with fail
   go_region_law (first
    |(refine ahw rfl (.tmp 68) 274 #[] #[] #[.pointer (some ⟨w.heap.size+4,0,none⟩),.pointer (some ⟨w.heap.size,0,none⟩),.pointer (some ⟨w.heap.size+2,0,none⟩),.pointer (some ⟨w.heap.size+3,0,none⟩)] rfl (by simp[Act.eval,Act.put]) Tryz.akf #[] (by simp) C1.out ?_;rintro v1 z1 ⟨e,n,ya,yl,yc,l,a',bad',rfl,H1⟩;have R1:=hide (RD1.out.step H1.out.2.2.2.1 H1.out.2.2.2.2);have O1:=hide (OD1.out.out H1.out.2.2.2.2 (fun i hi=>by unfold Wr at hi;omega));have cv1:z1.cell? ⟨w.heap.size+1,7,none⟩=some (.slice xa xl xc):=R1.out.m.ei.c7;obtain⟨z3,hz3,aon,aC,bG⟩:=mZ 35 z1 #[.int .i64 e,.int .i64 n,.slice ya yl yc] 1 [⟨e,n,.slice ya yl yc,l⟩] rfl rfl (by simp[maxLen]);have R3:=hide (R1.out.below aC);have O3:=hide (O1.out.below aC);have W3:Hid (bu 71 (wr.drewN 1).heap.size z3 (.slice ya yl yc) l):=hide (H1.out.1.below aC);have cv3:z3.cell? ⟨w.heap.size+1,7,none⟩=some (.slice xa xl xc):=R3.out.m.ei.c7;have RW3:=hide bG.row;have hl3:=R3.out.lt;clear bG aC aon)
    |(refine yZ rfl (.tmp 67) (.tmp 70) 22 rfl 35 (w.heap.size+5) Tryz.underlying22 Tryz.aaF _ cs (by simp[Act.eval]) O3.out.c _ [⟨e,n,.slice ya yl yc,l⟩] (by simp[Act.eval]) RW3.out (by intro c hc;rw[List.mem_singleton.1 hc];rfl) (by simp;omega) (by omega) ?_;intro v4 z4 bq aL kp4;obtain⟨qa,ql,qc,hv4⟩:∃x y z,v4=.slice x y z:=(by obtain⟨x,z,hv,_,_⟩:=bq.row.shape;exact⟨x,_,z,hv⟩);subst hv4;have R4:=hide (R3.out.base aL);have O4:=hide (O3.out.snoc kp4 bq W3.out HL5.out HLT.out H1.out.2.2.1);have cv4:z4.cell? ⟨w.heap.size+1,7,none⟩=some (.slice xa xl xc):=R4.out.m.ei.c7;have fr4:=R4.out.fm 7;clear bq aL kp4))
   all_goals
    obtain⟨z5,yz⟩:∃V,z4.setCell ⟨w.heap.size+1,7,none⟩ (.slice qa ql qc)=V:=⟨_,rfl⟩
    have R5:Hid (bM w.heap.size w z5 (.slice ao ln cap) bs a' bad' (sm2 u2 u3 u4 (.slice qa ql qc) (cs++[⟨e,n,.slice ya yl yc,l⟩]))):=hide (by rw[←yz];exact R4.out.put 7 _ _ rfl)
    have O5:Hid (mO (w.heap.size+5) z5 (.slice qa ql qc) (cs++[⟨e,n,.slice ya yl yc,l⟩])):=hide (by rw[←yz];exact O4.out.out (F:=fun i=>i=w.heap.size+1) (Out.aP (ax z4 ⟨w.heap.size+1,7,none⟩ (.slice qa ql qc)) (fun i hi=>by simpa using hi.symm)) (fun i hi=>by omega))
    have HG2:Hid (Mm.uj bs [2,(u2:Int),(u3:Int),(u4:Int),(u5:Int)] (aH (cs++[⟨e,n,.slice ya yl yc,l⟩])) a' bad'):=hide (by
     have:=Mm.an1 HG.out H1.out.2.1 (by rw[dE];omega)
     simpa[aH,Cw.c]using this)
    clear R4 O4 R3 O3 R1 O1 C1 RD1 OD1 H1 W3 HLT HL5
    go_wp2
    go_roundw
    case rel=>exact⟨left-1,a',bad',_,_,by rw[show((left-1:Nat):Int)=(left:Int)-1 by omega],by omega,hide (by rw[List.length_append];simp;omega),hide ⟨R5.out,O5.out⟩,HG2⟩
    case measure=>simp[intOf];omega
  ·have hend:Hid (bad=false→left=0):=hide fun h=>by
    rcases Nat.eq_zero_or_pos left with e|e
    ·exact e
    ·exact absurd ⟨e,h⟩ hcont
   have hsl:cs.length≤4:=by have:=HL.out;omega
   have RX:=hide HR.out.1
   have OX:Hid (bP (w.heap.size+5) wr (sm2 u2 u3 u4 (.slice xa xl xc) cs)):=hide (asl HR.out.2)
   by_cases hz:left=0
   ·have hz':¬(0:Int)<left:=by omega
    clear hcont
    obtain⟨wZ,mI⟩:∃V,wr.drew=V:=⟨_,rfl⟩
    have RZ:Hid (bM w.heap.size w wZ (.slice ao ln cap) bs a bad ⟨2,u2,0,0,.slice none 0 0,[],u3,u4,.slice xa xl xc,cs⟩):=hide (by rw[←mI];exact RX.out.drewN 1)
    have HZ:Hid (bP w.heap.size wZ ⟨2,u2,0,0,.slice none 0 0,[],u3,u4,.slice xa xl xc,cs⟩∧bQ ⟨2,u2,0,0,.slice none 0 0,[],u3,u4,.slice xa xl xc,cs⟩∧Rdd bs (Mw.m ⟨2,u2,0,0,.slice none 0 0,[],u3,u4,.slice xa xl xc,cs⟩) a bad∧Below w.heap.size w wZ):=by
     refine⟨?_,lZ (k:=2) (r:=0) (n:=0) (by omega) hu2 (by omega) (by omega) hu3 hu4 (by simp) HR.out.2.f (by show cs.length≤_;omega),.inl ⟨?_,?_⟩,RZ.out.r.aK⟩
     ·have:=(OX.out.below (below_drewN (Below.refl _ _) 1)).bz (base':=w.heap.size) (by omega)
      rw[←mI]
      exact⟨this.s,this.c,this.o,this.i,this.ap⟩
     ·have h1:=HG.out
      rw[Mm.pE rfl]
      show Mm.uj bs [2,(u2:Int),(u3:Int),(u4:Int),((aH cs).length:Int)] (aH cs) a bad
      rcases h1 with⟨h2,h3⟩|h2
      ·have hz:=hend.out h2
       have hlz:=HL.out
       rw[hz]at hlz
       rw[show(((aH cs).length:Int))=(u5:Int)by rw[dE];omega]
       exact HG.out
      ·exact .inr h2
     ·intro hb
      rcases HG.out with⟨_,h,h',_⟩|⟨h,_⟩
      ·refine⟨?_,.inr (.inl ⟨rfl,rfl,rfl,rfl,h'⟩)⟩
       rw[Mm.pE rfl]
       have hz:=hend.out hb
       have hlz:=HL.out
       rw[hz]at hlz
       show ∀z∈[2,(u2:Int),(u3:Int),(u4:Int),((aH cs).length:Int)],0≤z
       rw[show(((aH cs).length:Int))=(u5:Int)by rw[dE];omega]
       exact h
      ·rw[hb]at h;simp at h
    obtain⟨e0,e1,e2,e3,e4,e5,e6,e7⟩:=df RZ.out.m
    have ea:=RZ.out.ca
    have ee:=RZ.out.ce
    obtain⟨s0,s1,s2,s3,s4,s5,s6,s7,sa,se⟩:=RZ.out.sam
    have z0:=RZ.out.fm 0
    have z1:=RZ.out.fm 1
    have z2:=RZ.out.fm 2
    have z3:=RZ.out.fm 3
    have z4:=RZ.out.fm 4
    have z5:=RZ.out.fm 5
    have z6:=RZ.out.fm 6
    have z7:=RZ.out.fm 7
    have za:=aB RZ.out.r.at' 0
    have ze:=aB RZ.out.r.er 0
    go_wp2
    go_region
    go_wp2
    refine bodyPost_ret (v:=.tuple #[.agg #[.int .i64 2,.int .i64 u2,.int .u8 0,.int .i64 0,.slice none 0 0,.int .i64 u3,.int .i64 u4,.slice xa xl xc],.int .i64 a,.int .i64 (eT bad)]) (by simp[results,Tryz.results209,go_sem,e0,e1,e2,e3,e4,e5,e6,e7,ea,ee]) rfl ?_
    exact⟨⟨2,u2,0,0,.slice none 0 0,[],u3,u4,.slice xa xl xc,cs⟩,a,bad,rfl,HZ⟩
   ·have hz':(0:Int)<left:=by omega
    have hbt:bad=true:=by
     cases bad
     ·exact absurd ⟨by omega,rfl⟩ hcont
     ·rfl
    subst hbt
    have hb5:eT true=5:=rfl
    rw[hb5]at ce
    clear hcont
    obtain⟨wZ,mI⟩:∃V,wr.drew=V:=⟨_,rfl⟩
    have RZ:Hid (bM w.heap.size w wZ (.slice ao ln cap) bs a true ⟨2,u2,0,0,.slice none 0 0,[],u3,u4,.slice xa xl xc,cs⟩):=hide (by rw[←mI];exact RX.out.drewN 1)
    have HZ:Hid (bP w.heap.size wZ ⟨2,u2,0,0,.slice none 0 0,[],u3,u4,.slice xa xl xc,cs⟩∧bQ ⟨2,u2,0,0,.slice none 0 0,[],u3,u4,.slice xa xl xc,cs⟩∧Rdd bs (Mw.m ⟨2,u2,0,0,.slice none 0 0,[],u3,u4,.slice xa xl xc,cs⟩) a true∧Below w.heap.size w wZ):=by
     refine⟨?_,lZ (k:=2) (r:=0) (n:=0) (by omega) hu2 (by omega) (by omega) hu3 hu4 (by simp) HR.out.2.f (by show cs.length≤_;omega),.inl ⟨?_,?_⟩,RZ.out.r.aK⟩
     ·have:=(OX.out.below (below_drewN (Below.refl _ _) 1)).bz (base':=w.heap.size) (by omega)
      rw[←mI]
      exact⟨this.s,this.c,this.o,this.i,this.ap⟩
     ·have h1:=HG.out
      rw[Mm.pE rfl]
      show Mm.uj bs [2,(u2:Int),(u3:Int),(u4:Int),((aH cs).length:Int)] (aH cs) a true
      rcases h1 with⟨h2,h3⟩|h2
      ·have hz:=hend.out h2
       have hlz:=HL.out
       rw[hz]at hlz
       rw[show(((aH cs).length:Int))=(u5:Int)by rw[dE];omega]
       exact HG.out
      ·exact .inr h2
     ·intro hb
      simp at hb
    obtain⟨e0,e1,e2,e3,e4,e5,e6,e7⟩:=df RZ.out.m
    have ea:=RZ.out.ca
    have ee:=RZ.out.ce
    rw[hb5]at ee
    obtain⟨s0,s1,s2,s3,s4,s5,s6,s7,sa,se⟩:=RZ.out.sam
    rw[hb5]at se
    have z0:=RZ.out.fm 0
    have z1:=RZ.out.fm 1
    have z2:=RZ.out.fm 2
    have z3:=RZ.out.fm 3
    have z4:=RZ.out.fm 4
    have z5:=RZ.out.fm 5
    have z6:=RZ.out.fm 6
    have z7:=RZ.out.fm 7
    have za:=aB RZ.out.r.at' 0
    have ze:=aB RZ.out.r.er 0
    go_wp2
    go_region
    go_wp2
    refine bodyPost_ret (v:=.tuple #[.agg #[.int .i64 2,.int .i64 u2,.int .u8 0,.int .i64 0,.slice none 0 0,.int .i64 u3,.int .i64 u4,.slice xa xl xc],.int .i64 a,.int .i64 5]) (by simp[results,Tryz.results209,go_sem,e0,e1,e2,e3,e4,e5,e6,e7,ea,ee]) rfl ?_
    exact⟨⟨2,u2,0,0,.slice none 0 0,[],u3,u4,.slice xa xl xc,cs⟩,a,true,rfl,HZ⟩
theorem aj5 (vb:Value)(bs:List Int)(w:World)(hb:Is .u8 w vb bs)(hl:bs.length≤100000000000000):Calls Tryz.prog 209 #[vb] w (zZ w bs):=by
 obtain⟨u,a1,b1,S1⟩:=fF bs 3 0 false
 have:=dZ S1
 rcases(show u=0∨u=1∨u=2∨u=3 by omega)with rfl|rfl|rfl|rfl
 ·exact asI vb bs w hb hl a1 b1 S1
 ·exact atF vb bs w hb hl a1 b1 S1
 ·exact auO vb bs w hb hl a1 b1 S1
 ·exact auS vb bs w hb hl a1 b1 S1
def aws (w:World) (m':Mm.Msg) (g:Int) (E:Ending) (w':World):Prop:=
 ∃m:Mw,E=.returned (.tuple #[mv m,.int .i64 g])∧Hid (m.m=m'∧bP w.heap.size w' m∧bQ m∧Below w.heap.size w w')
theorem ajK {w w':World}(hb:Below w.heap.size w w'):Hid (fD.m=Mm.no∧bP w.heap.size w' fD∧bQ fD∧Below w.heap.size w w'):=hide ⟨rfl,bP.no _ _,bQ.no,hb⟩
theorem afT (vb:Value)(bs:List Int)(w:World)(hb:Is .u8 w vb bs)(hl:bs.length≤100000000000000)(m':Mm.Msg)(g:Int)(hD:Mm.Dc bs m' g):
  Calls Tryz.prog 157 #[vb] w (aws w m' g):=by
 obtain⟨xo,xc,hvb,_,_⟩:=hb.shape
 subst hvb
 obtain⟨w1,hw1,aT,ak,hR⟩:=au w #[.int .i64 0,.int .i64 0,.int .u8 0,.int .i64 0,.slice none 0 0,.int .i64 0,.int .i64 0,.slice none 0 0] 26
 have C1:=hide (aj5 _ bs w1 (hb.below ak) hl)
 have HD:=hide hD
 have HR:=hide hR
 clear hR hb hD
 go_enter Tryz.func157,Tryz.ntmps157
 go_wp2_with fail
 refine C1.out.mono ?_
 rintro E w2 ⟨m,a,bad,rfl,H⟩
 obtain⟨ho,hf,hrd,az⟩:=H.out
 have dm:=az.size
 obtain⟨ao,cap,hvs,_,_⟩:=ho.is.s.shape
 obtain⟨mU,cap2,dD,_,_⟩:=ho.is.c.1.shape
 rw[iL hvs dD]
 have jF:=hide hvs
 have jG:=hide dD
 have HO:=hide ho
 have HF:=hide hf
 have HE:=hide (as2 hrd)
 have aO:=ak.trans (az.mono (by omega))
 obtain⟨V,hV,hV2,jE,aX,hM,_⟩:=an0 w2 26 (.int .i64 0) (.int .i64 0) (.int .u8 0) (.int .i64 0) (.slice none 0 0) (.int .i64 0) (.int .i64 0) (.slice none 0 0) (.int .i64 m.k) (.int .i64 m.e) (.int .u8 m.r) (.int .i64 m.n) (.slice ao m.ss.length cap) (.int .i64 m.f) (.int .i64 m.p) (.slice mU m.cs.length cap2)
 have MV:Hid (fw V w2.heap.size m):=hide (by unfold fw;rw[ahW hvs dD];exact hM)
 have dC:=(aX.block w.heap.size (by omega)).trans ((az.block w.heap.size (by omega)).trans HR.out)
 have xh:=aO.trans (aX.mono (by omega))
 have OV:=hide (HO.out.below aX)
 obtain⟨Z,hZ,bZ,gZ,⟨a0,a1,a2,a3,a4,a5,a6,a7⟩,fr,⟨z0,z1,z2,z3,z4,z5,z6,z7⟩⟩:=amr dC (.int .i64 0) (.int .i64 0) (.int .u8 0) (.int .i64 0) (.slice none 0 0) (.int .i64 0) (.int .i64 0) (.slice none 0 0)
 have f0:=fr 0;have f1:=fr 1;have f2:=fr 2;have f3:=fr 3;have f4:=fr 4;have f5:=fr 5;have f6:=fr 6;have f7:=fr 7
 have qM:=aF xh gZ (Nat.le_refl _) (by omega)
 have HR3:=hide dC
 have NOZ:Hid (fD.m=Mm.no∧bP w.heap.size Z fD∧bQ fD∧Below w.heap.size w Z):=ajK qM
 clear ho hf hrd H hvs dD hM dC bZ gZ fr ak az HO HR C1 qM
 have NO:Hid (¬(bad=false∧a=bs.length∧Mm.Ok m.m)→m'=Mm.no∧g=5):=hide fun h=>by
  rcases HE.out with⟨h1,_⟩|⟨_,h2⟩
  ·exact absurd h1 h
  ·exact Mm.aaf HD.out h2
 cases bad
 ·have hb5:eT false=0:=rfl
  rw[hb5]
  by_cases hn:a=bs.length
  ·subst hn
   have hnn:(((bs.length:Int)) !=(bs.length:Int))=false:=by simp
   obtain⟨c,hc⟩:∃c,Mm.Ck m.m c:=by
    by_cases h:Mm.Ok m.m
    ·exact⟨0,.inl ⟨rfl,h⟩⟩
    ·exact⟨2,.inr ⟨rfl,h⟩⟩
   have HC:=hide hc
   have XX:=hide (tK m c V OV.out.is HF.out hc)
   rw[iL jF.out jG.out]at XX
   obtain⟨q0,q1,q2,q3,q4,q5,q6,q7⟩:=MV.out.lT jF.out jG.out
   clear hc
   go_wp2_with fail
   refine XX.out.mono ?_
   rintro E w4 ⟨rfl,aL⟩
   have iE:=aL.size
   have rf:=(aL.block w.heap.size (by omega)).trans HR3.out
   have di:=xh.trans (aL.mono (by omega))
   have O4:=hide (OV.out.below aL)
   clear XX q0 q1 q2 q3 q4 q5 q6 q7 hZ a0 a1 a2 a3 a4 a5 a6 a7 z0 z1 z2 z3 z4 z5 z6 z7 f0 f1 f2 f3 f4 f5 f6 f7 hw1 hV hV2
   obtain⟨q0,q1,q2,q3,q4,q5,q6,q7⟩:=(MV.out.below aL).lT jF.out jG.out
   rcases HC.out with⟨hc0,hok⟩|⟨hc2,hok⟩
   ·subst hc0
    obtain⟨Y,hY,bY,gY,⟨a0,a1,a2,a3,a4,a5,a6,a7⟩,fr,⟨y0,y1,y2,y3,y4,y5,y6,y7⟩⟩:=amr rf (.int .i64 m.k) (.int .i64 m.e) (.int .u8 m.r) (.int .i64 m.n) (.slice ao m.ss.length cap) (.int .i64 m.f) (.int .i64 m.p) (.slice mU m.cs.length cap2)
    have f0:=fr 0;have f1:=fr 1;have f2:=fr 2;have f3:=fr 3;have f4:=fr 4;have f5:=fr 5;have f6:=fr 6;have f7:=fr 7
    have atm:=aF di gY (Nat.le_refl _) (by omega)
    have OY:=((O4.out.out (F:=fun i=>i=w.heap.size) (Out.aP gY (fun i hi=>by simpa using hi.symm)) (fun i hi=>by omega)).bz (base':=w.heap.size) (by omega))
    have hres:m.m=m'∧(0:Int)=g:=by
     rcases HE.out with⟨_,h2⟩|⟨h1,_⟩
     ·exact Mm.aaf h2 HD.out
     ·exact(h1 (by simp[hok])).elim
    obtain⟨hmm,rfl⟩:=hres
    have HZZ:Hid (m.m=m'∧bP w.heap.size Y m∧bQ m∧Below w.heap.size w Y):=hide ⟨hmm,OY,HF.out,atm⟩
    have hmv:=iL jF.out jG.out
    clear hok hmm OY atm gY bY fr rf O4 di NO HE HD
    go_wp2
    refine bodyPost_ret (v:=.tuple #[.agg #[.int .i64 m.k,.int .i64 m.e,.int .u8 m.r,.int .i64 m.n,.slice ao m.ss.length cap,.int .i64 m.f,.int .i64 m.p,.slice mU m.cs.length cap2],.int .i64 0]) (by simp[results,Tryz.results157,go_sem,y0,y1,y2,y3,y4,y5,y6,y7]) rfl ?_
    exact⟨m,by rw[hmv],HZZ⟩
   ·subst hc2
    obtain⟨rfl,rfl⟩:=NO.out fun h=>hok h.2.2
    obtain⟨Y,hY,bY,gY,⟨a0,a1,a2,a3,a4,a5,a6,a7⟩,fr,⟨y0,y1,y2,y3,y4,y5,y6,y7⟩⟩:=amr rf (.int .i64 0) (.int .i64 0) (.int .u8 0) (.int .i64 0) (.slice none 0 0) (.int .i64 0) (.int .i64 0) (.slice none 0 0)
    have f0:=fr 0;have f1:=fr 1;have f2:=fr 2;have f3:=fr 3;have f4:=fr 4;have f5:=fr 5;have f6:=fr 6;have f7:=fr 7
    have HZZ:=ajK (aF di gY (Nat.le_refl _) (by omega))
    clear hok gY bY fr rf O4 di NO HE HD
    go_wp2
    refine bodyPost_ret (v:=.tuple #[.agg #[.int .i64 0,.int .i64 0,.int .u8 0,.int .i64 0,.slice none 0 0,.int .i64 0,.int .i64 0,.slice none 0 0],.int .i64 5]) (by simp[results,Tryz.results157,go_sem,y0,y1,y2,y3,y4,y5,y6,y7]) rfl ?_
    exact⟨fD,rfl,HZZ⟩
  ·obtain⟨rfl,rfl⟩:=NO.out fun h=>hn h.2.1
   have hnn:(((a:Int)) !=(bs.length:Int))=true:=by simp;omega
   clear hn
   go_wp2
   refine bodyPost_ret (v:=.tuple #[.agg #[.int .i64 0,.int .i64 0,.int .u8 0,.int .i64 0,.slice none 0 0,.int .i64 0,.int .i64 0,.slice none 0 0],.int .i64 5]) (by simp[results,Tryz.results157,go_sem,z0,z1,z2,z3,z4,z5,z6,z7]) rfl ?_
   exact⟨fD,rfl,NOZ⟩
 ·have hb5:eT true=5:=rfl
  rw[hb5]
  obtain⟨rfl,rfl⟩:=NO.out fun h=>by simp at h
  go_wp2
  refine bodyPost_ret (v:=.tuple #[.agg #[.int .i64 0,.int .i64 0,.int .u8 0,.int .i64 0,.slice none 0 0,.int .i64 0,.int .i64 0,.slice none 0 0],.int .i64 5]) (by simp[results,Tryz.results157,go_sem,z0,z1,z2,z3,z4,z5,z6,z7]) rfl ?_
  exact⟨fD,rfl,NOZ⟩
structure NS (W1 w:World) (R:Nat) (e f p:Int) (v:Value) (cs:List Cw) (l:List Cm.Cv):Prop where
 blk:w.heap[R]? =some (.cells #[.int .i64 2,.int .i64 e,.int .u8 0,.int .i64 0,.slice none 0 0,.int .i64 f,.int .i64 p,v] 26 (0,0))
 sh:mO W1.heap.size w v cs
 is:aH cs=l
 out:Out (fun g=>g=R) W1 w
 lt:R<W1.heap.size
theorem aoq (e:Int)(m:Mw)(c:Int)(w:World)(hi:iY w m)(hf:bQ m)(hc:Mm.Ck m.m c):
  Calls Tryz.prog 308 #[.int .i64 e,mv m] w fun E w'=>E=.returned (.int .i64 (Tak.uq c e m.m))∧Below w.heap.size w w':=by
 obtain⟨sa,so,hvs,_,_⟩:=hi.s.shape
 obtain⟨ca,co,dD,_,_⟩:=hi.c.1.shape
 obtain⟨w1,hw1,aT,ak,hA⟩:=xC w m hvs dD
 have CK:=hide (tK m c w1 (hi.below ak) hf hc)
 rw[iL hvs dD]at CK⊢
 have HE:Hid (∀W,Below w1.heap.size w1 W→Ei W w.heap.size (.int .i64 m.k) (.int .i64 m.e) (.int .u8 m.r) (.int .i64 m.n) (.slice sa m.ss.length so) (.int .i64 m.f) (.int .i64 m.p) (.slice ca m.cs.length co)):=hide fun W hb=>(hA.below hb).lT hvs dD
 obtain⟨p0,p1,p2,p3,p4,p5,p6,p7⟩:=HE.out w1 (Below.refl _ _)
 have B1:=hide ak
 have eE:Tak.uq c e m.m=if c=0 then(if m.e<e then 12 else if e<m.e then 2 else 0)else 2:=rfl
 rw[eE]
 clear hi hf hc hA hvs dD ak eE
 by_cases h0:c=0
 case neg=>
  rw[if_neg h0]
  have hb:(c !=0)=true:=by simpa using h0
  clear HE
  go_enter Tryz.func308,Tryz.ntmps308
  go_wp2_with fail
  refine CK.out.mono ?_
  rintro E w2 ⟨rfl,b2⟩
  have B2:=hide (B1.out.trans (b2.mono B1.out.size))
  clear CK b2
  go_wp2
  go_ret
  exact⟨rfl,B2.out⟩
 rw[if_pos h0]
 have hb:(c !=0)=false:=by simp[h0]
 clear h0
 by_cases h1:m.e<e
 ·rw[if_pos h1]
  go_enter Tryz.func308,Tryz.ntmps308
  go_wp2_with fail
  refine CK.out.mono ?_
  rintro E w2 ⟨rfl,b2⟩
  have B2:=hide (B1.out.trans (b2.mono B1.out.size))
  obtain⟨q0,q1,q2,q3,q4,q5,q6,q7⟩:=HE.out w2 b2
  clear CK b2 HE
  go_wp2
  go_ret
  exact⟨rfl,B2.out⟩
 rw[if_neg h1]
 by_cases h2:e<m.e
 ·rw[if_pos h2]
  go_enter Tryz.func308,Tryz.ntmps308
  go_wp2_with fail
  refine CK.out.mono ?_
  rintro E w2 ⟨rfl,b2⟩
  have B2:=hide (B1.out.trans (b2.mono B1.out.size))
  obtain⟨q0,q1,q2,q3,q4,q5,q6,q7⟩:=HE.out w2 b2
  clear CK b2 HE
  go_wp2
  go_ret
  exact⟨rfl,B2.out⟩
 ·rw[if_neg h2]
  go_enter Tryz.func308,Tryz.ntmps308
  go_wp2_with fail
  refine CK.out.mono ?_
  rintro E w2 ⟨rfl,b2⟩
  have B2:=hide (B1.out.trans (b2.mono B1.out.size))
  obtain⟨q0,q1,q2,q3,q4,q5,q6,q7⟩:=HE.out w2 b2
  clear CK b2 HE
  go_wp2
  go_ret
  exact⟨rfl,B2.out⟩
end Go.Proofs.YtlmkaljjocflmaaGreatDoor
