/- Texts of one layer, one behind the other. -/
import Derived.Test.YtmngcecomcadkaaGreatDoorCH33
import Derived.Test.YtmngcecomcadkaaGreatDoorCH21
import Derived.Test.YtmngcecomcadkaaGreatDoorCH11
set_option maxRecDepth 100000
set_option maxHeartbeats 8000000
namespace Go.Proofs.YtmngcecomcadkaaGreatDoor
open Go.RowKit
set_option linter.unusedVariables false
theorem Tryz.phF (a b c d e f:Int)(w:World):(Instr.field 46 (.agg #[.int .i64 a,.int .u8 b,.int .i64 c,.int .u8 d,.int .i64 e,.int .i64 f]) 3).run Tryz.prog w=.ok (.int .u8 d) w:=by kernel_rfl
theorem aa4 (vl:Value)(rs:List Cw)(sh:Int)(m:Mw)(w:World)(hm:eH w)(h:di w vl rs)(hf:dL rs)(hlen:rs.length≤140737488355328)(It:I64 sh)(im:fw w m)(fm:dx m):
  Calls Tryz.prog 3 #[vl,.int .i64 sh,mv m] w fun E w'=>E=.returned (.bool true)∧Below w.heap.size w w':=by
 obtain⟨w1,hw1,s1,b1,P1⟩:=qB w m
 have HM:Hid (mv m=.agg #[.int .i64 m.k,.int .i64 m.e,.int .u8 m.r,.int .i64 m.n,m.vs,.int .i64 m.f,.int .i64 m.p,m.vc]):=hide rfl
 obtain⟨c,hc⟩:∃c,Mm.Ck m.m c:=by
  by_cases ho:Mm.Ok m.m
  ·exact⟨0,.inl ⟨rfl,ho⟩⟩
  ·exact⟨2,.inr ⟨rfl,ho⟩⟩
 have HC:=hide hc
 have LI:=hide (agq w1 (hm.below b1))
 obtain⟨va,vk,hvl,_,_⟩:=h.1.shape
 subst hvl
 have X1:Hid (fq w1 w.heap.size m∧eH w1∧di w1 (.slice va rs.length vk) rs∧fw w1 m∧Below w.heap.size w w1):=hide ⟨P1,hm.below b1,h.below b1,im.below b1,b1⟩
 have HF:=hide (And.intro hf fm)
 rw[HM.out]
 clear b1 P1 hm h im hc hf fm
 go_enter Tryz.func3,Tryz.ntmps3
 go_wp2_with fail
 refine LI.out.mono ?_
 rintro E w2 ⟨rfl,b2⟩
 have X2:Hid (fq w2 w.heap.size m∧eH w2∧di w2 (.slice va rs.length vk) rs∧fw w2 m∧Below w.heap.size w w2):=hide ⟨X1.out.1.below b2,X1.out.2.1.below b2,X1.out.2.2.1.below b2,X1.out.2.2.2.1.below b2,X1.out.2.2.2.2.trans (b2.mono X1.out.2.2.2.2.size)⟩
 have SM:=hide (yR _ rs w2 X2.out.2.2.1 hlen)
 clear LI b2 X1 hw1 s1
 go_wp2_with fail
 refine SM.out.mono ?_
 rintro E w3 ⟨⟨x,rfl,hx⟩,rfl⟩
 clear SM
 cases x
 case false=>
  clear hx
  go_wp2
  go_ret
  exact⟨rfl,X2.out.2.2.2.2⟩
 have S1:=hide (hx rfl)
 have SM:=hide (yR m.vc m.cs w2 X2.out.2.2.2.1.c HF.out.2.lc)
 obtain⟨a0,a1,a2,a3,a4,a5,a6,a7⟩:=X2.out.1.ei
 clear hx
 go_wp2_with fail
 refine SM.out.mono ?_
 rintro E w3 ⟨⟨x,rfl,hx⟩,rfl⟩
 clear SM
 cases x
 case false=>
  clear hx
  go_wp2
  go_ret
  exact⟨rfl,X2.out.2.2.2.2⟩
 obtain⟨sa,sk,hvs,_,_⟩:=X2.out.2.2.2.1.s.shape
 have ma:=hide hvs
 rw[hvs]at a4
 clear hx hvs
 by_cases h30:30<m.ss.length
 ·have am3:(30:Int)<m.ss.length:=by omega
  go_wp2
  go_ret
  exact⟨rfl,X2.out.2.2.2.2⟩
 have am3:¬(30:Int)<m.ss.length:=by omega
 clear h30
 obtain⟨fe,fp,hfo⟩:∃a b:Int,Cm.fol 0 0 0 (ay rs)=(a,b):=⟨_,_,rfl⟩
 have FO:=hide (jA 0 0 _ rs w2 X2.out.2.2.1 HF.out.1 hlen)
 rw[hfo]at FO
 have FO:Hid (Calls Tryz.prog 6 #[.int .i64 0,.int .i64 0,.slice va rs.length vk] w2 fun E w'=>E=.returned (.agg #[.int .i64 fe,.int .i64 fp])∧Below w2.heap.size w2 w'):=FO
 have HFO:=hide hfo
 have hgd:=Tryz.oG
 have hph:=Tryz.phF
 have hnq:=Tryz.zV fe fp 0 0
 clear hfo
 go_wp2_with fail
 refine FO.out.mono ?_
 rintro E w3 ⟨rfl,b3⟩
 have X3:Hid (fq w3 w.heap.size m∧eH w3∧di w3 (.slice va rs.length vk) rs∧fw w3 m∧Below w.heap.size w w3):=hide ⟨X2.out.1.below b3,X2.out.2.1.below b3,X2.out.2.2.1.below b3,X2.out.2.2.2.1.below b3,X2.out.2.2.2.2.trans (b3.mono X2.out.2.2.2.2.size)⟩
 clear FO b3 X2 a0 a1 a2 a3 a4 a5 a6 a7
 by_cases hz:fe=0∧fp=0
 case neg=>
  have hq:((fe==0)&&(fp==0))=false:=by
   rw[Bool.and_eq_false_iff]
   simp only[beq_eq_false_iff_ne,ne_eq]
   omega
  rw[hq]at hnq
  go_wp2
  go_ret
  exact⟨rfl,X3.out.2.2.2.2⟩
 obtain⟨rfl,rfl⟩:=hz
 have HG:Hid (Cm.Good 0 0 (ay rs)):=hide ((Cm.dZ (ay rs) 0 0 0).1 (by rw[HFO.out]))
 clear HFO
 rcases Nat.eq_zero_or_pos rs.length with h0|h0
 case' inl=>
  have h0':¬(0:Int)<rs.length:=by omega
  have H1:Hid (Cm.lastE 0 (ay rs)≤1):=hide (by
   have:rs=[]:=List.length_eq_zero_iff.1 h0
   rw[this]
   show(0:Int)≤1
   decide)
  clear h0
 case' inr=>
  have h0':(0:Int)<rs.length:=by omega
  obtain⟨b,off,cap,iw,_,_,_,hcell⟩:=X3.out.2.2.1.1.full h0
  simp only[Value.slice.injEq,true_and]at iw
  obtain⟨rfl,rfl⟩:=iw
  obtain⟨q,hq⟩:∃q,q+1=rs.length:=⟨rs.length-1,by omega⟩
  obtain⟨d,hd⟩:∃d,rs[q]? =some d:=⟨rs[q]'(by omega),List.getElem?_eq_getElem (by omega)⟩
  obtain⟨d0,d1,d2⟩:=hcell q d hd
  have hql:(rs.length:Int)-1=q:=by omega
  have hq1:(q:Int)<rs.length:=by omega
  have HL:Hid (Cm.lastE 0 (ay rs)=d.e):=hide (by
   have e:ay rs=ay (rs.take q)++[d.c]:=by
    have:rs=rs.take q++[d]:=by
     obtain⟨g1,g2⟩:=List.getElem?_eq_some_iff.1 hd
     rw[←g2,←List.take_succ_eq_append_getElem g1,List.take_of_length_le (by omega)]
    conv=>lhs;rw[this]
    unfold ay
    rw[List.map_append]
    rfl
   rw[e,wT]
   rfl)
  clear hcell hd
  by_cases he:1<d.e
 case' pos=>
  go_wp2
  go_ret
  exact⟨rfl,X3.out.2.2.2.2⟩
 case' neg=>
  have H1:Hid (Cm.lastE 0 (ay rs)≤1):=hide (by rw[HL.out];omega)
 all_goals
  have HN:=S1.out.1
  have PI:=hide (apM sh ((rs.length:Int)+1) w3 (by omega) (by omega) It.1 (by have:=It.2;omega))
  go_wp2_with fail
  refine PI.out.mono ?_
  rintro E w4 ⟨⟨k,hk,rfl⟩,rfl⟩
  have HK:=hide hk
  have TL:=hide (ajD _ rs k w3 X3.out.2.2.1 HF.out.1 HG.out S1.out.1 (by omega))
  have TL:Hid (Calls Tryz.prog 8 #[_,.int .i64 k,.int .i64 1,.int .i64 2] w3 fun E w'=>∃a n c,E=.returned (.tuple #[.agg #[.int .i64 1,.int .i64 2,.int .u8 1,.int .i64 ((k:Int)+1),.slice a n c,.int .i64 0,.int .i64 0,.slice none 0 0],.bool true])∧Hid (jU w3.heap.size w' (.slice a n c) (rD (ay rs) k))∧Below w3.heap.size w3 w'):=TL
  clear PI hk
  go_wp2_with fail
  refine TL.out.mono ?_
  rintro E w5 ⟨ha,hn,hk',rfl,O5,b5⟩
  obtain⟨w6,rQ,ato,s6,b6,P6,e6⟩:=amE w5 26 (.int .i64 0) (.int .i64 0) (.int .u8 0) (.int .i64 0) (.slice none 0 0) (.int .i64 0) (.int .i64 0) (.slice none 0 0) (.int .i64 1) (.int .i64 2) (.int .u8 1) (.int .i64 ((k:Int)+1)) (.slice ha hn hk') (.int .i64 0) (.int .i64 0) (.slice none 0 0)
  have r5:=aA P6 5;have r6:=aA P6 6;have r7:=aA P6 7
  have t5:w6.cell? ⟨w5.heap.size,5,none⟩=some (.int .i64 0):=ai P6 5 rfl
  have t6:w6.cell? ⟨w5.heap.size,6,none⟩=some (.int .i64 0):=ai P6 6 rfl
  have t7:w6.cell? ⟨w5.heap.size,7,none⟩=some (.slice none 0 0):=ai P6 7 rfl
  have u5:w6.setCell ⟨w5.heap.size,5,none⟩ (.int .i64 0)=w6:=aJ P6 (j:=5) rfl
  have u6:w6.setCell ⟨w5.heap.size,6,none⟩ (.int .i64 0)=w6:=aJ P6 (j:=6) rfl
  have u7:w6.setCell ⟨w5.heap.size,7,none⟩ (.slice none 0 0)=w6:=aJ P6 (j:=7) rfl
  have b46:=b5.trans (b6.mono b5.size)
  have ND:=hide (ag0 w6)
  obtain⟨H,hH⟩:∃H,H=w5.heap.size:=⟨_,rfl⟩
  rw[←hH]at P6 s6
  have X6:Hid ((fq w6 w.heap.size m∧eH w6∧di w6 _ rs∧fw w6 m∧Below w.heap.size w w6)∧(fq w6 H (jM k (.slice ha hn hk') (rD (ay rs) k))∧fw w6 (jM k (.slice ha hn hk') (rD (ay rs) k)))):=hide ⟨⟨X3.out.1.below b46,X3.out.2.1.below b46,X3.out.2.2.1.below b46,X3.out.2.2.2.1.below b46,X3.out.2.2.2.2.trans (b46.mono X3.out.2.2.2.2.size)⟩,P6,gP.below (dM.row O5.out) b6,di.nil _⟩
  clear TL X3 O5 b5 b6 b46 P6 s6
  go_wp2_with fail
  refine ND.out.mono ?_
  rintro E w7 ⟨rfl,k7,b7⟩
  clear r5 r6 r7 t5 t6 t7 u5 u6 u7 rQ ato e6
  rw[←hH]
  clear hH
  obtain⟨l,hl⟩:∃l,ay rs=l:=⟨_,rfl⟩
  have HL:=hide hl
  have hll:l.length=rs.length:=by rw[←hl];unfold ay;rw[List.length_map]
  have LB:Hid (Cm.Good 0 0 l∧Cm.lastE 0 l≤1∧l.length≤30∧k≤l.length∧l.length=rs.length):=hide ⟨by rw[←hl];exact HG.out,by rw[←hl];exact H1.out,by rw[hll];exact S1.out.1,by rw[hll];have:=HK.out;omega,hll⟩
  rw[hl]at X6
  have HE:Hid (Calls Tryz.prog 10 #[.pointer (some ⟨w6.heap.size,0,none⟩),_,.int .i64 2] w7 fun E w'=>∃p F s,E=.returned (.pointer (some ⟨p,0,none⟩))∧Hid (lJ w7 w' p w6.heap.size F 66 s []∧s.p=⟨2,3,0,1,0,0⟩∧s.l=ay rs)):=hide (ac6 w6.heap.size w7 k7 (X6.out.1.2.1.below b7) (by have:=X6.out.1.2.2.2.2.size;have:=X6.out.1.2.1.pos;omega) _ rs (fun W hW=>X6.out.1.2.2.1.below (b7.trans (hW.below (fun g e=>by rw[e];exact Nat.le_refl _) b7.size))) HF.out.1 HG.out S1.out.1 H1.out 2 (by omega))
  have KEEP:Hid (∀W,Out (fun g=>g=w6.heap.size) w7 W→(fq W w.heap.size m∧fw W m∧Below w.heap.size w W∧fq W H (jM k (.slice ha hn hk') (rD l k))∧fw W (jM k (.slice ha hn hk') (rD l k))∧eH W)∧(W.cell? ⟨H,0,none⟩=some (.int .i64 1)∧W.cell? ⟨H,1,none⟩=some (.int .i64 2)∧W.cell? ⟨H,2,none⟩=some (.int .u8 1)∧W.cell? ⟨H,3,none⟩=some (.int .i64 ((k:Int)+1))∧W.cell? ⟨H,4,none⟩=some (.slice ha hn hk')∧W.cell? ⟨H,5,none⟩=some (.int .i64 0)∧W.cell? ⟨H,6,none⟩=some (.int .i64 0)∧W.cell? ⟨H,7,none⟩=some (.slice none 0 0))):=hide fun W hW=>by
   have b:=b7.trans (hW.below (fun g e=>by rw[e];exact Nat.le_refl _) b7.size)
   have e:=(X6.out.2.1.below b).ei
   exact⟨⟨X6.out.1.1.below b,X6.out.1.2.2.2.1.below b,X6.out.1.2.2.2.2.trans (b.mono X6.out.1.2.2.2.2.size),X6.out.2.1.below b,X6.out.2.2.below b,X6.out.1.2.1.below b⟩,e.c0,e.c1,e.c2,e.c3,e.c4,e.c5,e.c6,e.c7⟩
  have Z7:Hid (w7.heap.size=w7.heap.size∧w6.heap.size<w7.heap.size∧0<w7.heap.size):=hide ⟨rfl,k7.lt _ rfl,by have:=k7.lt _ rfl;omega⟩
  clear ND X6 k7 b7 hl hll
  go_wp2_with fail
  refine HE.out.mono ?_
  rintro E w8 ⟨p,F,s,rfl,Y8⟩
  obtain⟨q,hq⟩:∃q,w6.heap.size=q:=⟨_,rfl⟩
  rw[hq]at Y8 KEEP Z7⊢
  have L8:Hid (lM w7 w8 p q l k 0 (fun _=>False)):=hide ⟨F,s,Y8.out.1,Y8.out.2.1,Y8.out.2.2.trans HL.out,fun g e=>e.elim⟩
  clear HE Y8 hq
  have PGa:Hid (∀W,Below w8.heap.size w8 W→Calls Tryz.prog 12 #[.pointer (some ⟨p,0,none⟩)] W fun E w'=>E=.returned (.agg #[.int .i64 2,.int .u8 3,.int .i64 0,.int .u8 1,.int .i64 0,.int .i64 0])∧Below w8.heap.size w8 w'∧(w'.cell? ⟨H,0,none⟩=some (.int .i64 1)∧w'.cell? ⟨H,1,none⟩=some (.int .i64 2)∧w'.cell? ⟨H,2,none⟩=some (.int .u8 1)∧w'.cell? ⟨H,3,none⟩=some (.int .i64 ((k:Int)+1))∧w'.cell? ⟨H,4,none⟩=some (.slice ha hn hk')∧w'.cell? ⟨H,5,none⟩=some (.int .i64 0)∧w'.cell? ⟨H,6,none⟩=some (.int .i64 0)∧w'.cell? ⟨H,7,none⟩=some (.slice none 0 0))):=hide fun W hW=>by
   refine(uM (L8.out.below hW) (by omega)).mono ?_
   rintro E w' ⟨rfl,b⟩
   have b:=hW.trans (b.mono hW.size)
   exact⟨rfl,b,(KEEP.out w' (L8.out.below b).out).2⟩
  have FTa:Hid (∀W,Below w8.heap.size w8 W→Calls Tryz.prog 11 #[.agg #[.int .i64 2,.int .u8 3,.int .i64 0,.int .u8 1,.int .i64 0,.int .i64 0],.agg #[.int .i64 1,.int .i64 2,.int .u8 1,.int .i64 ((k:Int)+1),.slice ha hn hk',.int .i64 0,.int .i64 0,.slice none 0 0]] W fun E w'=>E=.returned (.bool true)∧Below w8.heap.size w8 w'∧(w'.cell? ⟨H,0,none⟩=some (.int .i64 1)∧w'.cell? ⟨H,1,none⟩=some (.int .i64 2)∧w'.cell? ⟨H,2,none⟩=some (.int .u8 1)∧w'.cell? ⟨H,3,none⟩=some (.int .i64 ((k:Int)+1))∧w'.cell? ⟨H,4,none⟩=some (.slice ha hn hk')∧w'.cell? ⟨H,5,none⟩=some (.int .i64 0)∧w'.cell? ⟨H,6,none⟩=some (.int .i64 0)∧w'.cell? ⟨H,7,none⟩=some (.slice none 0 0))):=hide fun W hW=>by
   have K:=(KEEP.out W (L8.out.below hW).out).1
   have t:=wF ⟨2,3,0,1,0,0⟩ (jM k (.slice ha hn hk') (rD l k)) 0 W K.2.2.2.2.1 (ahg _ LB.out.2.2.1 LB.out.2.2.2.1) (alg _ LB.out.1 LB.out.2.1 LB.out.2.2.1 LB.out.2.2.2.1)
   rw[ahs]at t
   refine(show Calls Tryz.prog 11 #[.agg #[.int .i64 2,.int .u8 3,.int .i64 0,.int .u8 1,.int .i64 0,.int .i64 0],.agg #[.int .i64 1,.int .i64 2,.int .u8 1,.int .i64 ((k:Int)+1),.slice ha hn hk',.int .i64 0,.int .i64 0,.slice none 0 0]] W _ from t).mono ?_
   rintro E w' ⟨rfl,b⟩
   have b:=hW.trans (b.mono hW.size)
   exact⟨rfl,b,(KEEP.out w' (L8.out.below b).out).2⟩
  obtain⟨a0,a1,a2,a3,a4,a5,a6,a7⟩:=(KEEP.out w8 L8.out.out).2
  go_wp2_with fail
  go_region_held3 (fun W=>W.cell? ⟨H,0,none⟩=some (.int .i64 1)∧W.cell? ⟨H,1,none⟩=some (.int .i64 2)∧W.cell? ⟨H,2,none⟩=some (.int .u8 1)∧W.cell? ⟨H,3,none⟩=some (.int .i64 ((k:Int)+1))∧W.cell? ⟨H,4,none⟩=some (.slice ha hn hk')∧W.cell? ⟨H,5,none⟩=some (.int .i64 0)∧W.cell? ⟨H,6,none⟩=some (.int .i64 0)∧W.cell? ⟨H,7,none⟩=some (.slice none 0 0)) (first|exact⟨a0,a1,a2,a3,a4,a5,a6,a7⟩|exact hS1|exact hS2|go_keep)
   (first
   |(go_at_call 12;refine(PGa.out _ ((Below.refl _ _).drew)).mono ?_;rintro E W1 ⟨rfl,mf,hS1⟩)
   |(go_at_call 11;refine(FTa.out W1 mf).mono ?_;rintro E W2 ⟨rfl,bW2,hS2⟩))
  have L9:=hide (L8.out.below bW2)
  clear PGa FTa hS1 hS2 mf bW2 L8 a0 a1 a2 a3 a4 a5 a6 a7
  go_wp2_with fail
  obtain⟨b,hb⟩:∃b,qD ⟨2,3,0,1,0,0⟩ m c=b:=⟨_,rfl⟩
  have MK:Hid (∀W,Below W2.heap.size W2 W→W.cell? ⟨w.heap.size,0,none⟩=some (.int .i64 m.k)∧W.cell? ⟨w.heap.size,1,none⟩=some (.int .i64 m.e)∧W.cell? ⟨w.heap.size,2,none⟩=some (.int .u8 m.r)∧W.cell? ⟨w.heap.size,3,none⟩=some (.int .i64 m.n)∧W.cell? ⟨w.heap.size,4,none⟩=some (m.vs)∧W.cell? ⟨w.heap.size,5,none⟩=some (.int .i64 m.f)∧W.cell? ⟨w.heap.size,6,none⟩=some (.int .i64 m.p)∧W.cell? ⟨w.heap.size,7,none⟩=some (m.vc)):=hide fun W hW=>by
   have e:=(KEEP.out W (L9.out.below hW).out).1.1.ei
   exact⟨e.c0,e.c1,e.c2,e.c3,e.c4,e.c5,e.c6,e.c7⟩
  have PGb:Hid (∀W,Below W2.heap.size W2 W→Calls Tryz.prog 12 #[.pointer (some ⟨p,0,none⟩)] W fun E w'=>E=.returned (.agg #[.int .i64 2,.int .u8 3,.int .i64 0,.int .u8 1,.int .i64 0,.int .i64 0])∧Below W2.heap.size W2 w'∧(w'.cell? ⟨w.heap.size,0,none⟩=some (.int .i64 m.k)∧w'.cell? ⟨w.heap.size,1,none⟩=some (.int .i64 m.e)∧w'.cell? ⟨w.heap.size,2,none⟩=some (.int .u8 m.r)∧w'.cell? ⟨w.heap.size,3,none⟩=some (.int .i64 m.n)∧w'.cell? ⟨w.heap.size,4,none⟩=some (m.vs)∧w'.cell? ⟨w.heap.size,5,none⟩=some (.int .i64 m.f)∧w'.cell? ⟨w.heap.size,6,none⟩=some (.int .i64 m.p)∧w'.cell? ⟨w.heap.size,7,none⟩=some (m.vc))):=hide fun W hW=>by
   refine(uM (L9.out.below hW) (by omega)).mono ?_
   rintro E w' ⟨rfl,b⟩
   have b:=hW.trans (b.mono hW.size)
   exact⟨rfl,b,MK.out w' b⟩
  have FTb:Hid (∀W,Below W2.heap.size W2 W→Calls Tryz.prog 11 #[.agg #[.int .i64 2,.int .u8 3,.int .i64 0,.int .u8 1,.int .i64 0,.int .i64 0],.agg #[.int .i64 m.k,.int .i64 m.e,.int .u8 m.r,.int .i64 m.n,m.vs,.int .i64 m.f,.int .i64 m.p,m.vc]] W fun E w'=>E=.returned (.bool b)∧Below W2.heap.size W2 w'∧(w'.cell? ⟨w.heap.size,0,none⟩=some (.int .i64 m.k)∧w'.cell? ⟨w.heap.size,1,none⟩=some (.int .i64 m.e)∧w'.cell? ⟨w.heap.size,2,none⟩=some (.int .u8 m.r)∧w'.cell? ⟨w.heap.size,3,none⟩=some (.int .i64 m.n)∧w'.cell? ⟨w.heap.size,4,none⟩=some (m.vs)∧w'.cell? ⟨w.heap.size,5,none⟩=some (.int .i64 m.f)∧w'.cell? ⟨w.heap.size,6,none⟩=some (.int .i64 m.p)∧w'.cell? ⟨w.heap.size,7,none⟩=some (m.vc))):=hide fun W hW=>by
   have t:=wF ⟨2,3,0,1,0,0⟩ m c W (KEEP.out W (L9.out.below hW).out).1.2.1 HF.out.2 HC.out
   rw[hb]at t
   refine(show Calls Tryz.prog 11 #[.agg #[.int .i64 2,.int .u8 3,.int .i64 0,.int .u8 1,.int .i64 0,.int .i64 0],.agg #[.int .i64 m.k,.int .i64 m.e,.int .u8 m.r,.int .i64 m.n,m.vs,.int .i64 m.f,.int .i64 m.p,m.vc]] W _ from(by rw[HM.out]at t;exact t)).mono ?_
   rintro E w' ⟨rfl,b⟩
   have b:=hW.trans (b.mono hW.size)
   exact⟨rfl,b,MK.out w' b⟩
  have HB:=hide hb
  obtain⟨a0,a1,a2,a3,a4,a5,a6,a7⟩:=MK.out W2 (Below.refl _ _)
  clear hb
  go_cut [92]from 88 to 91 (fun v92 wx=>v92=.bool (!b)∧Hid (Below W2.heap.size W2 wx))
  case first=>
   go_region_held3 (fun W=>W.cell? ⟨w.heap.size,0,none⟩=some (.int .i64 m.k)∧W.cell? ⟨w.heap.size,1,none⟩=some (.int .i64 m.e)∧W.cell? ⟨w.heap.size,2,none⟩=some (.int .u8 m.r)∧W.cell? ⟨w.heap.size,3,none⟩=some (.int .i64 m.n)∧W.cell? ⟨w.heap.size,4,none⟩=some (m.vs)∧W.cell? ⟨w.heap.size,5,none⟩=some (.int .i64 m.f)∧W.cell? ⟨w.heap.size,6,none⟩=some (.int .i64 m.p)∧W.cell? ⟨w.heap.size,7,none⟩=some (m.vc)) (first|exact⟨a0,a1,a2,a3,a4,a5,a6,a7⟩|exact hS1|exact hS2|go_keep)
    (first
    |(go_at_call 12;refine(PGb.out _ ((Below.refl _ _).drew)).mono ?_;rintro E W3 ⟨rfl,bW3,hS1⟩)
    |(go_at_call 11;refine(FTb.out W3 bW3).mono ?_;rintro E W4 ⟨rfl,bW4,hS2⟩))
   go_wp2_with fail
   go_meet
   exact⟨rfl,hide bW4⟩
  case rest=>
  obtain⟨rfl,hcb⟩:=hcut
  obtain⟨W4,hW4⟩:∃x,wc=x:=⟨_,rfl⟩
  rw[hW4]at hcb⊢
  have L10:=hide (L9.out.below hcb.out)
  have hS2:=MK.out W4 hcb.out
  clear PGb FTb a0 a1 a2 a3 a4 a5 a6 a7 L9 hW4
  go_upto_if 92 with fail
  go_cut [11,12]from 93 to 112 (fun _v11 _v12 wx=>Hid (lM w7 wx p q l k 0 (fun _=>False)))
  case first=>
   cases b
   case true=>
    clear MK hS2 hcb
    go_wp2_with fail
    go_meet
    exact L10
   case false=>
    obtain⟨a0,a1,a2,a3,a4,a5,a6,a7⟩:=hS2
    have ST:Hid (Calls Tryz.prog 13 #[.pointer (some ⟨p,0,none⟩),.agg #[.int .i64 m.k,.int .i64 m.e,.int .u8 m.r,.int .i64 m.n,m.vs,.int .i64 m.f,.int .i64 m.p,m.vc]] W4 fun E w'=>E=.returned (.tuple #[.agg #[.int .i64 0,.int .u8 0,.int .i64 0,.int .u8 0,.int .i64 0,.int .i64 0],.int .i64 4])∧Below W4.heap.size W4 w'):=hide (by
     have t:=anX L10.out (KEEP.out W4 L10.out.out).1.2.1 HF.out.2 HC.out HB.out
     rw[HM.out]at t
     exact t)
    clear hcb MK
    go_wp2_with fail
    refine ST.out.mono ?_
    rintro E w11 ⟨rfl,b11⟩
    obtain⟨w12,ayX,s12,b12,eX⟩:=ak w11 #[.int .i64 0,.int .u8 0,.int .i64 0,.int .u8 0,.int .i64 0,.int .i64 0] 46
    obtain⟨n0,n1,n2,n3,n4,n5,m0,m1,m2,m3,m4,m5⟩:=awQ eX
    obtain⟨v0,v1,v2,v3,v4,v5⟩:=aN eX
    have L12:=hide ((L10.out.below b11).below b12)
    have SP:Hid (Calls Tryz.prog 14 #[.agg #[.int .i64 0,.int .u8 0,.int .i64 0,.int .u8 0,.int .i64 0,.int .i64 0],.agg #[.int .i64 0,.int .u8 0,.int .i64 0,.int .u8 0,.int .i64 0,.int .i64 0]] w12 fun E w'=>E=.returned (.bool true)∧Below w12.heap.size w12 w'):=hide (mr Pm.no Pm.no w12)
    clear ST b11 b12 eX L10 a0 a1 a2 a3 a4 a5 a6 a7
    go_wp2_with fail
    refine SP.out.mono ?_
    rintro E w13 ⟨rfl,b13⟩
    have L13:=hide (L12.out.below b13)
    have PG:Hid (Calls Tryz.prog 12 #[.pointer (some ⟨p,0,none⟩)] w13 fun E w'=>E=.returned (.agg #[.int .i64 2,.int .u8 3,.int .i64 0,.int .u8 1,.int .i64 0,.int .i64 0])∧Below w13.heap.size w13 w'):=hide (uM L13.out (by omega))
    clear SP b13 L12 n0 n1 n2 n3 n4 n5 m0 m1 m2 m3 m4 m5 v0 v1 v2 v3 v4 v5 ayX
    go_wp2_with fail
    refine PG.out.mono ?_
    rintro E w14 ⟨rfl,b14⟩
    have L14:=hide (L13.out.below b14)
    clear PG b14 L13
    go_wp2_with fail
    go_meet
    exact L14
  case rest=>
   obtain⟨w10,awU⟩:∃x,wc=x:=⟨_,rfl⟩
   rw[awU]at hcut⊢
   clear awU L10 hS2 hcb MK HB
   obtain⟨w11,ayd,s11,b11,P11⟩:=ak w10 #[.int .i64 0,.int .i64 0,.slice none 0 0] 52
   obtain⟨X,hX⟩:∃X,X=w10.heap.size:=⟨_,rfl⟩
   rw[←hX]at P11
   have I0:Hid (iZ w7 w11 p q l k 0 X false 0 0 (.slice none 0 0)):=hide (iZ.first hcut.out b11 hX (by omega) P11)
   clear hcut b11 P11 s11
   go_wp2_with fail
   rw[←hX]
   clear hX ayd
   go_loopw [14,15] (fun sv lv wr=>∃(i:Nat) (sm:Bool) (es fs:Int) (v:Value),i≤4∧lv=.int .i64 (3-(i:Int))∧sv=.bool sm∧(1≤i→sm=decide (k<rs.length))∧Hid (iZ w7 wr p q l k i X (decide (1≤i)) es fs v)) (fun _ lv _=>(intOf lv+1).toNat)
   case atStart=>exact⟨0,false,0,0,_,by omega,by rfl,rfl,fun e=>by omega,I0⟩
   case round=>
    clear I0
    obtain⟨i,sm,es,fs,v,hi,rfl,rfl,hsm,II⟩:=hrel
    by_cases hlt:i<4
    ·have hlt':(0:Int)≤3-(i:Int):=by omega
     have ST:Hid (Calls Tryz.prog 13 #[.pointer (some ⟨p,0,none⟩),.agg #[.int .i64 1,.int .i64 2,.int .u8 1,.int .i64 ((k:Int)+1),.slice ha hn hk',.int .i64 0,.int .i64 0,.slice none 0 0]] wr fun E w'=>E=.returned (.tuple #[vp (pgL k (i+1)),.int .i64 0])∧iZ w7 w' p q l k (i+1) X (decide (1≤i)) es fs v):=hide (by
      have K:=(KEEP.out wr II.out.out).1
      have t:=anG (m:=(jM k (.slice ha hn hk') (rD l k))) (c:=0) II.out hlt LB.out.1 LB.out.2.2.2.1 LB.out.2.2.1 K.2.2.2.2.1 (ahg _ LB.out.2.2.1 LB.out.2.2.2.1) (alg _ LB.out.1 LB.out.2.1 LB.out.2.2.1 LB.out.2.2.2.1) fun e=>⟨ahs _ _,aiR LB.out.1 LB.out.2.1 LB.out.2.2.1 LB.out.2.2.2.1⟩
      exact t)
     obtain⟨y,hy⟩:∃y,pgL k (i+1)=y:=⟨_,rfl⟩
     have HY:Hid (pgL k (i+1)=y∧eU y∧ad5 y=3-(i:Int)∧Pm.chk y=0):=hide ⟨hy,by rw[←hy];exact(abX k (i+1) (by have:=LB.out.2.2;omega)).1,by rw[←hy];exact auv k i hlt (by have:=LB.out.2.2;omega),by rw[←hy];exact(abX k (i+1) (by have:=LB.out.2.2;omega)).2⟩
     have HV:Hid (vp y=.agg #[.int .i64 y.e,.int .u8 y.r,.int .i64 y.a,.int .u8 y.p,.int .i64 y.f,.int .i64 y.b]):=hide rfl
     rw[hy,HV.out]at ST
     obtain⟨a0,a1,a2,a3,a4,a5,a6,a7⟩:=(KEEP.out wr II.out.out).2
     clear hy
     go_wp2_with fail
     refine ST.out.mono ?_
     rintro E x1 ⟨rfl,I1⟩
     obtain⟨x2,hx2,ayx,sx2,b2,P2,⟨e0,e1,e2,e3,e4,e5⟩⟩:=uG x1 46 (.int .i64 0) (.int .u8 0) (.int .i64 0) (.int .u8 0) (.int .i64 0) (.int .i64 0) (.int .i64 y.e) (.int .u8 y.r) (.int .i64 y.a) (.int .u8 y.p) (.int .i64 y.f) (.int .i64 y.b)
     have I2:=hide (I1.below b2)
     have LF:=hide (ajF y x2 HY.out.2.1 (KEEP.out x2 I2.out.out).1.2.2.2.2.2)
     rw[HY.out.2.2.1,HY.out.2.2.2,HV.out]at LF
     obtain⟨P,hP⟩:∃P,x1.heap.size=P:=⟨_,rfl⟩
     have P2':Hid (x2.heap[P]? =some (.cells (cp y) 46 (0,0))):=hide (by rw[←hP];exact P2)
     try rw[hP]at hx2
     rw[hP]at e0 e1 e2 e3 e4 e5
     have HPP:=hide hP
     clear ST I1 II b2 P2 a0 a1 a2 a3 a4 a5 a6 a7
     go_wp2_with fail
     try rw[hP]
     refine LF.out.mono ?_
     rintro E x3 ⟨rfl,b3⟩
     have I3:=hide (I2.out.below b3)
     have P3:=hide ((b3.block _ (ax P2'.out)).trans P2'.out)
     have SX3:Hid (∀W,Below x3.heap.size x3 W→W.cell? ⟨P,0,none⟩=some (.int .i64 y.e)∧W.cell? ⟨P,1,none⟩=some (.int .u8 y.r)∧W.cell? ⟨P,2,none⟩=some (.int .i64 y.a)∧W.cell? ⟨P,3,none⟩=some (.int .u8 y.p)∧W.cell? ⟨P,4,none⟩=some (.int .i64 y.f)∧W.cell? ⟨P,5,none⟩=some (.int .i64 y.b)):=hide fun W hW=>by
      obtain⟨q0,q1,q2,q3,q4,q5⟩:=aN ((hW.block _ (ax P3.out)).trans P3.out)
      exact⟨q0,q1,q2,q3,q4,q5⟩
     have PGc:Hid (∀W,Below x3.heap.size x3 W→Calls Tryz.prog 12 #[.pointer (some ⟨p,0,none⟩)] W fun E w'=>E=.returned (.agg #[.int .i64 y.e,.int .u8 y.r,.int .i64 y.a,.int .u8 y.p,.int .i64 y.f,.int .i64 y.b])∧Below x3.heap.size x3 w'∧(w'.cell? ⟨P,0,none⟩=some (.int .i64 y.e)∧w'.cell? ⟨P,1,none⟩=some (.int .u8 y.r)∧w'.cell? ⟨P,2,none⟩=some (.int .i64 y.a)∧w'.cell? ⟨P,3,none⟩=some (.int .u8 y.p)∧w'.cell? ⟨P,4,none⟩=some (.int .i64 y.f)∧w'.cell? ⟨P,5,none⟩=some (.int .i64 y.b))):=hide fun W hW=>by
      have t:=ang (I3.out.below hW) (by omega)
      rw[HY.out.1,HV.out]at t
      refine t.mono ?_
      rintro E w' ⟨rfl,b⟩
      have b:=hW.trans (b.mono hW.size)
      exact⟨rfl,b,SX3.out w' b⟩
     have SPc:Hid (∀W,Below x3.heap.size x3 W→Calls Tryz.prog 14 #[.agg #[.int .i64 y.e,.int .u8 y.r,.int .i64 y.a,.int .u8 y.p,.int .i64 y.f,.int .i64 y.b],.agg #[.int .i64 y.e,.int .u8 y.r,.int .i64 y.a,.int .u8 y.p,.int .i64 y.f,.int .i64 y.b]] W fun E w'=>E=.returned (.bool true)∧Below x3.heap.size x3 w'∧(w'.cell? ⟨P,0,none⟩=some (.int .i64 y.e)∧w'.cell? ⟨P,1,none⟩=some (.int .u8 y.r)∧w'.cell? ⟨P,2,none⟩=some (.int .i64 y.a)∧w'.cell? ⟨P,3,none⟩=some (.int .u8 y.p)∧w'.cell? ⟨P,4,none⟩=some (.int .i64 y.f)∧w'.cell? ⟨P,5,none⟩=some (.int .i64 y.b))):=hide fun W hW=>by
      have t:=mr y y W
      rw[HV.out,af3.2 rfl]at t
      refine t.mono ?_
      rintro E w' ⟨rfl,b⟩
      have b:=hW.trans (b.mono hW.size)
      exact⟨rfl,b,SX3.out w' b⟩
     obtain⟨a0,a1,a2,a3,a4,a5⟩:=SX3.out x3 (Below.refl _ _)
     have hne:(3-(i:Int) !=3-(i:Int))=false:=by simp
     clear LF b3 I2 P2' e0 e1 e2 e3 e4 e5 hx2 ayx HPP sx2
     go_wp2_with fail
     go_region_held3 (fun W=>W.cell? ⟨P,0,none⟩=some (.int .i64 y.e)∧W.cell? ⟨P,1,none⟩=some (.int .u8 y.r)∧W.cell? ⟨P,2,none⟩=some (.int .i64 y.a)∧W.cell? ⟨P,3,none⟩=some (.int .u8 y.p)∧W.cell? ⟨P,4,none⟩=some (.int .i64 y.f)∧W.cell? ⟨P,5,none⟩=some (.int .i64 y.b)) (first|exact⟨a0,a1,a2,a3,a4,a5⟩|exact hS1|exact hS2|go_keep)
      (first
      |(go_at_call 12;refine(PGc.out _ ((Below.refl _ _).drew)).mono ?_;rintro E W1 ⟨rfl,mf,hS1⟩)
      |(go_at_call 14;refine(SPc.out W1 mf).mono ?_;rintro E W2 ⟨rfl,bW2,hS2⟩))
     have I4:=hide (I3.out.below bW2)
     have P4:=hide ((bW2.block _ (ax P3.out)).trans P3.out)
     clear PGc SPc SX3 hS1 mf bW2 I3 P3 a0 a1 a2 a3 a4 a5
     obtain⟨a0,a1,a2,a3,a4,a5⟩:=hS2
     by_cases hi0:i=0
     ·subst hi0
      have hyp:y.p=2∧y.e=2∧y.f=k:=by rw[←HY.out.1];exact⟨rfl,rfl,rfl⟩
      have av6:(y.p==2)=true:=by rw[hyp.1];rfl
      have HYP:=hide hyp
      clear hyp
      have SX4:Hid (∀W,Below W2.heap.size W2 W→W.cell? ⟨P,0,none⟩=some (.int .i64 y.e)∧W.cell? ⟨P,1,none⟩=some (.int .u8 y.r)∧W.cell? ⟨P,2,none⟩=some (.int .i64 y.a)∧W.cell? ⟨P,3,none⟩=some (.int .u8 y.p)∧W.cell? ⟨P,4,none⟩=some (.int .i64 y.f)∧W.cell? ⟨P,5,none⟩=some (.int .i64 y.b)):=hide fun W hW=>by
       obtain⟨q0,q1,q2,q3,q4,q5⟩:=aN ((hW.block _ (ax P4.out)).trans P4.out)
       exact⟨q0,q1,q2,q3,q4,q5⟩
      have LGc:Hid (∀W,Below W2.heap.size W2 W→Calls Tryz.prog 17 #[.pointer (some ⟨p,0,none⟩)] W fun E w'=>∃a n c,E=.returned (.slice a n c)∧(∃wV,Hid (fT W2.heap.size w' (.slice a n c) wV∧ay wV=l))∧Below W2.heap.size W2 w'):=hide fun W hW=>by
       refine(arW (I4.out.below hW) (by omega)).mono ?_
       rintro E w' ⟨vl,wV,rfl,g1,g2,g3⟩
       obtain⟨a,c,hv,_,_⟩:=g1.c.row.shape
       subst hv
       exact⟨a,_,c,rfl,⟨wV,hide ⟨g1.bu hW.size,g2⟩⟩,hW.trans (g3.mono hW.size)⟩
      have LOc:Hid (∀W vl wV,fT W2.heap.size W vl wV→ay wV=l→Below W2.heap.size W2 W→Calls Tryz.prog 16 #[vl,.agg #[.int .i64 y.e,.int .u8 y.r,.int .i64 y.a,.int .u8 y.p,.int .i64 y.f,.int .i64 y.b]] W (LoX w7 p q l k X P rs.length y)):=hide fun W vl wV g1 g2 g3=>by
       have t:=aoL I4.out Z7.out.2.2 ⟨HY.out.2.1,HY.out.2.2.2⟩ HYP.out P4.out g1 g2 g3 (KEEP.out W (I4.out.below g3).out).1.2.2.2.2.2 LB.out.1 LB.out.2.2.2.1 LB.out.2.2.1 LB.out.2.2.2.2
       rw[HV.out]at t
       exact t
      clear hne P4
      go_wp2_with fail
      clear av6
      go_cut [14,19]from 149 to 156 (fun v14 v19 wx=>v14=.bool (decide (k<rs.length))∧v19=.int .i64 0∧∃es fs a n c,Hid (iZ w7 wx p q l k 1 X true es fs (.slice a n c)))
      case first=>
       obtain⟨W0,hW0⟩:∃x,W2.drew=x:=⟨_,rfl⟩
       have D0:Hid (Below W2.heap.size W2 W0):=hide (by rw[←hW0];exact(Below.refl _ _).drew)
       refine kK (ops:=(aC 25 Tryz.f3)) (S:=fun W=>W.cell? ⟨P,0,none⟩=some (.int .i64 y.e)∧W.cell? ⟨P,1,none⟩=some (.int .u8 y.r)∧W.cell? ⟨P,2,none⟩=some (.int .i64 y.a)∧W.cell? ⟨P,3,none⟩=some (.int .u8 y.p)∧W.cell? ⟨P,4,none⟩=some (.int .i64 y.f)∧W.cell? ⟨P,5,none⟩=some (.int .i64 y.b)) (by kernel_rfl) anS ?_
       rw[asn,hW0]
       refine bG ane (SX4.out _ D0.out) ?_
       refine bG apI (SX4.out _ D0.out) ?_
       refine dB aty ?_
       refine aI rfl (by rfl) (fun K hK=>?_)
       go_simp
       refine(LGc.out _ D0.out).mono ?_
       rintro E U1 ⟨la0,ln0,lc0,rfl,⟨wV,G1⟩,bU1⟩
       have D1:=hide bU1
       go_wp2_with fail
       refine bq hK (SX4.out _ D1.out) ?_
       clear hK K
       refine dB auO ?_
       refine aI rfl (by rfl) (fun K hK=>?_)
       go_simp
       refine(LOc.out U1 _ wV G1.out.1 G1.out.2 D1.out).mono ?_
       rintro E U2 ⟨ls,lf,la,ln,lc,rfl,⟨V,hV,IV,lS⟩,⟨f0,f1,f2⟩,⟨u0,u1,u2,y0,y1,y2⟩,hS2⟩
       go_wp2_with fail
       refine bq hK hS2 ?_
       clear hK K
       refine bG alL hS2 ?_
       refine bG ami hS2 ?_
       refine bG akR hS2 ?_
       refine bG ai9 hS2 ?_
       refine dB anc ?_
       refine aI rfl (by rfl) (fun K hK=>?_)
       go_simp
       go_wp2_with fail
       refine bq hK lS ?_
       clear hK K
       refine bG ajk lS ?_
       refine bG afo lS ?_
       refine dA asN ?_
       go_wp2_with fail
       go_meet
       case rel=>exact⟨rfl,rfl,_,_,_,_,_,IV⟩
      case rest=>
      obtain⟨rfl,rfl,ls,lf,la,ln,lc,IV⟩:=hcut
      have I5:Hid (iZ w7 wc p q l k (0+1) X (decide (1≤0+1)) ls lf (.slice la ln lc)):=IV
      clear SX4 LGc LOc IV I4 HY HV a0 a1 a2 a3 a4 a5 hsm
      by_cases hkl:k<rs.length
      ·have hkl':(k:Int)<rs.length:=by omega
       rw[decide_eq_true hkl]
       go_wp2_with fail
       go_roundw
       case rel=>exact⟨0+1,true,ls,lf,_,by omega,by go_num,rfl,fun _=>(decide_eq_true hkl).symm,I5⟩
       case measure=>simp[intOf]
      ·have hkl':¬(k:Int)<rs.length:=by omega
       rw[decide_eq_false hkl]
       go_wp2_with fail
       go_roundw
       case rel=>exact⟨0+1,false,ls,lf,_,by omega,by go_num,rfl,fun _=>(decide_eq_false hkl).symm,I5⟩
       case measure=>simp[intOf]
     ·have av6:(y.p==2)=false:=by
       rw[←HY.out.1]
       obtain rfl|rfl|rfl:i=1∨i=2∨i=3:=by omega
       all_goals rfl
      have hd:decide (1≤i)=true:=decide_eq_true (by omega)
      have hd2:decide (1≤i+1)=true:=decide_eq_true (by omega)
      rw[hd]at I4
      have I5:Hid (iZ w7 W2 p q l k (i+1) X (decide (1≤i+1)) es fs v):=hide (by rw[hd2];exact I4.out)
      have amF:=hsm (by omega)
      clear I4 hd hd2 hsm P4 HY HV
      go_wp2_with fail
      go_roundw
      case rel=>exact⟨i+1,sm,es,fs,v,by omega,by go_num,rfl,fun _=>amF,I5⟩
      case measure=>simp[intOf];omega
    ·have hlt':¬(0:Int)≤3-(i:Int):=by omega
     obtain rfl:i=4:=by omega
     have amF:=hsm (by omega)
     subst amF
     have I4:Hid (iZ w7 wr p q l k 4 X true es fs v):=II
     have DU:=hide (asE I4.out)
     have SL:=hide (arY (k:=k) LB.out.1 LB.out.2.1 LB.out.2.2.1)
     clear II hsm hlt
     go_wp2_with fail
     refine DU.out.mono ?_
     rintro E x1 ⟨vb,rfl,o1,c1⟩
     have SC:=hide (mQ vb _ x1 o1.is (by have:=SL.out.2;omega))
     have I5:=hide (I4.out.below c1)
     clear DU o1 c1 I4
     go_wp2_with fail
     refine SC.out.mono ?_
     rintro E x2 ⟨v2,l2,n2,rfl,Y2⟩
     have I6:=hide (I5.out.below Y2.out.2.2.2.2)
     have hsw:Hid (iq l2=ssL l k 4):=hide (Orp.sN Y2.out.2.2.2.1 (Orp.qc SL.out.1))
     have Y:Hid (nJ x2 v2 l2∧tY l2∧(∃ao cp,v2=.slice ao l2.length cp)):=hide ⟨Y2.out.1.is,Y2.out.2.1,by
      obtain⟨tK,cp2,hv2,_,_⟩:=Y2.out.1.is.shape
      exact⟨_,_,hv2⟩⟩
     have EN:Hid (∀W,Below x2.heap.size x2 W→Calls Tryz.prog 20 #[.pointer (some ⟨p,0,none⟩)] W fun E w'=>E=.returned (.int .i64 k)∧Below W.heap.size W w'):=hide fun W hW=>asA (I6.out.below hW) LB.out.2.2.2.1
     have FIN:Hid (∀W,Below x2.heap.size x2 W→Below w.heap.size w W):=hide fun W hW=>(KEEP.out W (I6.out.below hW).out).1.2.2.1
     obtain⟨tK,cp2,hv2⟩:=Y.out.2.2
     have hkb:((k:Int)==(k:Int))=true:=by simp
     subst hv2
     clear SC I5 Y2
     by_cases hkl:k<rs.length
     ·try (exfalso;omega)
      all_goals
       have hl1:iq l2=[jQ 2 k l]:=by
        rw[hsw.out]
        show(if k<l.length then [jQ 2 k l]else [])=_
        rw[if_pos (by have:=LB.out.2.2.2.2;omega)]
       have hl2:l2.length=1:=by have:=congrArg List.length hl1;rw[p8]at this;exact this
       obtain⟨Z,i1,i2,i3,i4,i5⟩:=I6.out
       obtain⟨rfl,rfl,B,rq,r1,r2,r3,r4,r5⟩:=i5 rfl (by have:=LB.out.2.2.2.2;omega)
       have e0:x2.cell? ⟨X,0,none⟩=some (.int .i64 2):=ai i4 0 rfl
       have e1:x2.cell? ⟨X,1,none⟩=some (.int .i64 k):=ai i4 1 rfl
       have e2:x2.cell? ⟨X,2,none⟩=some v:=ai i4 2 rfl
       obtain⟨x7,hx7,sx7,d7,P7⟩:=ak x2 #[.int .i64 2,.int .i64 k,v] 52
       have hck:∀c∈ay rq,Cm.chk c.e c.n c.l=0:=fun c hc=>(Sto.iG LB.out.1 c (by rw[r3]at hc;exact List.mem_of_mem_drop hc)).1
       obtain⟨ic,fc⟩:=aaV r1 r2 hck
       have hrq:rq.length≤30:=by
        have:=congrArg List.length r3
        unfold ay at this
        rw[List.length_map,List.length_drop]at this
        have:=LB.out.2.2.1
        omega
       obtain⟨s1,s2⟩:=aho P7 (ic.below d7) fc (by omega) (e:=2) (f:=(k:Int)) ⟨by omega,by omega⟩ ⟨by omega,by omega⟩
       have SS:=hide (aax _ _ l2 _ x7 (Y.out.1.below d7) s1 Y.out.2.1 s2 (by omega) (by
        rw[hl1]
        show [jQ 2 k l]=[(⟨2,k,ay rq⟩:Orp.Se)]
        rw[r3]
        rfl))
       rw[hl2]at SS
       rw[hl2]
       have D7:=hide d7
       obtain⟨va',vk',hvv,_,_⟩:=r1.row.shape
       rw[hvv]at e2 hx7
       rw[decide_eq_true hkl]
       clear i1 i2 i3 i4 i5 P7 r1 r2 r3 r4 r5 hck ic fc s1 s2 d7 hvv hl1 hsw
       go_wp2_with fail
       refine SS.out.mono ?_
       rintro E x8 ⟨rfl,d8⟩
       have E8:=hide (EN.out x8 (D7.out.trans (d8.mono D7.out.size)))
       have D8:=hide (D7.out.trans (d8.mono D7.out.size))
       clear SS d8 D7 EN
       go_wp2_with fail
       refine E8.out.mono ?_
       rintro E x9 ⟨rfl,d9⟩
       have F9:=hide (FIN.out x9 (D8.out.trans (d9.mono D8.out.size)))
       clear E8 d9 D8
       go_wp2
       go_ret
       exact⟨rfl,F9.out⟩
     ·have hl1:iq l2=[]:=by
       rw[hsw.out]
       show(if k<l.length then [jQ 2 k l]else [])=_
       rw[if_neg (by have:=LB.out.2.2.2.2;omega)]
      have hl2:l2.length=0:=by have:=congrArg List.length hl1;rw[p8]at this;exact this
      rw[hl2]
      rw[decide_eq_false hkl]
      have E8:=hide (EN.out x2 (Below.refl _ _))
      clear hl1 hl2 hsw EN I6 Y
      go_wp2_with fail
      refine E8.out.mono ?_
      rintro E x9 ⟨rfl,d9⟩
      have F9:=hide (FIN.out x9 d9)
      clear E8 d9
      go_wp2
      go_ret
      exact⟨rfl,F9.out⟩
theorem wS (v:Value)(r:List Cw)(t:Int)(m:Mw)(w:World)(h:di w v r)(hf:dL r)(hl:r.length*40≤140737488351232)(ht:(Lit.int .i64 t).wf=true)(hm:fw w m)(fm:dx m)(h0:eH w):
  Calls Tryz.prog 3 #[v,.int .i64 t,mv m] w fun E w'=>E=.returned (.bool true)∧Below w.heap.size w w':=by
 have i1:=range_i64 (zs:=[t]) (by simpa using ht) 0
 simp only[List.getElem?_cons_zero,Option.getD_some]at i1
 exact aa4 v r t m w h0 h hf (by omega) ⟨i1.1,by omega⟩ hm fm
end Go.Proofs.YtmngcecomcadkaaGreatDoor
