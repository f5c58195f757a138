/- Texts of one layer, one behind the other. -/
import Derived.Test.YtmngcecomcadkaaGreatDoorCH7
import Derived.Test.YtmngcecomcadkaaGreatDoorCH8
import Derived.Test.YtmngcecomcadkaaGreatDoorCH4
import Derived.Test.YtmngcecomcadkaaGreatDoorCH6
import Derived.Test.YtmngcecomcadkaaGreatDoorCH14
import Derived.Deep.RegionHeld3
import Derived.Test.YtmngcecomcadkaaGreatDoorCH22
import Derived.Test.YtmngcecomcadkaaGreatDoorCH2
import Derived.Test.YtmngcecomcadkaaGreatDoorCH18
import Derived.Test.YtmngcecomcadkaaGreatDoorCH19
import Derived.BigQuiet
import Derived.Test.YtmngcecomcadkaaGreatDoorCH13
import Derived.Test.YtmngcecomcadkaaGreatDoorCH21
import Derived.Test.YtmngcecomcadkaaGreatDoorCM2
import Derived.Test.YtmngcecomcadkaaGreatDoorCH26
import Derived.Test.YtmngcecomcadkaaGreatDoorCH1
import Derived.OrdersIn
import Derived.Test.YtmngcecomcadkaaGreatDoorProg
set_option maxRecDepth 100000
set_option maxHeartbeats 8000000
namespace Go.Proofs.YtmngcecomcadkaaGreatDoor
open Go.RowKit
set_option linter.unusedVariables false
def ad5 (x:Pm.Pg):Int:=if Pm.chk x≠0 then 0 else if x.r=2 then 0 else 5-x.p
theorem ajF (x:Pm.Pg)(w:World)(hx:eU x)(hm:eH w):
  Calls Tryz.prog 15 #[vp x] w fun E w'=>E=.returned (.tuple #[.int .i64 (ad5 x),.int .i64 (Pm.chk x)])∧Below w.heap.size w w':=by
 obtain⟨w1,hw1,s1,b1,P1⟩:=ak w (cp x) 46
 have PC:=hide (iQ x w1 hx (hm.below b1))
 have hp:0≤x.p∧x.p<256:=by unfold eU at hx;omega
 have rQ:∀W,Below w1.heap.size w1 W→W.cell? ⟨w.heap.size,1,none⟩=some (.int .u8 x.r)∧W.cell? ⟨w.heap.size,3,none⟩=some (.int .u8 x.p):=fun W hW=>by
  have:=(hW.block _ (by omega)).trans P1
  exact⟨ai this 1 rfl,ai this 3 rfl⟩
 have HW:=hide rQ
 have B1:=hide b1
 obtain⟨c0,c1,c2,c3,c4,c5⟩:=aN (by unfold cp at P1;exact P1)
 unfold cp at hw1
 unfold vp at PC⊢
 unfold ad5
 clear P1 rQ b1 hm hx
 by_cases h0:Pm.chk x=0
 ·rw[if_neg (by simp[h0]),h0]
  rw[h0]at PC
  clear h0
  by_cases h2:x.r=2
  ·have h2':(x.r==2)=true:=by simpa using h2
   rw[if_pos h2]
   clear h2
   go_enter Tryz.func15,Tryz.ntmps15
   go_wp2_with fail
   refine PC.out.mono ?_
   rintro E w2 ⟨rfl,b2⟩
   obtain⟨d1,d3⟩:=HW.out w2 b2
   have B2:=hide (B1.out.trans (b2.mono B1.out.size))
   clear PC HW b2 B1
   go_wp2
   refine bodyPost_ret (results_tmp2 rfl _ _ _) rfl ?_
   exact⟨rfl,B2.out⟩
  ·have h2':(x.r==2)=false:=by simpa using h2
   rw[if_neg h2]
   have hwr:IntKind.i64.wrap (5-x.p)=5-x.p:=aS _ (by omega) (by omega)
   have hwp:IntKind.i64.wrap x.p=x.p:=aS _ (by omega) (by omega)
   clear h2
   go_enter Tryz.func15,Tryz.ntmps15
   go_wp2_with fail
   refine PC.out.mono ?_
   rintro E w2 ⟨rfl,b2⟩
   obtain⟨d1,d3⟩:=HW.out w2 b2
   have B2:=hide (B1.out.trans (b2.mono B1.out.size))
   clear PC HW b2 B1
   go_wp2
   refine bodyPost_ret (results_tmp2 rfl _ _ _) rfl ?_
   exact⟨rfl,B2.out⟩
 ·have h0':(Pm.chk x==0)=false:=by simpa using h0
  rw[if_pos h0]
  generalize Pm.chk x=e at*
  go_enter Tryz.func15,Tryz.ntmps15
  go_wp2_with fail
  refine PC.out.mono ?_
  rintro E w2 ⟨rfl,b2⟩
  obtain⟨d1,d3⟩:=HW.out w2 b2
  have B2:=hide (B1.out.trans (b2.mono B1.out.size))
  clear PC HW b2 B1
  go_wp2
  refine bodyPost_ret (results_tmp2 rfl _ _ _) rfl ?_
  exact⟨rfl,B2.out⟩
def qD (x:Pm.Pg) (m:Mw) (c:Int):Bool:=decide (x.r=3)&&(decide (m.r=1)&&(decide (m.e=x.e)&&decide (c=0)))
theorem wF (x:Pm.Pg)(m:Mw)(c:Int)(w:World)(hi:fw w m)(hf:dx m)(hc:Mm.Ck m.m c):
  Calls Tryz.prog 11 #[vp x,mv m] w fun E w'=>E=.returned (.bool (qD x m c))∧Below w.heap.size w w':=by
 obtain⟨w1,hw1,s1,b1,P1⟩:=ak w (cp x) 46
 obtain⟨w2,hw2,s2,b2,P2⟩:=qB w1 m
 have b02:Below w.heap.size w w2:=b1.trans (b2.mono (by omega))
 have PC:=hide (ai4 m c w2 (hi.below b02) hf hc)
 have eX:=(b2.block w.heap.size (by omega)).trans P1
 obtain⟨c0,c1,c2,c3,c4,c5⟩:=aN (by unfold cp at eX;exact eX)
 rw[s1]at P2
 obtain⟨a0,a1,a2,a3,a4,a5,a6,a7⟩:=P2.ei
 have B2:=hide b02
 unfold cp at hw1
 unfold mv at PC⊢
 unfold vp
 unfold qD
 clear P1 eX P2 b1 b2 b02 hi hf hc
 by_cases h1:x.r=3
 ·have h1':(x.r==3)=true:=by simpa using h1
  rw[decide_eq_true h1,Bool.true_and]
  clear h1
  by_cases h2:m.r=1
  ·have h2':(m.r==1)=true:=by simpa using h2
   rw[decide_eq_true h2,Bool.true_and]
   clear h2
   by_cases h3:m.e=x.e
   ·have h3':(m.e==x.e)=true:=by simpa using h3
    rw[decide_eq_true h3,Bool.true_and]
    clear h3
    have h4:(c==0)=decide (c=0):=by by_cases h:c=0<;>simp[h]
    go_enter Tryz.func11,Tryz.ntmps11
    go_wp2_with fail
    refine PC.out.mono ?_
    rintro E w3 ⟨rfl,b3⟩
    have B3:=hide (B2.out.trans (b3.mono B2.out.size))
    clear PC b3
    go_wp2
    go_ret
    exact⟨rfl,B3.out⟩
   ·have h3':(m.e==x.e)=false:=by simpa using h3
    rw[decide_eq_false h3,Bool.false_and]
    go_enter Tryz.func11,Tryz.ntmps11
    go_wp2
    go_ret
    exact⟨rfl,B2.out⟩
  ·have h2':(m.r==1)=false:=by simpa using h2
   rw[decide_eq_false h2,Bool.false_and]
   go_enter Tryz.func11,Tryz.ntmps11
   go_wp2
   go_ret
   exact⟨rfl,B2.out⟩
 ·have h1':(x.r==3)=false:=by simpa using h1
  rw[decide_eq_false h1,Bool.false_and]
  go_enter Tryz.func11,Tryz.ntmps11
  go_wp2
  go_ret
  exact⟨rfl,B2.out⟩
theorem agm (vl:Value)(r:List Cw)(w:World)(h:di w vl r)(hf:dL r)(h0:0<r.length)(hl:r.length≤1000):
  Calls Tryz.prog 33 #[vl] w fun E w'=>∃v rs,E=.returned v∧bn 35 w.heap.size w' v rs∧ay rs=ay r∧dR w.heap.size w' rs∧Below w.heap.size w w':=by
 obtain⟨b1,o1,c1,hvl,_,_,hB,hcell⟩:=h.1.full h0
 subst hvl
 obtain⟨i0,hi,hz0,hz1,hz2⟩:=info_parts Tryz.oq
 have HIN:=hide h.2
 have aoX:=hide hf
 have HC:=hide hcell
 generalize hn:r.length=n at*
 have HN:=hide hn
 clear h hcell hf hn
 go_enter Tryz.func33,Tryz.ntmps33
 go_wp2_with (at_make;refine wpList_make_own _ rfl _ _ 22 rfl w.heap.size 35 i0 (.agg #[.int .i64 0,.int .i64 0,.slice none 0 0]) 3 Tryz.underlying22 hi hz0 hz1 _ _ _ n rfl rfl (by omega) ?b2 ?b3 (by omega) ?_)
 case b2=>rw[hz2];omega
 case b3=>unfold maxLen;omega
 intro w1 hown1 hgrow1
 have aj:Below w.heap.size w w1:=(Below.refl _ _).grown hgrow1 (Nat.le_refl _) (by simp)
 have aX:bn 35 w.heap.size w1 (.slice (some ⟨w.heap.size,0,none⟩) 0 n) []:=hown1
 clear hown1 hgrow1 hi hz0 hz1 hz2
 go_wp2
 go_loopw [3,11] (fun ov iv wr=>∃(k:Nat) (rs:List Cw),k≤n∧iv=.int .i64 k∧rs.length=k∧Hid (bn 35 w.heap.size wr ov rs∧ay rs=ay (r.take k)∧dR w.heap.size wr rs)∧Below w.heap.size w wr) (fun _ iv _=>n-(intOf iv).toNat)
 case atStart=>exact⟨0,[],by omega,rfl,rfl,⟨aX,rfl,fun c hc=>by simp at hc⟩,aj⟩
 case round=>
  clear aX aj
  obtain⟨k,rs,hk,rfl,hrl,HT,aF⟩:=hrel
  have sz:=aF.size
  by_cases hlt:k<n
  ·obtain⟨c,hc⟩:∃c,r[k]? =some c:=⟨r[k]'(by have:=HN.out;omega),by rw[List.getElem?_eq_getElem]⟩
   obtain⟨e0,e1,e2⟩:=HC.out k c hc
   have d0:=(aF.cell (p:=⟨b1,o1+k*3,none⟩) hB).trans e0
   have d1:=(aF.cell (p:=⟨b1,o1+k*3+1,none⟩) hB).trans e1
   have d2:=(aF.cell (p:=⟨b1,o1+k*3+2,none⟩) hB).trans e2
   have hmem:=List.mem_of_getElem? hc
   obtain⟨i1,_,_⟩:=HIN.out c hmem
   obtain⟨wa,hwa,zP,sza,jJ,bA,x0,x1,x2⟩:=fJ wr 35 (.int .i64 0) (.int .i64 0) (.slice none 0 0) (.int .i64 c.e) (.int .i64 c.n) c.v
   have aqS:=aF.trans (jJ.mono (by omega))
   have i2:=i1.below aqS
   obtain⟨hfc,hlc⟩:=aoX.out c hmem
   have HCK:=hide hc
   have CP:=hide (oK c.e c.n c.v c.l wa i2 hlc)
   unfold bK at CP
   obtain⟨cA,cc,hcv,_,_⟩:=i1.shape
   rw[hcv]at d2 hwa zP x2 CP
   have hlt':(k:Int)<n:=by omega
   clear hc hmem i1 e0 e1 e2 i2
   go_wp2_with fail
   refine CP.out.mono ?_
   rintro E w2 ⟨v2,rfl,aP,au⟩
   have dz:=au.size
   obtain⟨ah,ch,hv2,_,_⟩:=aP.is.shape
   subst hv2
   obtain⟨w3,hw3,cB,aD,bD⟩:=kC 35 w2 #[.int .i64 c.e,.int .i64 c.n,.slice ah c.l.length ch] 1 [⟨c.e,c.n,.slice ah c.l.length ch,c.l⟩] rfl rfl (by simp[maxLen])
   obtain⟨hO,hE,hP⟩:=HT.out
   have jR:Below wr.heap.size wr w3:=(jJ.trans (au.mono (by omega))).trans (aD.mono (by omega))
   have hO3:=hO.below jR
   have hP3:=hP.below jR
   have aaH:=(aP.below aD).bu (base':=w.heap.size) (by omega)
   have hlk:(rs.length+[(⟨c.e,c.n,.slice ah c.l.length ch,c.l⟩:Cw)].length)*40≤140737488355328:=by rw[List.length_singleton];omega
   have HE:=hide hE
   have HP:=hide hP3
   have aY:Below w.heap.size w w3:=aF.trans (jR.mono (by omega))
   clear HT hO hP hP3 hE au aD jR aP aF d0 d1 d2 CP jJ bA aqS x0 x1 x2
   go_wp2_with (at_builtin;refine jY rfl (.tmp 15) (.tmp 18) 22 rfl 35 w.heap.size Tryz.underlying22 Tryz.oq _ rs rfl hO3 _ _ rfl bD.row (by intro c hc;rw[List.mem_singleton.1 hc];rfl) hlk (by omega) ?_)
   intro v4 w4 aW aK rM
   have HT2:Hid (bn 35 w.heap.size w4 v4 (rs++[⟨c.e,c.n,.slice ah c.l.length ch,c.l⟩])∧ay (rs++[⟨c.e,c.n,.slice ah c.l.length ch,c.l⟩])=ay (r.take (k+1))∧dR w.heap.size w4 (rs++[⟨c.e,c.n,.slice ah c.l.length ch,c.l⟩])):=
    ⟨aW,an2 HE.out HCK.out rfl,(HP.out.iJ rM).snoc (aaH.iJ rM (by decide))⟩
   have dW:=aY.trans aK
   clear aW rM aaH bD hO3 HE HP aY aK hlk
   go_wp2
   go_roundw
   case rel=>exact⟨k+1,_,by omega,by go_num,by rw[List.length_append,hrl];rfl,HT2,dW⟩
   case measure=>simp[intOf];omega
  ·have hlt':¬(k:Int)<n:=by omega
   have HE:Hid (ay rs=ay r):=hide (by rw[HT.out.2.1,List.take_of_length_le (by have:=HN.out;omega)])
   go_wp2
   go_ret
   exact⟨_,rfl,rs,HT.out.1,HE.out,HT.out.2.2,aF⟩
def ais (w:World) (r:List Cw) (x:Pm.Pg) (E:Ending) (w':World):Prop:=
 (x.f=r.length∧E=.returned (.tuple #[.agg #[.int .i64 0,.int .i64 0,.slice none 0 0],.bool false,.int .i64 0])∧Below w.heap.size w w')∨
 (x.f<r.length∧∃a n k rs,E=.returned (.tuple #[.agg #[.int .i64 x.e,.int .i64 x.f,.slice a n k],.bool true,.int .i64 0])∧Hid (bn 35 w.heap.size w' (.slice a n k) rs∧dR w.heap.size w' rs∧ay rs=(ay r).drop x.f.toNat)∧Below w.heap.size w w')
theorem acB (vl:Value)(r:List Cw)(x:Pm.Pg)(w:World)(h:di w vl r)(hf:dL r)(hl:r.length≤1000)(hg:Cm.Good 0 0 (ay r))(hx:eU x)(hok:Pm.chk x=0)(hp:x.p=2)(hm:eH w)(h0:0≤x.f)(jl:x.f≤r.length):
  Calls Tryz.prog 16 #[vl,vp x] w (ais w r x):=by
 obtain⟨w1,hw1,s1,b1,P1⟩:=ak w (cp x) 46
 obtain⟨w2,hw2,s2,b2,P2⟩:=ak w1 #[.int .i64 0,.int .i64 0,.slice none 0 0] 52
 rw[s1]at P2
 have b02:Below w.heap.size w w2:=b1.trans (b2.mono (by omega))
 have eX:=(b2.block w.heap.size (by omega)).trans P1
 have FO:=hide (jA 0 0 vl r w2 (h.below b02) hf (by omega))
 have e0:Cm.fol 0 0 0 (ay r)=(0,0):=by
  have:=(Cm.dZ (ay r) 0 0 0).2 hg
  exact Prod.ext this (Cm.oI _ _ _ _ this)
 rw[e0]at FO
 unfold rE at FO
 have HPG:Hid (∀W,Below w2.heap.size w2 W→W.heap[w.heap.size]? =some (.cells (cp x) 46 (0,0))∧W.heap[w.heap.size+1]? =some (.cells #[.int .i64 0,.int .i64 0,.slice none 0 0] 52 (0,0))∧eH W∧di W vl r∧Below w.heap.size w W):=hide fun W hW=>⟨(hW.block _ (by omega)).trans eX,(hW.block _ (by omega)).trans P2,hm.below (b02.trans (hW.mono (by omega))),h.below (b02.trans (hW.mono (by omega))),b02.trans (hW.mono (by omega))⟩
 have HX:=hide hx
 have HF:=hide hf
 have hok:Hid (Pm.chk x=0):=hide hok
 have hp':(x.p==2)=true:=by simpa using hp
 have hp'':(x.p !=2)=false:=by simpa using hp
 obtain⟨ao,cap,hvl,_,_⟩:=h.1.shape
 obtain⟨n,hn⟩:∃n,r.length=n:=⟨_,rfl⟩
 rw[hn]at hvl jl hl
 have HN:=hide hn
 have hgt:¬x.f>(n:Int):=by omega
 subst hvl
 unfold cp at hw1
 have HV:Hid (vp x=.agg #[.int .i64 x.e,.int .u8 x.r,.int .i64 x.a,.int .u8 x.p,.int .i64 x.f,.int .i64 x.b]):=hide rfl
 clear h hf hg hx hm b1 b2 b02 P1 P2 eX hp hn
 rw[HV.out]
 by_cases hq:x.f=n
 ·have hq':(x.f==(n:Int))=true:=by simpa using hq
  have FIN:Hid (∀W,Below w.heap.size w W→ais w r x (.returned (.tuple #[.agg #[.int .i64 0,.int .i64 0,.slice none 0 0],.bool false,.int .i64 0])) W):=hide fun W hW=>.inl ⟨by rw[HN.out];exact hq,rfl,hW⟩
  clear hq
  go_enter Tryz.func16,Tryz.ntmps16
  go_wp2_with fail
  refine FO.out.mono ?_
  rintro E w3 ⟨rfl,b3⟩
  obtain⟨w4,hw4,s4,b4,P4⟩:=ak w3 #[.int .i64 0,.int .i64 0] 31
  have f0:=ai P4 0 rfl
  have f1:=ai P4 1 rfl
  have r0:=aA P4 0
  have r1:=aA P4 1
  have q0:w4.setCell ⟨w3.heap.size,0,none⟩ (.int .i64 0)=w4:=aJ P4 (j:=0) rfl
  have q1:w4.setCell ⟨w3.heap.size,1,none⟩ (.int .i64 0)=w4:=aJ P4 (j:=1) rfl
  have ng:Below w2.heap.size w2 w4:=b3.trans (b4.mono b3.size)
  obtain⟨g1,g2,g3,g4,g5⟩:=HPG.out w4 ng
  have PC:=hide (iQ x w4 HX.out g3)
  rw[hok.out,HV.out]at PC
  obtain⟨c0,c1,c2,c3,c4,c5⟩:=aN g1
  have qL:=hide ng
  clear FO b3 b4 P4 g1 g2 g3 g4 g5 ng
  go_wp2_with fail
  refine PC.out.mono ?_
  rintro E w5 ⟨rfl,b5⟩
  obtain⟨g1,g2,g3,g4,g5⟩:=HPG.out w5 (qL.out.trans (b5.mono qL.out.size))
  obtain⟨c0,c1,c2,c3,c4,c5⟩:=aN g1
  have x0:w5.setCell ⟨w.heap.size+1,0,none⟩ (.int .i64 0)=w5:=aJ g2 (j:=0) rfl
  have x1:w5.setCell ⟨w.heap.size+1,1,none⟩ (.int .i64 0)=w5:=aJ g2 (j:=1) rfl
  have x2:w5.setCell ⟨w.heap.size+1,2,none⟩ (.slice none 0 0)=w5:=aJ g2 (j:=2) rfl
  have y0:=ai g2 0 rfl
  have y1:=ai g2 1 rfl
  have y2:=ai g2 2 rfl
  have z0:=aA g2 0
  have z1:=aA g2 1
  have z2:=aA g2 2
  have FN:=hide (FIN.out w5 g5)
  clear PC HPG b5 qL g1 g2 g3 g4 g5 FIN
  go_wp2
  refine bodyPost_ret (v:=.tuple #[.agg #[.int .i64 0,.int .i64 0,.slice none 0 0],.bool false,.int .i64 0]) (by simp[results,Tryz.results16,go_sem,y0,y1,y2]) rfl ?_
  exact FN.out
 ·have hq':(x.f==(n:Int))=false:=by simpa using hq
  have hlt:x.f<n:=by omega
  obtain⟨fk,awI⟩:∃fk:Nat,x.f=fk:=⟨x.f.toNat,by omega⟩
  have sG:=hide (And.intro awI hlt)
  clear hq awI hlt
  go_enter Tryz.func16,Tryz.ntmps16
  go_wp2_with fail
  refine FO.out.mono ?_
  rintro E w3 ⟨rfl,b3⟩
  obtain⟨w4,hw4,s4,b4,P4⟩:=ak w3 #[.int .i64 0,.int .i64 0] 31
  have f0:=ai P4 0 rfl
  have f1:=ai P4 1 rfl
  have r0:=aA P4 0
  have r1:=aA P4 1
  have q0:w4.setCell ⟨w3.heap.size,0,none⟩ (.int .i64 0)=w4:=aJ P4 (j:=0) rfl
  have q1:w4.setCell ⟨w3.heap.size,1,none⟩ (.int .i64 0)=w4:=aJ P4 (j:=1) rfl
  have ng:Below w2.heap.size w2 w4:=b3.trans (b4.mono b3.size)
  obtain⟨g1,g2,g3,g4,g5⟩:=HPG.out w4 ng
  have PC:=hide (iQ x w4 HX.out g3)
  rw[hok.out,HV.out]at PC
  obtain⟨c0,c1,c2,c3,c4,c5⟩:=aN g1
  have qL:=hide ng
  clear FO b3 b4 P4 g1 g2 g3 g4 g5 ng
  go_wp2_with fail
  refine PC.out.mono ?_
  rintro E w5 ⟨rfl,b5⟩
  have ru:=qL.out.trans (b5.mono qL.out.size)
  obtain⟨g1,g2,g3,g4,g5⟩:=HPG.out w5 ru
  obtain⟨c0,c1,c2,c3,c4,c5⟩:=aN g1
  have hfn:fk<r.length:=by have:=sG.out;have:=HN.out;omega
  obtain⟨vs,hsl,eQ⟩:=g4.1.gq Tryz.mo Tryz.mM fk hfn
  rw[←sG.out.1]at hsl
  have hic:di w5 vs (r.drop fk):=⟨eQ,fun c hc=>g4.2 c (List.mem_of_mem_drop hc)⟩
  have z5:=ru.size
  have CP:Hid (Calls Tryz.prog 33 #[vs] w5.drew fun E w6=>∃a nn k,E=.returned (.slice a nn k)∧(∃W,((w6.setCell ⟨w.heap.size+1,0,none⟩ (.int .i64 x.e)).setCell ⟨w.heap.size+1,1,none⟩ (.int .i64 x.f)).setCell ⟨w.heap.size+1,2,none⟩ (.slice a nn k)=W∧Hid (ais w r x (.returned (.tuple #[.agg #[.int .i64 x.e,.int .i64 x.f,.slice a nn k],.bool true,.int .i64 0])) W)∧(W.cell? ⟨w.heap.size+1,0,none⟩=some (.int .i64 x.e)∧W.cell? ⟨w.heap.size+1,1,none⟩=some (.int .i64 x.f)∧W.cell? ⟨w.heap.size+1,2,none⟩=some (.slice a nn k))∧W.cell? ⟨w.heap.size,0,none⟩=some (.int .i64 x.e)∧W.cell? ⟨w.heap.size,4,none⟩=some (.int .i64 x.f))∧(w6.cell? ⟨w.heap.size+1,0,none⟩=some (.int .i64 0)∧w6.cell? ⟨w.heap.size+1,1,none⟩=some (.int .i64 0)∧w6.cell? ⟨w.heap.size+1,2,none⟩=some (.slice none 0 0))∧(w6.frozen? ⟨w.heap.size+1,0,none⟩=false∧w6.frozen? ⟨w.heap.size+1,1,none⟩=false∧w6.frozen? ⟨w.heap.size+1,2,none⟩=false)∧(w6.cell? ⟨w.heap.size,0,none⟩=some (.int .i64 x.e)∧w6.cell? ⟨w.heap.size,4,none⟩=some (.int .i64 x.f))):=hide (by
   have bd:Below w5.heap.size w5 w5.drew:=(Below.refl _ _).drew
   refine(agm vs _ w5.drew (hic.below bd) (fun c hc=>HF.out c (List.mem_of_mem_drop hc)) (by rw[List.length_drop];omega) (by rw[List.length_drop];have:=HN.out;omega)).mono ?_
   rintro E w6 ⟨v6,rs,rfl,o1,o2,o3,o4⟩
   have b6:Below w5.heap.size w5 w6:=bd.trans o4
   have k1:=(b6.block _ (ax g1)).trans g1
   have k2:=(b6.block _ (ax g2)).trans g2
   obtain⟨a,kk,rfl,_,_⟩:=o1.row.shape
   obtain⟨W,hW,pW,gW,y,z,u⟩:=dP k2 (.int .i64 x.e) (.int .i64 x.f) (.slice a rs.length kk)
   have kp:bH 52 w6 W:=wm k2 gW
   have pI:Below w.heap.size w w6:=g5.trans (b6.mono (by have:=g5.size;omega))
   have z6:=o4.size
   refine⟨a,_,kk,rfl,⟨W,hW,hide (.inr ⟨by rw[HN.out];exact sG.out.2,a,_,kk,rs,rfl,hide ⟨(qY (mD o1 (by have:=g5.size;show w.heap.size≤w5.heap.size;omega)) kp (by decide)),?_,?_⟩,aB pI gW (by omega) pI.size⟩),u,ai ((gW.block _ (ax k1) (by simp)).trans k1) 0 rfl,ai ((gW.block _ (ax k1) (by simp)).trans k1) 4 rfl⟩,y,z,ai k1 0 rfl,ai k1 4 rfl⟩
   ·exact fun c hc=>((o3 c hc).bu (by have:=g5.size;show w.heap.size≤w5.heap.size;omega)).iJ kp (by decide)
   ·rw[o2,sG.out.1,show((fk:Int)).toNat=fk by omega]
    unfold ay
    rw[List.map_drop])
  obtain⟨tK,cap2,hvs,_,_⟩:=eQ.shape
  obtain⟨nd,hnd⟩:∃nd,(r.drop fk).length=nd:=⟨_,rfl⟩
  rw[hnd]at hvs
  rw[hvs]at hsl CP
  clear hnd hvs
  clear PC HPG b5 ru qL g1 g2 g3 g4 g5 hic eQ hfn
  go_wp2_with fail
  go_region_held3 (fun w'=>w'.cell? ⟨w.heap.size,0,none⟩=some (.int .i64 x.e)∧w'.cell? ⟨w.heap.size,4,none⟩=some (.int .i64 x.f)) (first|exact⟨c0,c4⟩|exact⟨t0,t4⟩|exact⟨p0,p4⟩|go_keep)
   (first
   |(go_at_call 33;refine CP.out.mono ?_;rintro E w6 ⟨a,nn,k,rfl,⟨W,hW,X,⟨u0,u1,u2⟩,p0,p4⟩,⟨y0,y1,y2⟩,⟨z0,z1,z2⟩,t0,t4⟩))
  clear CP
  go_wp2
  refine bodyPost_ret (v:=.tuple #[.agg #[.int .i64 x.e,.int .i64 x.f,.slice a nn k],.bool true,.int .i64 0]) (by simp[results,Tryz.results16,go_sem,u0,u1,u2]) rfl ?_
  exact X.out
theorem aoI {l:List Cm.Cv}{k:Nat}{c:Cm.Cv}(hk:l[k]? =some c)(hl:l.length=k+1)(e:Int):Cm.lastN e l=c.n:=by
 rcases List.eq_nil_or_concat l with rfl|⟨r,d,rfl⟩
 ·simp at hk
 ·rw[List.concat_eq_append]at hk hl⊢
  rw[List.length_append,List.length_singleton]at hl
  obtain rfl:r.length=k:=by omega
  rw[Rl.iE r d e]
  simp at hk
  rw[hk]
theorem amA (v:Value)(rs:List Cw)(w:World)(h:fu w v rs)(hl:rs.length≤1048576):
  Calls Tryz.prog 149 #[v] w fun E w'=>E=.returned (.int .i64 (Cm.lastN 0 (ay rs)))∧w=w':=by
 by_cases h0:rs.length=0
 ·have hr:rs=[]:=List.eq_nil_of_length_eq_zero h0
  subst hr
  obtain⟨ao,cap,rfl,_,_⟩:=h.shape
  clear h
  go_enter Tryz.func149,Tryz.ntmps149
  go_wp2
  go_ret
  exact⟨rfl,rfl⟩
 ·obtain⟨k,hk⟩:∃k,rs.length=k+1:=⟨rs.length-1,by omega⟩
  obtain⟨g,off,cap,rfl,_,_,_,hcell⟩:=h.full (by omega)
  obtain⟨c,hck⟩:∃c,rs[k]? =some c:=⟨rs[k]'(by omega),by rw[List.getElem?_eq_getElem]⟩
  obtain⟨_,c1,_⟩:=hcell k c hck
  have hL:Cm.lastN 0 (ay rs)=c.n:=aoI (k:=k) (c:=c.c) (by unfold ay;rw[List.getElem?_map,hck];rfl) (by unfold ay;rw[List.length_map];exact hk) 0
  rw[hL,hk]
  have hne:(((k+1:Nat):Int)==0)=false:=by simp;omega
  have hw:IntKind.i64.wrap (((k+1:Nat):Int)-1)=(k:Int):=by rw[aS _ (by omega) (by omega)];omega
  have hk1:(k:Int)<((k+1:Nat):Int):=by omega
  clear h hcell hck hL
  go_enter Tryz.func149,Tryz.ntmps149
  go_wp2
  go_ret
  exact⟨rfl,rfl⟩
theorem ac9 (p q:Nat)(w:World)(u1 u2:Value)(hB:w.heap[p]? =some (.cells #[.pointer (some ⟨q,0,none⟩),u1,u2] 198 (0,0))):
  Calls Tryz.prog 148 #[.pointer (some ⟨p,0,none⟩)] w fun E w'=>E=.returned (.bool true)∧w=w':=by
 have c0:=ai hB 0 rfl
 clear hB
 go_enter Tryz.func148,Tryz.ntmps148
 go_wp2
 go_ret
 exact⟨rfl,rfl⟩
def aei (e n:Int) (l:List Bm.Ov):List Int:=if Rn.chk e n l=0 then Rl.fr ⟨e,n,l⟩else []
theorem agh (e n:Int)(v:Value)(l:List Bm.Ov)(w:World)(h:dh w v l)(hf:iL l)(hl:l.length≤140737488355328):
  Calls Tryz.prog 209 #[bK e n v] w fun E w'=>∃vb,E=.returned (.tuple #[vb,.int .i64 (Rn.chk e n l)])∧Own .u8 5 w.heap.size w' vb (aei e n l)∧Below w.heap.size w w':=by
 obtain⟨ao,cap,hv,_,_⟩:=h.shape
 obtain⟨w1,hw1,aT,aj,hB⟩:=ak w #[.int .i64 e,.int .i64 n,v] 228
 have c0:w1.cell? ⟨w.heap.size,0,none⟩=some (.int .i64 e):=ai hB 0 rfl
 have c1:w1.cell? ⟨w.heap.size,1,none⟩=some (.int .i64 n):=ai hB 1 rfl
 have c2:w1.cell? ⟨w.heap.size,2,none⟩=some v:=ai hB 2 rfl
 have HC:=hide (aoY e n v l w1 (h.below aj) hf hl)
 unfold bK at HC⊢
 rw[hv]at hw1 c2 HC⊢
 obtain⟨ch,hch⟩:∃c,Rn.chk e n l=c:=⟨_,rfl⟩
 have KC:=hide hch
 rw[hch]at HC⊢
 clear h hf hl hB hv hch
 go_enter Tryz.func209,Tryz.ntmps209
 go_wp2_with fail
 refine HC.out.mono ?_
 rintro E w2 ⟨vb,rfl,own,au⟩
 have aL:=aj.trans (au.mono aj.size)
 obtain⟨ab,cb,hvb,_,_⟩:=own.is.shape
 by_cases hc0:ch=0
 ·have hz:(Rn.out e n l).length≤52233:=Rn.xq e n l
  have HF:=hide (uK (.slice none 0 0) vb [] (Rn.out e n l) w2 (Is.nil _ _) own.is (by simp) (by omega))
  have ea:wN (Rn.out e n l)=0:=by unfold wN;rw[if_pos (by omega)]
  have ed:xK [] (Rn.out e n l)=aei e n l:=by
   unfold xK aei
   rw[if_pos (by omega),if_pos (by rw[KC.out];exact hc0),Rn.jd (by rw[KC.out];exact hc0)]
   rfl
  rw[ea,ed]at HF
  subst hvb
  subst hc0
  clear own aj au ea ed hz HC
  go_wp2_with fail
  refine HF.out.mono ?_
  rintro E w3 ⟨vf,rfl,bD,aD⟩
  obtain⟨af,cf,hvf,_,_⟩:=bD.is.shape
  have O3:=hide (bD.bu (base':=w.heap.size) aL.size)
  have B3:=hide (aL.trans (aD.mono aL.size))
  subst hvf
  clear bD aD aL HF
  go_wp2
  go_ret2
  exact⟨_,rfl,O3.out,B3.out⟩
 ·have ed:aei e n l=[]:=by unfold aei;rw[if_neg (by rw[KC.out];exact hc0)]
  have ED:=hide ed
  have hne:(ch !=0)=true:=by simp[hc0]
  subst hvb
  clear own aj au ed HC
  go_wp2
  go_ret2
  exact⟨_,rfl,by rw[ED.out];exact Own.nil _ _ _ _,aL⟩
theorem lQ (p q:Nat)(F:Nat→Prop)(w:World)(s:Rl.Rs)(h:RW p q F w s):
  Calls Tryz.prog 108 #[.pointer (some ⟨p,0,none⟩)] w fun E w'=>E=.returned (.int .i64 (Cm.lastN 0 s.l))∧w=w':=by
 obtain⟨F1,G1,h1,h2,rfl⟩:=h
 obtain⟨v,rs,hv,rfl⟩:=h2
 have HM:=hide (ac9 p q w _ _ hv.blk)
 have HE:=hide (amA v rs w hv.log.row.row hv.log.atP)
 rw[hv.log.is]at HE
 have c2:=ai hv.blk 2 rfl
 simp only[List.getElem_toArray,List.getElem_cons_zero,List.getElem_cons_succ]at c2
 clear hv h1
 go_enter Tryz.func108,Tryz.ntmps108
 go_wp2_with fail
 refine HM.out.mono ?_
 rintro E w1 ⟨rfl,rfl⟩
 go_wp2_with fail
 refine HE.out.mono ?_
 rintro E w1 ⟨rfl,rfl⟩
 go_wp2
 go_ret
 exact⟨rfl,rfl⟩
theorem yL (p q pw pr:Nat)(F F':Nat→Prop)(w:World)(off:Bool)(x:Pm.Pg)(en:Int)(vs:Value)(sw:Wl.Ws)(sr:Rl.Rs)(hb:w.heap[p]? =some (.cells (eF q off x (.pointer (some ⟨pw,0,none⟩)) en (.pointer (some ⟨pr,0,none⟩)) vs) 94 (0,0)))(h1:WW pw q F w sw)(h2:RW pr q F' w sr):
  Calls Tryz.prog 54 #[.pointer (some ⟨p,0,none⟩)] w fun E w'=>E=.returned (.agg (jc x (Cm.lastE 0 sw.l) en (Cm.lastN 0 sr.l) p))∧Below w.heap.size w w':=by
 have rG:∀(fn:Fn) (first cap:Array Value) (w:World),(Instr.makeFunc fn first cap).run Tryz.prog w=.ok (.func fn first cap) w:=fun _ _ _ _=>rfl
 have hsf:∀(a:Addr) (fn:Fn) (first cap:Array Value) (w:World),(store a (.func fn first cap)).run Tryz.prog w=stored Tryz.prog w a (.func fn first cap) .plain:=fun a fn first cap w=>run_store _ w a _ _ rfl
 have hpl:=ax hb
 obtain⟨w1,hw1,s1,b1,P1⟩:=ak w #[.int .i64 0,.int .u8 0,.int .i64 0,.int .u8 0,.int .i64 0,.int .i64 0,.int .i64 0,.int .i64 0,.int .i64 0,.nilFunc] 119
 obtain⟨K,hK⟩:∃K:World→Prop,K=fun W=>Hid (W.heap[p]? =w.heap[p]?∧W.heap[w.heap.size]? =some (.cells #[.int .i64 0,.int .u8 0,.int .i64 0,.int .u8 0,.int .i64 0,.int .i64 0,.int .i64 0,.int .i64 0,.int .i64 0,.nilFunc] 119 (0,0))∧Below w.heap.size w W):=⟨_,rfl⟩
 have HE:Hid (∀W,K W→Calls Tryz.prog 60 #[.pointer (some ⟨pw,0,none⟩)] W fun E w'=>E=.returned (.int .i64 (Cm.lastE 0 sw.l))∧K w'):=hide fun W k=>by
  subst hK
  refine(aaU pw q F W sw (h1.below k.out.2.2)).mono ?_
  rintro E w' ⟨rfl,m,rfl⟩
  exact⟨rfl,hide ⟨k.out.1,k.out.2.1,below_drewN k.out.2.2 m⟩⟩
 have HR:Hid (∀W,K W→Calls Tryz.prog 108 #[.pointer (some ⟨pr,0,none⟩)] W fun E w'=>E=.returned (.int .i64 (Cm.lastN 0 sr.l))∧K w'):=hide fun W k=>by
  subst hK
  refine(lQ pr q F' W sr (h2.below k.out.2.2)).mono ?_
  rintro E w' ⟨rfl,rfl⟩
  exact⟨rfl,k⟩
 generalize Cm.lastE 0 sw.l=ep at*
 generalize Cm.lastN 0 sr.l=rn at*
 obtain⟨SS,hSS⟩:∃SS:World→Prop,SS=(fun W=>W.cell? ⟨p,2,none⟩=some (.int .i64 x.e)∧W.cell? ⟨p,3,none⟩=some (.int .u8 x.r)∧W.cell? ⟨p,4,none⟩=some (.int .i64 x.a)∧W.cell? ⟨p,5,none⟩=some (.int .u8 x.p)∧W.cell? ⟨p,6,none⟩=some (.int .i64 x.f)∧W.cell? ⟨p,7,none⟩=some (.int .i64 x.b)∧W.cell? ⟨p,8,none⟩=some (.pointer (some ⟨pw,0,none⟩))∧W.cell? ⟨p,9,none⟩=some (.int .i64 en)∧W.cell? ⟨p,11,none⟩=some (.pointer (some ⟨pr,0,none⟩))):=⟨_,rfl⟩
 have sB:∀W,W.heap[p]? =w.heap[p]?→SS W:=fun W k=>by
  subst hSS
  obtain⟨c0,_,c2,c3,c4,c5,c6,c7,c8,c9,_,c11,_⟩:=mH (k.trans hb)
  exact⟨c2,c3,c4,c5,c6,c7,c8,c9,c11⟩
 have KS:Hid (∀W,K W→SS W):=hide fun W k=>by
  subst hK
  exact sB W k.out.1
 have PUT:Hid (∀W V,W.heap[w.heap.size]? =some (.cells #[.int .i64 0,.int .u8 0,.int .i64 0,.int .u8 0,.int .i64 0,.int .i64 0,.int .i64 0,.int .i64 0,.int .i64 0,.nilFunc] 119 (0,0))→Below w.heap.size w W→W.grownBy V (some w.heap.size)→SS V∧Below w.heap.size w V):=hide fun W V k1 k2 k3=>by
  have hs:=k2.size
  have b:=aB k2 k3 (Nat.le_refl _) (by omega)
  exact⟨sB V (b.block p hpl),b⟩
 obtain⟨W0,hW0⟩:∃W,w1.drew=W:=⟨_,rfl⟩
 have K0:K W0:=by
  subst hK
  rw[←hW0]
  exact hide ⟨b1.block p hpl,P1,b1.drew⟩
 subst hK hSS
 clear h1 h2 hb P1 b1 s1 sB
 go_enter Tryz.func54,Tryz.ntmps54
 go_wp2_with fail
 refine kK (ops:=(aC 1 Tryz.f54)) (S:=fun W=>W.cell? ⟨p,2,none⟩=some (.int .i64 x.e)∧W.cell? ⟨p,3,none⟩=some (.int .u8 x.r)∧W.cell? ⟨p,4,none⟩=some (.int .i64 x.a)∧W.cell? ⟨p,5,none⟩=some (.int .u8 x.p)∧W.cell? ⟨p,6,none⟩=some (.int .i64 x.f)∧W.cell? ⟨p,7,none⟩=some (.int .i64 x.b)∧W.cell? ⟨p,8,none⟩=some (.pointer (some ⟨pw,0,none⟩))∧W.cell? ⟨p,9,none⟩=some (.int .i64 en)∧W.cell? ⟨p,11,none⟩=some (.pointer (some ⟨pr,0,none⟩))) (by kernel_rfl) apu ?_
 rw[arz,hW0]
 refine bG aoW (KS.out _ K0) ?_
 refine bG apk (KS.out _ K0) ?_
 refine bG apT (KS.out _ K0) ?_
 refine bG anf (KS.out _ K0) ?_
 refine bG akM (KS.out _ K0) ?_
 refine bG alP (KS.out _ K0) ?_
 refine bG alj (KS.out _ K0) ?_
 refine bG ai1 (KS.out _ K0) ?_
 refine bG ahP (KS.out _ K0) ?_
 refine bG ajs (KS.out _ K0) ?_
 refine bG aef (KS.out _ K0) ?_
 refine bG aeO (KS.out _ K0) ?_
 refine bG afF (KS.out _ K0) ?_
 refine bG adi (KS.out _ K0) ?_
 refine bG adr (KS.out _ K0) ?_
 refine bG adg (KS.out _ K0) ?_
 refine bG acb (KS.out _ K0) ?_
 refine bG ace (KS.out _ K0) ?_
 refine bG abE (KS.out _ K0) ?_
 refine bG aaG (KS.out _ K0) ?_
 refine bG aau (KS.out _ K0) ?_
 refine bG aak (KS.out _ K0) ?_
 refine bG aae (KS.out _ K0) ?_
 refine qZ adk ?_ ?_
 ·refine aI rfl (by rfl) (fun K hK=>?_)
  go_simp
  refine(HE.out _ K0).mono ?_
  rintro E U1 ⟨rfl,k1⟩
  go_wp2_with fail
  refine bq hK (KS.out _ k1) ?_
  clear hK K
  refine qZ adl ?_ ?_
  ·refine aI rfl (by rfl) (fun K hK=>?_)
   go_simp
   refine(HR.out _ k1).mono ?_
   rintro E U2 ⟨rfl,k2⟩
   go_wp2_with fail
   refine bq hK (KS.out _ k2) ?_
   clear hK K
   refine dB adt ?_
   refine aI rfl (by rfl) (fun K hK=>?_)
   go_simp
   go_wp2_with fail
   refine bq hK (KS.out _ k2) ?_
   clear hK K
   refine bG kZ (KS.out _ k2) ?_
   refine dB nL ?_
   obtain⟨pb,bb⟩:=k2.out.2
   obtain⟨V,hV,bV,gV,⟨a0,a1,a2,a3,a4,a5,a6,a7,a8,a9⟩,fr,⟨z0,z1,z2,z3,z4,z5,z6,z7,z8,z9⟩⟩:=adU pb (.int .i64 x.e) (.int .u8 x.r) (.int .i64 x.a) (.int .u8 x.p) (.int .i64 x.f) (.int .i64 x.b) (.int .i64 ep) (.int .i64 en) (.int .i64 rn) (.func (.func 109) #[.pointer (some ⟨p,0,none⟩)] #[])
   have f0:=fr 0;have f1:=fr 1;have f2:=fr 2;have f3:=fr 3;have f4:=fr 4;have f5:=fr 5;have f6:=fr 6;have f7:=fr 7;have f8:=fr 8;have f9:=fr 9
   have SV:=hide (PUT.out _ _ pb bb gV)
   clear bV gV fr pb bb
   refine aI rfl (by rfl) (fun K hK=>?_)
   go_simp
   go_wp2_with fail
   refine bq hK SV.out.1 ?_
   clear hK K
   refine dA abP ?_
   clear HE HR KS PUT
   go_wp2
   refine bodyPost_ret (v:=.agg (jc x ep en rn p)) (by simp[results,Tryz.results54,go_sem,z0,z1,z2,z3,z4,z5,z6,z7,z8,z9,jc]) rfl ?_
   exact⟨rfl,SV.out.2⟩
  ·refine aI rfl (by rfl) (fun K hK=>?_)
   go_simp
   go_wp2_with fail
   refine bq hK (KS.out _ k1) ?_
   clear hK K
   refine dB vK ?_
   refine aI rfl (by rfl) (fun K hK=>?_)
   go_simp
   refine(HR.out _ k1).mono ?_
   rintro E U6 ⟨rfl,k6⟩
   go_wp2_with fail
   refine bq hK (KS.out _ k6) ?_
   clear hK K
   refine bG kZ (KS.out _ k6) ?_
   refine dB nL ?_
   obtain⟨pb,bb⟩:=k6.out.2
   obtain⟨V,hV,bV,gV,⟨a0,a1,a2,a3,a4,a5,a6,a7,a8,a9⟩,fr,⟨z0,z1,z2,z3,z4,z5,z6,z7,z8,z9⟩⟩:=adU pb (.int .i64 x.e) (.int .u8 x.r) (.int .i64 x.a) (.int .u8 x.p) (.int .i64 x.f) (.int .i64 x.b) (.int .i64 ep) (.int .i64 en) (.int .i64 rn) (.func (.func 109) #[.pointer (some ⟨p,0,none⟩)] #[])
   have f0:=fr 0;have f1:=fr 1;have f2:=fr 2;have f3:=fr 3;have f4:=fr 4;have f5:=fr 5;have f6:=fr 6;have f7:=fr 7;have f8:=fr 8;have f9:=fr 9
   have SV:=hide (PUT.out _ _ pb bb gV)
   clear bV gV fr pb bb
   refine aI rfl (by rfl) (fun K hK=>?_)
   go_simp
   go_wp2_with fail
   refine bq hK SV.out.1 ?_
   clear hK K
   refine dA abP ?_
   clear HE HR KS PUT
   go_wp2
   refine bodyPost_ret (v:=.agg (jc x ep en rn p)) (by simp[results,Tryz.results54,go_sem,z0,z1,z2,z3,z4,z5,z6,z7,z8,z9,jc]) rfl ?_
   exact⟨rfl,SV.out.2⟩
 ·refine aI rfl (by rfl) (fun K hK=>?_)
  go_simp
  go_wp2_with fail
  refine bq hK (KS.out _ K0) ?_
  clear hK K
  refine dB adp ?_
  refine aI rfl (by rfl) (fun K hK=>?_)
  go_simp
  refine(HE.out _ K0).mono ?_
  rintro E U9 ⟨rfl,k9⟩
  go_wp2_with fail
  refine bq hK (KS.out _ k9) ?_
  clear hK K
  refine dB vK ?_
  refine aI rfl (by rfl) (fun K hK=>?_)
  go_simp
  refine(HR.out _ k9).mono ?_
  rintro E U10 ⟨rfl,k10⟩
  go_wp2_with fail
  refine bq hK (KS.out _ k10) ?_
  clear hK K
  refine bG kZ (KS.out _ k10) ?_
  refine dB nL ?_
  obtain⟨pb,bb⟩:=k10.out.2
  obtain⟨V,hV,bV,gV,⟨a0,a1,a2,a3,a4,a5,a6,a7,a8,a9⟩,fr,⟨z0,z1,z2,z3,z4,z5,z6,z7,z8,z9⟩⟩:=adU pb (.int .i64 x.e) (.int .u8 x.r) (.int .i64 x.a) (.int .u8 x.p) (.int .i64 x.f) (.int .i64 x.b) (.int .i64 ep) (.int .i64 en) (.int .i64 rn) (.func (.func 109) #[.pointer (some ⟨p,0,none⟩)] #[])
  have f0:=fr 0;have f1:=fr 1;have f2:=fr 2;have f3:=fr 3;have f4:=fr 4;have f5:=fr 5;have f6:=fr 6;have f7:=fr 7;have f8:=fr 8;have f9:=fr 9
  have SV:=hide (PUT.out _ _ pb bb gV)
  clear bV gV fr pb bb
  refine aI rfl (by rfl) (fun K hK=>?_)
  go_simp
  go_wp2_with fail
  refine bq hK SV.out.1 ?_
  clear hK K
  refine dA abP ?_
  clear HE HR KS PUT
  go_wp2
  refine bodyPost_ret (v:=.agg (jc x ep en rn p)) (by simp[results,Tryz.results54,go_sem,z0,z1,z2,z3,z4,z5,z6,z7,z8,z9,jc]) rfl ?_
  exact⟨rfl,SV.out.2⟩
end Go.Proofs.YtmngcecomcadkaaGreatDoor
namespace Go.Proofs.YtmngcecomcadkaaGreatDoor
open Go.RowKit
open Bm (Ov)
set_option linter.unusedVariables false
theorem aso {e n:Int}{l:List Ov}(h:Cm.chk e n l=0):iL l∧l.length*40≤140737488351232∧In64 e∧In64 n∧l.length≤8:=by
 obtain⟨h1,h2,h3,h4,h5⟩:=Cm.aO h
 obtain⟨k1,k2,k3⟩:=Bm.dO h5
 refine⟨fun o ho=>?_,by omega,⟨by omega,by omega⟩,⟨by omega,by omega⟩,k2⟩
 obtain⟨_,k2,k3,_⟩:=Om.jf (k3 o ho)
 have e1:o.k.size=o.k.data.toList.length:=rfl
 have e2:o.v.size=o.v.data.toList.length:=rfl
 have e3:o.kl=o.k.data.toList:=rfl
 have e4:o.vl=o.v.data.toList:=rfl
 rw[e3]at k2
 rw[e4]at k3
 omega
structure Rt (base:Nat) (w:World) (l:List Cm.Cv) (v:Value) (rs:List Cw):Prop where
 row:bn 35 base w v rs
 kN:dR base w rs
 is:ay rs=l
 good:∀c∈l,Cm.chk c.e c.n c.l=0
 few:l.length≤1048576
section
variable {base base':Nat} {w w':World} {l:List Cm.Cv} {v:Value} {rs:List Cw} {F G:Nat→Prop}
theorem Rt.nil (base:Nat)(w:World):Rt base w [] (.slice none 0 0) []:=⟨bn.nil _ _ _,fun c hc=>by simp at hc,rfl,fun c hc=>by simp at hc,by simp⟩
theorem Rt.ty (h:Rt base w l v rs):∀g,QB v rs g→∃cs t,w.heap[g]? =some (.cells cs t (0,0))∧(t=35∨t=111):=by
 rintro g (hb|⟨c,hc,hb⟩)
 ·obtain⟨cs,e⟩:=h.row.type hb
  exact⟨_,_,e,.inl rfl⟩
 ·obtain⟨cs,e⟩:=(h.kN c hc).type hb
  exact⟨_,_,e,.inr rfl⟩
theorem Rt.lt (h:Rt base w l v rs):∀g,QB v rs g→g<w.heap.size:=fun g hg=>by
 obtain⟨cs,t,e,_⟩:=h.ty g hg
 exact ax e
theorem Rt.agree (h:Rt base w l v rs)(ha:∀g,QB v rs g→w'.heap[g]? =w.heap[g]?):Rt base w' l v rs:=
 ⟨bN h.row fun b hb=>ha b (.inl hb),fun c hc=>bN (h.kN c hc) fun b hb=>ha b (.inr ⟨c,hc,hb⟩),h.is,h.good,h.few⟩
theorem Rt.below (h:Rt base w l v rs)(hb:Below w.heap.size w w'):Rt base w' l v rs:=h.agree fun g hg=>hb.block g (h.lt g hg)
theorem Rt.out (h:Rt base w l v rs)(ho:Out F w w')(hd:∀g,QB v rs g→¬F g):Rt base w' l v rs:=h.agree fun g hg=>ho.block g (h.lt g hg) (hd g hg)
theorem Rt.ne (h:Rt base w l v rs){b:Nat}{cs:Array Value}{t:TypeId}{fr:Nat×Nat}(hb:w.heap[b]? =some (.cells cs t fr))(h1:t≠35)(h3:t≠111):¬QB v rs b:=by
 intro hg
 obtain⟨cs',t',e,ht⟩:=h.ty b hg
 rw[hb]at e
 simp only[Option.some.injEq,Obj.cells.injEq]at e
 obtain⟨_,e2,_⟩:=e
 subst e2
 rcases ht with e|e
 ·exact h1 e
 ·exact h3 e
theorem Rt.len (h:Rt base w l v rs):rs.length=l.length:=by rw[←h.is,ay,List.length_map]
theorem Rt.grow {v':Value}{c:Cw}(h:Rt base w l v rs)(ho:bn 35 base w' v' (rs++[c]))(hk:bH 35 w w')(hc:bg 111 base w c.v c.l)(hg:Cm.chk c.e c.n c.l=0)(hn:l.length+1≤1048576):Rt base w' (l++[c.c]) v' (rs++[c]):=by
 refine⟨ho,fun d hd=>?_,by unfold ay;rw[List.map_append,←h.is];rfl,fun d hd=>?_,by rw[List.length_append,List.length_singleton];exact hn⟩
 ·rcases List.mem_append.1 hd with hd|hd
  ·exact(h.kN d hd).iJ hk (by decide)
  ·rw[List.mem_singleton.1 hd]
   exact hc.iJ hk (by decide)
 ·rcases List.mem_append.1 hd with hd|hd
  ·exact h.good d hd
  ·rw[List.mem_singleton.1 hd]
   exact hg
end
structure wH (ps p pm bm:Nat) (w:World) (l:List Cm.Cv) (v:Value) (rs:List Cw):Prop where
 blk:w.heap[ps]? =some (.cells #[.pointer (some ⟨p,0,none⟩),v,.pointer (some ⟨pm,0,none⟩)] 204 (0,0))
 rest:Rt 0 w l v rs
 tb:Tb pm bm w (Rl.tab l)
def SB (ps pm bm:Nat) (v:Value) (rs:List Cw) (g:Nat):Prop:=g=ps∨g=pm∨g=bm∨QB v rs g
def Sk (ps p:Nat) (G:Nat→Prop) (w:World) (l:List Cm.Cv):Prop:=∃pm bm v rs,wH ps p pm bm w l v rs∧G=SB ps pm bm v rs
section
variable {ps p pm bm q:Nat} {w w' w1 w2:World} {l:List Cm.Cv} {v:Value} {rs:List Cw} {F G F1:Nat→Prop}
theorem wH.lt (h:wH ps p pm bm w l v rs):∀g,SB ps pm bm v rs g→g<w.heap.size:=by
 rintro g (rfl|rfl|rfl|hg)
 ·exact ax h.blk
 ·exact h.tb.plt
 ·exact h.tb.blt
 ·exact h.rest.lt g hg
theorem wH.agree (h:wH ps p pm bm w l v rs)(ha:∀g,SB ps pm bm v rs g→w'.heap[g]? =w.heap[g]?):wH ps p pm bm w' l v rs:=
 ⟨(ha ps (.inl rfl)).trans h.blk,h.rest.agree fun g hg=>ha g (.inr (.inr (.inr hg))),h.tb.agree (ha pm (.inr (.inl rfl))) (ha bm (.inr (.inr (.inl rfl))))⟩
theorem wH.below (h:wH ps p pm bm w l v rs)(hb:Below w.heap.size w w'):wH ps p pm bm w' l v rs:=h.agree fun g hg=>hb.block g (h.lt g hg)
theorem Sk.lt (h:Sk ps p G w l):∀g,G g→g<w.heap.size:=by
 obtain⟨pm,bm,v,rs,h,rfl⟩:=h
 exact h.lt
theorem Sk.agree (h:Sk ps p G w l)(ha:∀g,G g→w'.heap[g]? =w.heap[g]?):Sk ps p G w' l:=by
 obtain⟨pm,bm,v,rs,h,rfl⟩:=h
 exact⟨pm,bm,v,rs,h.agree ha,rfl⟩
theorem Sk.below (h:Sk ps p G w l)(hb:Below w.heap.size w w'):Sk ps p G w' l:=h.agree fun g hg=>hb.block g (h.lt g hg)
theorem Sk.out (h:Sk ps p G w l)(ho:Out F w w')(hd:∀g,G g→¬F g):Sk ps p G w' l:=h.agree fun g hg=>ho.block g (h.lt g hg) (hd g hg)
end
def SW (ps p q:Nat) (F:Nat→Prop) (w:World) (s:Sto.Ss):Prop:=∃F1 G1,RW p q F1 w s.r∧Sk ps p G1 w s.l∧(∀g,G1 g→¬F1 g)∧Sto.Ok s∧F=fun g=>F1 g∨G1 g
def sO (ps p q:Nat) (F:Nat→Prop) (w w':World) (s':Sto.Ss):Prop:=∃F',SW ps p q F' w' s'∧Out F w w'∧∀g,F' g→F g∨w.heap.size≤g
section
variable {ps p q:Nat} {F G:Nat→Prop} {w w' w1 w2:World} {s s':Sto.Ss}
theorem SW.lt (h:SW ps p q F w s):∀g,F g→g<w.heap.size:=by
 obtain⟨F1,G1,h1,h2,_,_,rfl⟩:=h
 rintro g (hg|hg)
 ·exact h1.lt g hg
 ·exact h2.lt g hg
theorem SW.agree (h:SW ps p q F w s)(ha:∀g,F g→w'.heap[g]? =w.heap[g]?):SW ps p q F w' s:=by
 obtain⟨F1,G1,h1,h2,h3,h4,rfl⟩:=h
 exact⟨F1,G1,h1.agree fun g hg=>ha g (.inl hg),h2.agree fun g hg=>ha g (.inr hg),h3,h4,rfl⟩
theorem SW.below (h:SW ps p q F w s)(hb:Below w.heap.size w w'):SW ps p q F w' s:=h.agree fun g hg=>hb.block g (h.lt g hg)
theorem SW.ok (h:SW ps p q F w s):Sto.Ok s:=by
 obtain⟨F1,G1,h1,h2,h3,h4,rfl⟩:=h
 exact h4
theorem sO.trans {F1:Nat→Prop}(ho:Out F w w1)(hs:∀g,F1 g→F g∨w.heap.size≤g)(k:sO ps p q F1 w1 w2 s'):sO ps p q F w w2 s':=by
 obtain⟨F2,h1,h2,h3⟩:=k
 refine⟨F2,h1,ho.trans h2 hs,fun g hg=>?_⟩
 rcases h3 g hg with h|h
 ·exact hs g h
 ·exact .inr (Nat.le_trans ho.size h)
theorem sO.same (h:SW ps p q F w s)(hb:Below w.heap.size w w'):sO ps p q F w w' s:=⟨F,h.below hb,Out.of_below hb,fun g hg=>.inl hg⟩
theorem sO.pre (hb:Below w.heap.size w w1)(h:sO ps p q F w1 w2 s'):sO ps p q F w w2 s':=h.trans (Out.of_below hb) fun g hg=>.inl hg
end
end Go.Proofs.YtmngcecomcadkaaGreatDoor
namespace Go.Proofs.YtmngcecomcadkaaGreatDoor
open Go.RowKit Go.Shelf
open Bm (Ov)
set_option linter.unusedVariables false
attribute [local go_sem] Oper.semAt_some
end Go.Proofs.YtmngcecomcadkaaGreatDoor
namespace Go.Proofs.YtmngcecomcadkaaGreatDoor
open Go.RowKit
set_option linter.unusedVariables false
structure FstN (w wr:World) (g m cap:Nat) (rest:List Cw) (k:Nat) (rk:List Cw):Prop where
 row:bn 228 w.heap.size wr (.slice (some ⟨g,0,none⟩) m cap) rk
 len:rk.length=m
 left:rk.drop k=rest.drop k
 kN:dR w.heap.size wr (rk.take k)
 is:ay rk=ay rest
 ap:ApC (rk.take k)
 aF:Below w.heap.size w wr
end Go.Proofs.YtmngcecomcadkaaGreatDoor
namespace Go.Proofs.YtmngcecomcadkaaGreatDoor
open Go.RowKit
open Bm (Ov)
set_option linter.unusedVariables false
def exL:List Ov:=[⟨false,⟨#[97]⟩,⟨#[]⟩⟩,⟨true,⟨#[98]⟩,⟨#[49]⟩⟩]
def exR:Cm.Cv:=⟨1,2,exL⟩
def rs0:Rl.Rs:=⟨Dm.new,[],false⟩
def wV:Rl.Rs:=(Rl.flu rs0 exR).2
end Go.Proofs.YtmngcecomcadkaaGreatDoor
