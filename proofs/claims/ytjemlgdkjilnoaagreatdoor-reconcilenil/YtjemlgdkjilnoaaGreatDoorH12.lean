/- Texts of one layer, one behind the other. -/
import Derived.Test.YtjemlgdkjilnoaaGreatDoorH6
import Derived.Test.YtjemlgdkjilnoaaGreatDoorH3
import Derived.Test.YtjemlgdkjilnoaaGreatDoorH11
import Derived.Deep.RegionHeld3
import Derived.Test.YtjemlgdkjilnoaaGreatDoorH17
import Derived.Test.YtjemlgdkjilnoaaGreatDoorH20
import Derived.Deep.CutRange
import Derived.Test.YtjemlgdkjilnoaaGreatDoorH35
import Derived.Deep.RegionLaw
set_option maxRecDepth 100000
set_option maxHeartbeats 8000000
namespace Go.Proofs.YtjemlgdkjilnoaaGreatDoor
open Go.RowKit
set_option linter.unusedVariables false
theorem agr (vl:Value)(r:List Cw)(w:World)(h:dJ w vl r)(hf:dV r)(h0:0<r.length)(hl:r.length≤1000):
  Calls Tryz.prog 48 #[vl] w fun E w'=>∃v rs,E=.returned v∧bD 65 w.heap.size w' v rs∧az rs=az r∧dZ w.heap.size w' rs∧Below w.heap.size w w':=by
 obtain⟨b1,o1,c1,hvl,_,_,hB,hcell⟩:=h.1.full h0
 subst hvl
 obtain⟨i0,hi,hz0,hz1,hz2⟩:=info_parts Tryz.nO
 have HIN:=hide h.2
 have aoH:=hide hf
 have HC:=hide hcell
 generalize hn:r.length=n at*
 have HN:=hide hn
 clear h hcell hf hn
 go_enter Tryz.func48,Tryz.ntmps48
 go_wp2_with (at_make;refine wpList_make_own _ rfl _ _ 26 rfl w.heap.size 65 i0 (.agg #[.int .i64 0,.int .i64 0,.slice none 0 0]) 3 Tryz.underlying26 hi hz0 hz1 _ _ _ n rfl rfl (by omega) ?b2 ?b3 (by omega) ?_)
 case b2=>rw[hz2];omega
 case b3=>unfold maxLen;omega
 intro w1 hown1 hgrow1
 have aj:Below w.heap.size w w1:=(Below.refl _ _).grown hgrow1 (Nat.le_refl _) (by simp)
 have aZ:bD 65 w.heap.size w1 (.slice (some ⟨w.heap.size,0,none⟩) 0 n) []:=hown1
 clear hown1 hgrow1 hi hz0 hz1 hz2
 go_wp2
 go_loopw [3,11] (fun ov iv wr=>∃(k:Nat) (rs:List Cw),k≤n∧iv=.int .i64 k∧rs.length=k∧Hid (bD 65 w.heap.size wr ov rs∧az rs=az (r.take k)∧dZ w.heap.size wr rs)∧Below w.heap.size w wr) (fun _ iv _=>n-(intOf iv).toNat)
 case atStart=>exact⟨0,[],by omega,rfl,rfl,⟨aZ,rfl,fun c hc=>by simp at hc⟩,aj⟩
 case round=>
  clear aZ aj
  obtain⟨k,rs,hk,rfl,hrl,HT,aG⟩:=hrel
  have sz:=aG.size
  by_cases hlt:k<n
  ·obtain⟨c,hc⟩:∃c,r[k]? =some c:=⟨r[k]'(by have:=HN.out;omega),by rw[List.getElem?_eq_getElem]⟩
   obtain⟨e0,e1,e2⟩:=HC.out k c hc
   have d0:=(aG.cell (p:=⟨b1,o1+k*3,none⟩) hB).trans e0
   have d1:=(aG.cell (p:=⟨b1,o1+k*3+1,none⟩) hB).trans e1
   have d2:=(aG.cell (p:=⟨b1,o1+k*3+2,none⟩) hB).trans e2
   have hmem:=List.mem_of_getElem? hc
   obtain⟨i1,_,_⟩:=HIN.out c hmem
   obtain⟨wa,hwa,zL,sza,jK,bA,x0,x1,x2⟩:=fH wr 65 (.int .i64 0) (.int .i64 0) (.slice none 0 0) (.int .i64 c.e) (.int .i64 c.n) c.v
   have aqW:=aG.trans (jK.mono (by omega))
   have i2:=i1.below aqW
   obtain⟨hfc,hlc⟩:=aoH.out c hmem
   have HCK:=hide hc
   have CP:=hide (oH c.e c.n c.v c.l wa i2 hlc)
   unfold bT at CP
   obtain⟨cA,cc,hcv,_,_⟩:=i1.shape
   rw[hcv]at d2 hwa zL x2 CP
   have hlt':(k:Int)<n:=by omega
   clear hc hmem i1 e0 e1 e2 i2
   go_wp2_with fail
   refine CP.out.mono ?_
   rintro E w2 ⟨v2,rfl,aT,au⟩
   have di:=au.size
   obtain⟨ah,ch,hv2,_,_⟩:=aT.is.shape
   subst hv2
   obtain⟨w3,hw3,bP,aF,bI⟩:=kC 65 w2 #[.int .i64 c.e,.int .i64 c.n,.slice ah c.l.length ch] 1 [⟨c.e,c.n,.slice ah c.l.length ch,c.l⟩] rfl rfl (by simp[maxLen])
   obtain⟨hO,hE,hP⟩:=HT.out
   have jR:Below wr.heap.size wr w3:=(jK.trans (au.mono (by omega))).trans (aF.mono (by omega))
   have hO3:=hO.below jR
   have hP3:=hP.below jR
   have aat:=(aT.below aF).bB (base':=w.heap.size) (by omega)
   have hlk:(rs.length+[(⟨c.e,c.n,.slice ah c.l.length ch,c.l⟩:Cw)].length)*40≤140737488355328:=by rw[List.length_singleton];omega
   have HE:=hide hE
   have HP:=hide hP3
   have bg:Below w.heap.size w w3:=aG.trans (jR.mono (by omega))
   clear HT hO hP hP3 hE au aF jR aT aG d0 d1 d2 CP jK bA aqW x0 x1 x2
   go_wp2_with (at_builtin;refine kr rfl (.tmp 15) (.tmp 18) 26 rfl 65 w.heap.size Tryz.underlying26 Tryz.nO _ rs rfl hO3 _ _ rfl bI.row (by intro c hc;rw[List.mem_singleton.1 hc];rfl) hlk (by omega) ?_)
   intro v4 w4 bf aM qW
   have HT2:Hid (bD 65 w.heap.size w4 v4 (rs++[⟨c.e,c.n,.slice ah c.l.length ch,c.l⟩])∧az (rs++[⟨c.e,c.n,.slice ah c.l.length ch,c.l⟩])=az (r.take (k+1))∧dZ w.heap.size w4 (rs++[⟨c.e,c.n,.slice ah c.l.length ch,c.l⟩])):=
    ⟨bf,amA HE.out HCK.out rfl,(HP.out.iN qW).snoc (aat.iN qW (by decide))⟩
   have dQ:=bg.trans aM
   clear bf qW aat bI hO3 HE HP bg aM hlk
   go_wp2
   go_roundw
   case rel=>exact⟨k+1,_,by omega,by go_num,by rw[List.length_append,hrl];rfl,HT2,dQ⟩
   case measure=>simp[intOf];omega
  ·have hlt':¬(k:Int)<n:=by omega
   have HE:Hid (az rs=az r):=hide (by rw[HT.out.2.1,List.take_of_length_le (by have:=HN.out;omega)])
   go_wp2
   go_ret
   exact⟨_,rfl,rs,HT.out.1,HE.out,HT.out.2.2,aG⟩
def aoG (w:World) (r:List Cw) (x:Pm.Pg) (E:Ending) (w':World):Prop:=
 (x.f=r.length∧E=.returned (.tuple #[.agg #[.int .i64 0,.int .i64 0,.slice none 0 0],.bool false,.int .i64 0])∧Below w.heap.size w w')∨
 (x.f<r.length∧∃a n k rs,E=.returned (.tuple #[.agg #[.int .i64 x.e,.int .i64 x.f,.slice a n k],.bool true,.int .i64 0])∧Hid (bD 65 w.heap.size w' (.slice a n k) rs∧dZ w.heap.size w' rs∧az rs=(az r).drop x.f.toNat)∧Below w.heap.size w w')
theorem akR (vl:Value)(r:List Cw)(x:Pm.Pg)(w:World)(h:dJ w vl r)(hf:dV r)(hl:r.length≤1000)(hg:Cm.Good 0 0 (az r))(hx:eT x)(hok:Pm.chk x=0)(hp:x.p=2)(hm:fQ w)(h0:0≤x.f)(jq:x.f≤r.length):
  Calls Tryz.prog 21 #[vl,vp x] w (aoG w r x):=by
 obtain⟨w1,hw1,s1,b1,P1⟩:=ak w (cp x) 35
 obtain⟨w2,hw2,s2,b2,P2⟩:=ak w1 #[.int .i64 0,.int .i64 0,.slice none 0 0] 72
 rw[s1]at P2
 have b02:Below w.heap.size w w2:=b1.trans (b2.mono (by omega))
 have fD:=(b2.block w.heap.size (by omega)).trans P1
 have FO:=hide (jY 0 0 vl r w2 (h.below b02) hf (by omega))
 have e0:Cm.fol 0 0 0 (az r)=(0,0):=by
  have:=(Cm.eY (az r) 0 0 0).2 hg
  exact Prod.ext this (Cm.qm _ _ _ _ this)
 rw[e0]at FO
 unfold q9 at FO
 have HPG:Hid (∀W,Below w2.heap.size w2 W→W.heap[w.heap.size]? =some (.cells (cp x) 35 (0,0))∧W.heap[w.heap.size+1]? =some (.cells #[.int .i64 0,.int .i64 0,.slice none 0 0] 72 (0,0))∧fQ W∧dJ W vl r∧Below w.heap.size w W):=hide fun W hW=>⟨(hW.block _ (by omega)).trans fD,(hW.block _ (by omega)).trans P2,hm.below (b02.trans (hW.mono (by omega))),h.below (b02.trans (hW.mono (by omega))),b02.trans (hW.mono (by omega))⟩
 have HX:=hide hx
 have HF:=hide hf
 have hok:Hid (Pm.chk x=0):=hide hok
 have hp':(x.p==2)=true:=by simpa using hp
 have hp'':(x.p !=2)=false:=by simpa using hp
 obtain⟨ao,cap,hvl,_,_⟩:=h.1.shape
 obtain⟨n,hn⟩:∃n,r.length=n:=⟨_,rfl⟩
 rw[hn]at hvl jq hl
 have HN:=hide hn
 have hgt:¬x.f>(n:Int):=by omega
 subst hvl
 unfold cp at hw1
 have HV:Hid (vp x=.agg #[.int .i64 x.e,.int .u8 x.r,.int .i64 x.a,.int .u8 x.p,.int .i64 x.f,.int .i64 x.b]):=hide rfl
 clear h hf hg hx hm b1 b2 b02 P1 P2 fD hp hn
 rw[HV.out]
 by_cases hq:x.f=n
 ·have hq':(x.f==(n:Int))=true:=by simpa using hq
  have FIN:Hid (∀W,Below w.heap.size w W→aoG w r x (.returned (.tuple #[.agg #[.int .i64 0,.int .i64 0,.slice none 0 0],.bool false,.int .i64 0])) W):=hide fun W hW=>.inl ⟨by rw[HN.out];exact hq,rfl,hW⟩
  clear hq
  go_enter Tryz.func21,Tryz.ntmps21
  go_wp2_with fail
  refine FO.out.mono ?_
  rintro E w3 ⟨rfl,b3⟩
  obtain⟨w4,hw4,s4,b4,P4⟩:=ak w3 #[.int .i64 0,.int .i64 0] 61
  have f0:=ai P4 0 rfl
  have f1:=ai P4 1 rfl
  have r0:=aC P4 0
  have r1:=aC P4 1
  have q0:w4.setCell ⟨w3.heap.size,0,none⟩ (.int .i64 0)=w4:=aL P4 (j:=0) rfl
  have q1:w4.setCell ⟨w3.heap.size,1,none⟩ (.int .i64 0)=w4:=aL P4 (j:=1) rfl
  have mR:Below w2.heap.size w2 w4:=b3.trans (b4.mono b3.size)
  obtain⟨g1,g2,g3,g4,g5⟩:=HPG.out w4 mR
  have PC:=hide (iZ x w4 HX.out g3)
  rw[hok.out,HV.out]at PC
  obtain⟨c0,c1,c2,c3,c4,c5⟩:=aN g1
  have qK:=hide mR
  clear FO b3 b4 P4 g1 g2 g3 g4 g5 mR
  go_wp2_with fail
  refine PC.out.mono ?_
  rintro E w5 ⟨rfl,b5⟩
  obtain⟨g1,g2,g3,g4,g5⟩:=HPG.out w5 (qK.out.trans (b5.mono qK.out.size))
  obtain⟨c0,c1,c2,c3,c4,c5⟩:=aN g1
  have x0:w5.setCell ⟨w.heap.size+1,0,none⟩ (.int .i64 0)=w5:=aL g2 (j:=0) rfl
  have x1:w5.setCell ⟨w.heap.size+1,1,none⟩ (.int .i64 0)=w5:=aL g2 (j:=1) rfl
  have x2:w5.setCell ⟨w.heap.size+1,2,none⟩ (.slice none 0 0)=w5:=aL g2 (j:=2) rfl
  have y0:=ai g2 0 rfl
  have y1:=ai g2 1 rfl
  have y2:=ai g2 2 rfl
  have z0:=aC g2 0
  have z1:=aC g2 1
  have z2:=aC g2 2
  have FN:=hide (FIN.out w5 g5)
  clear PC HPG b5 qK g1 g2 g3 g4 g5 FIN
  go_wp2
  refine bodyPost_ret (v:=.tuple #[.agg #[.int .i64 0,.int .i64 0,.slice none 0 0],.bool false,.int .i64 0]) (by simp[results,Tryz.results21,go_sem,y0,y1,y2]) rfl ?_
  exact FN.out
 ·have hq':(x.f==(n:Int))=false:=by simpa using hq
  have hlt:x.f<n:=by omega
  obtain⟨fk,aua⟩:∃fk:Nat,x.f=fk:=⟨x.f.toNat,by omega⟩
  have sU:=hide (And.intro aua hlt)
  clear hq aua hlt
  go_enter Tryz.func21,Tryz.ntmps21
  go_wp2_with fail
  refine FO.out.mono ?_
  rintro E w3 ⟨rfl,b3⟩
  obtain⟨w4,hw4,s4,b4,P4⟩:=ak w3 #[.int .i64 0,.int .i64 0] 61
  have f0:=ai P4 0 rfl
  have f1:=ai P4 1 rfl
  have r0:=aC P4 0
  have r1:=aC P4 1
  have q0:w4.setCell ⟨w3.heap.size,0,none⟩ (.int .i64 0)=w4:=aL P4 (j:=0) rfl
  have q1:w4.setCell ⟨w3.heap.size,1,none⟩ (.int .i64 0)=w4:=aL P4 (j:=1) rfl
  have mR:Below w2.heap.size w2 w4:=b3.trans (b4.mono b3.size)
  obtain⟨g1,g2,g3,g4,g5⟩:=HPG.out w4 mR
  have PC:=hide (iZ x w4 HX.out g3)
  rw[hok.out,HV.out]at PC
  obtain⟨c0,c1,c2,c3,c4,c5⟩:=aN g1
  have qK:=hide mR
  clear FO b3 b4 P4 g1 g2 g3 g4 g5 mR
  go_wp2_with fail
  refine PC.out.mono ?_
  rintro E w5 ⟨rfl,b5⟩
  have qY:=qK.out.trans (b5.mono qK.out.size)
  obtain⟨g1,g2,g3,g4,g5⟩:=HPG.out w5 qY
  obtain⟨c0,c1,c2,c3,c4,c5⟩:=aN g1
  have hfn:fk<r.length:=by have:=sU.out;have:=HN.out;omega
  obtain⟨vs,hsl,eH⟩:=g4.1.gu Tryz.nM Tryz.nN fk hfn
  rw[←sU.out.1]at hsl
  have hic:dJ w5 vs (r.drop fk):=⟨eH,fun c hc=>g4.2 c (List.mem_of_mem_drop hc)⟩
  have z5:=qY.size
  have CP:Hid (Calls Tryz.prog 48 #[vs] w5.drew fun E w6=>∃a nn k,E=.returned (.slice a nn k)∧(∃W,((w6.setCell ⟨w.heap.size+1,0,none⟩ (.int .i64 x.e)).setCell ⟨w.heap.size+1,1,none⟩ (.int .i64 x.f)).setCell ⟨w.heap.size+1,2,none⟩ (.slice a nn k)=W∧Hid (aoG w r x (.returned (.tuple #[.agg #[.int .i64 x.e,.int .i64 x.f,.slice a nn k],.bool true,.int .i64 0])) W)∧(W.cell? ⟨w.heap.size+1,0,none⟩=some (.int .i64 x.e)∧W.cell? ⟨w.heap.size+1,1,none⟩=some (.int .i64 x.f)∧W.cell? ⟨w.heap.size+1,2,none⟩=some (.slice a nn k))∧W.cell? ⟨w.heap.size,0,none⟩=some (.int .i64 x.e)∧W.cell? ⟨w.heap.size,4,none⟩=some (.int .i64 x.f))∧(w6.cell? ⟨w.heap.size+1,0,none⟩=some (.int .i64 0)∧w6.cell? ⟨w.heap.size+1,1,none⟩=some (.int .i64 0)∧w6.cell? ⟨w.heap.size+1,2,none⟩=some (.slice none 0 0))∧(w6.frozen? ⟨w.heap.size+1,0,none⟩=false∧w6.frozen? ⟨w.heap.size+1,1,none⟩=false∧w6.frozen? ⟨w.heap.size+1,2,none⟩=false)∧(w6.cell? ⟨w.heap.size,0,none⟩=some (.int .i64 x.e)∧w6.cell? ⟨w.heap.size,4,none⟩=some (.int .i64 x.f))):=hide (by
   have bd:Below w5.heap.size w5 w5.drew:=(Below.refl _ _).drew
   refine(agr vs _ w5.drew (hic.below bd) (fun c hc=>HF.out c (List.mem_of_mem_drop hc)) (by rw[List.length_drop];omega) (by rw[List.length_drop];have:=HN.out;omega)).mono ?_
   rintro E w6 ⟨v6,rs,rfl,o1,o2,o3,o4⟩
   have b6:Below w5.heap.size w5 w6:=bd.trans o4
   have k1:=(b6.block _ (ax g1)).trans g1
   have k2:=(b6.block _ (ax g2)).trans g2
   obtain⟨a,kk,rfl,_,_⟩:=o1.row.shape
   obtain⟨W,hW,pW,gW,y,z,u⟩:=dP k2 (.int .i64 x.e) (.int .i64 x.f) (.slice a rs.length kk)
   have kp:bK 72 w6 W:=wO k2 gW
   have tu:Below w.heap.size w w6:=g5.trans (b6.mono (by have:=g5.size;omega))
   have z6:=o4.size
   refine⟨a,_,kk,rfl,⟨W,hW,hide (.inr ⟨by rw[HN.out];exact sU.out.2,a,_,kk,rs,rfl,hide ⟨(rq (ma o1 (by have:=g5.size;show w.heap.size≤w5.heap.size;omega)) kp (by decide)),?_,?_⟩,aD tu gW (by omega) tu.size⟩),u,ai ((gW.block _ (ax k1) (by simp)).trans k1) 0 rfl,ai ((gW.block _ (ax k1) (by simp)).trans k1) 4 rfl⟩,y,z,ai k1 0 rfl,ai k1 4 rfl⟩
   ·exact fun c hc=>((o3 c hc).bB (by have:=g5.size;show w.heap.size≤w5.heap.size;omega)).iN kp (by decide)
   ·rw[o2,sU.out.1,show((fk:Int)).toNat=fk by omega]
    unfold az
    rw[List.map_drop])
  obtain⟨xg,cap2,hvs,_,_⟩:=eH.shape
  obtain⟨nd,hnd⟩:∃nd,(r.drop fk).length=nd:=⟨_,rfl⟩
  rw[hnd]at hvs
  rw[hvs]at hsl CP
  clear hnd hvs
  clear PC HPG b5 qY qK g1 g2 g3 g4 g5 hic eH hfn
  go_wp2_with fail
  go_region_held3 (fun w'=>w'.cell? ⟨w.heap.size,0,none⟩=some (.int .i64 x.e)∧w'.cell? ⟨w.heap.size,4,none⟩=some (.int .i64 x.f)) (first|exact⟨c0,c4⟩|exact⟨t0,t4⟩|exact⟨p0,p4⟩|go_keep)
   (first
   |(go_at_call 48;refine CP.out.mono ?_;rintro E w6 ⟨a,nn,k,rfl,⟨W,hW,X,⟨u0,u1,u2⟩,p0,p4⟩,⟨y0,y1,y2⟩,⟨z0,z1,z2⟩,t0,t4⟩))
  clear CP
  go_wp2
  refine bodyPost_ret (v:=.tuple #[.agg #[.int .i64 x.e,.int .i64 x.f,.slice a nn k],.bool true,.int .i64 0]) (by simp[results,Tryz.results21,go_sem,u0,u1,u2]) rfl ?_
  exact X.out
theorem zI:∀(l:List Cm.Cv) (ep:Int),(Sm.told ep l).length≤l.length
 |[],_=>by simp[Sm.told]
 |c::r,ep=>by
  have:=zI r c.e
  unfold Sm.told
  split
  ·simp;omega
  ·simp;omega
def ofs (l:List Cm.Cv):List Sm.S:=if (Cm.fol 0 0 0 l).1=0 then Sm.told 0 l else []
theorem akx {l:List Cm.Cv}(h:(Cm.fol 0 0 0 l).1=0):ofs l=Sm.told 0 l:=if_pos h
theorem atA {l:List Cm.Cv}(h:(Cm.fol 0 0 0 l).1≠0):ofs l=[]:=if_neg h
theorem al3 {r:List Cw}{k:Nat}{c:Cw}(h:r[k]? =some c):az (r.take (k+1))=az (r.take k)++[c.c]:=by
 unfold az
 rw[List.take_add_one,h]
 simp
theorem awp (vl:Value)(r:List Cw)(w:World)(h:dJ w vl r)(hf:dV r)(hl:r.length≤1000000):
  Calls Tryz.prog 45 #[vl] w fun E w'=>∃v,E=.returned (.tuple #[v,q9 (Cm.fol 0 0 0 (az r))])∧mK w.heap.size w' v (ofs (az r))∧Below w.heap.size w w':=by
 have hl2:r.length≤140737488355328:=by omega
 obtain⟨ao,cap,hvl,hcap,hcm⟩:=h.1.shape
 subst hvl
 obtain⟨w1,hw1,aW,aj,hR⟩:=ak w #[.int .i64 0,.int .i64 0] 61
 have X:=hide (jY 0 0 _ r w1 (h.below aj) hf hl2)
 unfold q9 at X⊢
 have zq:=hide (akx (l:=az r))
 have rU:=hide (atA (l:=az r))
 have HZ:=hide (Cm.qm (az r) 0 0 0)
 have HGD:=hide (Cm.eY (az r) 0 0 0)
 obtain⟨fl,hfl⟩:∃f,Cm.fol 0 0 0 (az r)=f:=⟨_,rfl⟩
 rw[hfl]at X zq rU HZ HGD⊢
 obtain⟨fe,fp⟩:=fl
 simp only at X zq rU HZ HGD⊢
 clear hfl
 have HI:=hide h
 have HR:=hide hR
 clear h hR
 go_enter Tryz.func45,Tryz.ntmps45
 go_wp2_with fail
 refine X.out.mono ?_
 rintro E w2 ⟨rfl,au⟩
 have s2:=au.size
 obtain⟨w3,hw3,anU,bP,aF,hF,c0,c1⟩:=pX w2 61 (.int .i64 0) (.int .i64 0) (.int .i64 fe) (.int .i64 fp)
 have nI:Below w1.heap.size w1 w3:=au.trans (aF.mono s2)
 have bg:Below w.heap.size w w3:=aj.trans (nI.mono (by omega))
 have bN:=(nI.block w.heap.size (by omega)).trans HR.out
 have hnq:=Tryz.acd fe fp 0 0
 have hgd:=Tryz.sP
 have I3:=hide (HI.out.below bg)
 have HF:=hide hF
 clear X HR au aF aj hF HI
 by_cases hfe:fe=0
 ·have hfp:fp=0:=HZ.out hfe
  have hb:(!((fe==0)&&(fp==0)))=false:=by simp[hfe,hfp]
  rw[hb]at hnq
  have GD:=hide (HGD.out.1 hfe)
  have HO:=hide (zq.out hfe)
  subst hfe hfp
  have g0:=aC HF.out 0
  have g1:=aC HF.out 1
  have y0:w3.setCell ⟨w2.heap.size,0,none⟩ (.int .i64 0)=w3:=aL HF.out (j:=0) rfl
  have y1:w3.setCell ⟨w2.heap.size,1,none⟩ (.int .i64 0)=w3:=aL HF.out (j:=1) rfl
  clear hb zq rU HZ HGD hf
  by_cases hz:r.length=0
  ·have hr:r=[]:=List.eq_nil_of_length_eq_zero hz
   subst hr
   obtain⟨V,hV,bV,gV,⟨a0,a1⟩,⟨f0,f1⟩,⟨z0,z1⟩⟩:=dE bN (.int .i64 0) (.int .i64 0)
   have bu:=aD bg gV (by omega) (by omega)
   clear bV gV bN I3 GD hl hl2 hz
   simp only[List.length_nil]
   go_wp2
   go_loopw [5,16] (fun lv iv wr=>lv=.slice none 0 0∧iv=.int .i64 0∧wr=w3) (fun _ _ _=>0)
   case atStart=>exact⟨rfl,rfl,by first|rfl|rw[y0,y1]⟩
   case round=>
    obtain⟨rfl,rfl,rfl⟩:=hrel
    go_wp2
    refine bodyPost_ret (v:=.tuple #[.slice none 0 0,.agg #[.int .i64 0,.int .i64 0]]) (by simp[results,Tryz.results45,go_sem,z0,z1]) rfl ?_
    exact⟨_,rfl,by rw[HO.out];exact dW.nil _ _ _ _ _,bu⟩
  obtain⟨b1,o1,cp,hvl,_,_,hB,hcell⟩:=I3.out.1.full (by omega)
  have hao:ao=some ⟨b1,o1,none⟩:=by simp at hvl;exact hvl.1
  subst hao
  have HIN:=hide I3.out.2
  have HC:=hide hcell
  have H3:=hide bN
  generalize hn:r.length=n at*
  have HN:=hide hn
  clear hvl hcell I3 bN hn hw1 hw3
  go_wp2
  go_loopw [5,16] (fun lv iv wr=>∃k:Nat,k≤n∧iv=.int .i64 k∧mK w3.heap.size wr lv (Sm.told 0 (az (r.take k)))∧Below w3.heap.size w3 wr) (fun _ iv _=>n-(intOf iv).toNat)
  case atStart=>exact⟨0,by omega,rfl,dW.nil _ _ _ _ _,by first|exact Below.refl _ _|(rw[y0,y1];exact Below.refl _ _)⟩
  case round=>
   obtain⟨k,hk,rfl,own,aG⟩:=hrel
   have sz:=aG.size
   by_cases hlt:k<n
   ·obtain⟨c,hc⟩:∃c,r[k]? =some c:=kX (by have:=HN.out;omega)
    obtain⟨e0,e1,e2⟩:=HC.out k c hc
    have d0:=(aG.cell (p:=⟨b1,o1+k*3,none⟩) hB).trans e0
    have d1:=(aG.cell (p:=⟨b1,o1+k*3+1,none⟩) hB).trans e1
    have d2:=(aG.cell (p:=⟨b1,o1+k*3+2,none⟩) hB).trans e2
    obtain⟨i1,_,_⟩:=HIN.out c (List.mem_of_getElem? hc)
    have HCD:=hide (al3 hc)
    have hlt':(k:Int)<n:=by omega
    obtain⟨ac,cc,hcv,_,_⟩:=i1.shape
    rw[hcv]at d2
    obtain⟨V,hV,hV2,kg,bu,bC,q0,q1,q2⟩:=fH wr 65 (.int .i64 0) (.int .i64 0) (.slice none 0 0) (.int .i64 c.e) (.int .i64 c.n) (.slice ac c.l.length cc)
    have jH:=pO own bu
    have hln:(Sm.told 0 (az (r.take k))).length≤k:=Nat.le_trans (zI _ _) (by unfold az;rw[List.length_map,List.length_take];omega)
    have HL:Hid (((Sm.told 0 (az (r.take k))).length+1)*16≤140737488355328):=hide (by omega)
    have HG:Hid (Sm.grw (Sm.told 0 (az (r.take k))) c.e c.n=Sm.told 0 (az (r.take (k+1)))):=hide (by rw[HCD.out,Sm.am1];rfl)
    have HB:Hid (w3.heap.size≤V.heap.size):=hide (by omega)
    generalize Sm.told 0 (az (r.take k))=u at*
    clear e0 e1 e2 hc i1 hcv bC own hln HCD
    go_wp2_with fail
    refine(aij w3.heap.size _ u c.e c.n ac c.l.length cc V jH HL.out HB.out).mono ?_
    rintro E w4 ⟨v4,rfl,bf,aM⟩
    rw[HG.out]at bf
    have gT:Below w3.heap.size w3 w4:=(aG.trans (bu.mono (by omega))).trans aM
    clear HG HL jH aG bu aM hV hV2 q0 q1 q2 d0 d1 d2
    go_wp2
    go_roundw
    case rel=>exact⟨k+1,by omega,by go_num,bf,gT⟩
    case measure=>simp[intOf];omega
   ·have hlt':¬(k:Int)<n:=by omega
    have vL:r.take k=r:=List.take_of_length_le (by have:=HN.out;omega)
    rw[vL]at own
    have vF:=(aG.block w.heap.size (by omega)).trans H3.out
    obtain⟨V,hV,bV,gV,⟨a0,a1⟩,⟨f0,f1⟩,⟨z0,z1⟩⟩:=dE vF (.int .i64 0) (.int .i64 0)
    have bu:=aD (bg.trans (aG.mono (by omega))) gV (by omega) (by omega)
    have avn:=own.agree (w':=V) fun b hb=>gV.block b (dW.lt own b hb).2 (by have:=dW.lt own b hb;simp;omega)
    have jH:=age (base':=w.heap.size) avn (by omega)
    rw[←HO.out]at jH
    have HV:=hide jH
    clear vF bV gV aG own jH avn vL
    go_wp2
    refine bodyPost_ret (v:=.tuple #[_,.agg #[.int .i64 0,.int .i64 0]]) (by simp[results,Tryz.results45,go_sem,z0,z1];rfl) rfl ?_
    exact⟨_,rfl,HV.out,bu⟩
 ·have hb:(!((fe==0)&&(fp==0)))=true:=by simp[hfe]
  rw[hb]at hnq
  have HO:=hide (rU.out hfe)
  obtain⟨V,hV,bV,gV,⟨a0,a1⟩,⟨f0,f1⟩,⟨z0,z1⟩⟩:=dE bN (.int .i64 fe) (.int .i64 fp)
  have bu:=aD bg gV (by omega) (by omega)
  clear hb zq rU HZ HGD bV gV bN hfe I3
  go_wp2
  go_region
  go_wp2
  refine bodyPost_ret (v:=.tuple #[.slice none 0 0,.agg #[.int .i64 fe,.int .i64 fp]]) (by simp[results,Tryz.results45,go_sem,z0,z1]) rfl ?_
  exact⟨_,rfl,by rw[HO.out];exact dW.nil _ _ _ _ _,bu.drew⟩
theorem ana {r:List Cw}(hg:Cm.Good 0 0 (az r)):Cm.fol 0 0 0 (az r)=(0,0)∧ofs (az r)=Sm.told 0 (az r):=by
 have h1:=(Cm.eY (az r) 0 0 0).2 hg
 exact⟨Prod.ext h1 (Cm.qm _ _ _ _ h1),akx h1⟩
theorem ark (vl:Value)(r:List Cw)(w:World)(h:dJ w vl r)(hf:dV r)(hl:r.length≤1000000)(hg:Cm.Good 0 0 (az r)):
  Calls Tryz.prog 45 #[vl] w fun E w'=>∃v fe fp,E=.returned (.tuple #[v,.agg #[.int .i64 fe,.int .i64 fp]])∧Hid (fe=0∧fp=0)∧mK w.heap.size w' v (Sm.told 0 (az r))∧Below w.heap.size w w':=by
 refine(awp vl r w h hf hl).mono ?_
 rintro E w' ⟨v,rfl,own,aG⟩
 obtain⟨e1,e2⟩:=ana hg
 rw[e2]at own
 refine⟨v,0,0,?_,hide ⟨rfl,rfl⟩,own,aG⟩
 rw[e1]
 rfl
end Go.Proofs.YtjemlgdkjilnoaaGreatDoor
