/- Texts. -/
import Derived.Test.YtlmkaljjocflmaaGreatDoorBH28
import Derived.Test.YtlmkaljjocflmaaGreatDoorBM4
import Derived.Test.YtlmkaljjocflmaaGreatDoorBH17
import Derived.Test.YtlmkaljjocflmaaGreatDoorBH27
import Derived.Test.YtlmkaljjocflmaaGreatDoorBH7
import Derived.Test.YtlmkaljjocflmaaGreatDoorBH20
import Derived.Deep.RegionHeld3
import Derived.Test.YtlmkaljjocflmaaGreatDoorBH22
import Derived.Test.YtlmkaljjocflmaaGreatDoorBH1
import Derived.Test.YtlmkaljjocflmaaGreatDoorBH34
set_option maxRecDepth 100000
set_option maxHeartbeats 8000000
set_option linter.unusedVariables false
open Go.Proofs.Tryz
namespace Go.Proofs.YtlmkaljjocflmaaGreatDoor
open Go.RowKit
theorem ajC (vb:Value)(w:World)(hb:Is .u8 w vb []):
  Calls prog 229 #[vb] w fun E w'=>E=.returned (.agg #[.slice none 0 0,.slice none 0 0])∧Below w.heap.size w w':=by
 obtain⟨w1,hw1,aV,aj,hR⟩:=au w #[.slice none 0 0,.slice none 0 0] 194
 obtain⟨w2,hw2,dA,az,hL⟩:=au w1 #[.slice none 0 0,.slice none 0 0] 194
 have b02:=aj.trans (az.mono (by omega))
 have hR2:=(az.block _ (by omega)).trans hR
 rw[aV]at hL
 have HF:=hide (rC vb [] w2 (hb.below b02) (by simp))
 have HH:=hide (And.intro b02 (And.intro hR2 hL))
 obtain⟨ba,bc,hvb,_,_⟩:=hb.shape
 clear hb aj az hR hL hR2 b02
 subst hvb
 go_enter func229,ntmps229
 go_wp2
 go_loopw [0] (fun fv wr=>fv=.slice ba ([]:List Int).length bc∧wr=w2) (fun _ _=>0)
 case atStart=>exact⟨rfl,rfl⟩
 case round=>
  obtain⟨rfl,hwr⟩:=hrel
  subst hwr
  go_wp2_with fail
  refine HF.out.mono ?_
  rintro E wa ⟨v1,z,n,e,rfl,aX,aj,R⟩
  obtain⟨rfl,rfl,rfl⟩:=zu R.out
  obtain⟨b02,hR,hL⟩:=HH.out
  have BA:=hide (b02.trans (aj.mono b02.size))
  have qW:=(aj.block _ (by omega)).trans hR
  have hL1:=(aj.block _ (by omega)).trans hL
  have c0:wa.cell? ⟨w.heap.size+1,0,none⟩=some (.slice none 0 0):=ai hL1 0 rfl
  have c1:wa.cell? ⟨w.heap.size+1,1,none⟩=some (.slice none 0 0):=ai hL1 1 rfl
  have a0:wa.cell? ⟨w.heap.size,0,none⟩=some (.slice none 0 0):=ai qW 0 rfl
  have a1:wa.cell? ⟨w.heap.size,1,none⟩=some (.slice none 0 0):=ai qW 1 rfl
  have f0:=aA qW 0
  have f1:=aA qW 1
  have s0:wa.setCell ⟨w.heap.size,0,none⟩ (.slice none 0 0)=wa:=aK qW (j:=0) rfl
  have s1:wa.setCell ⟨w.heap.size,1,none⟩ (.slice none 0 0)=wa:=aK qW (j:=1) rfl
  obtain⟨o1,k1,hv1,_,_⟩:=aX.is.shape
  subst hv1
  clear aX aj R b02 hR hL qW hL1 HH HF
  go_wp2
  try rw[Exit.noGoto_ret]
  refine bodyPost_ret (v:=.agg #[.slice none 0 0,.slice none 0 0]) (by simp[results,results229,go_sem,a0,a1]) rfl ?_
  exact⟨rfl,BA.out⟩
theorem aj6 (vb:Value)(bs:List Int)(w:World)(hb:Is .u8 w vb bs)(h0:bs=[]):
  Calls prog 236 #[vb] w fun E w'=>E=.returned (.tuple #[.slice none 0 0,.int .i64 0])∧Below w.heap.size w w':=by
 obtain⟨n,hn⟩:∃n:Nat,n=0:=⟨0,rfl⟩
 have hl:bs.length≤1000:=by simp[h0]
 have hle:n≤bs.length:=by omega
 have H0:=hide h0
 have HN:=hide hn
 obtain⟨vs,hsl,gT⟩:=hb.jo Tryz.ak8 Tryz.amo n hle
 have HF:=hide (rC vs _ w gT (by rw[List.length_drop];omega))
 obtain⟨ba,bc,hvb,_,_⟩:=hb.shape
 clear hb gT hn h0
 subst hvb
 go_enter func236,ntmps236
 go_wp2
 go_loopw [2,3] (fun lv gv wr=>lv=.slice none 0 0∧gv=.int .i64 n∧wr=w) (fun _ _ _=>0)
 case atStart=>exact⟨rfl,by rw[HN.out];rfl,rfl⟩
 case round=>
  obtain⟨rfl,rfl,hwr⟩:=hrel
  subst hwr
  go_wp2_with fail
  refine HF.out.mono ?_
  rintro E wa ⟨v1,z,k,e,rfl,aX,aj,R⟩
  have R':=R.out
  rw[H0.out,List.drop_nil]at R'
  obtain⟨rfl,rfl,rfl⟩:=zu R'
  have BA:=hide aj
  obtain⟨o1,k1,hv1,_,_⟩:=aX.is.shape
  subst hv1
  clear aX aj R R' HF hsl
  go_wp2
  go_ret2
  exact⟨by rw[HN.out];rfl,BA.out⟩
theorem aiX (vb:Value)(w:World)(hb:Is .u8 w vb []):
  Calls prog 233 #[vb] w fun E w'=>∃(y:Pm.Pg) (m:Nat),E=.returned (.tuple #[.agg #[.int .i64 y.e,.int .u8 y.r,.int .i64 y.a,.int .u8 y.p,.int .i64 y.f,.int .i64 y.b],.int .i64 m,.int .i64 5])∧Below w.heap.size w w':=by
 obtain⟨w1,hw1,aV,aj,qW⟩:=au w #[.int .i64 0,.int .u8 0,.int .i64 0,.int .u8 0,.int .i64 0,.int .i64 0] 46
 have hb1:=hb.below aj
 have HB:=hide qW
 obtain⟨ao,cap,rfl,_,_⟩:=hb.shape
 clear qW hb
 go_enter func233,ntmps233
 go_wp2_with fail
 refine(rC _ [] _ hb1 (by simp)).mono ?_
 rintro E w2 ⟨v2,r,n,e,rfl,aW,az,R2⟩
 have B2:=(az.block _ (ay HB.out)).trans HB.out
 have aO:=hide (aj.trans (az.mono (by omega)))
 obtain⟨rfl,rfl,rfl⟩:=zu R2.out
 obtain⟨z0,z1,z2,z3,z4,z5⟩:=aR B2
 have s0:w2.setCell ⟨w.heap.size,0,none⟩ (.int .i64 0)=w2:=aK B2 (j:=0) rfl
 have s1:w2.setCell ⟨w.heap.size,1,none⟩ (.int .u8 0)=w2:=aK B2 (j:=1) rfl
 have s2:w2.setCell ⟨w.heap.size,2,none⟩ (.int .i64 0)=w2:=aK B2 (j:=2) rfl
 have s3:w2.setCell ⟨w.heap.size,3,none⟩ (.int .u8 0)=w2:=aK B2 (j:=3) rfl
 have s4:w2.setCell ⟨w.heap.size,4,none⟩ (.int .i64 0)=w2:=aK B2 (j:=4) rfl
 have s5:w2.setCell ⟨w.heap.size,5,none⟩ (.int .i64 0)=w2:=aK B2 (j:=5) rfl
 have f0:=aA B2 0;have f1:=aA B2 1;have f2:=aA B2 2;have f3:=aA B2 3;have f4:=aA B2 4;have f5:=aA B2 5
 clear B2 R2 HB aj az hb1 aW
 go_wp2
 refine bodyPost_ret (v:=.tuple #[.agg #[.int .i64 0,.int .u8 0,.int .i64 0,.int .u8 0,.int .i64 0,.int .i64 0],.int .i64 0,.int .i64 5]) (by simp[results,results233,go_sem,z0,z1,z2,z3,z4,z5]) rfl ?_
 exact⟨Pm.no,0,rfl,aO.out⟩
theorem amh (vb:Value)(bs:List Int)(node:Int)(w:World)(hb:Is .u8 w vb bs)(h0:bs=[])(hn:fse node=0):
  Calls prog 176 #[vb,.int .i64 node] w fun E w'=>E=.returned (.tuple #[vp (fst node),.int .i64 0,.int .i64 0])∧Below w.heap.size w w':=by
 unfold vp
 obtain⟨w1,hw1,aV,aj,qW⟩:=au w #[.int .i64 0,.int .u8 0,.int .i64 0,.int .u8 0,.int .i64 0,.int .i64 0] 46
 obtain⟨n,hn0⟩:∃n:Nat,n=0:=⟨0,rfl⟩
 have hl:bs.length≤1000:=by simp[h0]
 have hle:n≤bs.length:=by omega
 have H0:=hide h0
 have HN:=hide hn0
 have rM:=hide hb
 have HB:=hide qW
 have FI:=hide (adY node w1)
 rw[hn]at FI
 unfold vp at FI
 obtain⟨ao,cap,rfl,_,_⟩:=hb.shape
 clear qW hb hn h0 hn0
 go_enter func176,ntmps176
 go_wp2_with fail
 refine FI.out.mono ?_
 rintro E w2 ⟨rfl,az⟩
 have dA:=az.size
 have HB2:=hide ((az.block _ (ay HB.out)).trans HB.out)
 have aO:=aj.trans (az.mono (by omega))
 obtain⟨x,hx⟩:∃p,fst node=p:=⟨_,rfl⟩
 rw[hx]
 have HX:=hide hx
 clear hx
 obtain⟨w3,ayy,hw3,bO,aC,hP,e0,e1,e2,e3,e4,e5⟩:=ng w2 46 (.int .i64 0) (.int .u8 0) (.int .i64 0) (.int .u8 0) (.int .i64 0) (.int .i64 0) (.int .i64 x.e) (.int .u8 x.r) (.int .i64 x.a) (.int .u8 x.p) (.int .i64 x.f) (.int .i64 x.b)
 have B3:=(aC.block _ (ay HB2.out)).trans HB2.out
 have bq:=aO.trans (aC.mono (by omega))
 have hlt:=ay HB2.out
 have hlp:=ay hP
 obtain⟨vs,hsl,gT⟩:=(rM.out.below bq).jo Tryz.aks Tryz.akG n hle
 have PR:=hide (aiX vs w3 (by have:=gT;rw[H0.out,List.drop_nil]at this;exact this))
 have HH:=hide (And.intro B3 (And.intro hP bq))
 clear HB HB2 aj az aO aC B3 hP bq rM FI gT
 go_wp2
 go_loopw [9] (fun ee wr=>ee=.int .i64 n∧wr=w3) (fun _ _=>0)
 case atStart=>exact⟨by rw[HN.out];rfl,rfl⟩
 case round=>
  obtain⟨rfl,hwr⟩:=hrel
  subst hwr
  go_wp2_with fail
  refine PR.out.mono ?_
  rintro E w4 ⟨y,m,rfl,aL⟩
  obtain⟨B3,hP,bq⟩:=HH.out
  have R4:=(aL.block _ (by omega)).trans B3
  have L4:=(aL.block _ hlp).trans hP
  have dC:=bq.trans (aL.mono bq.size)
  obtain⟨w5,aAO,iw,mO,aS,hP5,p0,p1,p2,p3,p4,p5⟩:=ng w4 46 (.int .i64 0) (.int .u8 0) (.int .i64 0) (.int .u8 0) (.int .i64 0) (.int .i64 0) (.int .i64 y.e) (.int .u8 y.r) (.int .i64 y.a) (.int .u8 y.p) (.int .i64 y.f) (.int .i64 y.b)
  have s4:=aL.size
  have R5:=(aS.block _ (by omega)).trans R4
  have L5:=(aS.block _ (by omega)).trans L4
  have aer:=dC.trans (aS.mono (by omega))
  obtain⟨V,hV,bV,gV,⟨a0,a1,a2,a3,a4,a5⟩,fr,⟨z0,z1,z2,z3,z4,z5⟩⟩:=gN R5 (.int .i64 x.e) (.int .u8 x.r) (.int .i64 x.a) (.int .u8 x.p) (.int .i64 x.f) (.int .i64 x.b)
  have f0:=fr 0;have f1:=fr 1;have f2:=fr 2;have f3:=fr 3;have f4:=fr 4;have f5:=fr 5
  obtain⟨l0,l1,l2,l3,l4,l5⟩:=aR L5
  have bg:=hide (aG aer gV (by omega) (by omega))
  clear B3 hP bq R4 L4 aL dC aS hP5 R5 L5 aer bV gV fr HH PR hsl e0 e1 e2 e3 e4 e5 hw3 ayy
  go_wp2
  refine bodyPost_ret (v:=.tuple #[.agg #[.int .i64 x.e,.int .u8 x.r,.int .i64 x.a,.int .u8 x.p,.int .i64 x.f,.int .i64 x.b],.int .i64 n,.int .i64 0]) (by simp[results,results176,go_sem,z0,z1,z2,z3,z4,z5]) rfl ?_
  exact⟨by rw[HN.out,HX.out];rfl,bg.out⟩
def Emp (st:Dm.Ds) (f:Nat):Prop:=rH st f=[]∧mE st f=0
theorem ai4 (q:Nat)(F:Nat→Prop)(w:World)(st:Dm.Ds)(h:Pk q F w st)(hs:Big 100000000 800000 st)(he:Emp st 0):
  Calls prog 173 #[.pointer (some ⟨q,0,none⟩)] w fun E w'=>Below w.heap.size w w'∧∃p G,E=.returned (.tuple #[.pointer (some ⟨p,0,none⟩),.int .i64 0])∧Wk p q G w' [] false∧∀g,G g→w.heap.size≤g:=by
 have HR:=hide (om q F w st 0 h (fun f=>Nat.le_trans (hs.1.1 f) (by decide)) (Nat.le_trans hs.1.2.1 (by decide)))
 have e1:rH st 0=[]:=he.1
 have e2:mE st 0=0:=he.2
 rw[e1,e2]at HR
 clear h hs he e1 e2
 go_enter func173,ntmps173
 go_wp2_with fail
 refine HR.out.mono ?_
 rintro E w1 ⟨v,rfl,own,aI⟩
 have HW:=hide (ajC v w1 own.is)
 obtain⟨a,c,hv,_,_⟩:=own.is.shape
 subst hv
 have aV:=aI.size
 clear own HR
 go_wp2_with fail
 refine HW.out.mono ?_
 rintro E w2 ⟨rfl,az⟩
 obtain⟨W,hW,szW,ky,bW⟩:=au w2 #[.pointer (some ⟨q,0,none⟩),.bool false,.slice none 0 0,.slice none 0 0] 196
 have dA:=az.size
 have hv:zJ w2.heap.size q W [] false (.slice none 0 0) (.slice none 0 0) []:=⟨bW,Lw.nil _ _⟩
 have ug:Below w.heap.size w W:=(aI.trans (az.mono aI.size)).trans (ky.mono (by omega))
 have HLen:=hide (al0 w2.heap.size q W [] false _ _ [] hv)
 have ge:∀g,(g=w2.heap.size∨LB (.slice none 0 0) (.slice none 0 0) ([]:List Cw) g)→w.heap.size≤g:=by
  rintro g (e|e|e|e)
  ·omega
  ·cases e
  ·cases e
  ·obtain⟨c,hc,_⟩:=e
   cases hc
 have HV:=hide (And.intro hv (And.intro ug ge))
 clear az ky bW hv HW ge ug aI
 go_wp2_with fail
 refine HLen.out.mono ?_
 rintro E w3 ⟨rfl,m,rfl⟩
 have W3:Hid (Bq w (W.drewN m)∧Wk w2.heap.size q (fun g=>g=w2.heap.size∨LB (.slice none 0 0) (.slice none 0 0) ([]:List Cw) g) (W.drewN m) [] false):=hide ⟨below_drewN HV.out.2.1 m,Wk.below ⟨_,_,[],HV.out.1,rfl⟩ (below_drewN (Below.refl _ _) m)⟩
 clear HLen
 go_wp2
 go_ret2
 exact⟨W3.out.1,_,_,rfl,W3.out.2,HV.out.2.2⟩
theorem akg (q:Nat)(F:Nat→Prop)(w:World)(st:Dm.Ds)(h:Pk q F w st)(hs:Big 100000000 800000 st)(he:Emp st 2):
  Calls prog 178 #[.pointer (some ⟨q,0,none⟩)] w fun E w'=>Below w.heap.size w w'∧∃p G,E=.returned (.tuple #[.pointer (some ⟨p,0,none⟩),.int .i64 0])∧Rk p q G w' [] false∧∀g,G g→w.heap.size≤g:=by
 have HR:=hide (om q F w st 2 h (fun f=>Nat.le_trans (hs.1.1 f) (by decide)) (Nat.le_trans hs.1.2.1 (by decide)))
 have e1:rH st 2=[]:=he.1
 have e2:mE st 2=0:=he.2
 rw[e1,e2]at HR
 clear h hs he e1 e2
 go_enter func178,ntmps178
 go_wp2_with fail
 refine HR.out.mono ?_
 rintro E w1 ⟨v,rfl,own,aI⟩
 have HW:=hide (aj6 v [] w1 own.is rfl)
 obtain⟨a,c,hv,_,_⟩:=own.is.shape
 subst hv
 have aV:=aI.size
 clear own HR
 go_wp2_with fail
 refine HW.out.mono ?_
 rintro E w2 ⟨rfl,az⟩
 obtain⟨W,hW,szW,ky,bW⟩:=au w2 #[.pointer (some ⟨q,0,none⟩),.bool false,.slice none 0 0] 276
 have dA:=az.size
 have hv:tT w2.heap.size q W [] false (.slice none 0 0) []:=⟨bW,Rq.nil _ _⟩
 have ug:Below w.heap.size w W:=(aI.trans (az.mono aI.size)).trans (ky.mono (by omega))
 have ge:∀g,(g=w2.heap.size∨QB (.slice none 0 0) ([]:List Cw) g)→w.heap.size≤g:=by
  rintro g (e|e|e)
  ·omega
  ·cases e
  ·obtain⟨c,hc,_⟩:=e
   cases hc
 have HV:=hide (And.intro hv (And.intro ug ge))
 clear az ky bW hv HW ge ug aI
 go_wp2
 go_ret2
 exact⟨HV.out.2.1,_,_,rfl,⟨_,[],HV.out.1,rfl⟩,HV.out.2.2⟩
theorem afS (P q:Nat)(F:Nat→Prop)(w:World)(st:Dm.Ds)(x:Pm.Pg)(vr vs:Value)(h:Pk q F w st)(hs:Big 100000000 800000 st)(he:Emp st 0)(hb:w.heap[P]? =some (.cells (fo q false x (.pointer none) 0 vr vs) 137 (0,0)))(hP:¬F P):
  Calls prog 100 #[.pointer (some ⟨P,0,none⟩)] w fun E w'=>E=.returned (.int .i64 0)∧Out (fun g=>g=P) w w'∧∃pw Gw,Wk pw q Gw w' [] false∧(∀g,Gw g→w.heap.size≤g)∧w'.heap[P]? =some (.cells (fo q false x (.pointer (some ⟨pw,0,none⟩)) 0 vr vs) 137 (0,0)):=by
 have hpl:=ay hb
 have c0:w.cell? ⟨P,0,none⟩=some (.pointer (some ⟨q,0,none⟩)):=ai hb 0 rfl
 have WO:=hide (ai4 q F w st h hs he)
 have HB:=hide (And.intro hb h)
 clear h hs hb he
 go_enter func100,ntmps100
 go_wp2_with fail
 refine WO.out.mono ?_
 rintro E w1 ⟨b1,pw,Gw,rfl,hW,hG⟩
 clear WO
 have hb1:=(b1.block P hpl).trans HB.out.1
 have f8:=aA hb1 8
 have a8:w1.cell? ⟨P,8,none⟩=some (.pointer none):=ai hb1 8 rfl
 obtain⟨V1,V2,hV1,hV2,p1,p2,o1,o2⟩:=aua hb1 (.pointer (some ⟨pw,0,none⟩)) 0
 have d8:V1.cell? ⟨P,8,none⟩=some (.pointer (some ⟨pw,0,none⟩)):=ai p1 8 rfl
 have d9:V1.cell? ⟨P,9,none⟩=some (.int .i64 0):=ai p1 9 rfl
 have f9:=aA p1 9
 have nG:∀g,Gw g→¬g=P:=fun g hg e=>by have:=hG g hg;omega
 have pk:Pk q F V1 st:=(HB.out.2.below b1).agree fun g hg=>o1.block g ((HB.out.2.below b1).lt g hg) fun e=>hP (e▸hg)
 have HN:=hide (aqM pw q _ V1 ⟨st,[],false⟩ ⟨F,Gw,pk,hW.out o1 nG,rfl⟩)
 have R:=hide (show Out (fun g=>g=P) w V2∧∃pw Gw,Wk pw q Gw V2 [] false∧(∀g,Gw g→w.heap.size≤g)∧V2.heap[P]? =some (.cells (fo q false x (.pointer (some ⟨pw,0,none⟩)) 0 vr vs) 137 (0,0))from⟨((Out.of_below (F:=fun g=>g=P) b1).trans o1 fun g hg=>.inl hg).trans o2 fun g hg=>.inl hg,pw,Gw,(hW.out o1 nG).out o2 nG,hG,p2⟩)
 clear hb1 pk p1 p2 o1 o2 HB hP hW hG nG b1
 go_wp2_with fail
 refine HN.out.mono ?_
 rintro E w2 ⟨rfl,rfl⟩
 clear HN
 go_wp2
 go_ret
 exact⟨rfl,R.out⟩
theorem aeg (P q:Nat)(F:Nat→Prop)(w:World)(st:Dm.Ds)(x:Pm.Pg)(vw vs:Value)(en:Int)(h:Pk q F w st)(hs:Big 100000000 800000 st)(he:Emp st 2)(hb:w.heap[P]? =some (.cells (fo q false x vw en (.pointer none) vs) 137 (0,0))):
  Calls prog 103 #[.pointer (some ⟨P,0,none⟩)] w fun E w'=>E=.returned (.int .i64 0)∧Out (fun g=>g=P) w w'∧∃pr Gr,Rk pr q Gr w' [] false∧(∀g,Gr g→w.heap.size≤g)∧w'.heap[P]? =some (.cells (fo q false x vw en (.pointer (some ⟨pr,0,none⟩)) vs) 137 (0,0)):=by
 have hpl:=ay hb
 have c0:w.cell? ⟨P,0,none⟩=some (.pointer (some ⟨q,0,none⟩)):=ai hb 0 rfl
 have WO:=hide (akg q F w st h hs he)
 have HB:=hide hb
 clear h hs hb he
 go_enter func103,ntmps103
 go_wp2_with fail
 refine WO.out.mono ?_
 rintro E w1 ⟨b1,pr,Gr,rfl,hW,hG⟩
 clear WO
 have hb1:=(b1.block P hpl).trans HB.out
 have f8:=aA hb1 11
 have a8:w1.cell? ⟨P,11,none⟩=some (.pointer none):=ai hb1 11 rfl
 obtain⟨V1,hV1,p1,o1⟩:=at7 hb1 (.pointer (some ⟨pr,0,none⟩))
 have nG:∀g,Gr g→¬g=P:=fun g hg e=>by have:=hG g hg;omega
 have R:=hide (show Out (fun g=>g=P) w V1∧∃pr Gr,Rk pr q Gr V1 [] false∧(∀g,Gr g→w.heap.size≤g)∧V1.heap[P]? =some (.cells (fo q false x vw en (.pointer (some ⟨pr,0,none⟩)) vs) 137 (0,0))from⟨(Out.of_below (F:=fun g=>g=P) b1).trans o1 fun g hg=>.inl hg,pr,Gr,hW.out o1 nG,hG,p1⟩)
 clear hb1 p1 o1 HB hW hG nG b1
 go_wp2
 go_ret
 exact⟨rfl,R.out⟩
theorem abd (p:Nat)(w:World)(f n:Int):Calls prog 177 #[.pointer (some ⟨p,0,none⟩),.int .i64 f,.int .i64 n,.int .i64 n] w fun E w'=>E=.returned (.int .i64 0)∧Below w.heap.size w w':=by
 obtain⟨w1,hw1,s1,b1,P1⟩:=au w #[.pointer (some ⟨p,0,none⟩)] 281
 obtain⟨w2,hw2,s2,b2,P2⟩:=au w1 #[.int .i64 f] 3
 obtain⟨w3,hw3,s3,b3,P3⟩:=au w2 #[.int .i64 n] 3
 have z2:w2.heap.size=w.heap.size+2:=by omega
 rw[z2]at P3
 have B:=hide (show Below w.heap.size w w3 from b1.trans ((b2.mono (by omega)).trans (b3.mono (by omega))))
 have c3n:w3.cell? ⟨w.heap.size+2,0,none⟩=some (.int .i64 n):=ai P3 0 rfl
 have hq:(n==n)=true:=by simp
 clear b1 b2 b3 P1 P2 P3
 go_enter func177,ntmps177
 go_wp2
 go_ret
 exact⟨rfl,B.out⟩
theorem acv (P q:Nat)(F:Nat→Prop)(w:World)(st:Dm.Ds)(x:Pm.Pg)(vw vr vs:Value)(en node:Int)(h:Pk q F w st)(hs:Big 100000000 800000 st)(he:Emp st 1)(hb:w.heap[P]? =some (.cells (fo q false x vw en vr vs) 137 (0,0)))(hn:fse node=0):
  Calls prog 102 #[.pointer (some ⟨P,0,none⟩),.int .i64 node] w fun E w'=>E=.returned (.int .i64 0)∧Out (fun g=>g=P) w w'∧w'.heap[P]? =some (.cells (fo q false (fst node) vw en vr vs) 137 (0,0)):=by
 have hpl:=ay hb
 have c0:w.cell? ⟨P,0,none⟩=some (.pointer (some ⟨q,0,none⟩)):=ai hb 0 rfl
 have R1:=hide (om q F w st 1 h (fun f=>Nat.le_trans (hs.1.1 f) (by decide)) (Nat.le_trans hs.1.2.1 (by decide)))
 have r1:rH st 1=[]:=he.1
 have r2:mE st 1=0:=he.2
 rw[r1,r2]at R1
 obtain⟨bs,hbs⟩:∃bs:List Int,bs=[]:=⟨_,rfl⟩
 rw[←hbs]at R1
 have rM:=hide hbs
 have HH:=hide (And.intro hb hn)
 clear h hs hb r1 r2 he hn hbs
 go_enter func102,ntmps102
 go_wp2_with fail
 refine R1.out.mono ?_
 rintro E w1 ⟨v,rfl,O1,B1⟩
 obtain⟨ao,cap,hv,_,_⟩:=O1.is.shape
 subst hv
 have LA:=hide (amh _ bs node w1 O1.is rM.out HH.out.2)
 unfold vp at LA
 have B1:=hide B1
 clear R1 O1
 go_wp2_with fail
 refine LA.out.mono ?_
 rintro E w2 ⟨rfl,B2⟩
 clear LA
 have hb:=HH.out.1
 have b12:=B1.out.trans (B2.mono B1.out.size)
 obtain⟨y,hy⟩:∃p,fst node=p:=⟨_,rfl⟩
 rw[hy]
 have HY:=hide hy
 clear hy
 obtain⟨V,hV,hV',sV,bV,PV,⟨z0,z1,z2,z3,z4,z5⟩⟩:=ng w2 46 (.int .i64 0) (.int .u8 0) (.int .i64 0) (.int .u8 0) (.int .i64 0) (.int .i64 0) (.int .i64 y.e) (.int .u8 y.r) (.int .i64 y.a) (.int .u8 y.p) (.int .i64 y.f) (.int .i64 y.b)
 have b0V:=b12.trans (bV.mono b12.size)
 have pV:=(b0V.block P hpl).trans hb
 obtain⟨_,_,q2,q3,q4,q5,q6,q7,_⟩:=ku pV
 obtain⟨Z,hZ,pZ,gZ,fr⟩:=afr pV y
 have f2:=fr 2;have f3:=fr 3;have f4:=fr 4;have f5:=fr 5;have f6:=fr 6;have f7:=fr 7
 have oZ:Out (fun g=>g=P) V Z:=Out.aM gZ fun i hi=>by simpa using hi.symm
 have TR:=hide (abd P Z 1 0)
 have R:Hid (∀w',Below Z.heap.size Z w'→Out (fun g=>g=P) w w'∧w'.heap[P]? =some (.cells (fo q false y vw en vr vs) 137 (0,0))):=hide (by
  intro w' k
  exact⟨((Out.of_below (F:=fun g=>g=P) b0V).trans oZ fun g hg=>.inl hg).trans (Out.of_below (F:=fun g=>g=P) k) fun g hg=>.inl hg,(k.block P (ay pZ)).trans pZ⟩)
 have hl0:bs.length=0:=by rw[rM.out];rfl
 clear hb b12 bV PV b0V pV pZ gZ fr oZ HH B1 B2 sV
 rw[hl0]
 go_wp2_with fail
 refine TR.out.mono ?_
 rintro E w3 ⟨rfl,k⟩
 have RR:=hide (R.out w3 k)
 clear k R TR
 go_wp2
 go_ret
 exact⟨rfl,by rw[HY.out];exact RR.out⟩
theorem aee (P q:Nat)(F:Nat→Prop)(w:World)(st:Dm.Ds)(cs:Array Value)(h:Pk q F w st)(hs:Big 100000000 800000 st)(he:Emp st 3)(hb:w.heap[P]? =some (.cells cs 137 (0,0)))(hc:cs[0]? =some (.pointer (some ⟨q,0,none⟩))):
  Calls prog 104 #[.pointer (some ⟨P,0,none⟩)] w fun E w'=>E=.returned (.int .i64 0)∧Below w.heap.size w w':=by
 have c0:w.cell? ⟨P,0,none⟩=some (.pointer (some ⟨q,0,none⟩)):=ai hb 0 hc
 have R1:=hide (om q F w st 3 h (fun f=>Nat.le_trans (hs.1.1 f) (by decide)) (Nat.le_trans hs.1.2.1 (by decide)))
 have r1:rH st 3=[]:=he.1
 have r2:mE st 3=0:=he.2
 rw[r1,r2]at R1
 obtain⟨bs,hbs⟩:∃bs:List Int,bs=[]:=⟨_,rfl⟩
 rw[←hbs]at R1
 have HL0:Hid (bs.length=0):=hide (by rw[hbs];rfl)
 have hl:bs.length≤1000:=by rw[HL0.out];decide
 clear h hs hb r1 r2 he hbs
 go_enter func104,ntmps104
 go_wp2_with fail
 refine R1.out.mono ?_
 rintro E w1 ⟨v,rfl,O1,B1⟩
 obtain⟨ao,cap,hv,_,_⟩:=O1.is.shape
 subst hv
 have SC:=hide (abX _ _ w1 O1.is (List.eq_nil_of_length_eq_zero HL0.out))
 have B1:=hide B1
 clear R1 O1
 go_wp2_with fail
 refine SC.out.mono ?_
 rintro E w2 ⟨rfl,B2⟩
 clear SC
 have b12:=B1.out.trans (B2.mono B1.out.size)
 have TR:=hide (abd P w2 3 0)
 have c2:w2.cell? ⟨P,0,none⟩=some (.pointer (some ⟨q,0,none⟩)):=by
  rw[←c0]
  have hP:P<w.heap.size:=by
   rcases Nat.lt_or_ge P w.heap.size with k|k
   ·exact k
   ·rw[World.cell?,Array.getElem?_eq_none k]at c0;cases c0
  have:=b12.block P hP
  simp[World.cell?,this]
 have B:=hide b12
 clear B1 B2 b12
 rw[HL0.out]
 go_wp2_with fail
 refine TR.out.mono ?_
 rintro E w3 ⟨rfl,k⟩
 have RR:=hide (B.out.trans (k.mono B.out.size))
 clear k TR
 go_wp2
 go_ret
 exact⟨rfl,RR.out⟩
theorem ui.own {q n0 P:Nat}{F Fk:Nat→Prop}{w w5 W W':World}{d:Dm.Ds}(h:ui q F w w5 W n0 P Fk d)(h0:¬F 0)(hp:0<w.heap.size)(hP:w.heap.size≤P)(hn:n0<P)(o:Out (fun g=>g=P) W W'):ui q F w w5 W' n0 P Fk d:=
 h.step h0 hp hP hn (h.qI.agree fun g hg=>o.block g (h.qI.lt g hg) fun e=>(h.nb P (.inr (.inl rfl))).1 (e▸hg)) (o.mono fun g hg=>.inl (.inr hg)) fun g hg=>.inl hg
theorem alg (q:Nat)(F F2:Nat→Prop)(w w5:World)(n0 P:Nat)(node:Int)(I5:ui q F w w5 w5 n0 P F2 Dm.new)(h0:¬F 0)(hp:0<w.heap.size)(hP:w.heap.size≤P)(hn:n0<P)(hn0:w5.heap[n0]? =some (.cells #[.int .i64 node] 3 (0,0)))(hP1:w5.heap[P+1]? =some (.cells #[.pointer (some ⟨P,0,none⟩)] 41 (0,0)))(hPb:w5.heap[P]? =some (.cells (fo q false Pm.no (.pointer none) 0 (.pointer none) (.pointer none)) 137 (0,0)))(arP:node=0∨node=1):
  Run (P+2) (fun e W=>W.heap[P+1]? =w5.heap[P+1]?∧e=0∧∃F',(Pk q F' W Dm.new∧Out F w W∧∀g,F' g→F g∨w.heap.size≤g)∧∃G,PO P q G W ⟨Dm.new,fst node,[],[],false⟩∧∀g,G g→w.heap.size≤g∧¬F' g) [.func (.func 98) #[] #[.pointer (some ⟨n0,0,none⟩)],.func (.func 100) #[.pointer (some ⟨P,0,none⟩)] #[],.func (.func 101) #[] #[.pointer (some ⟨P+1,0,none⟩),.pointer (some ⟨n0,0,none⟩)],.func (.func 103) #[.pointer (some ⟨P,0,none⟩)] #[],.func (.func 104) #[.pointer (some ⟨P,0,none⟩)] #[],.func (.func 105) #[] #[.pointer (some ⟨P+1,0,none⟩)],.func (.func 108) #[.pointer (some ⟨P,0,none⟩)] #[]] w5:=by
 obtain⟨oky,fe⟩:=axp arP
 have hB:Big 100000000 800000 Dm.new:=tY.mono (by omega) (by omega)
 have nP:P=n0∨P=P∨P=P+1∨P=P+2:=.inr (.inl rfl)
 have l2:∀{W Fk d},ui q F w w5 W n0 P Fk d→P+2<W.heap.size∧¬(P+2=P):=fun h=>⟨(h.nb _ (.inr (.inr (.inr rfl)))).2,by omega⟩
 have hsn:Rst.snd (fst node) [] (Cm.lastN 0 []) 0=true:=by rcases arP with rfl|rfl<;>decide
 refine Run.cons (enters_of func98 (by kernel_rfl) rfl) (by simp) ((amy n0 node w5 (ai hn0 0 rfl)).mono ?_)
 rintro E W1 ⟨rfl,b1⟩
 refine⟨_,rfl,b1.block _ (l2 I5).1,.inr ⟨fe,?_⟩⟩
 have I1:=I5.below h0 hp hP hn b1
 have p1:=(b1.block P (I5.nb P nP).2).trans hPb
 refine Run.cons (enters_of func100 (by kernel_rfl) rfl) (by simp) ((afS P q F2 W1 Dm.new Pm.no _ _ I1.qI hB ⟨rfl,rfl⟩ p1 (I1.nb P nP).1).mono ?_)
 rintro E W2 ⟨rfl,o1,pw,Gw,hW,hGw,p2⟩
 have I2:=I1.own h0 hp hP hn o1
 refine⟨_,rfl,o1.block _ (l2 I1).1 (l2 I1).2,.inr ⟨rfl,?_⟩⟩
 refine Run.cons (enters_of func101 (by kernel_rfl) rfl) (by simp) ((amd (P+1) n0 P node 0 W2 (fun e w'=>e=0∧Out (fun g=>g=P) W2 w'∧w'.heap[P]? =some (.cells (fo q false (fst node) (.pointer (some ⟨pw,0,none⟩)) 0 (.pointer none) (.pointer none)) 137 (0,0))) (ai ((I2.keep _ (.inr (.inl rfl))).trans hP1) 0 rfl) (ai ((I2.keep _ (.inl rfl)).trans hn0) 0 rfl) ((acv P q F2 W2 Dm.new Pm.no _ _ _ _ node I2.qI hB ⟨rfl,rfl⟩ p2 fe).mono ?_)).mono ?_)
 ·rintro E w' ⟨rfl,k⟩
  exact⟨_,rfl,rfl,k⟩
 rintro E W3 ⟨_,rfl,rfl,o2,p3⟩
 have I3:=I2.own h0 hp hP hn o2
 have nw:∀g,Gw g→¬g=P:=fun g hg e=>by have:=hGw g hg;have:=(I1.nb P nP).2;omega
 have hW3:=hW.out o2 nw
 refine⟨_,rfl,o2.block _ (l2 I2).1 (l2 I2).2,.inr ⟨rfl,?_⟩⟩
 refine Run.cons (enters_of func103 (by kernel_rfl) rfl) (by simp) ((aeg P q F2 W3 Dm.new _ _ _ _ I3.qI hB ⟨rfl,rfl⟩ p3).mono ?_)
 rintro E W4 ⟨rfl,o3,pr,Gr,hR,hGr,p4⟩
 have I4:=I3.own h0 hp hP hn o3
 have hW4:=hW3.out o3 nw
 have z1:=o1.size
 have z2:=o2.size
 have z3:=o3.size
 refine⟨_,rfl,o3.block _ (l2 I3).1 (l2 I3).2,.inr ⟨rfl,?_⟩⟩
 refine Run.cons (enters_of func104 (by kernel_rfl) rfl) (by simp) ((aee P q F2 W4 Dm.new _ I4.qI hB ⟨rfl,rfl⟩ p4 rfl).mono ?_)
 rintro E W5 ⟨rfl,b5⟩
 have I6:=I4.below h0 hp hP hn b5
 have p5:=(b5.block P (I4.nb P nP).2).trans p4
 refine⟨_,rfl,b5.block _ (l2 I4).1,.inr ⟨rfl,?_⟩⟩
 have SE:=azh P q F2 W5 Dm.new [] I6.qI (tY.mono (by omega) (by omega)) (ai p5 0 rfl) (ay p5) rfl rfl rfl
 refine Run.cons (enters_of func105 (by kernel_rfl) rfl) (by simp) ((alv (P+1) P q pw pr _ _ W5 _ (fst node) _ _ _ ⟨Dm.new,[],false⟩ ⟨Dm.new,[],false⟩ (ai ((I6.keep _ (.inr (.inl rfl))).trans hP1) 0 rfl) p5 ⟨F2,Gw,I6.qI,hW4.below b5,rfl⟩ ⟨F2,Gr,I6.qI,hR.below b5,rfl⟩ SE).mono ?_)
 rintro E W6 ⟨rfl,b6⟩
 have hc:vS (fst node) (Cm.lastE 0 []) 0 (Cm.lastN 0 []) 0=true:=(yZ oky [] _ _).trans hsn
 have hc:(if vS (fst node) (Cm.lastE 0 []) 0 (Cm.lastN 0 []) ((Orp.secs []).length:Int)=true then(0:Int)else 5)=0:=if_pos hc
 have I7:=I6.below h0 hp hP hn b6
 refine⟨_,rfl,b6.block _ (l2 I6).1,.inr ⟨hc,?_⟩⟩
 have hW6:=(hW4.below b5).below b6
 have hR6:=(hR.below b5).below b6
 refine Run.cons (enters_of func108 (by kernel_rfl) rfl) (by simp) ((ad4 P q pw pr F2 Gw Gr W6 false (fst node) _ Dm.new [] [] ((b6.block P (ay p5)).trans p5) ⟨_,rfl⟩ I7.qI hW6 hR6 (by decide) (by decide)).mono ?_)
 rintro E W7 ⟨rfl,ps,Gs,hS7,hGs,p7,o7⟩
 have I8:=I7.own h0 hp hP hn o7
 have s1:=I1.out.size
 have lP:=(I1.nb P nP).2
 have z5:=b5.size
 have z6:=b6.size
 have a1:=hW.lt
 have a2:=hR.lt
 have gw:∀g,Gw g→W1.heap.size≤g∧g<W2.heap.size:=fun g hg=>⟨hGw g hg,a1 g hg⟩
 have gr:∀g,Gr g→W3.heap.size≤g∧g<W4.heap.size:=fun g hg=>⟨hGr g hg,a2 g hg⟩
 refine⟨_,rfl,o7.block _ (l2 I7).1 (l2 I7).2,.inr ⟨rfl,I8.keep _ (.inr (.inl rfl)),rfl,F2,⟨I8.qI,I8.out,I8.far⟩,PB P Gw Gr Gs,⟨pw,pr,ps,Gw,Gr,Gs,[],false,false,⟨p7,hW6.out o7 nw,hR6.out o7 fun g hg e=>by have:=gr g hg;omega,hS7,rfl,fun _=>⟨rfl,rfl,rfl⟩,oky,wT oky,trivial,show(0:Int)≤0 from Int.le_refl _,⟨fun e=>nw P e rfl,fun e=>by have:=gr P e;omega,fun e=>by have:=hGs P e;omega⟩,fun g hg e=>by have:=gw g hg;have:=gr g e;omega,fun g hg e=>by have:=gw g hg;have:=hGs g e;omega,fun g hg e=>by have:=gr g hg;have:=hGs g e;omega⟩,rfl⟩,?_⟩⟩
 rintro g (rfl|e|e|e)
 ·exact⟨hP,(I8.nb g nP).1⟩
 ·exact⟨by have:=gw g e;omega,yU hW6 I7.qI g e⟩
 ·exact⟨by have:=gr g e;omega,vD hR6 I7.qI g e⟩
 ·exact⟨by have:=hGs g e;omega,fun k=>by have:=hGs g e;have:=I7.qI.lt g k;omega⟩
theorem akI (q:Nat)(F:Nat→Prop)(w:World)(h:Pk q F w Dm.new)(hm:fU w)(h0:¬F 0)(node:Int)(hn:node=0∨node=1):
  Calls prog 55 #[.pointer (some ⟨q,0,none⟩),.int .i64 node] w fun E w'=>∃p F',E=.returned (.tuple #[.pointer (some ⟨p,0,none⟩),.int .i64 0])∧PS p q F' w' ⟨Dm.new,fst node,[],[],false⟩∧(∀g,F' g→F g∨w.heap.size≤g)∧Out F w w':=by
 refine(an0 q F w Dm.new node h hm h0 (tY.mono (by omega) (by omega)) (fun P e W=>e=0∧∃F',(Pk q F' W Dm.new∧Out F w W∧∀g,F' g→F g∨w.heap.size≤g)∧∃G,PO P q G W ⟨Dm.new,fst node,[],[],false⟩∧∀g,G g→w.heap.size≤g∧¬F' g) ?_).mono ?_
 ·intro F2 w5 n0 P e1 I5 hP hn0 c1 c2 c3
  exact alg q F F2 w w5 n0 P node I5 h0 hm.pos hP hn0 c1 c2 c3 hn
 ·rintro E w' ⟨P,e,HX,hE⟩
  obtain⟨rfl,F',⟨k1,k2,k3⟩,G,k4,k5⟩:=HX.out
  rcases hE with⟨c1,_⟩|⟨_,rfl⟩
  ·exact absurd rfl c1
  ·refine⟨P,_,rfl,⟨F',G,k1,k4,fun g hg=>(k5 g hg).2,gz hm k2 h0,rfl⟩,fun g hg=>?_,k2⟩
   rcases hg with hg|hg
   ·exact k3 g hg
   ·exact .inr (k5 g hg).1
theorem avk {n q p:Nat}{w:World}{u t a:Int}{cs:List Value}(hl:cs.length=11)(hb:w.heap[n]? =some (.cells (.int .i64 u::.int .i64 t::.pointer (some ⟨q,0,none⟩)::cs).toArray 86 (0,0))):
  ∃V,sets n w 3 (mX p a)=V∧V.heap[n]? =some (.cells (.int .i64 u::.int .i64 t::.pointer (some ⟨q,0,none⟩)::mX p a).toArray 86 (0,0))∧w.grownBy V (some n):=by
 obtain⟨k1,k2⟩:=aaj n 86 (mX p a) w 3 _ hb (by simp[mX,hl])
 refine⟨_,rfl,?_,k2⟩
 rw[k1]
 simp[mX,hl]
def Ns.one (u t:Int) (s:Rst.St):Ns:=⟨u,t,s.p.a,-1,fZ,s⟩
theorem akP (n q:Nat)(w:World)(h2:w.cell? ⟨n,2,none⟩=some (.pointer (some ⟨q,0,none⟩)))(h3:w.cell? ⟨n,3,none⟩=some (.pointer none)):
  Calls prog 88 #[.pointer (some ⟨n,0,none⟩)] w fun E w'=>E=.returned (.int .i64 7)∧w=w':=by
 go_enter func88,ntmps88
 go_wp2
 go_ret
 exact⟨rfl,rfl⟩
def jM (u:Int):Rst.St:=⟨Dm.new,fst u,[],[],false⟩
theorem alB (u:Int):iY (jM u):=⟨tY.mono (by omega) (by omega),by simp[jM]⟩
def mem1:List Value:=[.pointer none,.int .i64 0,.int .i64 0,.int .i64 0,.int .i64 0,.int .u8 0,.int .i64 0,.slice none 0 0,.int .i64 0,.int .i64 0,.slice none 0 0]
theorem ajV (n q:Nat)(F:Nat→Prop)(w:World)(u t:Int)(hb:w.heap[n]? =some (.cells (.int .i64 u::.int .i64 t::.pointer (some ⟨q,0,none⟩)::mem1).toArray 86 (0,0)))(h:Pk q F w Dm.new)(hm:fU w)(h0:¬F 0)(hn:¬F n)(hu:u=0∨u=1):
  Calls prog 37 #[.pointer (some ⟨n,0,none⟩)] w fun E w'=>E=.returned (.int .i64 0)∧∃p,dF n p q F w w' (Ns.one u t (jM u)):=by
 have c0:w.cell? ⟨n,0,none⟩=some (.int .i64 u):=ai hb 0 rfl
 have c2:w.cell? ⟨n,2,none⟩=some (.pointer (some ⟨q,0,none⟩)):=ai hb 2 rfl
 have c3:w.cell? ⟨n,3,none⟩=some (.pointer none):=ai hb 3 rfl
 have RF:=hide (akP n q w c2 c3)
 have n0:n≠0:=fun e=>by
  have a:=hm.c2
  rw[e,a]at c2
  cases c2
 have hd:Below w.heap.size w w.drew:=(Below.refl _ _).drew
 have OP:Hid (Calls prog 55 #[.pointer (some ⟨q,0,none⟩),.int .i64 u] w.drew fun E w'=>∃p F',E=.returned (.tuple #[.pointer (some ⟨p,0,none⟩),.int .i64 0])∧Hid (PS p q F' w' (jM u)∧(∀g,F' g→F g∨w.heap.size≤g)∧Out F w w')∧w'.heap[n]? =some (.cells (.int .i64 u::.int .i64 t::.pointer (some ⟨q,0,none⟩)::mem1).toArray 86 (0,0))):=hide (by
  refine(akI q F w.drew (h.below hd) (hm.below hd) h0 u hu).mono ?_
  rintro E w' ⟨p,F',rfl,k1,k2,k3⟩
  exact⟨p,F',rfl,hide ⟨k1,k2,⟨k3.os,k3.tape,k3.output,k3.size,k3.block⟩⟩,(k3.block n (ay hb) hn).trans hb⟩)
 have HB:=hide (And.intro hb (And.intro hn n0))
 clear h hm h0 hu hd
 go_enter func37,ntmps37
 go_wp2_with fail
 refine RF.out.mono ?_
 rintro E w1 ⟨rfl,rfl⟩
 clear RF hb hn n0
 go_wp2_with fail
 go_region_held3 (fun w'=>w'.cell? ⟨n,0,none⟩=some (.int .i64 u)∧w'.cell? ⟨n,2,none⟩=some (.pointer (some ⟨q,0,none⟩))) (first|exact⟨c0,c2⟩|exact⟨ai p2 0 rfl,ai p2 2 rfl⟩|go_keep)
  (first|(go_at_call 55;refine OP.out.mono ?_;rintro E w2 ⟨p,F2,rfl,K2,p2⟩))
 clear OP
 have FI:=hide (aj1 p q F2 w2 (jM u) K2.out.1 (alB u))
 go_wp2_with fail
 refine FI.out.mono ?_
 rintro E w3 ⟨rfl,b3⟩
 obtain⟨k1,k2,k3⟩:=K2.out
 obtain⟨hb,hn,n0⟩:=HB.out
 have p3:=(b3.block n (ay p2)).trans p2
 obtain⟨a,ha⟩:∃a,(jM u).p.a=a:=⟨_,rfl⟩
 rw[ha]
 obtain⟨V,hV,bV,gV⟩:=avk (p:=p) (a:=a) rfl p3
 have RR:Hid (∃p,dF n p q F w V (Ns.one u t (jM u))):=hide (by
  have hlt:=ay hb
  have nf:¬F2 n:=fun e=>by
   rcases k2 n e with e|e
   ·exact hn e
   ·omega
  have oo:Out (fun g=>g=n) w3 V:=Out.aM gV fun g e=>(Option.some.inj e).symm
  have k3':=k1.below b3
  refine⟨p,F2,⟨?_,k3'.agree (fun i e=>oo.block i (k3'.lt i e) fun c=>nf (c▸e)) oo.size (gz k3'.gQ oo fun e=>n0 e.symm),nf⟩,?_,k2⟩
  ·rw[bV,←ha]
   rfl
  ·exact((k3.mono (G:=fun g=>F g∨g=n) fun g e=>.inl (.inl e)).trans (Out.of_below b3 (F:=fun g=>g=n)) fun g e=>.inl (.inr e)).trans oo fun g e=>.inl (.inr e))
 simp only[sets,mX,Nat.reduceAdd]at hV
 unfold mX
 have f:=aA p3
 have f3:=f 3;have f4:=f 4;have f5:=f 5;have f6:=f 6;have f7:=f 7;have f8:=f 8;have f9:=f 9;have f10:=f 10;have f11:=f 11;have f12:=f 12;have f13:=f 13
 have c:=fun j v (e:_[j]? =some v)=>ai p3 j e
 have e3:=c 3 _ rfl;have e4:=c 4 _ rfl;have e5:=c 5 _ rfl;have e6:=c 6 _ rfl;have e7:=c 7 _ rfl;have e8:=c 8 _ rfl;have e9:=c 9 _ rfl;have e10:=c 10 _ rfl;have e11:=c 11 _ rfl;have e12:=c 12 _ rfl;have e13:=c 13 _ rfl
 clear FI K2 k1 k2 k3 hb hn n0 HB p2 p3 bV gV f c b3 ha c0 c2 c3
 go_wp2
 go_ret
 exact⟨rfl,RR.out⟩
theorem aiM (q:Nat)(w:World)(h:Pk q (fun g=>g=q) w Dm.new):Calls prog 70 #[.pointer (some ⟨q,0,none⟩),.int .i64 0,.slice none 0 0] w fun E w'=>E=.returned (.int .i64 0)∧bN q (fun g=>g=q) w w' Dm.new:=
 nL q _ w Dm.new 0 (.slice none 0 0) [] h (Is.nil _ _) (fun e=>absurd e (by simp)) (by simp) (by decide) (by decide) (by decide)
theorem apq (u t:Int)(hu:u=0∨u=1)(ht:1≤t∧t≤16)(q:Nat)(w:World)(h:Pk q (fun g=>g=q) w Dm.new)(hm:fU w)(hq:q≠0):
  Calls prog 26 #[.int .i64 u,.int .i64 t,.pointer (some ⟨q,0,none⟩)] w fun E w'=>∃n p F,E=.returned (.tuple #[.pointer (some ⟨n,0,none⟩),.int .i64 0])∧Hid (Nd n p q F w' (Ns.one u t (jM u))∧(∀g,F g∨g=n→g=q∨w.heap.size≤g)∧Out (fun g=>g=q) w w'):=by
 have WR:=hide (aiM q w h)
 have CK:=hide (fun W=>kI t W)
 have ck:aZ.ck t=0:=by unfold aZ.ck;rw[if_pos ht]
 rw[ck]at CK
 have HM:=hide (And.intro hm hq)
 have HU:=hide hu
 have hn2:((u !=0)&&(u !=1))=false:=by rcases hu with rfl|rfl<;>rfl
 clear h hm hq ht ck
 have X:Hid (∀w1,Out (fun g=>g=q) w w1→∀F1,Pk q F1 w1 Dm.new→(∀g,F1 g→g=q∨w.heap.size≤g)→∃V,w1.alloc (.cells #[.int .i64 u,.int .i64 t,.pointer (some ⟨q,0,none⟩),.pointer none,.int .i64 0,.int .i64 0,.int .i64 0,.int .i64 0,.int .u8 0,.int .i64 0,.slice none 0 0,.int .i64 0,.int .i64 0,.slice none 0 0] 86)=V∧Hid (Calls prog 37 #[.pointer (some ⟨w1.heap.size,0,none⟩)] V fun E w'=>E=.returned (.int .i64 0)∧∃p F,Hid (Nd w1.heap.size p q F w' (Ns.one u t (jM u))∧(∀g,F g∨g=w1.heap.size→g=q∨w.heap.size≤g)∧Out (fun g=>g=q) w w'))):=hide fun w1 o1 F1 k1 f1=>by
  obtain⟨V,hV,sV,bV,PV⟩:=au w1 #[.int .i64 u,.int .i64 t,.pointer (some ⟨q,0,none⟩),.pointer none,.int .i64 0,.int .i64 0,.int .i64 0,.int .i64 0,.int .u8 0,.int .i64 0,.slice none 0 0,.int .i64 0,.int .i64 0,.slice none 0 0] 86
  have z1:=o1.size
  have hm1:=gz HM.out.1 o1 fun e=>HM.out.2 e.symm
  have p0:=HM.out.1.pos
  refine⟨V,hV,hide ((ajV w1.heap.size q F1 V u t PV (k1.below bV) (hm1.below bV) (fun e=>?_) (fun e=>?_) HU.out).mono ?_)⟩
  ·rcases f1 0 e with e|e
   ·exact HM.out.2 e.symm
   ·omega
  ·have:=k1.lt _ e;omega
  ·rintro E w' ⟨rfl,p,F,N,o2,f2⟩
   refine⟨rfl,p,F,hide ⟨N,?_,(o1.trans (Out.of_below bV (F:=fun g=>g=q)) fun g e=>.inl e).trans o2 ?_⟩⟩
   ·rintro g (e|e)
    ·rcases f2 g e with e|e
     ·exact f1 g e
     ·exact .inr (by omega)
    ·exact .inr (by omega)
   ·rintro g (e|e)
    ·exact f1 g e
    ·exact .inr (by omega)
 clear HM
 go_enter func26,ntmps26
 go_wp2_with fail
 refine WR.out.mono ?_
 rintro E w1 ⟨rfl,F1,k1,o1,f1⟩
 obtain⟨V,hV,OP⟩:=X.out w1 o1 F1 k1 f1
 clear WR X k1 o1 f1
 rcases HU.out with rfl|rfl
 all_goals
  go_wp2_with fail
  refine(CK.out _).mono ?_
  rintro E w2 ⟨rfl,rfl⟩
  clear CK
  go_wp2_with fail
  refine OP.out.mono ?_
  rintro E w3 ⟨rfl,p,F,X3⟩
  clear OP
  go_wp2
  go_ret2
  exact⟨_,p,F,rfl,X3⟩
structure eG (m:Nat) (x:Ns) (e pa:Int):Prop where
 inn:∃z ps,Rst.In z x.s ps []
 has:x.s.d.has=false
 rz:Rz m x.s
 pg:x.s.p=⟨e,1,pa,0,0,0⟩
 e:1≤e∧e≤1048576
 t:1≤x.t∧x.t≤16
 a:0≤pa∧pa≤x.a∧x.a≤x.s.l.length
 r:Cm.lastN 0 x.s.r≤x.a
section
variable {m:Nat} {x:Ns} {e pa:Int} {l:List Bm.Ov}
theorem eG.on (h:eG m x e pa):x.s.d.on=true:=by
 obtain⟨z,ps,k⟩:=h.inn
 exact k.on
theorem eG.tF (h:eG m x e pa)(hm:m≤500):iY x.s:=⟨h.rz.1.mono (by omega) (by omega),by have:=h.rz.2.1;omega⟩
theorem eG.t3 (h:eG m x e pa):T3 x.s.d:=h.rz.2.2
theorem eG.ok (h:eG m x e pa)(hm:m≤500):Pm.chk x.s.p=0:=by
 rw[h.pg]
 have h1:=h.e
 have h2:=h.a
 have h3:=h.rz.2.1
 exact Pm.qg.2 ⟨⟨h1.1,h1.2,h2.1,by show pa≤_;omega,by simp,by simp,by simp,by simp⟩,.inl ⟨rfl,rfl,rfl,rfl⟩⟩
theorem eG.rd (h:eG m x e pa)(hm:m≤500):Rol.mE x.s.p=0:=by
 unfold Rol.mE
 rw[if_pos (h.ok hm),h.pg]
 rfl
theorem eG.wr (h:eG m x e pa)(hm:m≤500):Rol.vW x.s.p=0:=by
 unfold Rol.vW
 rw[if_pos (h.ok hm),h.pg]
 rfl
theorem eG.i64 (h:eG m x e pa):In64 x.s.p.e:=by
 rw[h.pg]
 have:=h.e
 simp only[In64]
 omega
theorem eG.out (h:eG m x e pa)(hm:m≤500):aZ.oV x.s.l.length x.a=x.s.l.length-x.a:=by
 have h2:=h.a
 have h3:=h.rz.2.1
 unfold aZ.oV
 rw[if_pos (by omega)]
theorem eG.bar (h:eG m x e pa)(hm:m≤500):x.bar l=if Bm.cO l≠0 then Bm.cO l else if x.t≤x.s.l.length-x.a then 8 else 0:=by
 have h2:=h.a
 have h3:=h.rz.2.1
 unfold Ns.bar
 split
 ·rfl
 ·rw[if_neg (by rw[h.wr hm];simp)]
  unfold aZ.ad
  rw[if_pos h.t,if_pos (by omega)]
  split
  ·rfl
  ·rw[if_neg (by omega)]
theorem eG.no (h:eG m x e pa)(hm:m≤500)(hb:x.bar l≠0):x.kP l=x.bar l∧x.co l=x:=by
 unfold Ns.kP Ns.co
 rw[if_pos hb,if_pos hb]
 exact⟨rfl,rfl⟩
theorem eG.yes (h:eG m x e pa)(hm:m≤500)(hb:x.bar l=0):
  x.kP l=0∧eG (m+1) (x.co l) e pa∧(x.co l).s.l=x.s.l++[⟨e,x.s.l.length+1,l⟩]∧(x.co l).a=x.a∧(x.co l).t=x.t∧(x.co l).k=x.k∧(x.co l).s.r=x.s.r∧Sto.fold (Rst.aP (x.co l).s)=Tm.app (Sto.fold (Rst.aP x.s)) l:=by
 obtain⟨z,ps,k⟩:=h.inn
 have h2:=h.a
 have h3:=h.rz.2.1
 have he:=h.e
 have hc:Bm.cO l=0:=by
  have:=h.bar (l:=l) hm
  rw[hb]at this
  split at this
  ·rename_i g;exact absurd this.symm g
  ·rename_i g;exact Classical.not_not.1 g
 have ec:x.com l=⟨e,x.s.l.length+1,l⟩:=by unfold Ns.com;rw[h.pg]
 have sd:=Rst.p8.1 k.sd
 have le:Cm.lastE 0 x.s.l≤e:=by have:=sd.1.2.1;rw[h.pg]at this;exact this
 have hg:Cm.Good (Cm.lastE 0 x.s.l) x.s.l.length [⟨e,x.s.l.length+1,l⟩]:=⟨by show Cm.chk e ((x.s.l.length:Int)+1) l=0;rw[Cm.aeZ ⟨he.1,he.2,by omega,by omega⟩,hc],by show(x.s.l.length:Int)+1-1=_;omega,le,trivial⟩
 obtain⟨e1,e2,e3,e4,e5,e6⟩:=Rst.axF k h.has (cs:=[⟨e,x.s.l.length+1,l⟩]) ((Cm.iN _ _ _ 0).2 hg) (by
  rw[h.pg]
  refine Rst.rQ ?_ ?_ (by simp) ?_ rfl
  ·have:=h.r;rw[List.length_append];omega
  ·rw[(Cm.dU _ _ _ 0).1];exact Int.le_refl _
  ·show pa≤_;rw[List.length_append];omega)
 have hf:=Rst.fold_add k (c:=⟨e,x.s.l.length+1,l⟩) e1
 unfold Ns.kP Ns.co
 rw[if_neg (by rw[hb];simp),if_neg (by rw[hb];simp),ec]
 refine⟨e1,⟨⟨z,ps,e2⟩,e6,awv h.rz _ (by simp),e3.trans h.pg,he,h.t,?_,?_⟩,e4,rfl,rfl,rfl,e5,hf⟩
 ·show 0≤pa∧pa≤x.a∧x.a≤(Rst.add x.s _).2.l.length
  rw[e4,List.length_append]
  omega
 ·show Cm.lastN 0 (Rst.add x.s _).2.r≤x.a
  rw[e5]
  exact h.r
end
theorem ahJ (t:Int)(ht:1≤t∧t≤16):eG 1 (Ns.one 0 t (jM 0)) 1 0:=
 ⟨⟨fst 0,[],Rst.avG _ (by decide)⟩,rfl,⟨tY.mono (by decide) (by decide),Nat.zero_le _,awh⟩,rfl,by decide,ht,show(0:Int)≤0∧(0:Int)≤0∧(0:Int)≤((0:Nat):Int)by omega,show(0:Int)≤0 by omega⟩
theorem zI (n p q:Nat)(F:Nat→Prop)(w:World)(x:Ns)(h:Nd n p q F w x)(hR:iY x.s)(h3:T3 x.s.d)(h0:¬F 0)(hon:x.s.d.on=true)(v:Value)(l:List Bm.Ov)(hv:∀W,Out F w W→bM W v l)(hf:dZ l)(hl:l.length*40≤140737488351232)(he:In64 x.s.p.e)(h6:x.kP l≠6):
  Calls prog 28 #[.pointer (some ⟨n,0,none⟩),v] w fun E w'=>E=.returned (.tuple #[.int .i64 (if x.kP l=0 then x.s.l.length+1 else 0),.int .i64 (x.kP l)])∧dF n p q F w w' (x.co l):=by
 have kQ:∀(fn:Fn) (first cap:Array Value) (w:World),(Instr.makeFunc fn first cap).run prog w=.ok (.func fn first cap) w:=fun _ _ _ _=>rfl
 obtain⟨va,vn,vk,rfl⟩:∃a n k,v=.slice a n k:=by
  obtain⟨a,k,e,_,_⟩:=(hv w (Out.refl _ _)).shape
  exact⟨_,_,_,e⟩
 obtain⟨w1,hw1,s1,b1,P1⟩:=au w #[.pointer (some ⟨n,0,none⟩)] 66
 obtain⟨w2,hw2,s2,b2,P2⟩:=au w1 #[.slice va vn vk] 33
 obtain⟨w3,hw3,s3,b3,P3⟩:=au w2 #[.int .i64 0] 3
 rw[s1]at P2
 rw[s2,s1]at P3
 have fC:Below w.heap.size w w3:=(b1.trans (b2.mono (by omega))).trans (b3.mono (by omega))
 have P1:=(b3.block _ (by omega)).trans ((b2.block _ (by omega)).trans P1)
 have P2:=(b3.block _ (by omega)).trans P2
 have lt:=h.lt
 have hw0:=h.st.gQ.pos
 obtain⟨ce,hce⟩:∃z,x.kP l=z:=⟨_,rfl⟩
 obtain⟨cn,hcn⟩:∃z,(if ce=0 then(x.s.l.length:Int)+1 else 0)=z:=⟨_,rfl⟩
 obtain⟨cx,hcx⟩:∃z,x.co l=z:=⟨_,rfl⟩
 have CC:=fun W hW=>ahn n p q F W x (h.below hW) hR h3 h0 (.slice va vn vk) l (fun V hV=>hv V ((Out.of_below hW).trans hV fun g e=>.inl e)) hf hl he
 rw[hce,hcn,hcx]at CC
 rw[hce]at h6
 rw[hce,hcn,hcx]
 have h6':(ce==6)=false:=by simpa using h6
 have CL:=rD n p q F w3 x (h.below fC) hon 73 #[] #[.pointer (some ⟨w.heap.size,0,none⟩),.pointer (some ⟨w.heap.size+1,0,none⟩),.pointer (some ⟨w.heap.size+1+1,0,none⟩)] _ (enters_of func73 (by kernel_rfl) rfl) rfl (fun e W w'=>e=ce∧w'.heap[w.heap.size+1+1]? =some (.cells #[.int .i64 cn] 3 (0,0))∧wK n p q F w W w' cx) (fun W hW=>by
  have q1:=(hW.block _ (by omega)).trans P1
  have q2:=(hW.block _ (by omega)).trans P2
  have q3:=(hW.block _ (by omega)).trans P3
  have d1:W.cell? ⟨w.heap.size,0,none⟩=some (.pointer (some ⟨n,0,none⟩)):=ai q1 0 rfl
  have d2:W.cell? ⟨w.heap.size+1,0,none⟩=some (.slice va vn vk):=ai q2 0 rfl
  have ug:=fC.trans (hW.mono (by omega))
  have zW:=hW.size
  have C1:=hide (CC W ug)
  have FIN:Hid (∀W4,dF n p q F W W4 cx→∃V,W4.setCell ⟨w.heap.size+1+1,0,none⟩ (.int .i64 cn)=V∧W4.cell? ⟨w.heap.size+1+1,0,none⟩=some (.int .i64 0)∧W4.frozen? ⟨w.heap.size+1+1,0,none⟩=false∧Hid (∃e,Ending.returned (.int .i64 ce)=.returned (.int .i64 e)∧(e==6)=false∧(∀g,w3.heap.size≤g→g<W.heap.size→V.heap[g]? =W.heap[g]?)∧W.heap.size≤V.heap.size∧e=ce∧V.heap[w.heap.size+1+1]? =some (.cells #[.int .i64 cn] 3 (0,0))∧wK n p q F w W V cx)):=hide fun W4 k=>by
   have k0:=k
   obtain⟨F',N',o',f'⟩:=k0
   have nl:∀g,w.heap.size≤g→¬(F g∨g=n):=fun g hg e=>by have:=lt g e;omega
   have q4:=(o'.block _ (by omega) (nl _ (by omega))).trans q3
   obtain⟨V,hV,bV,gV,fV⟩:=uM q4 0 (.int .i64 cn)
   refine⟨V,hV,ai q4 0 rfl,fV,hide ⟨ce,rfl,h6',fun g g1 g2=>?_,Nat.le_trans o'.size gV.size,rfl,bV,(k.toQ ug).put lt hw0 ⟨by omega,by omega⟩ gV⟩⟩
   rw[gV.block g (Nat.lt_of_lt_of_le g2 o'.size) (fun e=>by have:=Option.some.inj e;omega)]
   exact o'.block g g2 (nl g (by omega))
  clear q1 q2 q3 ug zW
  clear CC P1 P2 P3 b1 b2 b3 fC s1 s2 s3 hw1 hw2 hw3 h hR h3 h0 hon hv hf hl he h6 hce hcn hcx lt hw0 hW
  go_enter func73,ntmps73
  go_wp2_with fail
  refine C1.out.mono ?_
  rintro E W4 ⟨rfl,k⟩
  obtain⟨V,hV,e4,f4,RR⟩:=FIN.out W4 k
  clear C1 FIN k
  go_wp2
  go_ret
  exact RR.out)
 have CL:=hide CL
 have FIN:Hid (∀W W1 B w4,Below w3.heap.size w3 W→w3.heap.size≤B∧B<W.heap.size→W1.grownBy w4 (some B)→W1.heap[w.heap.size+1+1]? =some (.cells #[.int .i64 cn] 3 (0,0))→wK n p q F w W W1 cx→w4.heap[w.heap.size+1+1]? =some (.cells #[.int .i64 cn] 3 (0,0))∧dF n p q F w w4 cx):=hide fun W W1 B w4 hW hB g c k=>by
  have zW:=hW.size
  have k0:=k
  obtain⟨F',N',o',f'⟩:=k0
  exact⟨(g.block _ (ay c) (fun e=>by have:=Option.some.inj e;omega)).trans c,(k.put lt hw0 ⟨by omega,hB.2⟩ g).toS (by omega)⟩
 clear CC P2 P3 b1 b2 b3 fC s3 h hR h3 h0 hon hv hf hl he h6 hce hcn hcx lt hw0
 have d1:w3.cell? ⟨w.heap.size,0,none⟩=some (.pointer (some ⟨n,0,none⟩)):=ai P1 0 rfl
 clear P1
 go_enter func28,ntmps28
 go_wp2_with fail
 refine CL.out.mono ?_
 rintro E w4 ⟨e,rfl,W,W1,B,hW,hB,g,rfl,c,k⟩
 obtain⟨q4,N4⟩:=FIN.out W W1 B w4 hW hB g c k
 have RR:=hide N4
 have e4:w4.cell? ⟨w.heap.size+1+1,0,none⟩=some (.int .i64 cn):=ai q4 0 rfl
 have f4:=aA q4 0
 have u4:w4.setCell ⟨w.heap.size+1+1,0,none⟩ (.int .i64 cn)=w4:=aK q4 (j:=0) rfl
 clear CL FIN hW hB g c k q4 N4
 go_wp2
 refine bodyPost_ret (v:=.tuple #[.int .i64 cn,.int .i64 e]) (by simp[results,results28,go_sem,e4]) rfl ?_
 exact⟨rfl,RR.out⟩
section
variable {m:Nat} {x:Ns} {e pa:Int}
theorem eG.mono {m':Nat}(h:eG m x e pa)(hm:m≤m'):eG m' x e pa:=⟨h.inn,h.has,h.rz.mono hm,h.pg,h.e,h.t,h.a,h.r⟩
theorem eG.aN (h:eG m x e pa)(hm:m≤500)(hlx:x.s.l.length≤100):(Rst.aN x.s x.a).1=0∧(∃z ps,Rst.In z (Rst.aN x.s x.a).2 ps [])∧(Rst.aN x.s x.a).2.d.has=false∧(Rst.aN x.s x.a).2.p=x.s.p∧(Rst.aN x.s x.a).2.l=x.s.l∧Cm.lastN 0 (Rst.aN x.s x.a).2.r≤x.a∧Sto.fold (Rst.aP (Rst.aN x.s x.a).2)=Sto.fold (Rst.aP x.s):=by
 obtain⟨z,ps,k⟩:=h.inn
 have h2:=h.a
 have h3:=h.rz.2.1
 have hr:=h.r
 have hfo:=Rst.aq6 k x.a
 have sd:=Rst.p8.1 k.sd
 have hsn:Rst.snd x.s.p x.s.l x.a (Orp.secs []).length=true:=by
  rw[h.pg]
  refine Rst.rQ h2.2.2 ?_ (by simp) (by show pa≤_;omega) rfl
  have:=sd.1.2.1
  rw[h.pg]at this
  exact this
 by_cases hl:Cm.lastN 0 x.s.r=x.a
 ·obtain⟨so,sf⟩:=k.aP
  have hst:Sto.aN (Rst.aP x.s) x.a=(0,Rst.aP x.s):=by
   unfold Sto.aN
   rw[if_neg (by show ¬(x.a<Cm.lastN 0 x.s.r∨Sto.fin (Rst.aP x.s)<x.a);rw[sf];omega),if_pos (show x.a=Cm.lastN 0 (Rst.aP x.s).r.l from hl.symm)]
  have hf:Rst.aN x.s x.a=(0,x.s):=by
   unfold Rst.aN
   rw[if_neg (by rw[k.ask];simp),if_neg (by omega),if_neg (by rw[k.fine,hsn];simp),hst]
   show((0:Int),(⟨x.s.d,x.s.p,x.s.l,x.s.r,x.s.off||decide ((0:Int)=6)⟩:Rst.St))=(0,x.s)
   simp
  rw[hf]at hfo⊢
  exact⟨rfl,⟨z,ps,k⟩,h.has,rfl,rfl,hr,rfl⟩
 ·have h4:(Sto.dW (Rst.aP x.s) x.a).l.length≤1024:=by
   obtain⟨so,sf⟩:=k.aP
   have hg:=Cm.kr so.rest (x.a-Cm.lastN 0 (Rst.aP x.s).r.l).toNat
   have hl2:=Sto.zb hg
   have hd:(List.take (x.a-Cm.lastN 0 (Rst.aP x.s).r.l).toNat (Rst.aP x.s).l).length≤x.s.l.length:=by
    rw[List.length_take]
    have:(Rst.aP x.s).l.length≤x.s.l.length:=by
     show(x.s.l.drop _).length≤_
     rw[List.length_drop]
     omega
    omega
   show(Rl.tab _).length≤1024
   omega
  obtain⟨e1,e2,e3,e4,e5,e6⟩:=Rst.avL k h.has (u:=x.a) (by omega) h2.2.2 hsn h4
  refine⟨e1,⟨z,ps,e2⟩,e6,e3,e4,?_,hfo⟩
  rw[e5,Rl.dU]
  exact Int.le_refl _
theorem eG.fl (h:eG m x e pa)(hm:m≤500)(hlx:x.s.l.length≤100):(Rst.aN x.s x.a).1=0∧Rz (m+1) (Rst.aN x.s x.a).2∧ig (Rol.ak x.s.p x.a)∧(Rol.jF x.s.p x.a=true→(Rst.dB (Rst.aN x.s x.a).2 (Rol.ak x.s.p x.a)).1=0)∧(∃pa',eG (m+2) x.fl e pa')∧x.fl.s.l=x.s.l∧x.fl.a=x.a∧x.fl.t=x.t∧x.fl.k=x.k∧Sto.fold (Rst.aP x.fl.s)=Sto.fold (Rst.aP x.s):=by
 obtain⟨e1,⟨z,ps,k⟩,e3,e4,e5,e6,e7⟩:=h.aN hm hlx
 have h2:=h.a
 have h3:=h.rz.2.1
 have he:=h.e
 have rz:=avO h.rz x.a
 have mK:Rol.mK x.s.p x.a=0:=by
  unfold Rol.mK
  rw[if_pos (h.ok (by omega)),if_neg (by omega),h.pg]
  rfl
 have jF:Rol.jF x.s.p x.a=decide (pa<x.a):=by
  unfold Rol.jF
  rw[mK,h.pg]
  simp
 have ak:Rol.ak x.s.p x.a=if pa<x.a then⟨e,1,x.a,0,0,0⟩else⟨e,1,pa,0,0,0⟩:=by
  unfold Rol.ak
  rw[if_pos mK,h.pg]
 by_cases hp:pa<x.a
 ·rw[if_pos hp]at ak
  have ok:Pm.Ok ⟨e,1,x.a,0,0,0⟩:=⟨⟨he.1,he.2,by show 0≤x.a;omega,by show x.a≤_;omega,by simp,by simp,by simp,by simp⟩,.inl ⟨rfl,rfl,rfl,rfl⟩⟩
  have sd:=Rst.p8.1 k.sd
  obtain⟨g1,g2,g3,g4,g5,g6⟩:=Rst.aum k e3 (q:=⟨e,1,x.a,0,0,0⟩) (Pm.iV ok) (by
   refine Rst.rQ sd.1.1 ?_ (by simp) (by show x.a≤_;rw[e5];exact h2.2.2) rfl
   have:=sd.1.2.1
   rw[e4,h.pg]at this
   exact this)
  have hx:x.fl=⟨x.u,x.t,x.a,x.k,x.m,(Rst.dB (Rst.aN x.s x.a).2 ⟨e,1,x.a,0,0,0⟩).2⟩:=by
   unfold Ns.fl
   rw[jF,ak,if_pos (by simpa using hp)]
  rw[ak,hx]
  refine⟨e1,rz,wT ok,fun _=>g1,⟨x.a,⟨⟨z,_,g2⟩,g6,avg rz _,g3,he,h.t,⟨by show 0≤x.a;omega,Int.le_refl _,?_⟩,?_⟩⟩,g4.trans e5,rfl,rfl,rfl,?_⟩
  ·show x.a≤(Rst.dB _ _).2.l.length
   rw[g4,e5]
   exact h2.2.2
  ·show Cm.lastN 0 (Rst.dB _ _).2.r≤x.a
   rw[g5]
   exact e6
  ·rw[←e7]
   show Sto.fold (Rst.aP (Rst.dB (Rst.aN x.s x.a).2 ⟨e,1,x.a,0,0,0⟩).2)=_
   unfold Sto.fold Rst.aP
   rw[g4,g5]
 ·rw[if_neg hp]at ak
  have hx:x.fl=⟨x.u,x.t,x.a,x.k,x.m,(Rst.aN x.s x.a).2⟩:=by
   unfold Ns.fl
   rw[jF,if_neg (by simpa using hp)]
  rw[hx]
  refine⟨e1,rz,by rw[ak,←h.pg];exact wT (Pm.qg.1 (h.ok (by omega))),fun c=>by rw[jF]at c;simp[hp]at c,⟨pa,⟨⟨z,ps,k⟩,e3,rz.mono (by omega),e4.trans h.pg,he,h.t,⟨h2.1,h2.2.1,?_⟩,e6⟩⟩,e5,rfl,rfl,rfl,e7⟩
  show x.a≤(Rst.aN x.s x.a).2.l.length
  rw[e5]
  exact h2.2.2
end
end Go.Proofs.YtlmkaljjocflmaaGreatDoor
