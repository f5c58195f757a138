/- Texts of one layer, one behind the other. -/
import Derived.Test.YtlmkaljjocflmaaGreatDoorAH33
import Derived.Test.YtlmkaljjocflmaaGreatDoorAM4
import Derived.Test.YtlmkaljjocflmaaGreatDoorAH18
import Derived.Test.YtlmkaljjocflmaaGreatDoorAH32
import Derived.Test.YtlmkaljjocflmaaGreatDoorAH12
import Derived.Test.YtlmkaljjocflmaaGreatDoorAH29
import Derived.Deep.RegionHeld3
set_option maxRecDepth 100000
set_option maxHeartbeats 8000000
namespace Go.Proofs.YtlmkaljjocflmaaGreatDoor
open Go.RowKit
set_option linter.unusedVariables false
theorem aiW (st:Dm.Ds):∃e,Dm.write st 0 []=(e,st)∧(e==1)=false:=by
 unfold Dm.write
 split
 ·exact⟨6,rfl,rfl⟩
 ·rw[if_neg (by decide)]
  exact⟨0,rfl,rfl⟩
theorem aoH (q:Nat)(F:Nat→Prop)(w:World)(st:Dm.Ds)(node:Int)(h:Pk q F w st)(hm:fC w)(h0:¬F 0)(hB:Big 50000000 500000 st)(X:Nat→Int→World→Prop)
  (hrun:∀F2 w5 n0 P,n0=w.heap.size→rQ q F w w5 w5 n0 P F2 st→w.heap.size≤P→n0<P→w5.heap[n0]? =some (.cells #[.int .i64 node] 3 (0,0))→w5.heap[P+1]? =some (.cells #[.pointer (some ⟨P,0,none⟩)] 41 (0,0))→w5.heap[P]? =some (.cells (dQ q false Pm.no (.pointer none) 0 (.pointer none) (.pointer none)) 137 (0,0))→Run (P+2) (fun e W=>W.heap[P+1]? =w5.heap[P+1]?∧X P e W) [.func (.func 98) #[] #[.pointer (some ⟨n0,0,none⟩)],.func (.func 100) #[.pointer (some ⟨P,0,none⟩)] #[],.func (.func 101) #[] #[.pointer (some ⟨P+1,0,none⟩),.pointer (some ⟨n0,0,none⟩)],.func (.func 103) #[.pointer (some ⟨P,0,none⟩)] #[],.func (.func 104) #[.pointer (some ⟨P,0,none⟩)] #[],.func (.func 105) #[] #[.pointer (some ⟨P+1,0,none⟩)],.func (.func 108) #[.pointer (some ⟨P,0,none⟩)] #[]] w5):
  Calls Tryz.prog 55 #[.pointer (some ⟨q,0,none⟩),.int .i64 node] w fun E w'=>∃P e,Hid (X P e w')∧(e≠0∧E=.returned (.tuple #[.pointer none,.int .i64 e])∨e=0∧E=.returned (.tuple #[.pointer (some ⟨P,0,none⟩),.int .i64 0])):=by
 have kW:∀(fn:Fn) (first cap:Array Value) (w:World),(Instr.makeFunc fn first cap).run Tryz.prog w=.ok (.func fn first cap) w:=fun _ _ _ _=>rfl
 have hp:=hm.pos
 obtain⟨w1,hw1,s1,b1,P1⟩:=au w #[.int .i64 node] 3
 obtain⟨e0,hwe,he0⟩:=aiW st
 have WR:Hid (Calls Tryz.prog 70 #[.pointer (some ⟨q,0,none⟩),.int .i64 0,.slice none 0 0] w1 fun E w'=>E=.returned (.int .i64 e0)∧bT q F w1 w' st):=hide (by
  have:=qL q F w1 st 0 (.slice none 0 0) [] (h.below b1) (Is.nil _ _) (fun k=>by simp at k) (by simp) (by have:=hB.1.2.1;simp[cnt];omega) hB.2 (by have:=hB.1.2.2;simp[cnt];omega)
  rw[hwe]at this
  exact this)
 have HH:=hide (And.intro h (And.intro hm (And.intro b1 P1)))
 have HR:=hide hrun
 clear h hm hB b1 P1 hwe hrun
 go_enter Tryz.func55,Tryz.ntmps55
 go_wp2_with fail
 refine WR.out.mono ?_
 rintro E w2 ⟨rfl,F2,k1,k2,k3⟩
 clear WR
 obtain⟨h,hm,b1,P1⟩:=HH.out
 have hF:=h.lt
 have z2:=k2.size
 obtain⟨P,hP⟩:∃P,w2.heap.size=P:=⟨_,rfl⟩
 obtain⟨w3,hw3,s3,b3,P3⟩:=au w2 (dQ q false Pm.no (.pointer none) 0 (.pointer none) (.pointer none)) 137
 obtain⟨w4,hw4,asv,s4,b4,P4⟩:=agN w3 41 (.pointer none) (.pointer (some ⟨P,0,none⟩))
 obtain⟨n0,hn0⟩:∃n,w.heap.size=n:=⟨_,rfl⟩
 obtain⟨w5,gM,s5,b5,P5⟩:=au w4 #[.func (.func 98) #[] #[.pointer (some ⟨n0,0,none⟩)],.func (.func 100) #[.pointer (some ⟨P,0,none⟩)] #[],.func (.func 101) #[] #[.pointer (some ⟨P+1,0,none⟩),.pointer (some ⟨n0,0,none⟩)],.func (.func 103) #[.pointer (some ⟨P,0,none⟩)] #[],.func (.func 104) #[.pointer (some ⟨P,0,none⟩)] #[],.func (.func 105) #[] #[.pointer (some ⟨P+1,0,none⟩)],.func (.func 108) #[.pointer (some ⟨P,0,none⟩)] #[]] 228
 have z3:w3.heap.size=P+1:=by omega
 have z4:w4.heap.size=P+2:=by omega
 have z5:w5.heap.size=P+3:=by omega
 rw[hP]at P3
 rw[z3]at P4
 rw[z4]at P5
 have b25:Below w2.heap.size w2 w5:=(b3.trans (b4.mono (by omega))).trans (b5.mono (by omega))
 have n1:w1.heap.size=n0+1:=by omega
 have nF2:¬F2 n0:=fun e=>by
  rcases k3 n0 e with e|e
  ·have:=hF n0 e;omega
  ·omega
 have lF2:=k1.lt
 have c1:w2.heap[n0]? =some (.cells #[.int .i64 node] 3 (0,0)):=(k2.block n0 (by omega) fun e=>by have:=hF n0 e;omega).trans (by rw[←hn0];exact P1)
 have I5:rQ q F w w5 w5 n0 P F2 st:=by
  refine⟨k1.below b25,((Out.of_below b1).trans k2 fun g hg=>.inl hg).trans (Out.of_below (F:=fun _=>False) b25) fun g hg=>hg.elim,fun g hg=>(k3 g hg).imp id fun e=>by omega,(gz (hm.below b1) k2 h0).below b25,?_,fun g hg=>rfl⟩
  rintro g (rfl|rfl|rfl|rfl)
  ·exact⟨nF2,by omega⟩
  ·exact⟨fun e=>by have:=lF2 _ e;omega,by omega⟩
  ·exact⟨fun e=>by have:=lF2 _ e;omega,by omega⟩
  ·exact⟨fun e=>by have:=lF2 _ e;omega,by omega⟩
 have q1:=(b5.block (P+1) (by omega)).trans P4
 have RUN:=HR.out F2 w5 n0 P hn0.symm I5 (by omega) (by omega) ((b25.block n0 (by omega)).trans c1) q1 ((b5.block P (by omega)).trans ((b4.block P (by omega)).trans P3))
 have Ioq:=hide (qP (P+2) 7 _ w5 _ rfl (by omega) P5 RUN)
 have Q1:=hide q1
 have c4:w4.cell? ⟨P+1,0,none⟩=some (.pointer (some ⟨P,0,none⟩)):=ai P4 0 rfl
 unfold dQ Pm.no at hw3
 simp only at hw3
 rw[hn0]
 clear HR HH RUN I5 q1 P1 P3 P4 P5 b1 b3 b4 b5 b25 k1 k2 k3 nF2 lF2 c1 h hm hF n1 z5 s3 s4 s5 z2 hp h0
 go_wp2_with fail
 refine Ioq.out.mono ?_
 rintro E W ⟨e,rfl,hk,hX⟩
 have cW:W.cell? ⟨P+1,0,none⟩=some (.pointer (some ⟨P,0,none⟩)):=ai (hk.trans Q1.out) 0 rfl
 have HX:=hide hX
 clear Ioq Q1 hk hX
 by_cases he:e=0
 ·subst he
  go_wp2
  go_ret2
  exact⟨P,0,HX,.inr ⟨rfl,rfl⟩⟩
 ·have he':(e==0)=false:=by simpa using he
  go_wp2
  go_ret2
  exact⟨P,e,HX,.inl ⟨he,rfl⟩⟩
theorem ahR (vb:Value)(w:World)(hb:Is .u8 w vb []):
  Calls Tryz.prog 229 #[vb] w fun E w'=>E=.returned (.agg #[.slice none 0 0,.slice none 0 0])∧Below w.heap.size w w':=by
 obtain⟨w1,hw1,aT,ak,hR⟩:=au w #[.slice none 0 0,.slice none 0 0] 194
 obtain⟨w2,hw2,dm,az,hL⟩:=au w1 #[.slice none 0 0,.slice none 0 0] 194
 have b02:=ak.trans (az.mono (by omega))
 have hR2:=(az.block _ (by omega)).trans hR
 rw[aT]at hL
 have HF:=hide (qm vb [] w2 (hb.below b02) (by simp))
 have HH:=hide (And.intro b02 (And.intro hR2 hL))
 obtain⟨ba,bc,hvb,_,_⟩:=hb.shape
 clear hb ak az hR hL hR2 b02
 subst hvb
 go_enter Tryz.func229,Tryz.ntmps229
 go_wp2
 go_loopw [0] (fun fv wr=>fv=.slice ba ([]:List Int).length bc∧wr=w2) (fun _ _=>0)
 case atStart=>exact⟨rfl,rfl⟩
 case round=>
  obtain⟨rfl,hwr⟩:=hrel
  subst hwr
  go_wp2_with fail
  refine HF.out.mono ?_
  rintro E wa ⟨v1,z,n,e,rfl,aZ,ak,R⟩
  obtain⟨rfl,rfl,rfl⟩:=wX R.out
  obtain⟨b02,hR,hL⟩:=HH.out
  have BA:=hide (b02.trans (ak.mono b02.size))
  have pq:=(ak.block _ (by omega)).trans hR
  have hL1:=(ak.block _ (by omega)).trans hL
  have c0:wa.cell? ⟨w.heap.size+1,0,none⟩=some (.slice none 0 0):=ai hL1 0 rfl
  have c1:wa.cell? ⟨w.heap.size+1,1,none⟩=some (.slice none 0 0):=ai hL1 1 rfl
  have a0:wa.cell? ⟨w.heap.size,0,none⟩=some (.slice none 0 0):=ai pq 0 rfl
  have a1:wa.cell? ⟨w.heap.size,1,none⟩=some (.slice none 0 0):=ai pq 1 rfl
  have f0:=aB pq 0
  have f1:=aB pq 1
  have s0:wa.setCell ⟨w.heap.size,0,none⟩ (.slice none 0 0)=wa:=aM pq (j:=0) rfl
  have s1:wa.setCell ⟨w.heap.size,1,none⟩ (.slice none 0 0)=wa:=aM pq (j:=1) rfl
  obtain⟨o1,k1,hv1,_,_⟩:=aZ.is.shape
  subst hv1
  clear aZ ak R b02 hR hL pq hL1 HH HF
  go_wp2
  try rw[Exit.noGoto_ret]
  refine bodyPost_ret (v:=.agg #[.slice none 0 0,.slice none 0 0]) (by simp[results,Tryz.results229,go_sem,a0,a1]) rfl ?_
  exact⟨rfl,BA.out⟩
theorem aik (vb:Value)(bs:List Int)(w:World)(hb:Is .u8 w vb bs)(h0:bs=[]):
  Calls Tryz.prog 236 #[vb] w fun E w'=>E=.returned (.tuple #[.slice none 0 0,.int .i64 0])∧Below w.heap.size w w':=by
 obtain⟨n,hn⟩:∃n:Nat,n=0:=⟨0,rfl⟩
 have hl:bs.length≤1000:=by simp[h0]
 have hle:n≤bs.length:=by omega
 have H0:=hide h0
 have HN:=hide hn
 obtain⟨vs,hsl,gy⟩:=hb.iN Tryz.ak1 Tryz.alB n hle
 have HF:=hide (qm vs _ w gy (by rw[List.length_drop];omega))
 obtain⟨ba,bc,hvb,_,_⟩:=hb.shape
 clear hb gy hn h0
 subst hvb
 go_enter Tryz.func236,Tryz.ntmps236
 go_wp2
 go_loopw [2,3] (fun lv gv wr=>lv=.slice none 0 0∧gv=.int .i64 n∧wr=w) (fun _ _ _=>0)
 case atStart=>exact⟨rfl,by rw[HN.out];rfl,rfl⟩
 case round=>
  obtain⟨rfl,rfl,hwr⟩:=hrel
  subst hwr
  go_wp2_with fail
  refine HF.out.mono ?_
  rintro E wa ⟨v1,z,k,e,rfl,aZ,ak,R⟩
  have R':=R.out
  rw[H0.out,List.drop_nil]at R'
  obtain⟨rfl,rfl,rfl⟩:=wX R'
  have BA:=hide ak
  obtain⟨o1,k1,hv1,_,_⟩:=aZ.is.shape
  subst hv1
  clear aZ ak R R' HF hsl
  go_wp2
  go_ret2
  exact⟨by rw[HN.out];rfl,BA.out⟩
theorem aip (vb:Value)(w:World)(hb:Is .u8 w vb []):
  Calls Tryz.prog 233 #[vb] w fun E w'=>∃(y:Pm.Pg) (m:Nat),E=.returned (.tuple #[.agg #[.int .i64 y.e,.int .u8 y.r,.int .i64 y.a,.int .u8 y.p,.int .i64 y.f,.int .i64 y.b],.int .i64 m,.int .i64 5])∧Below w.heap.size w w':=by
 obtain⟨w1,hw1,aT,ak,pq⟩:=au w #[.int .i64 0,.int .u8 0,.int .i64 0,.int .u8 0,.int .i64 0,.int .i64 0] 46
 have hb1:=hb.below ak
 have HB:=hide pq
 obtain⟨ao,cap,rfl,_,_⟩:=hb.shape
 clear pq hb
 go_enter Tryz.func233,Tryz.ntmps233
 go_wp2_with fail
 refine(qm _ [] _ hb1 (by simp)).mono ?_
 rintro E w2 ⟨v2,r,n,e,rfl,aY,az,R2⟩
 have B2:=(az.block _ (aA HB.out)).trans HB.out
 have aO:=hide (ak.trans (az.mono (by omega)))
 obtain⟨rfl,rfl,rfl⟩:=wX R2.out
 obtain⟨z0,z1,z2,z3,z4,z5⟩:=aR B2
 have s0:w2.setCell ⟨w.heap.size,0,none⟩ (.int .i64 0)=w2:=aM B2 (j:=0) rfl
 have s1:w2.setCell ⟨w.heap.size,1,none⟩ (.int .u8 0)=w2:=aM B2 (j:=1) rfl
 have s2:w2.setCell ⟨w.heap.size,2,none⟩ (.int .i64 0)=w2:=aM B2 (j:=2) rfl
 have s3:w2.setCell ⟨w.heap.size,3,none⟩ (.int .u8 0)=w2:=aM B2 (j:=3) rfl
 have s4:w2.setCell ⟨w.heap.size,4,none⟩ (.int .i64 0)=w2:=aM B2 (j:=4) rfl
 have s5:w2.setCell ⟨w.heap.size,5,none⟩ (.int .i64 0)=w2:=aM B2 (j:=5) rfl
 have f0:=aB B2 0;have f1:=aB B2 1;have f2:=aB B2 2;have f3:=aB B2 3;have f4:=aB B2 4;have f5:=aB B2 5
 clear B2 R2 HB ak az hb1 aY
 go_wp2
 refine bodyPost_ret (v:=.tuple #[.agg #[.int .i64 0,.int .u8 0,.int .i64 0,.int .u8 0,.int .i64 0,.int .i64 0],.int .i64 0,.int .i64 5]) (by simp[results,Tryz.results233,go_sem,z0,z1,z2,z3,z4,z5]) rfl ?_
 exact⟨Pm.no,0,rfl,aO.out⟩
theorem ali (vb:Value)(bs:List Int)(node:Int)(w:World)(hb:Is .u8 w vb bs)(h0:bs=[])(hn:fse node=0):
  Calls Tryz.prog 176 #[vb,.int .i64 node] w fun E w'=>E=.returned (.tuple #[vp (fst node),.int .i64 0,.int .i64 0])∧Below w.heap.size w w':=by
 unfold vp
 obtain⟨w1,hw1,aT,ak,pq⟩:=au w #[.int .i64 0,.int .u8 0,.int .i64 0,.int .u8 0,.int .i64 0,.int .i64 0] 46
 obtain⟨n,hn0⟩:∃n:Nat,n=0:=⟨0,rfl⟩
 have hl:bs.length≤1000:=by simp[h0]
 have hle:n≤bs.length:=by omega
 have H0:=hide h0
 have HN:=hide hn0
 have qp:=hide hb
 have HB:=hide pq
 have FI:=hide (acQ node w1)
 rw[hn]at FI
 unfold vp at FI
 obtain⟨ao,cap,rfl,_,_⟩:=hb.shape
 clear pq hb hn h0 hn0
 go_enter Tryz.func176,Tryz.ntmps176
 go_wp2_with fail
 refine FI.out.mono ?_
 rintro E w2 ⟨rfl,az⟩
 have dm:=az.size
 have HB2:=hide ((az.block _ (aA HB.out)).trans HB.out)
 have aO:=ak.trans (az.mono (by omega))
 obtain⟨x,hx⟩:∃p,fst node=p:=⟨_,rfl⟩
 rw[hx]
 have HX:=hide hx
 clear hx
 obtain⟨w3,at7,hw3,bJ,aC,hP,e0,e1,e2,e3,e4,e5⟩:=wo w2 46 (.int .i64 0) (.int .u8 0) (.int .i64 0) (.int .u8 0) (.int .i64 0) (.int .i64 0) (.int .i64 x.e) (.int .u8 x.r) (.int .i64 x.a) (.int .u8 x.p) (.int .i64 x.f) (.int .i64 x.b)
 have B3:=(aC.block _ (aA HB2.out)).trans HB2.out
 have aW:=aO.trans (aC.mono (by omega))
 have hlt:=aA HB2.out
 have hlp:=aA hP
 obtain⟨vs,hsl,gy⟩:=(qp.out.below aW).iN Tryz.aiN Tryz.aia n hle
 have PR:=hide (aip vs w3 (by have:=gy;rw[H0.out,List.drop_nil]at this;exact this))
 have HH:=hide (And.intro B3 (And.intro hP aW))
 clear HB HB2 ak az aO aC B3 hP aW qp FI gy
 go_wp2
 go_loopw [9] (fun ee wr=>ee=.int .i64 n∧wr=w3) (fun _ _=>0)
 case atStart=>exact⟨by rw[HN.out];rfl,rfl⟩
 case round=>
  obtain⟨rfl,hwr⟩:=hrel
  subst hwr
  go_wp2_with fail
  refine PR.out.mono ?_
  rintro E w4 ⟨y,m,rfl,aL⟩
  obtain⟨B3,hP,aW⟩:=HH.out
  have R4:=(aL.block _ (by omega)).trans B3
  have L4:=(aL.block _ hlp).trans hP
  have di:=aW.trans (aL.mono aW.size)
  obtain⟨w5,awW,gM,lU,aQ,hP5,p0,p1,p2,p3,p4,p5⟩:=wo w4 46 (.int .i64 0) (.int .u8 0) (.int .i64 0) (.int .u8 0) (.int .i64 0) (.int .i64 0) (.int .i64 y.e) (.int .u8 y.r) (.int .i64 y.a) (.int .u8 y.p) (.int .i64 y.f) (.int .i64 y.b)
  have s4:=aL.size
  have R5:=(aQ.block _ (by omega)).trans R4
  have L5:=(aQ.block _ (by omega)).trans L4
  have adA:=di.trans (aQ.mono (by omega))
  obtain⟨V,hV,bV,gV,⟨a0,a1,a2,a3,a4,a5⟩,fr,⟨z0,z1,z2,z3,z4,z5⟩⟩:=fq R5 (.int .i64 x.e) (.int .u8 x.r) (.int .i64 x.a) (.int .u8 x.p) (.int .i64 x.f) (.int .i64 x.b)
  have f0:=fr 0;have f1:=fr 1;have f2:=fr 2;have f3:=fr 3;have f4:=fr 4;have f5:=fr 5
  obtain⟨l0,l1,l2,l3,l4,l5⟩:=aR L5
  have aX:=hide (aF adA gV (by omega) (by omega))
  clear B3 hP aW R4 L4 aL di aQ hP5 R5 L5 adA bV gV fr HH PR hsl e0 e1 e2 e3 e4 e5 hw3 at7
  go_wp2
  refine bodyPost_ret (v:=.tuple #[.agg #[.int .i64 x.e,.int .u8 x.r,.int .i64 x.a,.int .u8 x.p,.int .i64 x.f,.int .i64 x.b],.int .i64 n,.int .i64 0]) (by simp[results,Tryz.results176,go_sem,z0,z1,z2,z3,z4,z5]) rfl ?_
  exact⟨by rw[HN.out,HX.out];rfl,aX.out⟩
def Emp (st:Dm.Ds) (f:Nat):Prop:=qz st f=[]∧lN st f=0
theorem ain (q:Nat)(F:Nat→Prop)(w:World)(st:Dm.Ds)(h:Pk q F w st)(hs:Big 100000000 800000 st)(he:Emp st 0):
  Calls Tryz.prog 173 #[.pointer (some ⟨q,0,none⟩)] w fun E w'=>Below w.heap.size w w'∧∃p G,E=.returned (.tuple #[.pointer (some ⟨p,0,none⟩),.int .i64 0])∧Wk p q G w' [] false∧∀g,G g→w.heap.size≤g:=by
 have HR:=hide (mV q F w st 0 h (fun f=>Nat.le_trans (hs.1.1 f) (by decide)) (Nat.le_trans hs.1.2.1 (by decide)))
 have e1:qz st 0=[]:=he.1
 have e2:lN st 0=0:=he.2
 rw[e1,e2]at HR
 clear h hs he e1 e2
 go_enter Tryz.func173,Tryz.ntmps173
 go_wp2_with fail
 refine HR.out.mono ?_
 rintro E w1 ⟨v,rfl,own,aK⟩
 have HW:=hide (ahR v w1 own.is)
 obtain⟨a,c,hv,_,_⟩:=own.is.shape
 subst hv
 have aT:=aK.size
 clear own HR
 go_wp2_with fail
 refine HW.out.mono ?_
 rintro E w2 ⟨rfl,az⟩
 obtain⟨W,hW,szW,jN,bW⟩:=au w2 #[.pointer (some ⟨q,0,none⟩),.bool false,.slice none 0 0,.slice none 0 0] 196
 have dm:=az.size
 have hv:yn w2.heap.size q W [] false (.slice none 0 0) (.slice none 0 0) []:=⟨bW,Lw.nil _ _⟩
 have nT:Below w.heap.size w W:=(aK.trans (az.mono aK.size)).trans (jN.mono (by omega))
 have HLen:=hide (alm w2.heap.size q W [] false _ _ [] hv)
 have ge:∀g,(g=w2.heap.size∨LB (.slice none 0 0) (.slice none 0 0) ([]:List Cw) g)→w.heap.size≤g:=by
  rintro g (e|e|e|e)
  ·omega
  ·cases e
  ·cases e
  ·obtain⟨c,hc,_⟩:=e
   cases hc
 have HV:=hide (And.intro hv (And.intro nT ge))
 clear az jN bW hv HW ge nT aK
 go_wp2_with fail
 refine HLen.out.mono ?_
 rintro E w3 ⟨rfl,m,rfl⟩
 have W3:Hid (Below w.heap.size w (W.drewN m)∧Wk w2.heap.size q (fun g=>g=w2.heap.size∨LB (.slice none 0 0) (.slice none 0 0) ([]:List Cw) g) (W.drewN m) [] false):=hide ⟨below_drewN HV.out.2.1 m,Wk.below ⟨_,_,[],HV.out.1,rfl⟩ (below_drewN (Below.refl _ _) m)⟩
 clear HLen
 go_wp2
 go_ret2
 exact⟨W3.out.1,_,_,rfl,W3.out.2,HV.out.2.2⟩
theorem ah0 (q:Nat)(F:Nat→Prop)(w:World)(st:Dm.Ds)(h:Pk q F w st)(hs:Big 100000000 800000 st)(he:Emp st 2):
  Calls Tryz.prog 178 #[.pointer (some ⟨q,0,none⟩)] w fun E w'=>Below w.heap.size w w'∧∃p G,E=.returned (.tuple #[.pointer (some ⟨p,0,none⟩),.int .i64 0])∧Rk p q G w' [] false∧∀g,G g→w.heap.size≤g:=by
 have HR:=hide (mV q F w st 2 h (fun f=>Nat.le_trans (hs.1.1 f) (by decide)) (Nat.le_trans hs.1.2.1 (by decide)))
 have e1:qz st 2=[]:=he.1
 have e2:lN st 2=0:=he.2
 rw[e1,e2]at HR
 clear h hs he e1 e2
 go_enter Tryz.func178,Tryz.ntmps178
 go_wp2_with fail
 refine HR.out.mono ?_
 rintro E w1 ⟨v,rfl,own,aK⟩
 have HW:=hide (aik v [] w1 own.is rfl)
 obtain⟨a,c,hv,_,_⟩:=own.is.shape
 subst hv
 have aT:=aK.size
 clear own HR
 go_wp2_with fail
 refine HW.out.mono ?_
 rintro E w2 ⟨rfl,az⟩
 obtain⟨W,hW,szW,jN,bW⟩:=au w2 #[.pointer (some ⟨q,0,none⟩),.bool false,.slice none 0 0] 276
 have dm:=az.size
 have hv:RkV w2.heap.size q W [] false (.slice none 0 0) []:=⟨bW,Rq.nil _ _⟩
 have nT:Below w.heap.size w W:=(aK.trans (az.mono aK.size)).trans (jN.mono (by omega))
 have ge:∀g,(g=w2.heap.size∨QB (.slice none 0 0) ([]:List Cw) g)→w.heap.size≤g:=by
  rintro g (e|e|e)
  ·omega
  ·cases e
  ·obtain⟨c,hc,_⟩:=e
   cases hc
 have HV:=hide (And.intro hv (And.intro nT ge))
 clear az jN bW hv HW ge nT aK
 go_wp2
 go_ret2
 exact⟨HV.out.2.1,_,_,rfl,⟨_,[],HV.out.1,rfl⟩,HV.out.2.2⟩
theorem ad8 (P q:Nat)(F:Nat→Prop)(w:World)(st:Dm.Ds)(x:Pm.Pg)(vr vs:Value)(h:Pk q F w st)(hs:Big 100000000 800000 st)(he:Emp st 0)(hb:w.heap[P]? =some (.cells (dQ q false x (.pointer none) 0 vr vs) 137 (0,0)))(hP:¬F P):
  Calls Tryz.prog 100 #[.pointer (some ⟨P,0,none⟩)] w fun E w'=>E=.returned (.int .i64 0)∧Out (fun g=>g=P) w w'∧∃pw Gw,Wk pw q Gw w' [] false∧(∀g,Gw g→w.heap.size≤g)∧w'.heap[P]? =some (.cells (dQ q false x (.pointer (some ⟨pw,0,none⟩)) 0 vr vs) 137 (0,0)):=by
 have hpl:=aA hb
 have c0:w.cell? ⟨P,0,none⟩=some (.pointer (some ⟨q,0,none⟩)):=ai hb 0 rfl
 have WO:=hide (ain q F w st h hs he)
 have HB:=hide (And.intro hb h)
 clear h hs hb he
 go_enter Tryz.func100,Tryz.ntmps100
 go_wp2_with fail
 refine WO.out.mono ?_
 rintro E w1 ⟨b1,pw,Gw,rfl,hW,hG⟩
 clear WO
 have hb1:=(b1.block P hpl).trans HB.out.1
 have f8:=aB hb1 8
 have a8:w1.cell? ⟨P,8,none⟩=some (.pointer none):=ai hb1 8 rfl
 obtain⟨V1,V2,hV1,hV2,p1,p2,o1,o2⟩:=aqy hb1 (.pointer (some ⟨pw,0,none⟩)) 0
 have d8:V1.cell? ⟨P,8,none⟩=some (.pointer (some ⟨pw,0,none⟩)):=ai p1 8 rfl
 have d9:V1.cell? ⟨P,9,none⟩=some (.int .i64 0):=ai p1 9 rfl
 have f9:=aB p1 9
 have nG:∀g,Gw g→¬g=P:=fun g hg e=>by have:=hG g hg;omega
 have pk:Pk q F V1 st:=(HB.out.2.below b1).agree fun g hg=>o1.block g ((HB.out.2.below b1).lt g hg) fun e=>hP (e▸hg)
 have HN:=hide (anX pw q _ V1 ⟨st,[],false⟩ ⟨F,Gw,pk,hW.out o1 nG,rfl⟩)
 have R:=hide (show Out (fun g=>g=P) w V2∧∃pw Gw,Wk pw q Gw V2 [] false∧(∀g,Gw g→w.heap.size≤g)∧V2.heap[P]? =some (.cells (dQ q false x (.pointer (some ⟨pw,0,none⟩)) 0 vr vs) 137 (0,0))from⟨((Out.of_below (F:=fun g=>g=P) b1).trans o1 fun g hg=>.inl hg).trans o2 fun g hg=>.inl hg,pw,Gw,(hW.out o1 nG).out o2 nG,hG,p2⟩)
 clear hb1 pk p1 p2 o1 o2 HB hP hW hG nG b1
 go_wp2_with fail
 refine HN.out.mono ?_
 rintro E w2 ⟨rfl,rfl⟩
 clear HN
 go_wp2
 go_ret
 exact⟨rfl,R.out⟩
theorem acR (P q:Nat)(F:Nat→Prop)(w:World)(st:Dm.Ds)(x:Pm.Pg)(vw vs:Value)(en:Int)(h:Pk q F w st)(hs:Big 100000000 800000 st)(he:Emp st 2)(hb:w.heap[P]? =some (.cells (dQ q false x vw en (.pointer none) vs) 137 (0,0))):
  Calls Tryz.prog 103 #[.pointer (some ⟨P,0,none⟩)] w fun E w'=>E=.returned (.int .i64 0)∧Out (fun g=>g=P) w w'∧∃pr Gr,Rk pr q Gr w' [] false∧(∀g,Gr g→w.heap.size≤g)∧w'.heap[P]? =some (.cells (dQ q false x vw en (.pointer (some ⟨pr,0,none⟩)) vs) 137 (0,0)):=by
 have hpl:=aA hb
 have c0:w.cell? ⟨P,0,none⟩=some (.pointer (some ⟨q,0,none⟩)):=ai hb 0 rfl
 have WO:=hide (ah0 q F w st h hs he)
 have HB:=hide hb
 clear h hs hb he
 go_enter Tryz.func103,Tryz.ntmps103
 go_wp2_with fail
 refine WO.out.mono ?_
 rintro E w1 ⟨b1,pr,Gr,rfl,hW,hG⟩
 clear WO
 have hb1:=(b1.block P hpl).trans HB.out
 have f8:=aB hb1 11
 have a8:w1.cell? ⟨P,11,none⟩=some (.pointer none):=ai hb1 11 rfl
 obtain⟨V1,hV1,p1,o1⟩:=aqR hb1 (.pointer (some ⟨pr,0,none⟩))
 have nG:∀g,Gr g→¬g=P:=fun g hg e=>by have:=hG g hg;omega
 have R:=hide (show Out (fun g=>g=P) w V1∧∃pr Gr,Rk pr q Gr V1 [] false∧(∀g,Gr g→w.heap.size≤g)∧V1.heap[P]? =some (.cells (dQ q false x vw en (.pointer (some ⟨pr,0,none⟩)) vs) 137 (0,0))from⟨(Out.of_below (F:=fun g=>g=P) b1).trans o1 fun g hg=>.inl hg,pr,Gr,hW.out o1 nG,hG,p1⟩)
 clear hb1 p1 o1 HB hW hG nG b1
 go_wp2
 go_ret
 exact⟨rfl,R.out⟩
theorem zH (p:Nat)(w:World)(f n:Int):Calls Tryz.prog 177 #[.pointer (some ⟨p,0,none⟩),.int .i64 f,.int .i64 n,.int .i64 n] w fun E w'=>E=.returned (.int .i64 0)∧Below w.heap.size w w':=by
 obtain⟨w1,hw1,s1,b1,P1⟩:=au w #[.pointer (some ⟨p,0,none⟩)] 281
 obtain⟨w2,hw2,s2,b2,P2⟩:=au w1 #[.int .i64 f] 3
 obtain⟨w3,hw3,s3,b3,P3⟩:=au w2 #[.int .i64 n] 3
 have z2:w2.heap.size=w.heap.size+2:=by omega
 rw[z2]at P3
 have B:=hide (show Below w.heap.size w w3 from b1.trans ((b2.mono (by omega)).trans (b3.mono (by omega))))
 have c3n:w3.cell? ⟨w.heap.size+2,0,none⟩=some (.int .i64 n):=ai P3 0 rfl
 have hq:(n==n)=true:=by simp
 clear b1 b2 b3 P1 P2 P3
 go_enter Tryz.func177,Tryz.ntmps177
 go_wp2
 go_ret
 exact⟨rfl,B.out⟩
theorem abm (P q:Nat)(F:Nat→Prop)(w:World)(st:Dm.Ds)(x:Pm.Pg)(vw vr vs:Value)(en node:Int)(h:Pk q F w st)(hs:Big 100000000 800000 st)(he:Emp st 1)(hb:w.heap[P]? =some (.cells (dQ q false x vw en vr vs) 137 (0,0)))(hn:fse node=0):
  Calls Tryz.prog 102 #[.pointer (some ⟨P,0,none⟩),.int .i64 node] w fun E w'=>E=.returned (.int .i64 0)∧Out (fun g=>g=P) w w'∧w'.heap[P]? =some (.cells (dQ q false (fst node) vw en vr vs) 137 (0,0)):=by
 have hpl:=aA hb
 have c0:w.cell? ⟨P,0,none⟩=some (.pointer (some ⟨q,0,none⟩)):=ai hb 0 rfl
 have R1:=hide (mV q F w st 1 h (fun f=>Nat.le_trans (hs.1.1 f) (by decide)) (Nat.le_trans hs.1.2.1 (by decide)))
 have r1:qz st 1=[]:=he.1
 have r2:lN st 1=0:=he.2
 rw[r1,r2]at R1
 obtain⟨bs,hbs⟩:∃bs:List Int,bs=[]:=⟨_,rfl⟩
 rw[←hbs]at R1
 have qp:=hide hbs
 have HH:=hide (And.intro hb hn)
 clear h hs hb r1 r2 he hn hbs
 go_enter Tryz.func102,Tryz.ntmps102
 go_wp2_with fail
 refine R1.out.mono ?_
 rintro E w1 ⟨v,rfl,O1,B1⟩
 obtain⟨ao,cap,hv,_,_⟩:=O1.is.shape
 subst hv
 have LA:=hide (ali _ bs node w1 O1.is qp.out HH.out.2)
 unfold vp at LA
 have B1:=hide B1
 clear R1 O1
 go_wp2_with fail
 refine LA.out.mono ?_
 rintro E w2 ⟨rfl,B2⟩
 clear LA
 have hb:=HH.out.1
 have b12:=B1.out.trans (B2.mono B1.out.size)
 obtain⟨y,hy⟩:∃p,fst node=p:=⟨_,rfl⟩
 rw[hy]
 have HY:=hide hy
 clear hy
 obtain⟨V,hV,hV',sV,bV,PV,⟨z0,z1,z2,z3,z4,z5⟩⟩:=wo w2 46 (.int .i64 0) (.int .u8 0) (.int .i64 0) (.int .u8 0) (.int .i64 0) (.int .i64 0) (.int .i64 y.e) (.int .u8 y.r) (.int .i64 y.a) (.int .u8 y.p) (.int .i64 y.f) (.int .i64 y.b)
 have b0V:=b12.trans (bV.mono b12.size)
 have pV:=(b0V.block P hpl).trans hb
 obtain⟨_,_,q2,q3,q4,q5,q6,q7,_⟩:=mM pV
 obtain⟨Z,hZ,pZ,gZ,fr⟩:=ae4 pV y
 have f2:=fr 2;have f3:=fr 3;have f4:=fr 4;have f5:=fr 5;have f6:=fr 6;have f7:=fr 7
 have oZ:Out (fun g=>g=P) V Z:=Out.aP gZ fun i hi=>by simpa using hi.symm
 have TR:=hide (zH P Z 1 0)
 have R:Hid (∀w',Below Z.heap.size Z w'→Out (fun g=>g=P) w w'∧w'.heap[P]? =some (.cells (dQ q false y vw en vr vs) 137 (0,0))):=hide (by
  intro w' k
  exact⟨((Out.of_below (F:=fun g=>g=P) b0V).trans oZ fun g hg=>.inl hg).trans (Out.of_below (F:=fun g=>g=P) k) fun g hg=>.inl hg,(k.block P (aA pZ)).trans pZ⟩)
 have hl0:bs.length=0:=by rw[qp.out];rfl
 clear hb b12 bV PV b0V pV pZ gZ fr oZ HH B1 B2 sV
 rw[hl0]
 go_wp2_with fail
 refine TR.out.mono ?_
 rintro E w3 ⟨rfl,k⟩
 have RR:=hide (R.out w3 k)
 clear k R TR
 go_wp2
 go_ret
 exact⟨rfl,by rw[HY.out];exact RR.out⟩
theorem ac8 (P q:Nat)(F:Nat→Prop)(w:World)(st:Dm.Ds)(cs:Array Value)(h:Pk q F w st)(hs:Big 100000000 800000 st)(he:Emp st 3)(hb:w.heap[P]? =some (.cells cs 137 (0,0)))(hc:cs[0]? =some (.pointer (some ⟨q,0,none⟩))):
  Calls Tryz.prog 104 #[.pointer (some ⟨P,0,none⟩)] w fun E w'=>E=.returned (.int .i64 0)∧Below w.heap.size w w':=by
 have c0:w.cell? ⟨P,0,none⟩=some (.pointer (some ⟨q,0,none⟩)):=ai hb 0 hc
 have R1:=hide (mV q F w st 3 h (fun f=>Nat.le_trans (hs.1.1 f) (by decide)) (Nat.le_trans hs.1.2.1 (by decide)))
 have r1:qz st 3=[]:=he.1
 have r2:lN st 3=0:=he.2
 rw[r1,r2]at R1
 obtain⟨bs,hbs⟩:∃bs:List Int,bs=[]:=⟨_,rfl⟩
 rw[←hbs]at R1
 have HL0:Hid (bs.length=0):=hide (by rw[hbs];rfl)
 have hl:bs.length≤1000:=by rw[HL0.out];decide
 clear h hs hb r1 r2 he hbs
 go_enter Tryz.func104,Tryz.ntmps104
 go_wp2_with fail
 refine R1.out.mono ?_
 rintro E w1 ⟨v,rfl,O1,B1⟩
 obtain⟨ao,cap,hv,_,_⟩:=O1.is.shape
 subst hv
 have SC:=hide (aaH _ _ w1 O1.is (List.eq_nil_of_length_eq_zero HL0.out))
 have B1:=hide B1
 clear R1 O1
 go_wp2_with fail
 refine SC.out.mono ?_
 rintro E w2 ⟨rfl,B2⟩
 clear SC
 have b12:=B1.out.trans (B2.mono B1.out.size)
 have TR:=hide (zH P w2 3 0)
 have c2:w2.cell? ⟨P,0,none⟩=some (.pointer (some ⟨q,0,none⟩)):=by
  rw[←c0]
  have hP:P<w.heap.size:=by
   rcases Nat.lt_or_ge P w.heap.size with k|k
   ·exact k
   ·rw[World.cell?,Array.getElem?_eq_none k]at c0;cases c0
  have:=b12.block P hP
  simp[World.cell?,this]
 have B:=hide b12
 clear B1 B2 b12
 rw[HL0.out]
 go_wp2_with fail
 refine TR.out.mono ?_
 rintro E w3 ⟨rfl,k⟩
 have RR:=hide (B.out.trans (k.mono B.out.size))
 clear k TR
 go_wp2
 go_ret
 exact⟨rfl,RR.out⟩
theorem rQ.own {q n0 P:Nat}{F Fk:Nat→Prop}{w w5 W W':World}{d:Dm.Ds}(h:rQ q F w w5 W n0 P Fk d)(h0:¬F 0)(hp:0<w.heap.size)(hP:w.heap.size≤P)(hn:n0<P)(o:Out (fun g=>g=P) W W'):rQ q F w w5 W' n0 P Fk d:=
 h.step h0 hp hP hn (h.pK.agree fun g hg=>o.block g (h.pK.lt g hg) fun e=>(h.nb P (.inr (.inl rfl))).1 (e▸hg)) (o.mono fun g hg=>.inl (.inr hg)) fun g hg=>.inl hg
theorem alG (q:Nat)(F F2:Nat→Prop)(w w5:World)(n0 P:Nat)(node:Int)(I5:rQ q F w w5 w5 n0 P F2 Dm.new)(h0:¬F 0)(hp:0<w.heap.size)(hP:w.heap.size≤P)(hn:n0<P)(hn0:w5.heap[n0]? =some (.cells #[.int .i64 node] 3 (0,0)))(hP1:w5.heap[P+1]? =some (.cells #[.pointer (some ⟨P,0,none⟩)] 41 (0,0)))(hPb:w5.heap[P]? =some (.cells (dQ q false Pm.no (.pointer none) 0 (.pointer none) (.pointer none)) 137 (0,0)))(apD:node=0∨node=1):
  Run (P+2) (fun e W=>W.heap[P+1]? =w5.heap[P+1]?∧e=0∧∃F',(Pk q F' W Dm.new∧Out F w W∧∀g,F' g→F g∨w.heap.size≤g)∧∃G,PO P q G W ⟨Dm.new,fst node,[],[],false⟩∧∀g,G g→w.heap.size≤g∧¬F' g) [.func (.func 98) #[] #[.pointer (some ⟨n0,0,none⟩)],.func (.func 100) #[.pointer (some ⟨P,0,none⟩)] #[],.func (.func 101) #[] #[.pointer (some ⟨P+1,0,none⟩),.pointer (some ⟨n0,0,none⟩)],.func (.func 103) #[.pointer (some ⟨P,0,none⟩)] #[],.func (.func 104) #[.pointer (some ⟨P,0,none⟩)] #[],.func (.func 105) #[] #[.pointer (some ⟨P+1,0,none⟩)],.func (.func 108) #[.pointer (some ⟨P,0,none⟩)] #[]] w5:=by
 obtain⟨oky,fe⟩:=asq apD
 have hB:Big 100000000 800000 Dm.new:=oI.mono (by omega) (by omega)
 have nP:P=n0∨P=P∨P=P+1∨P=P+2:=.inr (.inl rfl)
 have l2:∀{W Fk d},rQ q F w w5 W n0 P Fk d→P+2<W.heap.size∧¬(P+2=P):=fun h=>⟨(h.nb _ (.inr (.inr (.inr rfl)))).2,by omega⟩
 have hsn:Rst.snd (fst node) [] (Cm.lastN 0 []) 0=true:=by rcases apD with rfl|rfl<;>decide
 refine Run.cons (enters_of Tryz.func98 (by kernel_rfl) rfl) (by simp) ((ak5 n0 node w5 (ai hn0 0 rfl)).mono ?_)
 rintro E W1 ⟨rfl,b1⟩
 refine⟨_,rfl,b1.block _ (l2 I5).1,.inr ⟨fe,?_⟩⟩
 have I1:=I5.below h0 hp hP hn b1
 have p1:=(b1.block P (I5.nb P nP).2).trans hPb
 refine Run.cons (enters_of Tryz.func100 (by kernel_rfl) rfl) (by simp) ((ad8 P q F2 W1 Dm.new Pm.no _ _ I1.pK hB ⟨rfl,rfl⟩ p1 (I1.nb P nP).1).mono ?_)
 rintro E W2 ⟨rfl,o1,pw,Gw,hW,hGw,p2⟩
 have I2:=I1.own h0 hp hP hn o1
 refine⟨_,rfl,o1.block _ (l2 I1).1 (l2 I1).2,.inr ⟨rfl,?_⟩⟩
 refine Run.cons (enters_of Tryz.func101 (by kernel_rfl) rfl) (by simp) ((alo (P+1) n0 P node 0 W2 (fun e w'=>e=0∧Out (fun g=>g=P) W2 w'∧w'.heap[P]? =some (.cells (dQ q false (fst node) (.pointer (some ⟨pw,0,none⟩)) 0 (.pointer none) (.pointer none)) 137 (0,0))) (ai ((I2.keep _ (.inr (.inl rfl))).trans hP1) 0 rfl) (ai ((I2.keep _ (.inl rfl)).trans hn0) 0 rfl) ((abm P q F2 W2 Dm.new Pm.no _ _ _ _ node I2.pK hB ⟨rfl,rfl⟩ p2 fe).mono ?_)).mono ?_)
 ·rintro E w' ⟨rfl,k⟩
  exact⟨_,rfl,rfl,k⟩
 rintro E W3 ⟨_,rfl,rfl,o2,p3⟩
 have I3:=I2.own h0 hp hP hn o2
 have nw:∀g,Gw g→¬g=P:=fun g hg e=>by have:=hGw g hg;have:=(I1.nb P nP).2;omega
 have hW3:=hW.out o2 nw
 refine⟨_,rfl,o2.block _ (l2 I2).1 (l2 I2).2,.inr ⟨rfl,?_⟩⟩
 refine Run.cons (enters_of Tryz.func103 (by kernel_rfl) rfl) (by simp) ((acR P q F2 W3 Dm.new _ _ _ _ I3.pK hB ⟨rfl,rfl⟩ p3).mono ?_)
 rintro E W4 ⟨rfl,o3,pr,Gr,hR,hGr,p4⟩
 have I4:=I3.own h0 hp hP hn o3
 have hW4:=hW3.out o3 nw
 have z1:=o1.size
 have z2:=o2.size
 have z3:=o3.size
 refine⟨_,rfl,o3.block _ (l2 I3).1 (l2 I3).2,.inr ⟨rfl,?_⟩⟩
 refine Run.cons (enters_of Tryz.func104 (by kernel_rfl) rfl) (by simp) ((ac8 P q F2 W4 Dm.new _ I4.pK hB ⟨rfl,rfl⟩ p4 rfl).mono ?_)
 rintro E W5 ⟨rfl,b5⟩
 have I6:=I4.below h0 hp hP hn b5
 have p5:=(b5.block P (I4.nb P nP).2).trans p4
 refine⟨_,rfl,b5.block _ (l2 I4).1,.inr ⟨rfl,?_⟩⟩
 have SE:=avt P q F2 W5 Dm.new [] I6.pK (oI.mono (by omega) (by omega)) (ai p5 0 rfl) (aA p5) rfl rfl rfl
 refine Run.cons (enters_of Tryz.func105 (by kernel_rfl) rfl) (by simp) ((ajn (P+1) P q pw pr _ _ W5 _ (fst node) _ _ _ ⟨Dm.new,[],false⟩ ⟨Dm.new,[],false⟩ (ai ((I6.keep _ (.inr (.inl rfl))).trans hP1) 0 rfl) p5 ⟨F2,Gw,I6.pK,hW4.below b5,rfl⟩ ⟨F2,Gr,I6.pK,hR.below b5,rfl⟩ SE).mono ?_)
 rintro E W6 ⟨rfl,b6⟩
 have hc:uw (fst node) (Cm.lastE 0 []) 0 (Cm.lastN 0 []) 0=true:=(abn oky [] _ _).trans hsn
 have hc:(if uw (fst node) (Cm.lastE 0 []) 0 (Cm.lastN 0 []) ((Orp.secs []).length:Int)=true then(0:Int)else 5)=0:=if_pos hc
 have I7:=I6.below h0 hp hP hn b6
 refine⟨_,rfl,b6.block _ (l2 I6).1,.inr ⟨hc,?_⟩⟩
 have hW6:=(hW4.below b5).below b6
 have zK:=(hR.below b5).below b6
 refine Run.cons (enters_of Tryz.func108 (by kernel_rfl) rfl) (by simp) ((acU P q pw pr F2 Gw Gr W6 false (fst node) _ Dm.new [] [] ((b6.block P (aA p5)).trans p5) ⟨_,rfl⟩ I7.pK hW6 zK (by decide) (by decide)).mono ?_)
 rintro E W7 ⟨rfl,ps,Gs,hS7,hGs,p7,o7⟩
 have I8:=I7.own h0 hp hP hn o7
 have s1:=I1.out.size
 have lP:=(I1.nb P nP).2
 have z5:=b5.size
 have z6:=b6.size
 have a1:=hW.lt
 have a2:=hR.lt
 have gw:∀g,Gw g→W1.heap.size≤g∧g<W2.heap.size:=fun g hg=>⟨hGw g hg,a1 g hg⟩
 have gr:∀g,Gr g→W3.heap.size≤g∧g<W4.heap.size:=fun g hg=>⟨hGr g hg,a2 g hg⟩
 refine⟨_,rfl,o7.block _ (l2 I7).1 (l2 I7).2,.inr ⟨rfl,I8.keep _ (.inr (.inl rfl)),rfl,F2,⟨I8.pK,I8.out,I8.far⟩,PB P Gw Gr Gs,⟨pw,pr,ps,Gw,Gr,Gs,[],false,false,⟨p7,hW6.out o7 nw,zK.out o7 fun g hg e=>by have:=gr g hg;omega,hS7,rfl,fun _=>⟨rfl,rfl,rfl⟩,oky,aaO oky,trivial,show(0:Int)≤0 from Int.le_refl _,⟨fun e=>nw P e rfl,fun e=>by have:=gr P e;omega,fun e=>by have:=hGs P e;omega⟩,fun g hg e=>by have:=gw g hg;have:=gr g e;omega,fun g hg e=>by have:=gw g hg;have:=hGs g e;omega,fun g hg e=>by have:=gr g hg;have:=hGs g e;omega⟩,rfl⟩,?_⟩⟩
 rintro g (rfl|e|e|e)
 ·exact⟨hP,(I8.nb g nP).1⟩
 ·exact⟨by have:=gw g e;omega,wW hW6 I7.pK g e⟩
 ·exact⟨by have:=gr g e;omega,apA zK I7.pK g e⟩
 ·exact⟨by have:=hGs g e;omega,fun k=>by have:=hGs g e;have:=I7.pK.lt g k;omega⟩
theorem ahp (q:Nat)(F:Nat→Prop)(w:World)(h:Pk q F w Dm.new)(hm:fC w)(h0:¬F 0)(node:Int)(hn:node=0∨node=1):
  Calls Tryz.prog 55 #[.pointer (some ⟨q,0,none⟩),.int .i64 node] w fun E w'=>∃p F',E=.returned (.tuple #[.pointer (some ⟨p,0,none⟩),.int .i64 0])∧PS p q F' w' ⟨Dm.new,fst node,[],[],false⟩∧(∀g,F' g→F g∨w.heap.size≤g)∧Out F w w':=by
 refine(aoH q F w Dm.new node h hm h0 (oI.mono (by omega) (by omega)) (fun P e W=>e=0∧∃F',(Pk q F' W Dm.new∧Out F w W∧∀g,F' g→F g∨w.heap.size≤g)∧∃G,PO P q G W ⟨Dm.new,fst node,[],[],false⟩∧∀g,G g→w.heap.size≤g∧¬F' g) ?_).mono ?_
 ·intro F2 w5 n0 P e1 I5 hP hn0 c1 c2 c3
  exact alG q F F2 w w5 n0 P node I5 h0 hm.pos hP hn0 c1 c2 c3 hn
 ·rintro E w' ⟨P,e,HX,hE⟩
  obtain⟨rfl,F',⟨k1,k2,k3⟩,G,k4,k5⟩:=HX.out
  rcases hE with⟨c1,_⟩|⟨_,rfl⟩
  ·exact absurd rfl c1
  ·refine⟨P,_,rfl,⟨F',G,k1,k4,fun g hg=>(k5 g hg).2,gz hm k2 h0,rfl⟩,fun g hg=>?_,k2⟩
   rcases hg with hg|hg
   ·exact k3 g hg
   ·exact .inr (k5 g hg).1
theorem akv {n q p:Nat}{w:World}{u t a:Int}{cs:List Value}(hl:cs.length=11)(hb:w.heap[n]? =some (.cells (.int .i64 u::.int .i64 t::.pointer (some ⟨q,0,none⟩)::cs).toArray 86 (0,0))):
  ∃V,sets n w 3 (kG p a)=V∧V.heap[n]? =some (.cells (.int .i64 u::.int .i64 t::.pointer (some ⟨q,0,none⟩)::kG p a).toArray 86 (0,0))∧w.grownBy V (some n):=by
 obtain⟨k1,k2⟩:=yU n 86 (kG p a) w 3 _ hb (by simp[kG,hl])
 refine⟨_,rfl,?_,k2⟩
 rw[k1]
 simp[kG,hl]
def Ns.one (u t:Int) (s:Rst.St):Ns:=⟨u,t,s.p.a,-1,fD,s⟩
theorem ahv (n p q:Nat)(F:Nat→Prop)(w:World)(x:Ns)(h:Nd n p q F w x)(hR:iV x.s)(h3:T3 x.s.d)(h0:¬F 0)(y:Pm.Pg)(hy:gF y)(hok:(Rst.bB x.s y).1=0)(hR2:iV (Rst.bB x.s y).2):
  Calls Tryz.prog 84 #[.pointer (some ⟨n,0,none⟩),vp y] w fun E w'=>E=.returned (.int .i64 0)∧dA n p q F w w' (Ns.one x.u x.t (Rst.bB x.s y).2):=by
 obtain⟨w1,hw1,s1,b1,P1⟩:=au w (cp y) 46
 unfold cp at hw1 P1
 have h1:=h.below b1
 obtain⟨c0,c1,c2,c3,c4,c5⟩:=h1.cs
 obtain⟨g0,g1,g2,g3,g4,g5⟩:=aR P1
 have ST:Hid (Calls Tryz.prog 57 #[.pointer (some ⟨p,0,none⟩),.agg #[.int .i64 y.e,.int .u8 y.r,.int .i64 y.a,.int .u8 y.p,.int .i64 y.f,.int .i64 y.b]] w1.drew fun E w'=>E=.returned (.int .i64 0)∧dA n p q F w w' ⟨x.u,x.t,x.a,x.k,x.m,(Rst.bB x.s y).2⟩∧w'.heap[w.heap.size]? =w1.heap[w.heap.size]?):=hide (by
  have h2:=h1.below (Below.refl _ _).drew
  refine(anW p q F w1.drew x.s h2.st hR ⟨h3,h0⟩ y hy).mono ?_
  rintro E w' ⟨rfl,k⟩
  rw[hok]
  obtain⟨F',k1,k2,k3⟩:=k
  exact⟨rfl,(h2.step ⟨F',k1,k2,k3⟩).ahead b1.drew,k2.block w.heap.size (by show _<w1.heap.size;omega) fun e=>by have:=h.st.lt _ e;omega⟩)
 have n0:=h.n0
 rw[show vp y=.agg #[.int .i64 y.e,.int .u8 y.r,.int .i64 y.a,.int .u8 y.p,.int .i64 y.f,.int .i64 y.b]from rfl]
 have HH:=hide (And.intro hR2 n0)
 have P1:=hide P1
 generalize (Rst.bB x.s y).2=s' at*
 clear h h1 hR h3 h0 hy hok b1 hR2 n0 c0 c1 c2 c4 c5 s1
 go_enter Tryz.func84,Tryz.ntmps84
 go_wp2_with fail
 go_region_held3 (fun w'=>w'.cell? ⟨n,3,none⟩=some (.pointer (some ⟨p,0,none⟩))∧w'.cell? ⟨w.heap.size,0,none⟩=some (.int .i64 y.e)∧w'.cell? ⟨w.heap.size,1,none⟩=some (.int .u8 y.r)∧w'.cell? ⟨w.heap.size,2,none⟩=some (.int .i64 y.a)∧w'.cell? ⟨w.heap.size,3,none⟩=some (.int .u8 y.p)∧w'.cell? ⟨w.heap.size,4,none⟩=some (.int .i64 y.f)∧w'.cell? ⟨w.heap.size,5,none⟩=some (.int .i64 y.b)) (first|exact⟨c3,g0,g1,g2,g3,g4,g5⟩|exact⟨N2.cs.c3,e2.c0,e2.c1,e2.c2,e2.c3,e2.c4,e2.c5⟩|go_keep)
  (first|(go_at_call 57;refine ST.out.mono ?_;rintro E w2 ⟨rfl,⟨F2,N2,o2,f2⟩,e2⟩;have e2:=aR (e2.trans P1.out)))
 clear ST P1
 have c3:=N2.cs.c3
 have FI:=hide (aat p q F2 w2 s' N2.st HH.out.1)
 have X2:=hide (And.intro N2 (And.intro o2 f2))
 clear e2 N2 o2 f2 g0 g1 g2 g3 g4 g5
 go_wp2_with fail
 refine FI.out.mono ?_
 rintro E w3 ⟨rfl,b3⟩
 obtain⟨N2,o2,f2⟩:=X2.out
 have N3:=N2.below b3
 obtain⟨V,hV,bV,gV⟩:=akv (p:=p) (a:=s'.p.a) (cs:=[.pointer (some ⟨p,0,none⟩),.int .i64 x.a,.int .i64 x.k,.int .i64 x.m.k,.int .i64 x.m.e,.int .u8 x.m.r,.int .i64 x.m.n,x.m.vs,.int .i64 x.m.f,.int .i64 x.m.p,x.m.vc]) rfl N3.blk
 have KV:=hide (N3.put (y:=Ns.one x.u x.t s') HH.out.2 gV bV rfl)
 have RR:Hid (dA n p q F w V (Ns.one x.u x.t s')):=hide (dA.join o2 f2 (KV.out.ahead b3))
 simp only[sets,kG,Nat.reduceAdd]at hV
 unfold kG
 have f:=aB N3.blk
 have f3:=f 3;have f4:=f 4;have f5:=f 5;have f6:=f 6;have f7:=f 7;have f8:=f 8;have f9:=f 9;have f10:=f 10;have f11:=f 11;have f12:=f 12;have f13:=f 13
 have c:=fun j v (e:_[j]? =some v)=>ai N3.blk j e
 have c3:=c 3 _ rfl;have c4:=c 4 _ rfl;have c5:=c 5 _ rfl;have c6:=c 6 _ rfl;have c7:=c 7 _ rfl;have c8:=c 8 _ rfl;have c9:=c 9 _ rfl;have c10:=c 10 _ rfl;have c11:=c 11 _ rfl;have c12:=c 12 _ rfl;have c13:=c 13 _ rfl
 clear FI X2 N2 o2 f2 N3 bV gV f c b3 HH KV
 go_wp2
 go_ret
 exact⟨rfl,RR.out⟩
theorem alb (n q:Nat)(w:World)(h2:w.cell? ⟨n,2,none⟩=some (.pointer (some ⟨q,0,none⟩)))(h3:w.cell? ⟨n,3,none⟩=some (.pointer none)):
  Calls Tryz.prog 88 #[.pointer (some ⟨n,0,none⟩)] w fun E w'=>E=.returned (.int .i64 7)∧w=w':=by
 go_enter Tryz.func88,Tryz.ntmps88
 go_wp2
 go_ret
 exact⟨rfl,rfl⟩
def jI (u:Int):Rst.St:=⟨Dm.new,fst u,[],[],false⟩
theorem abX (u:Int):iV (jI u):=⟨oI.mono (by omega) (by omega),by simp[jI]⟩
def mem1:List Value:=[.pointer none,.int .i64 0,.int .i64 0,.int .i64 0,.int .i64 0,.int .u8 0,.int .i64 0,.slice none 0 0,.int .i64 0,.int .i64 0,.slice none 0 0]
theorem ahn (n q:Nat)(F:Nat→Prop)(w:World)(u t:Int)(hb:w.heap[n]? =some (.cells (.int .i64 u::.int .i64 t::.pointer (some ⟨q,0,none⟩)::mem1).toArray 86 (0,0)))(h:Pk q F w Dm.new)(hm:fC w)(h0:¬F 0)(hn:¬F n)(hu:u=0∨u=1):
  Calls Tryz.prog 37 #[.pointer (some ⟨n,0,none⟩)] w fun E w'=>E=.returned (.int .i64 0)∧∃p,dA n p q F w w' (Ns.one u t (jI u)):=by
 have c0:w.cell? ⟨n,0,none⟩=some (.int .i64 u):=ai hb 0 rfl
 have c2:w.cell? ⟨n,2,none⟩=some (.pointer (some ⟨q,0,none⟩)):=ai hb 2 rfl
 have c3:w.cell? ⟨n,3,none⟩=some (.pointer none):=ai hb 3 rfl
 have RF:=hide (alb n q w c2 c3)
 have n0:n≠0:=fun e=>by
  have a:=hm.c2
  rw[e,a]at c2
  cases c2
 have hd:Below w.heap.size w w.drew:=(Below.refl _ _).drew
 have OP:Hid (Calls Tryz.prog 55 #[.pointer (some ⟨q,0,none⟩),.int .i64 u] w.drew fun E w'=>∃p F',E=.returned (.tuple #[.pointer (some ⟨p,0,none⟩),.int .i64 0])∧Hid (PS p q F' w' (jI u)∧(∀g,F' g→F g∨w.heap.size≤g)∧Out F w w')∧w'.heap[n]? =some (.cells (.int .i64 u::.int .i64 t::.pointer (some ⟨q,0,none⟩)::mem1).toArray 86 (0,0))):=hide (by
  refine(ahp q F w.drew (h.below hd) (hm.below hd) h0 u hu).mono ?_
  rintro E w' ⟨p,F',rfl,k1,k2,k3⟩
  exact⟨p,F',rfl,hide ⟨k1,k2,⟨k3.os,k3.tape,k3.output,k3.size,k3.block⟩⟩,(k3.block n (aA hb) hn).trans hb⟩)
 have HB:=hide (And.intro hb (And.intro hn n0))
 clear h hm h0 hu hd
 go_enter Tryz.func37,Tryz.ntmps37
 go_wp2_with fail
 refine RF.out.mono ?_
 rintro E w1 ⟨rfl,rfl⟩
 clear RF hb hn n0
 go_wp2_with fail
 go_region_held3 (fun w'=>w'.cell? ⟨n,0,none⟩=some (.int .i64 u)∧w'.cell? ⟨n,2,none⟩=some (.pointer (some ⟨q,0,none⟩))) (first|exact⟨c0,c2⟩|exact⟨ai p2 0 rfl,ai p2 2 rfl⟩|go_keep)
  (first|(go_at_call 55;refine OP.out.mono ?_;rintro E w2 ⟨p,F2,rfl,K2,p2⟩))
 clear OP
 have FI:=hide (aat p q F2 w2 (jI u) K2.out.1 (abX u))
 go_wp2_with fail
 refine FI.out.mono ?_
 rintro E w3 ⟨rfl,b3⟩
 obtain⟨k1,k2,k3⟩:=K2.out
 obtain⟨hb,hn,n0⟩:=HB.out
 have p3:=(b3.block n (aA p2)).trans p2
 obtain⟨a,ha⟩:∃a,(jI u).p.a=a:=⟨_,rfl⟩
 rw[ha]
 obtain⟨V,hV,bV,gV⟩:=akv (p:=p) (a:=a) rfl p3
 have RR:Hid (∃p,dA n p q F w V (Ns.one u t (jI u))):=hide (by
  have hlt:=aA hb
  have nf:¬F2 n:=fun e=>by
   rcases k2 n e with e|e
   ·exact hn e
   ·omega
  have oo:Out (fun g=>g=n) w3 V:=Out.aP gV fun g e=>(Option.some.inj e).symm
  have k3':=k1.below b3
  refine⟨p,F2,⟨?_,k3'.agree (fun i e=>oo.block i (k3'.lt i e) fun c=>nf (c▸e)) oo.size (gz k3'.gu oo fun e=>n0 e.symm),nf⟩,?_,k2⟩
  ·rw[bV,←ha]
   rfl
  ·exact((k3.mono (G:=fun g=>F g∨g=n) fun g e=>.inl (.inl e)).trans (Out.of_below b3 (F:=fun g=>g=n)) fun g e=>.inl (.inr e)).trans oo fun g e=>.inl (.inr e))
 simp only[sets,kG,Nat.reduceAdd]at hV
 unfold kG
 have f:=aB p3
 have f3:=f 3;have f4:=f 4;have f5:=f 5;have f6:=f 6;have f7:=f 7;have f8:=f 8;have f9:=f 9;have f10:=f 10;have f11:=f 11;have f12:=f 12;have f13:=f 13
 have c:=fun j v (e:_[j]? =some v)=>ai p3 j e
 have e3:=c 3 _ rfl;have e4:=c 4 _ rfl;have e5:=c 5 _ rfl;have e6:=c 6 _ rfl;have e7:=c 7 _ rfl;have e8:=c 8 _ rfl;have e9:=c 9 _ rfl;have e10:=c 10 _ rfl;have e11:=c 11 _ rfl;have e12:=c 12 _ rfl;have e13:=c 13 _ rfl
 clear FI K2 k1 k2 k3 hb hn n0 HB p2 p3 bV gV f c b3 ha c0 c2 c3
 go_wp2
 go_ret
 exact⟨rfl,RR.out⟩
theorem tV (q:Nat)(w:World)(h:Pk q (fun g=>g=q) w Dm.new):Calls Tryz.prog 70 #[.pointer (some ⟨q,0,none⟩),.int .i64 0,.slice none 0 0] w fun E w'=>E=.returned (.int .i64 0)∧bT q (fun g=>g=q) w w' Dm.new:=
 qL q _ w Dm.new 0 (.slice none 0 0) [] h (Is.nil _ _) (fun e=>absurd e (by simp)) (by simp) (by decide) (by decide) (by decide)
theorem anR (u t:Int)(hu:u=0∨u=1)(ht:1≤t∧t≤16)(q:Nat)(w:World)(h:Pk q (fun g=>g=q) w Dm.new)(hm:fC w)(hq:q≠0):
  Calls Tryz.prog 26 #[.int .i64 u,.int .i64 t,.pointer (some ⟨q,0,none⟩)] w fun E w'=>∃n p F,E=.returned (.tuple #[.pointer (some ⟨n,0,none⟩),.int .i64 0])∧Hid (Nd n p q F w' (Ns.one u t (jI u))∧(∀g,F g∨g=n→g=q∨w.heap.size≤g)∧Out (fun g=>g=q) w w'):=by
 have WR:=hide (tV q w h)
 have CK:=hide (fun W=>jf t W)
 have ck:bg.ck t=0:=by unfold bg.ck;rw[if_pos ht]
 rw[ck]at CK
 have HM:=hide (And.intro hm hq)
 have HU:=hide hu
 have hn2:((u !=0)&&(u !=1))=false:=by rcases hu with rfl|rfl<;>rfl
 clear h hm hq ht ck
 have X:Hid (∀w1,Out (fun g=>g=q) w w1→∀F1,Pk q F1 w1 Dm.new→(∀g,F1 g→g=q∨w.heap.size≤g)→∃V,w1.alloc (.cells #[.int .i64 u,.int .i64 t,.pointer (some ⟨q,0,none⟩),.pointer none,.int .i64 0,.int .i64 0,.int .i64 0,.int .i64 0,.int .u8 0,.int .i64 0,.slice none 0 0,.int .i64 0,.int .i64 0,.slice none 0 0] 86)=V∧Hid (Calls Tryz.prog 37 #[.pointer (some ⟨w1.heap.size,0,none⟩)] V fun E w'=>E=.returned (.int .i64 0)∧∃p F,Hid (Nd w1.heap.size p q F w' (Ns.one u t (jI u))∧(∀g,F g∨g=w1.heap.size→g=q∨w.heap.size≤g)∧Out (fun g=>g=q) w w'))):=hide fun w1 o1 F1 k1 f1=>by
  obtain⟨V,hV,sV,bV,PV⟩:=au w1 #[.int .i64 u,.int .i64 t,.pointer (some ⟨q,0,none⟩),.pointer none,.int .i64 0,.int .i64 0,.int .i64 0,.int .i64 0,.int .u8 0,.int .i64 0,.slice none 0 0,.int .i64 0,.int .i64 0,.slice none 0 0] 86
  have z1:=o1.size
  have hm1:=gz HM.out.1 o1 fun e=>HM.out.2 e.symm
  have p0:=HM.out.1.pos
  refine⟨V,hV,hide ((ahn w1.heap.size q F1 V u t PV (k1.below bV) (hm1.below bV) (fun e=>?_) (fun e=>?_) HU.out).mono ?_)⟩
  ·rcases f1 0 e with e|e
   ·exact HM.out.2 e.symm
   ·omega
  ·have:=k1.lt _ e;omega
  ·rintro E w' ⟨rfl,p,F,N,o2,f2⟩
   refine⟨rfl,p,F,hide ⟨N,?_,(o1.trans (Out.of_below bV (F:=fun g=>g=q)) fun g e=>.inl e).trans o2 ?_⟩⟩
   ·rintro g (e|e)
    ·rcases f2 g e with e|e
     ·exact f1 g e
     ·exact .inr (by omega)
    ·exact .inr (by omega)
   ·rintro g (e|e)
    ·exact f1 g e
    ·exact .inr (by omega)
 clear HM
 go_enter Tryz.func26,Tryz.ntmps26
 go_wp2_with fail
 refine WR.out.mono ?_
 rintro E w1 ⟨rfl,F1,k1,o1,f1⟩
 obtain⟨V,hV,OP⟩:=X.out w1 o1 F1 k1 f1
 clear WR X k1 o1 f1
 rcases HU.out with rfl|rfl
 all_goals
  go_wp2_with fail
  refine(CK.out _).mono ?_
  rintro E w2 ⟨rfl,rfl⟩
  clear CK
  go_wp2_with fail
  refine OP.out.mono ?_
  rintro E w3 ⟨rfl,p,F,X3⟩
  clear OP
  go_wp2
  go_ret2
  exact⟨_,p,F,rfl,X3⟩
end Go.Proofs.YtlmkaljjocflmaaGreatDoor
