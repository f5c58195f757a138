/- Proved: what was answered OK is there again after any power cut. Its condition: the start, in which the variable page.most holds what its text lays (a card). -/
import Derived.Test.YtpifdeoepppadaaGreatDoorH32
import Derived.Test.YtpifdeoepppadaaGreatDoorH26
import Derived.Test.YtpifdeoepppadaaGreatDoorH24
import Derived.Test.YtpifdeoepppadaaGreatDoorZPj
import Derived.Test.YtpifdeoepppadaaGreatDoorH27
import Derived.Deep.CutRange
import Derived.Deep.CutBlock
import Derived.Test.YtpifdeoepppadaaGreatDoorCards
import Derived.Test.YtpifdeoepppadaaGreatDoorTie
import Derived.Deep.DeepHandedRow
import Derived.Lib.LaidTab
import Derived.Shelf.LaysM
import Derived.Test.YtpifdeoepppadaaGreatDoorRows
import Derived.ProofKit
import Derived.OpenShut
import Derived.ShutString
import Derived.ChangeOld
import Derived.Below
import Derived.SizedLaws
set_option maxRecDepth 100000
set_option maxHeartbeats 8000000
namespace Go.Proofs.YtpifdeoepppadaaGreatDoor
open Go.RowKit
set_option linter.unusedVariables false
theorem anU {x:Int}(h:In64 x):I64 x:=⟨h.1,by have:=h.2;omega⟩
theorem azK (w:World)(t:TypeId)(x0 x1 x2 x3 x4 x5 x6 x7 x8 x9 x10 x11 x12 y0 y1 y2 y3 y4 y5 y6 y7 y8 y9 y10 y11 y12:Value):
  ∃V,(((((((((((((w.alloc (.cells #[y0,y1,y2,y3,y4,y5,y6,y7,y8,y9,y10,y11,y12] t)).setCell ⟨w.heap.size,0,none⟩ x0).setCell ⟨w.heap.size,1,none⟩ x1).setCell ⟨w.heap.size,2,none⟩ x2).setCell ⟨w.heap.size,3,none⟩ x3).setCell ⟨w.heap.size,4,none⟩ x4).setCell ⟨w.heap.size,5,none⟩ x5).setCell ⟨w.heap.size,6,none⟩ x6).setCell ⟨w.heap.size,7,none⟩ x7).setCell ⟨w.heap.size,8,none⟩ x8).setCell ⟨w.heap.size,9,none⟩ x9).setCell ⟨w.heap.size,10,none⟩ x10).setCell ⟨w.heap.size,11,none⟩ x11).setCell ⟨w.heap.size,12,none⟩ x12=V∧
   w.alloc (.cells #[x0,x1,x2,x3,x4,x5,x6,x7,x8,x9,x10,x11,x12] t)=V∧V.heap.size=w.heap.size+1∧Below w.heap.size w V∧V.heap[w.heap.size]? =some (.cells #[x0,x1,x2,x3,x4,x5,x6,x7,x8,x9,x10,x11,x12] t (0,0)):=by
 obtain⟨V,h1,h2,h3,h4⟩:=ay w #[x0,x1,x2,x3,x4,x5,x6,x7,x8,x9,x10,x11,x12] t
 refine⟨V,?_,h1,h2,h3,h4⟩
 rw[←h1]
 simp[go_sem]
theorem Lv.fused {w0 w:World}{p q:Nat}{F:Nat→Prop}{s:Rst.St}(h:Lv w0 w p q F s)(n:Int)(hn:0≤n)(ho:s.d.on=true):
  Calls Tryz.prog 25 #[.pointer (some ⟨q,0,none⟩),.int .i64 n] w fun E w'=>E=.returned (.int .i64 0)∧∃F',Lv w0 w' p q F' ⟨{s.d with has:=true,left:=n.toNat},s.p,s.l,s.r,s.off⟩:=
 aiG h fun F1 h1=>by
  have:=aqU q F1 w s.d n h1
  have e:Dm.pR s.d n=(0,{s.d with has:=true,left:=n.toNat}):=by unfold Dm.pR;rw[if_neg (by simp[ho]),if_neg (by omega)]
  rw[e]at this
  exact this
section
variable {w wr:World} {p q gp go:Nat} {F:Nat→Prop} {s:Rst.St} {va vs:Value} {ra rs:List Cw} {page other:Pm.Pg}
theorem gz.avG (h:gz w wr p q gp go F s va ra vs rs page other)(ho:s.d.on=true):
  Calls Tryz.prog 16 #[.pointer (some ⟨q,0,none⟩)] wr fun E w'=>E=.returned (.int .i64 0)∧∃F',gz w w' p q gp go F' ⟨Dm.iK s.d,s.p,s.l,s.r,s.off⟩ va ra vs rs page other:=
 h.disk fun F1 h1=>by
  have:=agE q F1 wr s.d h1
  have e:Dm.pull s.d=(0,Dm.iK s.d):=by unfold Dm.pull;rw[if_neg (by simp[ho])]
  rw[e]at this
  exact this
structure Kst (d d':Dm.Ds) (k t:Nat):Prop where
 sure:d'.sure=Dm.kept d k t
 wait:d'.wait=[]
 on:d'.on=true
 has:d'.has=false
 big:Big 40000000 400000 d'
theorem gz.started (h:gz w wr p q gp go F s va ra vs rs page other)(k t:Int)(hk:0≤k)(ht:0≤t)(ht2:t≤9223372036854775807)(ho:s.d.on=false)(hb:Big 30000000 300000 s.d):
  Calls Tryz.prog 29 #[.pointer (some ⟨q,0,none⟩),.int .i64 k,.int .i64 t] wr fun E w'=>E=.returned (.int .i64 0)∧∃F' d',gz w w' p q gp go F' ⟨d',s.p,s.l,s.r,s.off⟩ va ra vs rs page other∧Kst s.d d' k.toNat t.toNat:=by
 have e:Dm.start s.d k t=(0,{s.d with sure:=Dm.kept s.d k.toNat t.toNat,wait:=[],has:=false,on:=true}):=by
  unfold Dm.start
  rw[if_neg (by rw[ho];simp;omega)]
 have hc:=h.disk (f:=29) (args:=#[.pointer (some ⟨q,0,none⟩),.int .i64 k,.int .i64 t]) (x:=.int .i64 0) (d':=(Dm.start s.d k t).2) fun F1 h1=>by
  have:=anS q F1 wr s.d k t h1 ht2 (fun f=>Nat.le_trans (hb.1.1 f) (by decide)) (Nat.le_trans hb.1.2.1 (by decide))
  rw[e]at this⊢
  exact this
 refine hc.mono ?_
 rintro E w' ⟨rfl,F',K⟩
 refine⟨rfl,F',_,K,?_,?_,?_,?_,(am6 hb k t).mono (by decide) (by decide)⟩
 ·rw[e]
 ·rw[e]
 ·rw[e]
 ·rw[e]
end
def oK (s:Rst.St) (ra rs:List Cw) (j:Nat):Prop:=(∃ps,Rst.In (fst 0) s ps [])∧Rz (j+1) s∧aD ra=s.l∧aD rs=s.l
def acT (d:Dm.Ds) (ra rs:List Cw) (page other:Pm.Pg):Prop:=Rst.Stn (fst 0) d (aD rs) (aD ra) page other∧Cm.Good 0 0 (aD ra)∧Cm.Good 0 0 (aD rs)∧ra.length≤900∧Big 30000000 300000 d
theorem oK.len {s:Rst.St}{ra rs:List Cw}{j:Nat}(h:oK s ra rs j):ra.length=rs.length∧rs.length≤2*(j+1):=by
 obtain⟨_,h2,h3,h4⟩:=h
 have e1:=congrArg List.length h3
 have e2:=congrArg List.length h4
 rw[cK]at e1 e2
 have:=h2.2
 exact⟨by omega,by omega⟩
theorem oK.fin {s:Rst.St}{ra rs:List Cw}{j:Nat}(h:oK s ra rs j)(hj:j≤40)(other:Pm.Pg):acT s.d ra rs s.p other:=by
 have hl:=h.len
 obtain⟨⟨ps,h1⟩,h2,h3,h4⟩:=h
 refine⟨by rw[h3,h4];exact Rst.aop h1 other,by rw[h3];exact h1.gl,by rw[h4];exact h1.gl,by omega,h2.1.mono (by omega) (by omega)⟩
theorem oK.set {s:Rst.St}{ra rs:List Cw}{j:Nat}(h:oK s ra rs j)(hj:j<40)(y:Pm.Pg):
  ((Rst.bQ s y).1≠0∧(Rst.bQ s y).1≠6∧(Rst.bQ s y).2=s∧oK s ra rs (j+1))∨((Rst.bQ s y).1=0∧(Rst.bQ s y).2.p=y∧oK (Rst.bQ s y).2 ra rs (j+1))∨((Rst.bQ s y).1=6∧acT (Rst.bQ s y).2.d ra rs s.p y):=by
 have hl:=h.len
 obtain⟨⟨ps,h1⟩,h2,h3,h4⟩:=h
 have hz:=an1 h2 y
 rcases Rst.ag0 h1 y with⟨c1,c2,c3⟩|⟨c1,c2,c3,c4,_⟩|⟨c1,_⟩
 ·exact .inl ⟨c1,c2,c3,⟨ps,h1⟩,h2.mono (by omega),h3,h4⟩
 ·exact .inr (.inl ⟨c1,c3,⟨_,c2⟩,hz,h3.trans c4.symm,h4.trans c4.symm⟩)
 ·exact .inr (.inr ⟨c1,by rw[h3,h4];exact Rst.atZ h1 c1,by rw[h3];exact h1.gl,by rw[h4];exact h1.gl,by omega,hz.1.mono (by omega) (by omega)⟩)
theorem oK.aR {s:Rst.St}{ra rs:List Cw}{j:Nat}(h:oK s ra rs j)(hj:j<40)(u:Int)(other:Pm.Pg):
  ((Rst.aR s u).1≠6∧(Rst.aR s u).2.p=s.p∧oK (Rst.aR s u).2 ra rs (j+1))∨((Rst.aR s u).1=6∧acT (Rst.aR s u).2.d ra rs s.p other):=by
 have hl:=h.len
 obtain⟨⟨ps,h1⟩,h2,h3,h4⟩:=h
 have hz:=abZ h2 u
 rcases Rst.xV h1 u with⟨c1,c2⟩|⟨c1,c2,c3,c4,_⟩|⟨c1,_⟩
 ·exact .inl ⟨c1,by rw[c2],by rw[c2];exact⟨⟨ps,h1⟩,h2.mono (by omega),h3,h4⟩⟩
 ·exact .inl ⟨by omega,c3,⟨_,c2⟩,hz,h3.trans c4.symm,h4.trans c4.symm⟩
 ·exact .inr ⟨c1,by rw[h3,h4];exact Rst.atL h1 c1 other,by rw[h3];exact h1.gl,by rw[h4];exact h1.gl,by omega,hz.1.mono (by omega) (by omega)⟩
theorem oK.add {s:Rst.St}{ra rs:List Cw}{j:Nat}(h:oK s ra rs j)(hj:j<40)(c:Cm.Cv)(other:Pm.Pg):
  ((Rst.add s [c]).1≠0∧(Rst.add s [c]).1≠6∧(Rst.add s [c]).2=s∧oK s ra rs (j+1))∨
  ((Rst.add s [c]).1=0∧(Rst.add s [c]).2.p=s.p∧Cm.Good 0 0 (aD rs++[c])∧∀r1 r2,aD r1=aD rs++[c]→aD r2=aD rs++[c]→oK (Rst.add s [c]).2 r1 r2 (j+1))∨
  ((Rst.add s [c]).1=6∧∀r1,aD r1=aD rs++[c]→acT (Rst.add s [c]).2.d r1 rs s.p other):=by
 have hl:=h.len
 obtain⟨⟨ps,h1⟩,h2,h3,h4⟩:=h
 have hz:=afT h2 [c] (by simp)
 rcases Rst.yQ h1 [c]with⟨c1,c2,c3⟩|⟨c1,c2,c3,c4,_⟩|⟨c1,_,_,_,_,_,_,_,c9⟩
 ·exact .inl ⟨c1,c2,c3,⟨ps,h1⟩,h2.mono (by omega),h3,h4⟩
 ·refine .inr (.inl ⟨c1,c3,by rw[h4,←c4];exact c2.gl,fun r1 r2 e1 e2=>⟨⟨_,c2⟩,hz,?_,?_⟩⟩)
  ·rw[e1,h4,c4]
  ·rw[e2,h4,c4]
 ·refine .inr (.inr ⟨c1,fun r1 e1=>⟨?_,?_,by rw[h4];exact h1.gl,?_,hz.1.mono (by omega) (by omega)⟩⟩)
  ·rw[e1,h4]
   exact Rst.atP h1 c1 other
  ·rw[e1,h4]
   exact c9.gl
  ·have:=congrArg List.length e1
   rw[List.length_append,cK,cK]at this
   simp at this
   omega
theorem xZ (v:Value)(l:List ik)(fu k t:Int)(w:World)(h:kW w v l)(hf:yu l)(hl:l.length*136≤140737488351232)(hfu:(Lit.int .i64 fu).wf=true)(hk:(Lit.int .i64 k).wf=true)(ht:(Lit.int .i64 t).wf=true)(hm:ib w):
  Calls Tryz.prog 5 #[v,.int .i64 fu,.int .i64 k,.int .i64 t] w fun E w'=>E=.returned (.bool true)∧Below w.heap.size w w':=by
 have i1:=range_i64 (zs:=[fu]) (by simpa using hfu) 0
 have i2:=range_i64 (zs:=[t]) (by simpa using ht) 0
 simp at i1 i2
 have HM:=hide hm
 have LI:=hide (om w hm)
 have HA:=hide h
 have HF:=hide hf
 obtain⟨ao,cap,hv,hc1,hc2⟩:=h.shape
 rw[hv]at HA
 subst hv
 clear hm h hf hfu hk ht
 go_enter Tryz.func5,Tryz.ntmps5
 go_wp2_with fail
 refine LI.out.mono ?_
 rintro E w1 ⟨rfl,B1⟩
 have B1:=hide B1
 have SM:=hide (aaK _ l w1 (HA.out.below B1.out) (by omega))
 clear LI
 go_wp2_with fail
 refine SM.out.mono ?_
 rintro E w2 ⟨rfl,hw2⟩
 obtain rfl:=hw2
 clear SM
 cases hsm:nK l with
 |false=>
  go_wp2
  go_ret
  exact⟨rfl,B1.out⟩
 |true=>
 by_cases hk0:k<0
 ·go_wp2
  go_ret
  exact⟨rfl,B1.out⟩
 by_cases ht0:t<0
 ·go_wp2
  go_ret
  exact⟨rfl,B1.out⟩
 have hk1:0≤k:=by omega
 have ht1:0≤t:=by omega
 have SMI:=hide (ahr.1 hsm)
 have akR:=SMI.out.1
 have HA1:=hide (HA.out.below B1.out)
 have NW:=hide (uO w2)
 clear hsm HA
 go_wp2_with fail
 refine NW.out.mono ?_
 rintro E w3 ⟨rfl,K3,B3⟩
 have OP:=hide (vP w2 (HM.out.below B1.out) 0 (.inl rfl) w2.heap.size (Nat.le_refl _) w3 K3 B3)
 obtain⟨q,hq⟩:∃q,w2.heap.size=q:=⟨_,rfl⟩
 rw[hq]at OP⊢
 clear NW K3 B3 hq
 go_wp2_with fail
 refine OP.out.mono ?_
 rintro E w4 ⟨p,F,rfl,L4⟩
 have L4:=hide L4
 have IN0:Hid (Rst.In (fst 0) ⟨Dm.new,fst 0,[],[],false⟩ [] []):=hide (Rst.yK _ (by decide))
 clear OP
 by_cases hf0:0≤fu
 case' pos=>
  have FU:=hide (L4.out.fused fu hf0 rfl)
  go_wp2_with fail
  refine FU.out.mono ?_
  rintro E w5 ⟨rfl,F5,L5⟩
  have X0:Hid (∃F s,Lv w2 w5 p q F s∧Rst.In (fst 0) s [] []∧Rz 1 s∧s.l=[]∧dW s.p):=hide ⟨F5,_,L5,IN0.out.disk rfl rfl rfl,⟨⟨⟨fun f=>by simp[Dm.new,Dm.bulk],by simp[Dm.new],by simp[Dm.new]⟩,by simp;omega⟩,by simp,acI⟩,rfl,ac1 0⟩
  clear FU L5 L4 IN0
 case' neg=>
  obtain⟨w5,kL⟩:∃x,w4=x:=⟨_,rfl⟩
  rw[kL]at L4⊢
  have X0:Hid (∃F s,Lv w2 w5 p q F s∧Rst.In (fst 0) s [] []∧Rz 1 s∧s.l=[]∧dW s.p):=hide ⟨F,_,L4.out,IN0.out,⟨uw.mono (by omega) (by omega),by simp,acI⟩,rfl,ac1 0⟩
  clear L4 IN0 kL
 all_goals
  obtain⟨F6,s0,L6,I6,Z6,hs0,hp0⟩:=X0.out
  have LG1:=hide (sD p q F6 w5 s0 L6.st (dD Z6 (by omega)))
  have L6:=hide L6
  have Z6:=hide Z6
  have I6:=hide I6
  clear X0
  go_wp2_with fail
  refine LG1.out.mono ?_
  rintro E w6 ⟨v6,r6,rfl,sh6,e6,b6⟩
  obtain⟨a6,k6,hv6,_,_⟩:=sh6.c.row.shape
  have L7:=hide (L6.out.below b6)
  have LG2:=hide (sD p q F6 w6 s0 L7.out.st (dD Z6.out (by omega)))
  have K6:=hide (adO (w:=w2) (F:=F6) L6.out.aF.size (L6.out.st.lt) sh6.c sh6.o)
  have E6:=hide e6
  rw[hv6]at K6⊢
  clear LG1 sh6 e6 b6 hv6 L6
  go_wp2_with fail
  refine LG2.out.mono ?_
  rintro E w7 ⟨v7,r7,rfl,sh7,e7,b7⟩
  obtain⟨a7,k7,hv7,_,_⟩:=sh7.c.row.shape
  have L8:=hide (L7.out.below b7)
  have K7:=hide (adO (w:=w2) (F:=F6) L7.out.aF.size (L7.out.st.lt) sh7.c sh7.o)
  have K6b:=hide (K6.out.below b7)
  have E7:=hide e7
  have PG1:=hide (lW p q F6 w7 s0 L8.out.st (dD Z6.out (by omega)))
  rw[hv7]at K7⊢
  clear LG2 sh7 e7 b7 hv7 L7 K6
  go_wp2_with fail
  refine PG1.out.mono ?_
  rintro E w8 ⟨rfl,b8⟩
  have L9:=hide (L8.out.below b8)
  have PG2:=hide (lW p q F6 w8 s0 L9.out.st (dD Z6.out (by omega)))
  have B8:=hide b8
  clear PG1 b8
  go_wp2_with fail
  refine PG2.out.mono ?_
  rintro E w9 ⟨rfl,b9⟩
  unfold vp
  obtain⟨wx,hwx,szx,ay3,hRx⟩:=ay w9 #[.int .i64 0,.int .u8 0,.int .i64 0,.int .u8 0,.int .i64 0,.int .i64 0] 41
  obtain⟨wy,hwy,szy,apr,hRy⟩:=ay wx #[.int .i64 0,.int .u8 0,.int .i64 0,.int .u8 0,.int .i64 0,.int .i64 0] 41
  rw[szx]at hRy
  have avF:=(apr.block w9.heap.size (by omega)).trans hRx
  obtain⟨Y,hY,hYR,gY,⟨y0,y1,y2,y3,y4,y5⟩,fry,⟨t0,t1,t2,t3,t4,t5⟩⟩:=lL avF (.int .i64 s0.p.e) (.int .u8 s0.p.r) (.int .i64 s0.p.a) (.int .u8 s0.p.p) (.int .i64 s0.p.f) (.int .i64 s0.p.b)
  have ayh:=(gY.block (w9.heap.size+1) (by omega) (by simp)).trans hRy
  obtain⟨Z,hZ,hZR,gZ,⟨z0,z1,z2,z3,z4,z5⟩,frz,⟨u0,u1,u2,u3,u4,u5⟩⟩:=lL ayh (.int .i64 s0.p.e) (.int .u8 s0.p.r) (.int .i64 s0.p.a) (.int .u8 s0.p.p) (.int .i64 s0.p.f) (.int .i64 s0.p.b)
  have av3:=(gZ.block w9.heap.size (by have:=gY.size;omega) (by simp)).trans hYR
  have bZ:Below w9.heap.size w9 Z:=aK (aK (ay3.trans (apr.mono (by omega))) gY (Nat.le_refl _) (by omega)) gZ (by omega) (by have:=gY.size;omega)
  have b7Z:Below w7.heap.size w7 Z:=B8.out.trans ((b9.trans (bZ.mono b9.size)).mono B8.out.size)
  have hs7:=L8.out.aF.size
  have h09:=L8.out.st.gB.pos
  have s79:w7.heap.size≤w9.heap.size:=Nat.le_trans B8.out.size b9.size
  have SK0:Hid (gz w2 Z p q w9.heap.size (w9.heap.size+1) F6 s0 (.slice a7 r7.length k7) r7 (.slice a6 r6.length k6) r6 s0.p s0.p):=hide ⟨L8.out.below b7Z,K7.out.below b7Z,K6b.out.below b7Z,av3,hZR,⟨⟨fun e=>by have:=L8.out.st.lt _ e;omega,fun e=>by have:=L8.out.st.lt _ e;omega⟩,⟨by omega,by omega⟩,⟨by omega,by omega⟩,by omega⟩,hp0,hp0⟩
  have LV0:Hid (oK s0 r7 r6 0):=hide ⟨⟨_,I6.out⟩,Z6.out,E7.out,E6.out⟩
  have f0:=fry 0;have f1:=fry 1;have f2:=fry 2;have f3:=fry 3;have f4:=fry 4;have f5:=fry 5
  have j0:=frz 0;have j1:=frz 1;have j2:=frz 2;have j3:=frz 3;have j4:=frz 4;have j5:=frz 5
  clear PG2 b9 hRx avF hRy ayh hYR av3 hZR gY gZ bZ b7Z ay3 apr L8 L9 K7 K6b E6 E7 I6 Z6 B8 fry frz hp0 hs7 h09 s79 hs0
  go_upto_block 0 with fail
  generalize hgo:w9.heap.size+1=go at SK0⊢
  generalize hgp:w9.heap.size=gp at SK0⊢
  go_cut [11,12,13,16,17,18]from 62 to 123 (fun _ev sv av _iv _pv _cv wx=>∃(F:Nat→Prop) (s:Rst.St) (ra rs:List Cw) (page other:Pm.Pg),Hid (gz w2 wx p q gp go F s av ra sv rs page other)∧Hid (acT s.d ra rs page other))
  case first=>
   go_wp2_with fail
   go_loopw [11,12,13,16,17,18] (fun ev sv av iv _pv _cv wr=>∃(j:Nat) (F:Nat→Prop) (s:Rst.St) (ra rs:List Cw) (other:Pm.Pg),j≤l.length∧iv=.int .i64 j∧(∃e,ev=.int .i64 e)∧Hid (gz w2 wr p q gp go F s av ra sv rs s.p other)∧Hid (oK s ra rs j)) (fun _ _ _ iv _ _ _=>l.length-(intOf iv).toNat)
   case atStart=>exact⟨0,_,_,_,_,_,by omega,rfl,⟨_,rfl⟩,SK0,LV0⟩
   case round=>
    clear SK0 LV0
    obtain⟨j,F,s,ra,rs,other,hj,rfl,⟨e0,rfl⟩,SK,LV⟩:=hrel
    obtain⟨sa,sk,hsv,_,_⟩:=SK.out.su.1.row.shape
    obtain⟨aa,ak,haa,_,_⟩:=SK.out.al.1.row.shape
    subst hsv haa
    by_cases hlt:j<l.length
    ·obtain⟨b,off,cp,dL,_,_,hb,hcell⟩:=HA1.out.full (by omega)
     obtain⟨a,ha⟩:∃a,l[j]? =some a:=⟨l[j],List.getElem?_eq_getElem hlt⟩
     have hmem:=List.mem_of_getElem? ha
     have AOK:=hide (HA1.out.2 a hmem)
     obtain⟨hak,han,_⟩:=AOK.out.kn
     have FOK:=hide (HF.out a hmem).1.1
     have H40:=hide (SMI.out.2 a hmem).1
     obtain⟨va,ka,hav,_,_⟩:=AOK.out.ops.shape
     obtain⟨xa,xk,hax,_,_⟩:=AOK.out.sec.1.shape
     have OPS:Hid (dm w2 (.slice va a.l.length ka) a.l):=hide (by rw[←hav];exact AOK.out.ops)
     obtain⟨c0,c1,c2,⟨c3,c4,c5,c6,c7,c8⟩,c9,c10,c11,c12⟩:=hcell j a ha
     rw[hav]at c9
     rw[hax]at c12
     simp only[Value.slice.injEq,true_and]at dL
     obtain⟨rfl,rfl⟩:=dL
     have sS:=hide SK.out.lv.aF
     have d0:=(sS.out.cell (p:=⟨b,off+j*13,none⟩) hb).trans c0
     have d1:=(sS.out.cell (p:=⟨b,off+j*13+1,none⟩) hb).trans c1
     have d2:=(sS.out.cell (p:=⟨b,off+j*13+2,none⟩) hb).trans c2
     have d3:=(sS.out.cell (p:=⟨b,off+j*13+3,none⟩) hb).trans c3
     have d4:=(sS.out.cell (p:=⟨b,off+j*13+4,none⟩) hb).trans c4
     have d5:=(sS.out.cell (p:=⟨b,off+j*13+5,none⟩) hb).trans c5
     have d6:=(sS.out.cell (p:=⟨b,off+j*13+6,none⟩) hb).trans c6
     have d7:=(sS.out.cell (p:=⟨b,off+j*13+7,none⟩) hb).trans c7
     have d8:=(sS.out.cell (p:=⟨b,off+j*13+8,none⟩) hb).trans c8
     have d9:=(sS.out.cell (p:=⟨b,off+j*13+9,none⟩) hb).trans c9
     have d10:=(sS.out.cell (p:=⟨b,off+j*13+10,none⟩) hb).trans c10
     have d11:=(sS.out.cell (p:=⟨b,off+j*13+11,none⟩) hb).trans c11
     have d12:=(sS.out.cell (p:=⟨b,off+j*13+12,none⟩) hb).trans c12
     obtain⟨V,hV,hV2,fE,bn,hVB⟩:=azK wr 47 (.int .i64 a.k) (.int .i64 a.n) (.int .i64 a.m) (.int .i64 a.p.e) (.int .u8 a.p.r) (.int .i64 a.p.a) (.int .u8 a.p.p) (.int .i64 a.p.f) (.int .i64 a.p.b) (.slice va a.l.length ka) (.int .i64 a.e) (.int .i64 a.f) (.slice xa a.rs.length xk) (.int .i64 0) (.int .i64 0) (.int .i64 0) (.int .i64 0) (.int .u8 0) (.int .i64 0) (.int .u8 0) (.int .i64 0) (.int .i64 0) (.slice none 0 0) (.int .i64 0) (.int .i64 0) (.slice none 0 0)
     have e0:V.cell? ⟨wr.heap.size,0,none⟩=some (.int .i64 a.k):=ai hVB 0 rfl
     have e1:V.cell? ⟨wr.heap.size,1,none⟩=some (.int .i64 a.n):=ai hVB 1 rfl
     have e9:V.cell? ⟨wr.heap.size,9,none⟩=some (.slice va a.l.length ka):=ai hVB 9 rfl
     have yV:=hide (SK.out.below bn)
     have hlt':(j:Int)<l.length:=by omega
     have hj0:(0:Int)≤(j:Int):=by omega
     have apm:j<40:=by omega
     have PK:=hide (tY a.k 3 V (by omega) (by omega) (anU hak))
     have hk3:=akA a.k 3 (by omega)
     obtain⟨kk,hkk⟩:∃x,pk a.k 3=x:=⟨_,rfl⟩
     rw[hkk]at PK hk3
     have hgol:=SK.out.po.lt
     have hgpl:=SK.out.pp.lt
     have yU:=hide (And.intro hVB fE)
     have hlen:=LV.out.len.2
     have hwr:IntKind.i64.wrap ((rs.length:Int)+1)=(rs.length:Int)+1:=aN _ (by omega) (by omega)
     clear hcell ha hmem c0 c1 c2 c3 c4 c5 c6 c7 c8 c9 c10 c11 c12 hav hax hkk hVB fE bn sS
     go_wp2_with fail
     refine PK.out.mono ?_
     rintro E wq ⟨rfl,hwq⟩
     obtain rfl:=hwq
     clear PK
     rcases(by omega:kk=0∨kk=1∨kk=2)with hk9|hk9|hk9
     ·subst hk9
      obtain⟨g0,g1,g2,g3,g4,g5⟩:=yV.out.pp.six
      obtain⟨W1,hW1,aoM,gW1,⟨o0,o1,o2,o3,o4,o5⟩,fro,⟨x0,x1,x2,x3,x4,x5⟩⟩:=lL (show V.heap[go]? =some (.cells #[.int .i64 other.e,.int .u8 other.r,.int .i64 other.a,.int .u8 other.p,.int .i64 other.f,.int .i64 other.b] 41 (0,0))from yV.out.po) (.int .i64 s.p.e) (.int .u8 s.p.r) (.int .i64 s.p.a) (.int .u8 s.p.p) (.int .i64 s.p.f) (.int .i64 s.p.b)
      have SK1:=hide (yV.out.avB gW1 (y:=s.p) aoM yV.out.fp.1)
      have fE:=yU.out.2
      have n1:W1.cell? ⟨wr.heap.size,1,none⟩=some (.int .i64 a.n):=ai ((gW1.block wr.heap.size (by omega) (by simp;omega)).trans yU.out.1) 1 rfl
      obtain⟨m,hm⟩:∃m,pk a.n ((rs.length:Int)+1)=m:=⟨_,rfl⟩
      have PN:=hide (tY a.n ((rs.length:Int)+1) W1 (by omega) (by omega) (anU han))
      have hmb:=akA a.n ((rs.length:Int)+1) (by omega)
      rw[hm]at PN hmb
      obtain⟨W2,hW2,avX,gW2,fW2⟩:=jT aoM 2 (.int .i64 m)
      have hfy:dW ⟨s.p.e,s.p.r,m,s.p.p,s.p.f,s.p.b⟩:=by
       have:=yV.out.fp.1
       unfold dW at this⊢
       simp only at this⊢
       omega
      have SK2:=hide (SK1.out.avB gW2 (y:=⟨s.p.e,s.p.r,m,s.p.p,s.p.f,s.p.b⟩) (show pU W2 go ⟨s.p.e,s.p.r,m,s.p.p,s.p.f,s.p.b⟩from avX) hfy)
      obtain⟨q0,q1,q2,q3,q4,q5⟩:=SK2.out.po.six
      have ST:=hide (SK2.out.set LV.out.2.1 (by omega) ⟨s.p.e,s.p.r,m,s.p.p,s.p.f,s.p.b⟩ hfy)
      have LS:=hide (LV.out.set apm ⟨s.p.e,s.p.r,m,s.p.p,s.p.f,s.p.b⟩)
      have f0:=fro 0;have f1:=fro 1;have f2:=fro 2;have f3:=fro 3;have f4:=fro 4;have f5:=fro 5
      have HFY:=hide hfy
      clear aoM gW1 gW2 avX fro hm hmb yV SK1 SK2 SK yU fE hfy
      go_wp2_with fail
      refine PN.out.mono ?_
      rintro E wq ⟨rfl,hwq⟩
      obtain rfl:=hwq
      clear PN
      go_wp2_with fail
      refine ST.out.mono ?_
      rintro E w6 ⟨rfl,F6,K6⟩
      clear ST
      rcases LS.out with⟨c1,c2,c3,L1⟩|⟨c1,c2,L1⟩|⟨c1,L1⟩
      ·rw[c3]at K6
       obtain⟨ee,qU⟩:∃x,(Rst.bQ s ⟨s.p.e,s.p.r,m,s.p.p,s.p.f,s.p.b⟩).1=x:=⟨_,rfl⟩
       rw[qU]at c1 c2⊢
       have hb0:(ee==0)=false:=by simp[c1]
       have hb6:(ee==6)=false:=by simp[c2]
       have K6:=hide K6
       have L1:=hide L1
       clear qU c1 c2 c3 LS
       go_wp2
       go_roundw
       case rel=>exact⟨j+1,_,_,_,_,_,by omega,by go_num,⟨_,rfl⟩,K6,L1⟩
       case measure=>simp[intOf];omega
      ·rw[c1]
       obtain⟨r0,r1,r2,r3,r4,r5⟩:=K6.po.six
       obtain⟨W7,hW7,axi,gW7,⟨s0,s1,s2,s3,s4,s5⟩,fr7,⟨t0,t1,t2,t3,t4,t5⟩⟩:=lL (show w6.heap[gp]? =some (.cells #[.int .i64 s.p.e,.int .u8 s.p.r,.int .i64 s.p.a,.int .u8 s.p.p,.int .i64 s.p.f,.int .i64 s.p.b] 41 (0,0))from K6.pp) (.int .i64 s.p.e) (.int .u8 s.p.r) (.int .i64 m) (.int .u8 s.p.p) (.int .i64 s.p.f) (.int .i64 s.p.b)
       have K7:=hide (K6.bQ gW7 (y:=⟨s.p.e,s.p.r,m,s.p.p,s.p.f,s.p.b⟩) axi HFY.out)
       have f0:=fr7 0;have f1:=fr7 1;have f2:=fr7 2;have f3:=fr7 3;have f4:=fr7 4;have f5:=fr7 5
       have K8:Hid (gz w2 W7 p q gp go F6 (Rst.bQ s ⟨s.p.e,s.p.r,m,s.p.p,s.p.f,s.p.b⟩).2 (.slice aa ra.length ak) ra (.slice sa rs.length sk) rs (Rst.bQ s ⟨s.p.e,s.p.r,m,s.p.p,s.p.f,s.p.b⟩).2.p ⟨s.p.e,s.p.r,m,s.p.p,s.p.f,s.p.b⟩):=hide (by rw[c2];exact K7.out)
       have L1:=hide L1
       clear K6 K7 gW7 axi fr7 c1 c2 LS
       go_wp2
       go_roundw
       case rel=>exact⟨j+1,_,_,_,_,_,by omega,by go_num,⟨_,rfl⟩,K8,L1⟩
       case measure=>simp[intOf];omega
      ·rw[c1]
       have K6:=hide K6
       have L1:=hide L1
       clear c1 LS
       go_wp2_with fail
       go_meet
       case rel=>exact⟨_,_,_,_,_,_,K6,L1⟩
     ·subst hk9
      obtain⟨Vc,hVc,hVc2,szc,eU,hBc,y0,y1,y2⟩:=dO V 32 (.int .i64 0) (.int .i64 0) (.slice none 0 0) (.int .i64 1) (.int .i64 ((rs.length:Int)+1)) (.slice va a.l.length ka)
      have SKC:=hide (yV.out.below eU)
      obtain⟨VA,hVA,rf,AD⟩:=SKC.out.add LV.out.2.1 (by omega) (e:=1) (m:=(rs.length:Int)+1) OPS.out FOK.out H40.out ⟨⟨by omega,by omega⟩,by omega,by omega⟩
      have LA:=hide (LV.out.add apm ⟨1,(rs.length:Int)+1,a.l⟩ other)
      have hBA:=hide ((rf.block V.heap.size (by omega)).trans hBc)
      have FLT:=hide yV.out.lv.st.lt
      have sAA:Hid (V.heap.size<VA.heap.size):=hide (by have:=rf.size;omega)
      clear yV SKC eU hBc rf SK yU szc
      go_wp2_with fail
      refine AD.out.mono ?_
      rintro E w6 ⟨rfl,o6,F6,K6⟩
      have hB6:=hide ((o6.block V.heap.size sAA.out (fun e=>by have:=FLT.out _ e;omega)).trans hBA.out)
      have LT6:=hide o6.size
      clear AD o6 hBA
      rcases LA.out with⟨c1,c2,c3,L1⟩|⟨c1,c2,cg,L1⟩|⟨c1,L1⟩
      ·rw[c3]at K6
       obtain⟨ee,qU⟩:∃x,(Rst.add s [⟨1,(rs.length:Int)+1,a.l⟩]).1=x:=⟨_,rfl⟩
       rw[qU]at c1 c2⊢
       have hb0:(ee==0)=false:=by simp[c1]
       have hb6:(ee==6)=false:=by simp[c2]
       have K6:=hide K6
       have L1:=hide L1
       clear qU c1 c2 c3 LA
       go_wp2
       go_roundw
       case rel=>exact⟨j+1,_,_,_,_,_,by omega,by go_num,⟨_,rfl⟩,K6,L1⟩
       case measure=>simp[intOf];omega
      ·rw[c1]
       have CG:=hide cg
       have C2:=hide c2
       clear c1 c2 cg LA
       have GD:Hid (Cm.Good 0 0 (aD rs)):=hide (by rw[LV.out.2.2.2];obtain⟨ps,i1⟩:=LV.out.1;exact i1.gl)
       obtain⟨W0,hW0⟩:∃x,w6.drew=x:=⟨_,rfl⟩
       have b00:Below w6.heap.size w6 W0:=by rw[←hW0];exact(Below.refl _ _).drew
       have K0:=hide (K6.below b00)
       have hB0:=(b00.block V.heap.size (aA hB6.out)).trans hB6.out
       obtain⟨CA,VB,hVB,FVB,CB⟩:=as1 (c:=⟨1,(rs.length:Int)+1,.slice va a.l.length ka,a.l⟩) K0.out.lv.aF K0.out.lv.st.lt K0.out.su GD.out (by omega) hB0 OPS.out
       have CA:=hide CA
       have F0:=ahb hB0
       have L1:=hide L1
       clear K6 b00 hB0 hB6 GD
       go_upto_region 29 with fail
       go_cut [13]from 62 to 123 (fun av wx=>∃a8 k8,av=.slice a8 (rs.length+1) k8∧Hid (∃r8,mH w2 wx F6 (.slice a8 (rs.length+1) k8) r8∧aD r8=aD rs++[⟨1,(rs.length:Int)+1,a.l⟩]∧Below W0.heap.size W0 wx))
       case first=>
        refine je (ops:=(au 29 Tryz.f5)) (S:=fun W=>W.cell? ⟨V.heap.size,0,none⟩=some (.int .i64 1)∧W.cell? ⟨V.heap.size,1,none⟩=some (.int .i64 ((rs.length:Int)+1))∧W.cell? ⟨V.heap.size,2,none⟩=some (.slice va a.l.length ka)) (by kernel_rfl) agm ?_
        rw[aiZ,hW0]
        refine aG (v:=?_) ahZ (by kernel_rfl) (fun _ _ _ _ _ h=>h) F0 rfl rfl (by rfl) ?_ ?_
        rotate_left 1
        ·intro w hS
         (try dsimp only at hS)
         go_simp
         all_goals with_reducible rfl
        simp only[Act.put,List.setIfInBounds_toArray,List.set_cons_zero,List.set_cons_succ]
        refine aG (v:=?_) agx (by kernel_rfl) (fun _ _ _ _ _ h=>h) F0 rfl rfl (by rfl) ?_ ?_
        rotate_left 1
        ·intro w hS
         (try dsimp only at hS)
         go_simp
         all_goals with_reducible rfl
        simp only[Act.put,List.setIfInBounds_toArray,List.set_cons_zero,List.set_cons_succ]
        refine iF alK ?_ ?_
        ·refine aM rfl (by rfl) (fun K hK=>?_)
         go_simp
         refine CA.out.mono ?_
         rintro E wA ⟨a9,k9,rfl,FA,V,hV,FV,AP⟩
         obtain⟨a8,k8,w8,hR8,F8,G8⟩:=AP 43
         clear AP
         go_wp2_with fail
         refine hK.out _ _ FA ?_
         clear hK K
         try simp only[Act.put,List.setIfInBounds_toArray,List.set_cons_zero,List.set_cons_succ]
         refine aQ alO ?_
         refine aM rfl (by rfl) (fun K hK=>?_)
         go_simp
         go_wp2_with fail
         refine hK.out _ _ FV ?_
         clear hK K
         try simp only[Act.put,List.setIfInBounds_toArray,List.set_cons_zero,List.set_cons_succ]
         refine aQ zH ?_
         refine any_append rfl (by rfl) (.tmp 114) (.tmp 116) 43 rfl rfl rfl hR8 ⟨F8,?_⟩
         simp only[Act.put,List.setIfInBounds_toArray,List.set_cons_zero,List.set_cons_succ]
         refine aG (v:=?_) tN (by kernel_rfl) (fun _ _ _ _ _ h=>h) F8 rfl rfl (by rfl) ?_ ?_
         rotate_left 1
         ·intro w hS
          (try dsimp only at hS)
          go_simp
          all_goals with_reducible rfl
         simp only[Act.put,List.setIfInBounds_toArray,List.set_cons_zero,List.set_cons_succ]
         refine dz zO ?_
         go_wp2_with fail
         go_meet
         case rel=>exact⟨a8,k8,rfl,G8⟩
        ·refine aM rfl (by rfl) (fun K hK=>?_)
         go_simp
         go_wp2_with fail
         refine hK.out _ _ FVB ?_
         clear hK K
         try simp only[Act.put,List.setIfInBounds_toArray,List.set_cons_zero,List.set_cons_succ]
         refine aQ aiP ?_
         refine aM rfl (by rfl) (fun K hK=>?_)
         go_simp
         refine CB.out.mono ?_
         rintro E wA ⟨a9,k9,rfl,FA,AP⟩
         obtain⟨a8,k8,w8,hR8,F8,G8⟩:=AP 43
         clear AP
         go_wp2_with fail
         refine hK.out _ _ FA ?_
         clear hK K
         try simp only[Act.put,List.setIfInBounds_toArray,List.set_cons_zero,List.set_cons_succ]
         refine aQ zH ?_
         refine any_append rfl (by rfl) (.tmp 114) (.tmp 116) 43 rfl rfl rfl hR8 ⟨F8,?_⟩
         simp only[Act.put,List.setIfInBounds_toArray,List.set_cons_zero,List.set_cons_succ]
         refine aG (v:=?_) tN (by kernel_rfl) (fun _ _ _ _ _ h=>h) F8 rfl rfl (by rfl) ?_ ?_
         rotate_left 1
         ·intro w hS
          (try dsimp only at hS)
          go_simp
          all_goals with_reducible rfl
         simp only[Act.put,List.setIfInBounds_toArray,List.set_cons_zero,List.set_cons_succ]
         refine dz zO ?_
         go_wp2_with fail
         go_meet
         case rel=>exact⟨a8,k8,rfl,G8⟩
       case rest=>
        obtain⟨a8,k8,rfl,G8⟩:=hcut
        obtain⟨r8,K8,e8,b8⟩:=G8.out
        have hr8:r8.length=rs.length+1:=by rw[←cK r8,e8,List.length_append,cK];rfl
        obtain⟨i8,f8⟩:=K8.yL (K0.out.lv.aF.trans (b8.mono K0.out.lv.aF.size)) (by rw[e8];exact CG.out)
        have CP:=hide (xm _ r8 _ i8 f8 (by omega))
        have K9:=hide (K0.out.below b8)
        have HK8:=hide K8
        have HE8:=hide e8
        clear K8 e8 b8 i8 f8 G8 hW0 CA hVB FVB CB F0 K0
        go_wp2_with fail
        refine CP.out.mono ?_
        rintro E w9 ⟨v9,r9,rfl,o9,e9,p9,b9⟩
        obtain⟨a9,k9,hv9,_,_⟩:=o9.row.shape
        have K10:Hid (gz w2 w9 p q gp go F6 (Rst.add s [⟨1,(rs.length:Int)+1,a.l⟩]).2 (.slice a8 (rs.length+1) k8) r8 v9 r9 (Rst.add s [⟨1,(rs.length:Int)+1,a.l⟩]).2.p other):=hide (by
         rw[C2.out]
         have k:=K9.out.below b9
         exact⟨k.lv,HK8.out.below b9,adO K9.out.lv.aF.size K9.out.lv.st.lt o9 p9,k.pp,k.po,k.np,k.fp⟩)
        have L2:=hide (L1.out r8 r9 HE8.out (e9.trans HE8.out))
        rw[hv9]at K10⊢
        clear CP o9 e9 p9 b9 hv9 K9 HK8 HE8 L1
        go_wp2
        go_roundw
        case rel=>exact⟨j+1,_,_,_,_,_,by omega,by go_num,⟨_,rfl⟩,K10,L2⟩
        case measure=>simp[intOf];omega
      ·rw[c1]
       clear c1 LA
       have GD:Hid (Cm.Good 0 0 (aD rs)):=hide (by rw[LV.out.2.2.2];obtain⟨ps,i1⟩:=LV.out.1;exact i1.gl)
       obtain⟨W0,hW0⟩:∃x,w6.drew=x:=⟨_,rfl⟩
       have b00:Below w6.heap.size w6 W0:=by rw[←hW0];exact(Below.refl _ _).drew
       have K0:=hide (K6.below b00)
       have hB0:=(b00.block V.heap.size (aA hB6.out)).trans hB6.out
       obtain⟨CA,VB,hVB,FVB,CB⟩:=as1 (c:=⟨1,(rs.length:Int)+1,.slice va a.l.length ka,a.l⟩) K0.out.lv.aF K0.out.lv.st.lt K0.out.su GD.out (by omega) hB0 OPS.out
       have CA:=hide CA
       have F0:=ahb hB0
       have L1:=hide L1
       clear K6 b00 hB0 hB6 GD
       go_upto_region 29 with fail
       go_cut [13]from 62 to 123 (fun av wx=>∃a8 k8,av=.slice a8 (rs.length+1) k8∧Hid (∃r8,mH w2 wx F6 (.slice a8 (rs.length+1) k8) r8∧aD r8=aD rs++[⟨1,(rs.length:Int)+1,a.l⟩]∧Below W0.heap.size W0 wx))
       case first=>
        refine je (ops:=(au 29 Tryz.f5)) (S:=fun W=>W.cell? ⟨V.heap.size,0,none⟩=some (.int .i64 1)∧W.cell? ⟨V.heap.size,1,none⟩=some (.int .i64 ((rs.length:Int)+1))∧W.cell? ⟨V.heap.size,2,none⟩=some (.slice va a.l.length ka)) (by kernel_rfl) agm ?_
        rw[aiZ,hW0]
        refine aG (v:=?_) ahZ (by kernel_rfl) (fun _ _ _ _ _ h=>h) F0 rfl rfl (by rfl) ?_ ?_
        rotate_left 1
        ·intro w hS
         (try dsimp only at hS)
         go_simp
         all_goals with_reducible rfl
        simp only[Act.put,List.setIfInBounds_toArray,List.set_cons_zero,List.set_cons_succ]
        refine aG (v:=?_) agx (by kernel_rfl) (fun _ _ _ _ _ h=>h) F0 rfl rfl (by rfl) ?_ ?_
        rotate_left 1
        ·intro w hS
         (try dsimp only at hS)
         go_simp
         all_goals with_reducible rfl
        simp only[Act.put,List.setIfInBounds_toArray,List.set_cons_zero,List.set_cons_succ]
        refine iF alK ?_ ?_
        ·refine aM rfl (by rfl) (fun K hK=>?_)
         go_simp
         refine CA.out.mono ?_
         rintro E wA ⟨a9,k9,rfl,FA,V,hV,FV,AP⟩
         obtain⟨a8,k8,w8,hR8,F8,G8⟩:=AP 43
         clear AP
         go_wp2_with fail
         refine hK.out _ _ FA ?_
         clear hK K
         try simp only[Act.put,List.setIfInBounds_toArray,List.set_cons_zero,List.set_cons_succ]
         refine aQ alO ?_
         refine aM rfl (by rfl) (fun K hK=>?_)
         go_simp
         go_wp2_with fail
         refine hK.out _ _ FV ?_
         clear hK K
         try simp only[Act.put,List.setIfInBounds_toArray,List.set_cons_zero,List.set_cons_succ]
         refine aQ zH ?_
         refine any_append rfl (by rfl) (.tmp 114) (.tmp 116) 43 rfl rfl rfl hR8 ⟨F8,?_⟩
         simp only[Act.put,List.setIfInBounds_toArray,List.set_cons_zero,List.set_cons_succ]
         refine aG (v:=?_) tN (by kernel_rfl) (fun _ _ _ _ _ h=>h) F8 rfl rfl (by rfl) ?_ ?_
         rotate_left 1
         ·intro w hS
          (try dsimp only at hS)
          go_simp
          all_goals with_reducible rfl
         simp only[Act.put,List.setIfInBounds_toArray,List.set_cons_zero,List.set_cons_succ]
         refine dz zO ?_
         go_wp2_with fail
         go_meet
         case rel=>exact⟨a8,k8,rfl,G8⟩
        ·refine aM rfl (by rfl) (fun K hK=>?_)
         go_simp
         go_wp2_with fail
         refine hK.out _ _ FVB ?_
         clear hK K
         try simp only[Act.put,List.setIfInBounds_toArray,List.set_cons_zero,List.set_cons_succ]
         refine aQ aiP ?_
         refine aM rfl (by rfl) (fun K hK=>?_)
         go_simp
         refine CB.out.mono ?_
         rintro E wA ⟨a9,k9,rfl,FA,AP⟩
         obtain⟨a8,k8,w8,hR8,F8,G8⟩:=AP 43
         clear AP
         go_wp2_with fail
         refine hK.out _ _ FA ?_
         clear hK K
         try simp only[Act.put,List.setIfInBounds_toArray,List.set_cons_zero,List.set_cons_succ]
         refine aQ zH ?_
         refine any_append rfl (by rfl) (.tmp 114) (.tmp 116) 43 rfl rfl rfl hR8 ⟨F8,?_⟩
         simp only[Act.put,List.setIfInBounds_toArray,List.set_cons_zero,List.set_cons_succ]
         refine aG (v:=?_) tN (by kernel_rfl) (fun _ _ _ _ _ h=>h) F8 rfl rfl (by rfl) ?_ ?_
         rotate_left 1
         ·intro w hS
          (try dsimp only at hS)
          go_simp
          all_goals with_reducible rfl
         simp only[Act.put,List.setIfInBounds_toArray,List.set_cons_zero,List.set_cons_succ]
         refine dz zO ?_
         go_wp2_with fail
         go_meet
         case rel=>exact⟨a8,k8,rfl,G8⟩
       case rest=>
        obtain⟨a8,k8,rfl,G8⟩:=hcut
        obtain⟨r8,K8,e8,b8⟩:=G8.out
        have hr8:r8.length=rs.length+1:=by rw[←cK r8,e8,List.length_append,cK];rfl
        have K10:Hid (gz w2 _ p q gp go F6 (Rst.add s [⟨1,(rs.length:Int)+1,a.l⟩]).2 (.slice a8 (rs.length+1) k8) r8 (.slice sa rs.length sk) rs s.p other):=hide (by
         have k:=K0.out.below b8
         exact⟨k.lv,K8,k.su,k.pp,k.po,k.np,k.fp⟩)
        have L2:=hide (L1.out r8 e8)
        clear K8 e8 b8 G8 hW0 CA hVB FVB CB F0 K0 L1
        go_wp2_with fail
        go_meet
        case rel=>exact⟨_,_,_,_,_,_,K10,L2⟩
     ·subst hk9
      have FL:=hide (yV.out.aR LV.out.2.1 (by omega) a.n han)
      have LF:=hide (LV.out.aR apm a.n other)
      clear yV SK yU
      go_wp2_with fail
      refine FL.out.mono ?_
      rintro E w6 ⟨rfl,F6,K6⟩
      clear FL
      rcases LF.out with⟨c1,c2,L1⟩|⟨c1,L1⟩
      ·have K7:Hid (gz w2 w6 p q gp go F6 (Rst.aR s a.n).2 (.slice aa ra.length ak) ra (.slice sa rs.length sk) rs (Rst.aR s a.n).2.p other):=hide (by rw[c2];exact K6)
       have L1:=hide L1
       obtain⟨s7,hs7⟩:∃x,(Rst.aR s a.n).2=x:=⟨_,rfl⟩
       obtain⟨ee,qU⟩:∃x,(Rst.aR s a.n).1=x:=⟨_,rfl⟩
       rw[qU]at c1⊢
       rw[hs7]at K7 L1
       have hb6:(ee==6)=false:=by simp[c1]
       clear K6 c1 c2 qU hs7 LF
       go_wp2
       go_roundw
       case rel=>exact⟨j+1,_,_,_,_,_,by omega,by go_num,⟨_,rfl⟩,K7,L1⟩
       case measure=>simp[intOf];omega
      ·rw[c1]
       have K6:=hide K6
       have L1:=hide L1
       clear c1 LF
       go_wp2_with fail
       go_meet
       case rel=>exact⟨_,_,_,_,_,_,K6,L1⟩
    ·obtain rfl:j=l.length:=by omega
     have hlt':¬(l.length:Int)<l.length:=by omega
     have FI:=hide (LV.out.fin (by omega) other)
     go_wp2_with fail
     go_meet
     case rel=>exact⟨_,_,_,_,_,_,SK,FI⟩
  case rest=>
   clear SK0 LV0
   obtain⟨F,s,ra,rs,page,other,SK,FI⟩:=hcut
   obtain⟨sa,sk,hsv,_,_⟩:=SK.out.su.1.row.shape
   obtain⟨aa,ak,haa,_,_⟩:=SK.out.al.1.row.shape
   subst hsv haa
   obtain⟨F1,hPk,_,_⟩:=SK.out.lv.st.disk fun e=>by have:=(SK.out.lv.new 0 e).2;omega
   have HON:=hide (yE q F1 _ _ hPk)
   clear hPk
   by_cases hon:s.d.on=true
   case' pos=>
    have HPU:=hide (SK.out.avG hon)
    rw[hon]at HON
    go_wp2_with fail
    refine HON.out.mono ?_
    rintro E wx ⟨rfl,rfl⟩
    go_wp2_with fail
    refine HPU.out.mono ?_
    rintro E wp ⟨rfl,Fp,KP⟩
    have HST:=hide (KP.started k t hk1 ht1 i2.2 rfl (xh FI.out.2.2.2.2))
    have EK:Hid (Dm.kept (Dm.iK s.d) k.toNat t.toNat=Dm.kept s.d k.toNat t.toNat):=hide rfl
    clear KP SK HPU HON hon
    go_wp2_with fail
   case' neg=>
    have ark:s.d.on=false:=by simpa using hon
    rw[ark]at HON
    have HST:=hide (SK.out.started k t hk1 ht1 i2.2 ark FI.out.2.2.2.2)
    have EK:Hid (Dm.kept s.d k.toNat t.toNat=Dm.kept s.d k.toNat t.toNat):=hide rfl
    go_wp2_with fail
    refine HON.out.mono ?_
    rintro E wp ⟨rfl,rfl⟩
    clear SK HON hon ark
    go_wp2_with fail
   all_goals
    refine HST.out.mono ?_
    rintro E wz ⟨rfl,Fz,d',KZ,KS⟩
    have HOP:=hide (KZ.open (KS.big.mono (by decide) (by decide)) KS.on (fun m pg g r st SC=>by
     obtain⟨_,_,hs2,_⟩:=FI.out.1 d' k.toNat t.toNat (by first|exact KS.sure.trans EK.out|exact KS.sure) KS.wait KS.on KS.has m pg g r st SC
     have:=hs2.length_le
     rw[cK]at this
     have:=FI.out.2.2.2.1
     omega))
    have KS:=hide KS
    clear HST KZ
    go_wp2_with fail
    refine HOP.out.mono ?_
    rintro E wo ⟨m,pg,g,r,st,SC,HC⟩
    obtain⟨e0,hs1,hs2,hpp⟩:=FI.out.1 d' k.toNat t.toNat (by first|exact KS.out.sure.trans EK.out|exact KS.out.sure) KS.out.wait KS.out.on KS.out.has m pg g r st SC.out
    obtain⟨p2,F2,rfl,KO⟩:=HC e0
    have hml:m.length≤900:=by have:=hs2.length_le;rw[cK]at this;have:=FI.out.2.2.2.1;omega
    have RK:Hid (yf ⟨Rst.fV d' m g r st,pg,m,r,false⟩):=hide ⟨(auw m g r st KS.out.big).mono (by decide) (by decide),by show m.length≤2000;omega⟩
    have LG:=hide (sD p2 q F2 wo _ KO.lv.st RK.out)
    have KO:=hide KO
    have P3:=hide (And.intro hs1 (And.intro hs2 hpp))
    clear HOP HC SC e0 hs1 hs2 hpp KS EK
    go_wp2_with fail
    refine LG.out.mono ?_
    rintro E wl ⟨vl,rl,rfl,shl,el,bl⟩
    have KL:=hide (KO.out.below bl)
    obtain⟨la,lk,hvl,_,_⟩:=shl.c.row.shape
    have BO:=hide KL.out.lv.aF
    have hel:rl.length=m.length:=by rw[←cK rl,el]
    have BA:Hid (∀W,Below wl.heap.size wl W→Calls Tryz.prog 30 #[.slice aa ra.length ak,.slice la rl.length lk] W fun E w'=>E=.returned (.bool true)∧Below W.heap.size W w'):=hide fun W hW=>by
     obtain⟨i1,f1⟩:=(KL.out.al.below hW).yL (BO.out.trans (hW.mono BO.out.size)) FI.out.2.1
     exact yx _ _ ra rl W i1 (by rw[←hvl];exact qL (shl.below hW)) f1 shl.f (by have:=FI.out.2.2.2.1;omega) (by rw[el];exact P3.out.2.1)
    have BS:Hid (∀W,Below wl.heap.size wl W→Calls Tryz.prog 30 #[.slice la rl.length lk,.slice sa rs.length sk] W fun E w'=>E=.returned (.bool true)∧Below W.heap.size W w'):=hide fun W hW=>by
     obtain⟨i1,f1⟩:=(KL.out.su.below hW).yL (BO.out.trans (hW.mono BO.out.size)) FI.out.2.2.1
     exact yx _ _ rl rs W (by rw[←hvl];exact qL (shl.below hW)) i1 shl.f f1 (by omega) (by rw[el];exact P3.out.1)
    have XP:Hid (∀W,Below wl.heap.size wl W→Calls Tryz.prog 23 #[.pointer (some ⟨p2,0,none⟩)] W fun E w'=>E=.returned (.agg #[.int .i64 pg.e,.int .u8 pg.r,.int .i64 pg.a,.int .u8 pg.p,.int .i64 pg.f,.int .i64 pg.b])∧Below W.heap.size W w'):=hide fun W hW=>lW p2 q F2 W _ (KL.out.below hW).lv.st RK.out
    have SP:Hid (∀x W,Below wl.heap.size wl W→Calls Tryz.prog 22 #[.agg #[.int .i64 pg.e,.int .u8 pg.r,.int .i64 pg.a,.int .u8 pg.p,.int .i64 pg.f,.int .i64 pg.b],.agg #[.int .i64 x.e,.int .u8 x.r,.int .i64 x.a,.int .u8 x.p,.int .i64 x.f,.int .i64 x.b]] W fun E w'=>E=.returned (.bool (same pg x))∧Below W.heap.size W w'):=hide fun x W hW=>mM pg x W
    have S1:=hide (SP.out page)
    have S2:=hide (SP.out other)
    have SS:Hid (∀W,Below wl.heap.size wl W→(W.cell? ⟨gp,0,none⟩=some (.int .i64 page.e)∧W.cell? ⟨gp,1,none⟩=some (.int .u8 page.r)∧W.cell? ⟨gp,2,none⟩=some (.int .i64 page.a)∧W.cell? ⟨gp,3,none⟩=some (.int .u8 page.p)∧W.cell? ⟨gp,4,none⟩=some (.int .i64 page.f)∧W.cell? ⟨gp,5,none⟩=some (.int .i64 page.b))∧(W.cell? ⟨go,0,none⟩=some (.int .i64 other.e)∧W.cell? ⟨go,1,none⟩=some (.int .u8 other.r)∧W.cell? ⟨go,2,none⟩=some (.int .i64 other.a)∧W.cell? ⟨go,3,none⟩=some (.int .u8 other.p)∧W.cell? ⟨go,4,none⟩=some (.int .i64 other.f)∧W.cell? ⟨go,5,none⟩=some (.int .i64 other.b))):=hide fun W hW=>by
     obtain⟨h0,h1,h2,h3,h4,h5⟩:=(KL.out.pp.below hW).six
     obtain⟨k0,k1,k2,k3,k4,k5⟩:=(KL.out.po.below hW).six
     exact⟨⟨h0,h1,h2,h3,h4,h5⟩,⟨k0,k1,k2,k3,k4,k5⟩⟩
    obtain⟨W0,hW0⟩:∃x,wl.drew=x:=⟨_,rfl⟩
    have B0:Hid (Below wl.heap.size wl W0):=hide (by rw[←hW0];exact(Below.refl _ _).drew)
    have F0:=SS.out W0 B0.out
    have HPP:=hide P3.out.2.2
    rw[hvl]
    clear LG shl el bl KO KL SP P3 RK hel hml FI hvl
    by_cases hq:pg=page
    ·rw[show same pg page=true from sK.2 hq]at S1
     clear hq HPP
     go_wp2_with fail
     refine je (ops:=(au 39 Tryz.f5)) (S:=fun W=>(W.cell? ⟨gp,0,none⟩=some (.int .i64 page.e)∧W.cell? ⟨gp,1,none⟩=some (.int .u8 page.r)∧W.cell? ⟨gp,2,none⟩=some (.int .i64 page.a)∧W.cell? ⟨gp,3,none⟩=some (.int .u8 page.p)∧W.cell? ⟨gp,4,none⟩=some (.int .i64 page.f)∧W.cell? ⟨gp,5,none⟩=some (.int .i64 page.b))∧(W.cell? ⟨go,0,none⟩=some (.int .i64 other.e)∧W.cell? ⟨go,1,none⟩=some (.int .u8 other.r)∧W.cell? ⟨go,2,none⟩=some (.int .i64 other.a)∧W.cell? ⟨go,3,none⟩=some (.int .u8 other.p)∧W.cell? ⟨go,4,none⟩=some (.int .i64 other.f)∧W.cell? ⟨go,5,none⟩=some (.int .i64 other.b))) (by kernel_rfl) arp ?_
     rw[ave,hW0]
     refine aG (v:=?_) aov (by kernel_rfl) (fun _ _ _ _ _ h=>h) F0 rfl rfl (by rfl) ?_ ?_
     rotate_left 1
     ·intro w hS
      (try dsimp only at hS)
      go_simp
      all_goals with_reducible rfl
     simp only[Act.put,List.setIfInBounds_toArray,List.set_cons_zero,List.set_cons_succ]
     refine aG (v:=?_) aqm (by kernel_rfl) (fun _ _ _ _ _ h=>h) F0 rfl rfl (by rfl) ?_ ?_
     rotate_left 1
     ·intro w hS
      (try dsimp only at hS)
      go_simp
      all_goals with_reducible rfl
     simp only[Act.put,List.setIfInBounds_toArray,List.set_cons_zero,List.set_cons_succ]
     refine aQ awX ?_
     refine aM rfl (by rfl) (fun K hK=>?_)
     go_simp
     refine(BA.out _ B0.out).mono ?_
     rintro E U1 ⟨rfl,b1⟩
     have Bq1:=hide (B0.out.trans (b1.mono B0.out.size))
     have Fq1:=SS.out U1 Bq1.out
     clear b1
     go_wp2_with fail
     refine hK.out _ _ Fq1 ?_
     clear hK K
     try simp only[Act.put,List.setIfInBounds_toArray,List.set_cons_zero,List.set_cons_succ]
     refine aG (v:=?_) aow (by kernel_rfl) (fun _ _ _ _ _ h=>h) Fq1 rfl rfl (by rfl) ?_ ?_
     rotate_left 1
     ·intro w hS
      (try dsimp only at hS)
      go_simp
      all_goals with_reducible rfl
     simp only[Act.put,List.setIfInBounds_toArray,List.set_cons_zero,List.set_cons_succ]
     refine aG (v:=?_) amt (by kernel_rfl) (fun _ _ _ _ _ h=>h) Fq1 rfl rfl (by rfl) ?_ ?_
     rotate_left 1
     ·intro w hS
      (try dsimp only at hS)
      go_simp
      all_goals with_reducible rfl
     simp only[Act.put,List.setIfInBounds_toArray,List.set_cons_zero,List.set_cons_succ]
     refine aG (v:=?_) am5 (by kernel_rfl) (fun _ _ _ _ _ h=>h) Fq1 rfl rfl (by rfl) ?_ ?_
     rotate_left 1
     ·intro w hS
      (try dsimp only at hS)
      go_simp
      all_goals with_reducible rfl
     simp only[Act.put,List.setIfInBounds_toArray,List.set_cons_zero,List.set_cons_succ]
     refine aQ auW ?_
     refine aM rfl (by rfl) (fun K hK=>?_)
     go_simp
     refine(BS.out _ Bq1.out).mono ?_
     rintro E U2 ⟨rfl,b2⟩
     have Bq2:=hide (Bq1.out.trans (b2.mono Bq1.out.size))
     have yF:=SS.out U2 Bq2.out
     clear b2
     go_wp2_with fail
     refine hK.out _ _ yF ?_
     clear hK K
     try simp only[Act.put,List.setIfInBounds_toArray,List.set_cons_zero,List.set_cons_succ]
     refine aG (v:=?_) aks (by kernel_rfl) (fun _ _ _ _ _ h=>h) yF rfl rfl (by rfl) ?_ ?_
     rotate_left 1
     ·intro w hS
      (try dsimp only at hS)
      go_simp
      all_goals with_reducible rfl
     simp only[Act.put,List.setIfInBounds_toArray,List.set_cons_zero,List.set_cons_succ]
     refine aG (v:=?_) alp (by kernel_rfl) (fun _ _ _ _ _ h=>h) yF rfl rfl (by rfl) ?_ ?_
     rotate_left 1
     ·intro w hS
      (try dsimp only at hS)
      go_simp
      all_goals with_reducible rfl
     simp only[Act.put,List.setIfInBounds_toArray,List.set_cons_zero,List.set_cons_succ]
     refine aG (v:=?_) akp (by kernel_rfl) (fun _ _ _ _ _ h=>h) yF rfl rfl (by rfl) ?_ ?_
     rotate_left 1
     ·intro w hS
      (try dsimp only at hS)
      go_simp
      all_goals with_reducible rfl
     simp only[Act.put,List.setIfInBounds_toArray,List.set_cons_zero,List.set_cons_succ]
     refine aG (v:=?_) agw (by kernel_rfl) (fun _ _ _ _ _ h=>h) yF rfl rfl (by rfl) ?_ ?_
     rotate_left 1
     ·intro w hS
      (try dsimp only at hS)
      go_simp
      all_goals with_reducible rfl
     simp only[Act.put,List.setIfInBounds_toArray,List.set_cons_zero,List.set_cons_succ]
     refine aQ am1 ?_
     refine aM rfl (by rfl) (fun K hK=>?_)
     go_simp
     refine(XP.out _ Bq2.out).mono ?_
     rintro E U3 ⟨rfl,b3⟩
     have Bq3:=hide (Bq2.out.trans (b3.mono Bq2.out.size))
     have Fq3:=SS.out U3 Bq3.out
     clear b3
     go_wp2_with fail
     refine hK.out _ _ Fq3 ?_
     clear hK K
     try simp only[Act.put,List.setIfInBounds_toArray,List.set_cons_zero,List.set_cons_succ]
     refine aQ alX ?_
     refine aM rfl (by rfl) (fun K hK=>?_)
     go_simp
     refine(S1.out _ Bq3.out).mono ?_
     rintro E U4 ⟨rfl,b4⟩
     have Bq4:=hide (Bq3.out.trans (b4.mono Bq3.out.size))
     have tJ:=SS.out U4 Bq4.out
     clear b4
     go_wp2_with fail
     refine hK.out _ _ tJ ?_
     clear hK K
     try simp only[Act.put,List.setIfInBounds_toArray,List.set_cons_zero,List.set_cons_succ]
     refine aG (v:=?_) agY (by kernel_rfl) (fun _ _ _ _ _ h=>h) tJ rfl rfl (by rfl) ?_ ?_
     rotate_left 1
     ·intro w hS
      (try dsimp only at hS)
      go_simp
      all_goals with_reducible rfl
     simp only[Act.put,List.setIfInBounds_toArray,List.set_cons_zero,List.set_cons_succ]
     refine iI ae7 (by kernel_rfl) (fun _ _ _ _ _ h=>h) tJ rfl rfl (by rfl) ?_
     simp only[Act.put,List.setIfInBounds_toArray,List.set_cons_zero,List.set_cons_succ]
     refine iI ae5 (by kernel_rfl) (fun _ _ _ _ _ h=>h) tJ rfl rfl (by rfl) ?_
     simp only[Act.put,List.setIfInBounds_toArray,List.set_cons_zero,List.set_cons_succ]
     refine iI aeQ (by kernel_rfl) (fun _ _ _ _ _ h=>h) tJ rfl rfl (by rfl) ?_
     simp only[Act.put,List.setIfInBounds_toArray,List.set_cons_zero,List.set_cons_succ]
     refine iI adl (by kernel_rfl) (fun _ _ _ _ _ h=>h) tJ rfl rfl (by rfl) ?_
     simp only[Act.put,List.setIfInBounds_toArray,List.set_cons_zero,List.set_cons_succ]
     refine aG (v:=?_) adE (by kernel_rfl) (fun _ _ _ _ _ h=>h) tJ rfl rfl (by rfl) ?_ ?_
     rotate_left 1
     ·intro w hS
      (try dsimp only at hS)
      go_simp
      all_goals with_reducible rfl
     simp only[Act.put,List.setIfInBounds_toArray,List.set_cons_zero,List.set_cons_succ]
     refine aG (v:=?_) adq (by kernel_rfl) (fun _ _ _ _ _ h=>h) tJ rfl rfl (by rfl) ?_ ?_
     rotate_left 1
     ·intro w hS
      (try dsimp only at hS)
      go_simp
      all_goals with_reducible rfl
     simp only[Act.put,List.setIfInBounds_toArray,List.set_cons_zero,List.set_cons_succ]
     refine aG (v:=?_) abx (by kernel_rfl) (fun _ _ _ _ _ h=>h) tJ rfl rfl (by rfl) ?_ ?_
     rotate_left 1
     ·intro w hS
      (try dsimp only at hS)
      go_simp
      all_goals with_reducible rfl
     simp only[Act.put,List.setIfInBounds_toArray,List.set_cons_zero,List.set_cons_succ]
     refine dz auP ?_
     go_wp2
     go_ret
     exact⟨rfl,B1.out.trans ((BO.out.trans (Bq4.out.mono BO.out.size)).mono B1.out.size)⟩
    ·have h1:same pg page=false:=by
      cases hh:same pg page
      ·rfl
      ·exact absurd (sK.1 hh) hq
     rw[h1]at S1
     rw[show same pg other=true from sK.2 (HPP.out.resolve_left hq)]at S2
     clear hq HPP h1
     go_wp2_with fail
     refine je (ops:=(au 39 Tryz.f5)) (S:=fun W=>(W.cell? ⟨gp,0,none⟩=some (.int .i64 page.e)∧W.cell? ⟨gp,1,none⟩=some (.int .u8 page.r)∧W.cell? ⟨gp,2,none⟩=some (.int .i64 page.a)∧W.cell? ⟨gp,3,none⟩=some (.int .u8 page.p)∧W.cell? ⟨gp,4,none⟩=some (.int .i64 page.f)∧W.cell? ⟨gp,5,none⟩=some (.int .i64 page.b))∧(W.cell? ⟨go,0,none⟩=some (.int .i64 other.e)∧W.cell? ⟨go,1,none⟩=some (.int .u8 other.r)∧W.cell? ⟨go,2,none⟩=some (.int .i64 other.a)∧W.cell? ⟨go,3,none⟩=some (.int .u8 other.p)∧W.cell? ⟨go,4,none⟩=some (.int .i64 other.f)∧W.cell? ⟨go,5,none⟩=some (.int .i64 other.b))) (by kernel_rfl) aqk ?_
     rw[aut,hW0]
     refine aG (v:=?_) aqd (by kernel_rfl) (fun _ _ _ _ _ h=>h) F0 rfl rfl (by rfl) ?_ ?_
     rotate_left 1
     ·intro w hS
      (try dsimp only at hS)
      go_simp
      all_goals with_reducible rfl
     simp only[Act.put,List.setIfInBounds_toArray,List.set_cons_zero,List.set_cons_succ]
     refine aG (v:=?_) ap7 (by kernel_rfl) (fun _ _ _ _ _ h=>h) F0 rfl rfl (by rfl) ?_ ?_
     rotate_left 1
     ·intro w hS
      (try dsimp only at hS)
      go_simp
      all_goals with_reducible rfl
     simp only[Act.put,List.setIfInBounds_toArray,List.set_cons_zero,List.set_cons_succ]
     refine aQ aze ?_
     refine aM rfl (by rfl) (fun K hK=>?_)
     go_simp
     refine(BA.out _ B0.out).mono ?_
     rintro E U1 ⟨rfl,b1⟩
     have Bq1:=hide (B0.out.trans (b1.mono B0.out.size))
     have Fq1:=SS.out U1 Bq1.out
     clear b1
     go_wp2_with fail
     refine hK.out _ _ Fq1 ?_
     clear hK K
     try simp only[Act.put,List.setIfInBounds_toArray,List.set_cons_zero,List.set_cons_succ]
     refine aG (v:=?_) aqu (by kernel_rfl) (fun _ _ _ _ _ h=>h) Fq1 rfl rfl (by rfl) ?_ ?_
     rotate_left 1
     ·intro w hS
      (try dsimp only at hS)
      go_simp
      all_goals with_reducible rfl
     simp only[Act.put,List.setIfInBounds_toArray,List.set_cons_zero,List.set_cons_succ]
     refine aG (v:=?_) alW (by kernel_rfl) (fun _ _ _ _ _ h=>h) Fq1 rfl rfl (by rfl) ?_ ?_
     rotate_left 1
     ·intro w hS
      (try dsimp only at hS)
      go_simp
      all_goals with_reducible rfl
     simp only[Act.put,List.setIfInBounds_toArray,List.set_cons_zero,List.set_cons_succ]
     refine aG (v:=?_) aml (by kernel_rfl) (fun _ _ _ _ _ h=>h) Fq1 rfl rfl (by rfl) ?_ ?_
     rotate_left 1
     ·intro w hS
      (try dsimp only at hS)
      go_simp
      all_goals with_reducible rfl
     simp only[Act.put,List.setIfInBounds_toArray,List.set_cons_zero,List.set_cons_succ]
     refine aQ atC ?_
     refine aM rfl (by rfl) (fun K hK=>?_)
     go_simp
     refine(BS.out _ Bq1.out).mono ?_
     rintro E U2 ⟨rfl,b2⟩
     have Bq2:=hide (Bq1.out.trans (b2.mono Bq1.out.size))
     have yF:=SS.out U2 Bq2.out
     clear b2
     go_wp2_with fail
     refine hK.out _ _ yF ?_
     clear hK K
     try simp only[Act.put,List.setIfInBounds_toArray,List.set_cons_zero,List.set_cons_succ]
     refine aG (v:=?_) ak4 (by kernel_rfl) (fun _ _ _ _ _ h=>h) yF rfl rfl (by rfl) ?_ ?_
     rotate_left 1
     ·intro w hS
      (try dsimp only at hS)
      go_simp
      all_goals with_reducible rfl
     simp only[Act.put,List.setIfInBounds_toArray,List.set_cons_zero,List.set_cons_succ]
     refine aG (v:=?_) als (by kernel_rfl) (fun _ _ _ _ _ h=>h) yF rfl rfl (by rfl) ?_ ?_
     rotate_left 1
     ·intro w hS
      (try dsimp only at hS)
      go_simp
      all_goals with_reducible rfl
     simp only[Act.put,List.setIfInBounds_toArray,List.set_cons_zero,List.set_cons_succ]
     refine aG (v:=?_) akr (by kernel_rfl) (fun _ _ _ _ _ h=>h) yF rfl rfl (by rfl) ?_ ?_
     rotate_left 1
     ·intro w hS
      (try dsimp only at hS)
      go_simp
      all_goals with_reducible rfl
     simp only[Act.put,List.setIfInBounds_toArray,List.set_cons_zero,List.set_cons_succ]
     refine aG (v:=?_) ahG (by kernel_rfl) (fun _ _ _ _ _ h=>h) yF rfl rfl (by rfl) ?_ ?_
     rotate_left 1
     ·intro w hS
      (try dsimp only at hS)
      go_simp
      all_goals with_reducible rfl
     simp only[Act.put,List.setIfInBounds_toArray,List.set_cons_zero,List.set_cons_succ]
     refine aQ an9 ?_
     refine aM rfl (by rfl) (fun K hK=>?_)
     go_simp
     refine(XP.out _ Bq2.out).mono ?_
     rintro E U3 ⟨rfl,b3⟩
     have Bq3:=hide (Bq2.out.trans (b3.mono Bq2.out.size))
     have Fq3:=SS.out U3 Bq3.out
     clear b3
     go_wp2_with fail
     refine hK.out _ _ Fq3 ?_
     clear hK K
     try simp only[Act.put,List.setIfInBounds_toArray,List.set_cons_zero,List.set_cons_succ]
     refine aQ amz ?_
     refine aM rfl (by rfl) (fun K hK=>?_)
     go_simp
     refine(S1.out _ Bq3.out).mono ?_
     rintro E U4 ⟨rfl,b4⟩
     have Bq4:=hide (Bq3.out.trans (b4.mono Bq3.out.size))
     have tJ:=SS.out U4 Bq4.out
     clear b4
     go_wp2_with fail
     refine hK.out _ _ tJ ?_
     clear hK K
     try simp only[Act.put,List.setIfInBounds_toArray,List.set_cons_zero,List.set_cons_succ]
     refine aG (v:=?_) ahg (by kernel_rfl) (fun _ _ _ _ _ h=>h) tJ rfl rfl (by rfl) ?_ ?_
     rotate_left 1
     ·intro w hS
      (try dsimp only at hS)
      go_simp
      all_goals with_reducible rfl
     simp only[Act.put,List.setIfInBounds_toArray,List.set_cons_zero,List.set_cons_succ]
     refine aG (v:=?_) aeU (by kernel_rfl) (fun _ _ _ _ _ h=>h) tJ rfl rfl (by rfl) ?_ ?_
     rotate_left 1
     ·intro w hS
      (try dsimp only at hS)
      go_simp
      all_goals with_reducible rfl
     simp only[Act.put,List.setIfInBounds_toArray,List.set_cons_zero,List.set_cons_succ]
     refine aG (v:=?_) ae6 (by kernel_rfl) (fun _ _ _ _ _ h=>h) tJ rfl rfl (by rfl) ?_ ?_
     rotate_left 1
     ·intro w hS
      (try dsimp only at hS)
      go_simp
      all_goals with_reducible rfl
     simp only[Act.put,List.setIfInBounds_toArray,List.set_cons_zero,List.set_cons_succ]
     refine aQ akk ?_
     refine aM rfl (by rfl) (fun K hK=>?_)
     go_simp
     refine(XP.out _ Bq4.out).mono ?_
     rintro E U5 ⟨rfl,b5⟩
     have Bq5:=hide (Bq4.out.trans (b5.mono Bq4.out.size))
     have Fq5:=SS.out U5 Bq5.out
     clear b5
     go_wp2_with fail
     refine hK.out _ _ Fq5 ?_
     clear hK K
     try simp only[Act.put,List.setIfInBounds_toArray,List.set_cons_zero,List.set_cons_succ]
     refine aQ ait ?_
     refine aM rfl (by rfl) (fun K hK=>?_)
     go_simp
     refine(S2.out _ Bq5.out).mono ?_
     rintro E U6 ⟨rfl,b6⟩
     have Bq6:=hide (Bq5.out.trans (b6.mono Bq5.out.size))
     have Fq6:=SS.out U6 Bq6.out
     clear b6
     go_wp2_with fail
     refine hK.out _ _ Fq6 ?_
     clear hK K
     try simp only[Act.put,List.setIfInBounds_toArray,List.set_cons_zero,List.set_cons_succ]
     refine aG (v:=?_) adC (by kernel_rfl) (fun _ _ _ _ _ h=>h) Fq6 rfl rfl (by rfl) ?_ ?_
     rotate_left 1
     ·intro w hS
      (try dsimp only at hS)
      go_simp
      all_goals with_reducible rfl
     simp only[Act.put,List.setIfInBounds_toArray,List.set_cons_zero,List.set_cons_succ]
     refine aG (v:=?_) acX (by kernel_rfl) (fun _ _ _ _ _ h=>h) Fq6 rfl rfl (by rfl) ?_ ?_
     rotate_left 1
     ·intro w hS
      (try dsimp only at hS)
      go_simp
      all_goals with_reducible rfl
     simp only[Act.put,List.setIfInBounds_toArray,List.set_cons_zero,List.set_cons_succ]
     refine aG (v:=?_) ace (by kernel_rfl) (fun _ _ _ _ _ h=>h) Fq6 rfl rfl (by rfl) ?_ ?_
     rotate_left 1
     ·intro w hS
      (try dsimp only at hS)
      go_simp
      all_goals with_reducible rfl
     simp only[Act.put,List.setIfInBounds_toArray,List.set_cons_zero,List.set_cons_succ]
     refine dz avm ?_
     go_wp2
     go_ret
     exact⟨rfl,B1.out.trans ((BO.out.trans (Bq6.out.mono BO.out.size)).mono B1.out.size)⟩
end Go.Proofs.YtpifdeoepppadaaGreatDoor
namespace Go.Proofs.YtpifdeoepppadaaGreatDoor
open Go.ChangeShapes Go.WideShapes Go.ChangeAt Go.RowKit
open Go.ChangeMaps (open_string shut_string)
set_option linter.unusedVariables false
namespace restartStandsFrame
theorem own:ownKnob Tryz.prog.godebug=none:=by kernel_rfl
theorem laidOut:laidOutB Tryz.prog=true:=by kernel_rfl
theorem uD:Tryz.prog.cellsOf 47=13:=by kernel_rfl
theorem zt:Tryz.prog.bytesOf 47=136:=by kernel_rfl
theorem uW:Tryz.prog.cellsOf 32=3:=by kernel_rfl
theorem zG:Tryz.prog.bytesOf 32=40:=by kernel_rfl
theorem rY:Tryz.prog.cellsOf 106=3:=by kernel_rfl
theorem xn:Tryz.prog.bytesOf 106=40:=by kernel_rfl
theorem contract (H:Type)(enc:TypeId×Value→H)(W:World)(base:Nat)(args:Array Value)(ds gs:List (DataW H))(before:List MemPlace)
  (hval0:∀(j:Nat) t v,Tryz.f5.params[j]? =some t→args[j]? =some v→Value.okWide Tryz.prog W .any base t v)
  (hW:DataW.Whole enc Tryz.prog Tryz.f5.params.toList Rows.restartStandsSpec.vars false W args.toList ds gs before)
  (hsz0:(DataW.weightsEach Tryz.prog (Tryz.f5.params.toList++Rows.restartStandsSpec.plain.varTypes Tryz.prog) (ds++gs)).all (·≤reachBytes)=true) (hsh:W.ShapedOpen Tryz.prog) (hld:laidMetH Tryz.prog Rows.restartStandsRow.laid W):
  Calls Tryz.prog 5 args W fun e W'=>∃v,e=.returned v∧Rows.restartStandsSpec.post enc Tryz.prog Tryz.f5 false true false false W args v W':=by
 have hsz:(DataW.weightsEach Tryz.prog (Tryz.f5.params.toList++Rows.restartStandsSpec.plain.varTypes Tryz.prog) (ds++gs)).all (·≤reachBytes)=true:=hsz0
 clear hsz0
 have hval:∀(j:Nat) t v,Tryz.f5.params[j]? =some t→args[j]? =some v→Value.okWide Tryz.prog W .any base t v:=hval0
 have hW':=hW
 obtain⟨p,q,yT,hV,rfl,hfz,hnd⟩:=hW
 have hA:DataW.TrodAll enc Tryz.prog W 0 (fun _=>true) true Tryz.f5.params.toList args.toList ds p:=yT
 rw[Tryz.params5]at hA hval hsz
 obtain⟨v0,vs0,d0,ds0,p0,q0,hargs,rfl,rfl,h0,r0⟩:=trodAll_cons hA
 obtain⟨v1,vs1,d1,ds1,p1,q1,rfl,rfl,rfl,h1,r1⟩:=trodAll_cons r0
 obtain⟨v2,vs2,d2,ds2,p2,q2,rfl,rfl,rfl,h2,r2⟩:=trodAll_cons r1
 obtain⟨v3,vs3,d3,ds3,p3,q3,rfl,rfl,rfl,h3,r3⟩:=trodAll_cons r2
 obtain⟨rfl,rfl,rfl⟩:=trodAll_nil r3
 obtain rfl:args=#[v0,v1,v2,v3]:=by cases args;simp_all
 obtain⟨rfl,rfl⟩:=trodVars_none hV
 have T0:=xU.mk (P:=Tryz.prog) (e:=47) (o:=106) (c:=32) Tryz.underlying47 ⟨rfl,rfl,rfl,rfl,rfl,rfl⟩ ⟨by kernel_rfl,by kernel_rfl,by kernel_rfl,by kernel_rfl,by kernel_rfl,by kernel_rfl⟩ ⟨Tryz.underlying3,Tryz.underlying3,Tryz.underlying3⟩ Tryz.underlying41 (by kernel_rfl) ⟨Tryz.underlying3,Tryz.underlying38,Tryz.underlying3,Tryz.underlying39,Tryz.underlying3,Tryz.underlying3⟩ Tryz.underlying30 Tryz.underlying106 (by kernel_rfl) rY ⟨Tryz.underlying4,Tryz.underlying9,Tryz.underlying9⟩ Tryz.underlying45 (by kernel_rfl) ⟨Tryz.underlying3,Tryz.underlying3,Tryz.underlying43⟩ Tryz.underlying32 (by kernel_rfl) uW ⟨Tryz.underlying3,Tryz.underlying3,Tryz.underlying30⟩
 have k0:=h0
 have jD:∀x∈p0,x.block<W.heap.size:=by obtain⟨m,hm⟩:=k0;exact DataW.trod_lt m _ _ _ hm
 obtain⟨a0,af2,cap0,rfl⟩:=okWide_slice Tryz.underlying77 (hval 0 77 v0 rfl rfl)
 obtain⟨z0,w0,g0,b0⟩:∃r,kW W (.slice a0 af2 cap0) r∧yu r∧r.length*136≤140737488351232:=by
  obtain⟨fuel,hf⟩:=h0
  have hf':DataW.trod enc Tryz.prog W 0 (fun _=>true) true fuel 77 [.slice a0 af2 cap0]=some (d0,p0):=by simpa[Value.cells]using hf
  obtain⟨r,hr,hd⟩:=agW T0 Tryz.underlying77 uD hf'
  rcases hd with⟨_,rfl⟩|⟨es,sp,hd,hln,hes⟩
  ·exact⟨[],hr,fun c hc=>by simp at hc,by simp⟩
  ·simp only at hd
   rw[hd]at hsz
   obtain⟨h1,h2⟩:=ad3 T0 xn zG zt hsz (j:=0) (t:=77) rfl rfl hln hes Tryz.underlying77
   exact⟨r,hr,h1,h2⟩
 obtain⟨a1,rfl,rfl,rfl,w1⟩:=open_int Tryz.underlying3 (hval 1 3 v1 rfl rfl) h1
 obtain⟨a2,rfl,rfl,rfl,w2⟩:=open_int Tryz.underlying3 (hval 2 3 v2 rfl rfl) h2
 obtain⟨a3,rfl,rfl,rfl,w3⟩:=open_int Tryz.underlying3 (hval 3 3 v3 rfl rfl) h3
 clear yT hval0
 refine(xZ _ z0 a1 a2 a3 W w0 g0 b0 w1 w2 w3 (acf hld)).mono fun e W' ⟨he,aF⟩=>?_
 subst he
 exact⟨_,rfl,_,_,_,[],_,[],hW',trodAll_mk1 (shut_bool Tryz.underlying4 _),(trodAll_cons_mk (Below.trod laidOut (by kernel_rfl) (of_decide_eq_true (by kernel_rfl)) k0 aF jD) (trodAll_cons_mk (shut_int Tryz.underlying3 w1) (trodAll_cons_mk (shut_int Tryz.underlying3 w2) (trodAll_cons_mk (shut_int Tryz.underlying3 w3) trodAll_mk0)))),rfl,aF.frame _,fun h=>by cases h⟩
def kC (cs:Array Value):Obj→Obj
 |.cells _ t frozen=>.cells cs t frozen
 |o=>o
theorem lifted (os:Os)(started:os.Started)(H:Type)(enc:TypeId×Value→H)(F:Stop.Interp):
  ReturnsInHanded {} Tryz.checked os 5 .any ((OpenSpec.ofChange Rows.restartStandsSpec).preRow enc Tryz.prog Tryz.f5 Rows.restartStandsRow.domain false Rows.restartStandsRow.laid) (((OpenSpec.ofChange Rows.restartStandsSpec).at F).post enc Tryz.prog Tryz.f5 false true false false):=by
 refine returnsInHanded_of_row (C:=Tryz.checked) (s:=OpenSpec.ofChange Rows.restartStandsSpec) own started (by kernel_rfl) Tryz.func5
  (witness_row_at (enc:=enc) (C:=Tryz.checked) false ({World.holding Tryz.prog os ⟨#[],#[],[]⟩with heap:=((World.holding Tryz.prog os ⟨#[],#[],[]⟩).heap.modify 0 (kC (#[.int .i64 1048576,.int .i64 3,.int .i64 1048576,.int .i64 4,.int .i64 1048576,.int .i64 1073741824])))}:World) #[.slice none 0 0,.int .i64 0,.int .i64 0,.int .i64 0] rfl (by kernel_rfl) (by kernel_rfl) (by kernel_rfl)
   (OpenSpec.preRow_of_cond 8 (x:=([.nil,.lit (.int .i64 0),.lit (.int .i64 0),.lit (.int .i64 0)],[],[])) (by kernel_rfl) (by kernel_rfl) (fun k hk=>by cases hk) (by kernel_rfl) (laidMet_of_run' 8 (by kernel_rfl) (by kernel_rfl)))) ?_
 intro W base args ds gs before hval hW _ _ hsz hld hsh _
 exact contract H enc W base args ds gs before hval hW hsz hsh hld
theorem said:Rows.RestartStandsSaid:=
 OpenClaim.holds_of_cond 5 Tryz.f5 rfl rfl rfl rfl rfl rfl rfl ⟨rfl,rfl,rfl,rfl,rfl⟩ rfl rfl rfl rfl rfl (by kernel_rfl) Tryz.func5 (by kernel_rfl)
  (of_decide_eq_true (by kernel_rfl)) (by unfold Func.isWrapper;first|(rw[if_pos (by decide+kernel)];kernel_rfl)|(rw[if_neg (by decide+kernel)];exact⟨rfl,rfl⟩))
  (fun os started H enc _ F=>by rw[OpenClaim.pre_eq_preRow];exact lifted os started H enc F)
theorem plain (f:FuncId)(fn:Func)(hf:Tryz.pinned.checked.prog.funcNamed Rows.restartStandsRow.func=some f)(hfn:Tryz.pinned.checked.prog.funcs[f]? =some fn):
  false=Tryz.pinned.checked.prog.looks []∧∀(j:Nat) t,fn.params[j]? =some t→Tryz.pinned.checked.prog.wantsStandIn t=false:=by
 obtain rfl:f=5:=Option.some.inj ((show Tryz.prog.funcNamed Rows.restartStandsRow.func=some 5 by kernel_rfl).symm.trans hf)|>.symm
 obtain rfl:fn=Tryz.f5:=(Option.some.inj (Tryz.func5.symm.trans hfn)).symm
 refine⟨by kernel_rfl,fun j t ht=>?_⟩
 rw[Tryz.params5]at ht
 have hm:=Array.mem_of_getElem? ht
 simp at hm
 rcases hm with rfl|rfl
 ·exact(show Tryz.prog.wantsStandIn 77=false by kernel_rfl)
 ·exact(show Tryz.prog.wantsStandIn 3=false by kernel_rfl)
end restartStandsFrame
theorem restartStands_card:Rows.RestartStandsCardSaid:=
 Claim7.holds_tied_plain_at .later [] _ _ _ _ restartStandsFrame.said (fun _ h=>by cases h) (by kernel_rfl) (fun _ h=>by cases h) restartStands_row_tie rfl ⟨rfl,rfl⟩ (by kernel_rfl) rfl restartStandsFrame.plain (by kernel_rfl)
#print axioms restartStands_card
end Go.Proofs.YtpifdeoepppadaaGreatDoor
