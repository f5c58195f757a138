/- Texts. -/
import Derived.Test.YtlmkaljjocflmaaGreatDoorBH2
import Derived.Test.YtlmkaljjocflmaaGreatDoorBH13
import Derived.Test.YtlmkaljjocflmaaGreatDoorBH22
import Derived.Test.YtlmkaljjocflmaaGreatDoorBH11
import Derived.Test.YtlmkaljjocflmaaGreatDoorBZRqe
import Derived.Test.YtlmkaljjocflmaaGreatDoorBH4
import Derived.Test.YtlmkaljjocflmaaGreatDoorBM3
import Derived.Test.YtlmkaljjocflmaaGreatDoorBH19
import Derived.Test.YtlmkaljjocflmaaGreatDoorBH25
import Derived.Test.YtlmkaljjocflmaaGreatDoorBH24
import Derived.Test.YtlmkaljjocflmaaGreatDoorBH1
import Derived.Deep.RegionHeld3
import Derived.Lib.SliceRun
set_option maxRecDepth 100000
set_option maxHeartbeats 8000000
set_option linter.unusedVariables false
open Go.Proofs.Tryz
namespace Go.Proofs.YtlmkaljjocflmaaGreatDoor
open Go.RowKit
theorem zG (p q pw pr:Nat)(F F':Nat→Prop)(w:World)(off:Bool)(x:Pm.Pg)(en:Int)(vs:Value)(sw:Wl.Ws)(sr:Rl.Rs)(hb:w.heap[p]? =some (.cells (fo q off x (.pointer (some ⟨pw,0,none⟩)) en (.pointer (some ⟨pr,0,none⟩)) vs) 137 (0,0)))(h1:WW pw q F w sw)(h2:RW pr q F' w sr):
  Calls prog 106 #[.pointer (some ⟨p,0,none⟩)] w fun E w'=>E=.returned (.agg (jk x (Cm.lastE 0 sw.l) en (Cm.lastN 0 sr.l) p))∧Below w.heap.size w w':=by
 have kQ:∀(fn:Fn) (first cap:Array Value) (w:World),(Instr.makeFunc fn first cap).run prog w=.ok (.func fn first cap) w:=fun _ _ _ _=>rfl
 have hsf:∀(a:Addr) (fn:Fn) (first cap:Array Value) (w:World),(store a (.func fn first cap)).run prog w=stored prog w a (.func fn first cap) .plain:=fun a fn first cap w=>run_store _ w a _ _ rfl
 have hpl:=ay hb
 obtain⟨w1,hw1,s1,b1,P1⟩:=au w #[.int .i64 0,.int .u8 0,.int .i64 0,.int .u8 0,.int .i64 0,.int .i64 0,.int .i64 0,.int .i64 0,.int .i64 0,.nilFunc] 178
 obtain⟨K,hK⟩:∃K:World→Prop,K=fun W=>Hid (W.heap[p]? =w.heap[p]?∧W.heap[w.heap.size]? =some (.cells #[.int .i64 0,.int .u8 0,.int .i64 0,.int .u8 0,.int .i64 0,.int .i64 0,.int .i64 0,.int .i64 0,.int .i64 0,.nilFunc] 178 (0,0))∧Below w.heap.size w W):=⟨_,rfl⟩
 have HE:Hid (∀W,K W→Calls prog 112 #[.pointer (some ⟨pw,0,none⟩)] W fun E w'=>E=.returned (.int .i64 (Cm.lastE 0 sw.l))∧K w'):=hide fun W k=>by
  subst hK
  refine(abF pw q F W sw (h1.below k.out.2.2)).mono ?_
  rintro E w' ⟨rfl,m,rfl⟩
  exact⟨rfl,hide ⟨k.out.1,k.out.2.1,below_drewN k.out.2.2 m⟩⟩
 have HR:Hid (∀W,K W→Calls prog 179 #[.pointer (some ⟨pr,0,none⟩)] W fun E w'=>E=.returned (.int .i64 (Cm.lastN 0 sr.l))∧K w'):=hide fun W k=>by
  subst hK
  refine(jy pr q F' W sr (h2.below k.out.2.2)).mono ?_
  rintro E w' ⟨rfl,rfl⟩
  exact⟨rfl,k⟩
 generalize Cm.lastE 0 sw.l=ep at*
 generalize Cm.lastN 0 sr.l=rn at*
 obtain⟨SS,hSS⟩:∃SS:World→Prop,SS=(fun W=>W.cell? ⟨p,2,none⟩=some (.int .i64 x.e)∧W.cell? ⟨p,3,none⟩=some (.int .u8 x.r)∧W.cell? ⟨p,4,none⟩=some (.int .i64 x.a)∧W.cell? ⟨p,5,none⟩=some (.int .u8 x.p)∧W.cell? ⟨p,6,none⟩=some (.int .i64 x.f)∧W.cell? ⟨p,7,none⟩=some (.int .i64 x.b)∧W.cell? ⟨p,8,none⟩=some (.pointer (some ⟨pw,0,none⟩))∧W.cell? ⟨p,9,none⟩=some (.int .i64 en)∧W.cell? ⟨p,11,none⟩=some (.pointer (some ⟨pr,0,none⟩))):=⟨_,rfl⟩
 have sB:∀W,W.heap[p]? =w.heap[p]?→SS W:=fun W k=>by
  subst hSS
  obtain⟨c0,_,c2,c3,c4,c5,c6,c7,c8,c9,_,c11,_⟩:=ku (k.trans hb)
  exact⟨c2,c3,c4,c5,c6,c7,c8,c9,c11⟩
 have KS:Hid (∀W,K W→SS W):=hide fun W k=>by
  subst hK
  exact sB W k.out.1
 have PUT:Hid (∀W V,W.heap[w.heap.size]? =some (.cells #[.int .i64 0,.int .u8 0,.int .i64 0,.int .u8 0,.int .i64 0,.int .i64 0,.int .i64 0,.int .i64 0,.int .i64 0,.nilFunc] 178 (0,0))→Below w.heap.size w W→W.grownBy V (some w.heap.size)→SS V∧Below w.heap.size w V):=hide fun W V k1 k2 k3=>by
  have hs:=k2.size
  have b:=aG k2 k3 (Nat.le_refl _) (by omega)
  exact⟨sB V (b.block p hpl),b⟩
 obtain⟨W0,hW0⟩:∃W,w1.drew=W:=⟨_,rfl⟩
 have K0:K W0:=by
  subst hK
  rw[←hW0]
  exact hide ⟨b1.block p hpl,P1,b1.drew⟩
 subst hK hSS
 clear h1 h2 hb P1 b1 s1 sB
 go_enter func106,ntmps106
 go_wp2_with fail
 refine kM (ops:=(aB 1 f106)) (S:=fun W=>W.cell? ⟨p,2,none⟩=some (.int .i64 x.e)∧W.cell? ⟨p,3,none⟩=some (.int .u8 x.r)∧W.cell? ⟨p,4,none⟩=some (.int .i64 x.a)∧W.cell? ⟨p,5,none⟩=some (.int .u8 x.p)∧W.cell? ⟨p,6,none⟩=some (.int .i64 x.f)∧W.cell? ⟨p,7,none⟩=some (.int .i64 x.b)∧W.cell? ⟨p,8,none⟩=some (.pointer (some ⟨pw,0,none⟩))∧W.cell? ⟨p,9,none⟩=some (.int .i64 en)∧W.cell? ⟨p,11,none⟩=some (.pointer (some ⟨pr,0,none⟩))) (by kernel_rfl) apF ?_
 rw[auU,hW0]
 refine bu apA (KS.out _ K0) ?_
 refine bu apC (KS.out _ K0) ?_
 refine bu ard (KS.out _ K0) ?_
 refine bu aqN (KS.out _ K0) ?_
 refine bu alS (KS.out _ K0) ?_
 refine bu alA (KS.out _ K0) ?_
 refine bu anb (KS.out _ K0) ?_
 refine bu ajF (KS.out _ K0) ?_
 refine bu ajI (KS.out _ K0) ?_
 refine bu ajR (KS.out _ K0) ?_
 refine bu afM (KS.out _ K0) ?_
 refine bu agZ (KS.out _ K0) ?_
 refine bu agB (KS.out _ K0) ?_
 refine bu ad1 (KS.out _ K0) ?_
 refine bu aec (KS.out _ K0) ?_
 refine bu aed (KS.out _ K0) ?_
 refine bu ab5 (KS.out _ K0) ?_
 refine bu acQ (KS.out _ K0) ?_
 refine bu ab7 (KS.out _ K0) ?_
 refine bu aa3 (KS.out _ K0) ?_
 refine bu abA (KS.out _ K0) ?_
 refine bu aba (KS.out _ K0) ?_
 refine bu aag (KS.out _ K0) ?_
 refine qG ad9 ?_ ?_
 ·refine aJ rfl (by rfl) (fun K hK=>?_)
  go_simp
  refine(HE.out _ K0).mono ?_
  rintro E U1 ⟨rfl,k1⟩
  go_wp2_with fail
  refine bf hK (KS.out _ k1) ?_
  clear hK K
  refine qG ad6 ?_ ?_
  ·refine aJ rfl (by rfl) (fun K hK=>?_)
   go_simp
   refine(HR.out _ k1).mono ?_
   rintro E U2 ⟨rfl,k2⟩
   go_wp2_with fail
   refine bf hK (KS.out _ k2) ?_
   clear hK K
   refine dm aea ?_
   refine aJ rfl (by rfl) (fun K hK=>?_)
   go_simp
   go_wp2_with fail
   refine bf hK (KS.out _ k2) ?_
   clear hK K
   refine bu lC (KS.out _ k2) ?_
   refine dm mY ?_
   obtain⟨pb,bb⟩:=k2.out.2
   obtain⟨V,hV,bV,gV,⟨a0,a1,a2,a3,a4,a5,a6,a7,a8,a9⟩,fr,⟨z0,z1,z2,z3,z4,z5,z6,z7,z8,z9⟩⟩:=aeA pb (.int .i64 x.e) (.int .u8 x.r) (.int .i64 x.a) (.int .u8 x.p) (.int .i64 x.f) (.int .i64 x.b) (.int .i64 ep) (.int .i64 en) (.int .i64 rn) (.func (.func 180) #[.pointer (some ⟨p,0,none⟩)] #[])
   have f0:=fr 0;have f1:=fr 1;have f2:=fr 2;have f3:=fr 3;have f4:=fr 4;have f5:=fr 5;have f6:=fr 6;have f7:=fr 7;have f8:=fr 8;have f9:=fr 9
   have SV:=hide (PUT.out _ _ pb bb gV)
   clear bV gV fr pb bb
   refine aJ rfl (by rfl) (fun K hK=>?_)
   go_simp
   go_wp2_with fail
   refine bf hK SV.out.1 ?_
   clear hK K
   refine cZ acC ?_
   clear HE HR KS PUT
   go_wp2
   refine bodyPost_ret (v:=.agg (jk x ep en rn p)) (by simp[results,results106,go_sem,z0,z1,z2,z3,z4,z5,z6,z7,z8,z9,jk]) rfl ?_
   exact⟨rfl,SV.out.2⟩
  ·refine aJ rfl (by rfl) (fun K hK=>?_)
   go_simp
   go_wp2_with fail
   refine bf hK (KS.out _ k1) ?_
   clear hK K
   refine dm wJ ?_
   refine aJ rfl (by rfl) (fun K hK=>?_)
   go_simp
   refine(HR.out _ k1).mono ?_
   rintro E U6 ⟨rfl,k6⟩
   go_wp2_with fail
   refine bf hK (KS.out _ k6) ?_
   clear hK K
   refine bu lC (KS.out _ k6) ?_
   refine dm mY ?_
   obtain⟨pb,bb⟩:=k6.out.2
   obtain⟨V,hV,bV,gV,⟨a0,a1,a2,a3,a4,a5,a6,a7,a8,a9⟩,fr,⟨z0,z1,z2,z3,z4,z5,z6,z7,z8,z9⟩⟩:=aeA pb (.int .i64 x.e) (.int .u8 x.r) (.int .i64 x.a) (.int .u8 x.p) (.int .i64 x.f) (.int .i64 x.b) (.int .i64 ep) (.int .i64 en) (.int .i64 rn) (.func (.func 180) #[.pointer (some ⟨p,0,none⟩)] #[])
   have f0:=fr 0;have f1:=fr 1;have f2:=fr 2;have f3:=fr 3;have f4:=fr 4;have f5:=fr 5;have f6:=fr 6;have f7:=fr 7;have f8:=fr 8;have f9:=fr 9
   have SV:=hide (PUT.out _ _ pb bb gV)
   clear bV gV fr pb bb
   refine aJ rfl (by rfl) (fun K hK=>?_)
   go_simp
   go_wp2_with fail
   refine bf hK SV.out.1 ?_
   clear hK K
   refine cZ acC ?_
   clear HE HR KS PUT
   go_wp2
   refine bodyPost_ret (v:=.agg (jk x ep en rn p)) (by simp[results,results106,go_sem,z0,z1,z2,z3,z4,z5,z6,z7,z8,z9,jk]) rfl ?_
   exact⟨rfl,SV.out.2⟩
 ·refine aJ rfl (by rfl) (fun K hK=>?_)
  go_simp
  go_wp2_with fail
  refine bf hK (KS.out _ K0) ?_
  clear hK K
  refine dm aeb ?_
  refine aJ rfl (by rfl) (fun K hK=>?_)
  go_simp
  refine(HE.out _ K0).mono ?_
  rintro E U9 ⟨rfl,k9⟩
  go_wp2_with fail
  refine bf hK (KS.out _ k9) ?_
  clear hK K
  refine dm wJ ?_
  refine aJ rfl (by rfl) (fun K hK=>?_)
  go_simp
  refine(HR.out _ k9).mono ?_
  rintro E U10 ⟨rfl,k10⟩
  go_wp2_with fail
  refine bf hK (KS.out _ k10) ?_
  clear hK K
  refine bu lC (KS.out _ k10) ?_
  refine dm mY ?_
  obtain⟨pb,bb⟩:=k10.out.2
  obtain⟨V,hV,bV,gV,⟨a0,a1,a2,a3,a4,a5,a6,a7,a8,a9⟩,fr,⟨z0,z1,z2,z3,z4,z5,z6,z7,z8,z9⟩⟩:=aeA pb (.int .i64 x.e) (.int .u8 x.r) (.int .i64 x.a) (.int .u8 x.p) (.int .i64 x.f) (.int .i64 x.b) (.int .i64 ep) (.int .i64 en) (.int .i64 rn) (.func (.func 180) #[.pointer (some ⟨p,0,none⟩)] #[])
  have f0:=fr 0;have f1:=fr 1;have f2:=fr 2;have f3:=fr 3;have f4:=fr 4;have f5:=fr 5;have f6:=fr 6;have f7:=fr 7;have f8:=fr 8;have f9:=fr 9
  have SV:=hide (PUT.out _ _ pb bb gV)
  clear bV gV fr pb bb
  refine aJ rfl (by rfl) (fun K hK=>?_)
  go_simp
  go_wp2_with fail
  refine bf hK SV.out.1 ?_
  clear hK K
  refine cZ acC ?_
  clear HE HR KS PUT
  go_wp2
  refine bodyPost_ret (v:=.agg (jk x ep en rn p)) (by simp[results,results106,go_sem,z0,z1,z2,z3,z4,z5,z6,z7,z8,z9,jk]) rfl ?_
  exact⟨rfl,SV.out.2⟩
def Chg (w:World) (p:Nat) (f:FuncId) (cap:Array Value) (x:Pm.Pg) (ep en rn:Int) (x':Pm.Pg) (ep' en' rn':Int):Prop:=
 ∀W g,Below w.heap.size w W→w.heap.size≤g→W.heap[g]? =some (.cells (jk x ep en rn p) 178 (0,0))→Calls prog f (#[.pointer (some ⟨g,0,none⟩)]++cap) W fun E w'=>E=.returned (.tuple #[])∧w'.heap[g]? =some (.cells (jk x' ep' en' rn' p) 178 (0,0))∧Out (fun i=>i=g) W w'
theorem xN (p q pw pr:Nat)(F F':Nat→Prop)(w:World)(off:Bool)(x:Pm.Pg)(en:Int)(vs:Value)(sw:Wl.Ws)(sr:Rl.Rs)(hb:w.heap[p]? =some (.cells (fo q off x (.pointer (some ⟨pw,0,none⟩)) en (.pointer (some ⟨pr,0,none⟩)) vs) 137 (0,0)))(h1:WW pw q F w sw)(h2:RW pr q F' w sr)
  (f:FuncId) (cap:Array Value) (eg:∀args w,(callFunc f args).run prog w=.ok (.enter f args) w) (x':Pm.Pg) (ep' en' rn' b:Int) (hch:Chg w p f cap x (Cm.lastE 0 sw.l) en (Cm.lastN 0 sr.l) x' ep' en' rn')
  (hS:(x'.p=2∨x'.p=3∨x'.p=4)→∀W,Below w.heap.size w W→Calls prog 180 #[.pointer (some ⟨p,0,none⟩)] W fun E w'=>E=.returned (.int .i64 b)∧Below W.heap.size W w'):
  Calls prog 114 #[.pointer (some ⟨p,0,none⟩),.func (.func f) #[] cap] w fun E w'=>E=.returned (.int .i64 (if vS x' ep' en' rn' b=true then 0 else 5))∧Below w.heap.size w w':=by
 have hsf:∀(a:Addr) (fn:Fn) (first cap:Array Value) (w:World),(store a (.func fn first cap)).run prog w=stored prog w a (.func fn first cap) .plain:=fun a fn first cap w=>run_store _ w a _ _ rfl
 have OL:=hide (zG p q pw pr F F' w off x en vs sw sr hb h1 h2)
 have CH:=hide hch
 have HS:=hide hS
 generalize Cm.lastE 0 sw.l=ep at*
 generalize Cm.lastN 0 sr.l=rn at*
 obtain⟨r,hr⟩:∃r,(if vS x' ep' en' rn' b=true then(0:Int)else 5)=r:=⟨_,rfl⟩
 rw[hr]
 have HR:=hide hr
 clear h1 h2 hb hch hS hr
 go_enter func114,ntmps114
 go_wp2_with fail
 refine OL.out.mono ?_
 rintro E w1 ⟨rfl,b1⟩
 unfold jk
 obtain⟨w2,hw2,s2,b2,P2⟩:=au w1 #[.int .i64 0,.int .u8 0,.int .i64 0,.int .u8 0,.int .i64 0,.int .i64 0,.int .i64 0,.int .i64 0,.int .i64 0,.nilFunc] 178
 obtain⟨V,hV,bV,gV,⟨a0,a1,a2,a3,a4,a5,a6,a7,a8,a9⟩,fr,⟨z0,z1,z2,z3,z4,z5,z6,z7,z8,z9⟩⟩:=aeA P2 (.int .i64 x.e) (.int .u8 x.r) (.int .i64 x.a) (.int .u8 x.p) (.int .i64 x.f) (.int .i64 x.b) (.int .i64 ep) (.int .i64 en) (.int .i64 rn) (.func (.func 180) #[.pointer (some ⟨p,0,none⟩)] #[])
 have f0:=fr 0;have f1:=fr 1;have f2:=fr 2;have f3:=fr 3;have f4:=fr 4;have f5:=fr 5;have f6:=fr 6;have f7:=fr 7;have f8:=fr 8;have f9:=fr 9
 have hs1:=b1.size
 have b12:=b1.trans (b2.mono hs1)
 have bvv:=aG b12 gV hs1 (by omega)
 have hlV:w1.heap.size<V.heap.size:=ay bV
 have C2:=hide (CH.out V w1.heap.size bvv hs1 bV)
 have BV:=hide (And.intro bvv (And.intro hs1 hlV))
 clear OL CH b1 b2 b12 bvv hs1 hlV bV gV fr P2 s2
 go_wp2_with fail
 refine C2.out.mono ?_
 rintro E w3 ⟨rfl,P3,o3⟩
 unfold jk at P3
 obtain⟨y0,y1,y2,y3,y4,y5,y6,y7,y8,y9⟩:=mJ P3
 have b3:Below w.heap.size w w3:=BV.out.1.trans (o3.below (fun g hg=>by rw[hg];exact BV.out.2.1) BV.out.1.size)
 have C3:=hide (aa8 p x' ep' en' rn' b w3 fun k W hW=>HS.out k W (b3.trans (hW.mono b3.size)))
 rw[HR.out]at C3
 unfold jk at C3
 have B3:=hide b3
 clear C2 b3 o3 P3 HR HS z0 z1 z2 z3 z4 z5 z6 z7 z8 z9 a0 a1 a2 a3 a4 a5 a6 a7 a8 a9 f0 f1 f2 f3 f4 f5 f6 f7 f8 f9
 go_wp2_with fail
 refine C3.out.mono ?_
 rintro E w4 ⟨rfl,b4⟩
 have B4:=hide (B3.out.trans (b4.mono B3.out.size))
 clear C3 b4 B3
 go_wp2
 go_ret
 exact⟨rfl,B4.out⟩
theorem auw (w:World)(p g3:Nat)(x y:Pm.Pg)(ep en rn:Int)(h3:w.heap[g3]? =some (.cells (cp y) 46 (0,0))):Chg w p 123 #[.pointer (some ⟨g3,0,none⟩)] x ep en rn y ep en rn:=by
 intro W g hW hg hP
 show Calls _ _ #[.pointer (some ⟨g,0,none⟩),.pointer (some ⟨g3,0,none⟩)] _ _
 unfold cp at h3
 obtain⟨d0,d1,d2,d3,d4,d5⟩:=aR ((hW.block g3 (ay h3)).trans h3)
 unfold jk at hP⊢
 obtain⟨c0,c1,c2,c3,c4,c5,_⟩:=mJ hP
 have fr:=aA hP
 have f0:=fr 0;have f1:=fr 1;have f2:=fr 2;have f3:=fr 3;have f4:=fr 4;have f5:=fr 5
 have q0:=aF hP 0 (.int .i64 y.e)
 have q1:=aF q0 1 (.int .u8 y.r)
 have q2:=aF q1 2 (.int .i64 y.a)
 have q3:=aF q2 3 (.int .u8 y.p)
 have q4:=aF q3 4 (.int .i64 y.f)
 have q5:=aF q4 5 (.int .i64 y.b)
 have gr:=aH (aH (aH (aH (aH (ax W ⟨g,0,none⟩ (.int .i64 y.e)) (ax _ ⟨g,1,none⟩ (.int .u8 y.r))) (ax _ ⟨g,2,none⟩ (.int .i64 y.a))) (ax _ ⟨g,3,none⟩ (.int .u8 y.p))) (ax _ ⟨g,4,none⟩ (.int .i64 y.f))) (ax _ ⟨g,5,none⟩ (.int .i64 y.b))
 obtain⟨V,hV⟩:∃V,(((((W.setCell ⟨g,0,none⟩ (.int .i64 y.e)).setCell ⟨g,1,none⟩ (.int .u8 y.r)).setCell ⟨g,2,none⟩ (.int .i64 y.a)).setCell ⟨g,3,none⟩ (.int .u8 y.p)).setCell ⟨g,4,none⟩ (.int .i64 y.f)).setCell ⟨g,5,none⟩ (.int .i64 y.b)=V:=⟨_,rfl⟩
 rw[hV]at q5 gr
 have R:Hid (V.heap[g]? =some (.cells #[.int .i64 y.e,.int .u8 y.r,.int .i64 y.a,.int .u8 y.p,.int .i64 y.f,.int .i64 y.b,.int .i64 ep,.int .i64 en,.int .i64 rn,.func (.func 180) #[.pointer (some ⟨p,0,none⟩)] #[]] 178 (0,0))∧Out (fun i=>i=g) W V):=hide ⟨q5,Out.aM gr fun i hi=>by simpa using hi.symm⟩
 clear q0 q1 q2 q3 q4 q5 gr h3 hP fr
 go_enter func123,ntmps123
 go_wp2
 go_end0
 exact⟨rfl,R.out⟩
theorem amZ (w:World)(p g3:Nat)(x:Pm.Pg)(ep en rn u:Int)(h3:w.heap[g3]? =some (.cells #[.int .i64 u] 3 (0,0))):Chg w p 223 #[.pointer (some ⟨g3,0,none⟩)] x ep en rn x ep en u:=by
 intro W g hW hg hP
 show Calls _ _ #[.pointer (some ⟨g,0,none⟩),.pointer (some ⟨g3,0,none⟩)] _ _
 have d0:=ai ((hW.block g3 (ay h3)).trans h3) 0 rfl
 unfold jk at hP⊢
 obtain⟨c0,c1,c2,c3,c4,c5,c6,c7,c8,c9⟩:=mJ hP
 have f8:=aA hP 8
 have q8:=aF hP 8 (.int .i64 u)
 have gr:=ax W ⟨g,8,none⟩ (.int .i64 u)
 obtain⟨V,hV⟩:∃V,W.setCell ⟨g,8,none⟩ (.int .i64 u)=V:=⟨_,rfl⟩
 rw[hV]at q8 gr
 have R:Hid (V.heap[g]? =some (.cells #[.int .i64 x.e,.int .u8 x.r,.int .i64 x.a,.int .u8 x.p,.int .i64 x.f,.int .i64 x.b,.int .i64 ep,.int .i64 en,.int .i64 u,.func (.func 180) #[.pointer (some ⟨p,0,none⟩)] #[]] 178 (0,0))∧Out (fun i=>i=g) W V):=hide ⟨q8,Out.aM gr fun i hi=>by simpa using hi.symm⟩
 clear q8 gr h3 hP
 go_enter func223,ntmps223
 go_wp2
 go_end0
 exact⟨rfl,R.out⟩
theorem alY {W:World}{g p:Nat}{x:Pm.Pg}{ep en rn:Int}(hP:W.heap[g]? =some (.cells (jk x ep en rn p) 178 (0,0)))(u:Int):
  (∃V,W.setCell ⟨g,6,none⟩ (.int .i64 u)=V∧V.heap[g]? =some (.cells (jk x u en rn p) 178 (0,0))∧Out (fun i=>i=g) W V)∧(∃V,W.setCell ⟨g,7,none⟩ (.int .i64 u)=V∧V.heap[g]? =some (.cells (jk x ep u rn p) 178 (0,0))∧Out (fun i=>i=g) W V):=by
 unfold jk at*
 exact⟨⟨_,rfl,aF hP 6 _,Out.aM (ax W ⟨g,6,none⟩ _) fun i hi=>by simpa using hi.symm⟩,⟨_,rfl,aF hP 7 _,Out.aM (ax W ⟨g,7,none⟩ _) fun i hi=>by simpa using hi.symm⟩⟩
theorem adM:∀(l:List Cm.Cv) (ep:Int) (h:0<l.length),Cm.lastE ep l=(l[l.length-1]).e
 |[c],_,_=>rfl
 |c::d::r,ep,_=>by
  have:=adM (d::r) c.e (by simp)
  show Cm.lastE c.e (d::r)=_
  rw[this]
  simp
theorem aqZ (g p:Nat)(x:Pm.Pg)(ep en rn:Int)(W:World)(v:Value)(rs:List Cw)(hP:W.heap[g]? =some (.cells (jk x ep en rn p) 178 (0,0)))(hc:∀V,Out (fun i=>i=g) W V→gD V v rs)(h0:0≤en∧en≤1000000)(hl:rs.length≤100):
  Calls prog 116 #[.pointer (some ⟨g,0,none⟩),v] W fun E w'=>E=.returned (.tuple #[])∧w'.heap[g]? =some (.cells (jk x (Cm.lastE ep (aD rs)) (en+rs.length) rn p) 178 (0,0))∧Out (fun i=>i=g) W w':=by
 obtain⟨V,hV,PV,oV⟩:=(alY hP (en+rs.length)).2
 obtain⟨Z,hZ,PZ,oZ⟩:=(alY PV (Cm.lastE ep (aD rs))).1
 have hI:=hc V oV
 unfold jk at hP PV
 obtain⟨c0,c1,c2,c3,c4,c5,c6,c7,c8,c9⟩:=mJ hP
 obtain⟨d0,d1,d2,d3,d4,d5,d6,d7,d8,d9⟩:=mJ PV
 have f7:=aA hP 7
 have f6:=aA PV 6
 by_cases hn:rs.length=0
 ·obtain rfl:rs=[]:=List.eq_nil_of_length_eq_zero hn
  obtain⟨ao,cap,rfl⟩:∃a k,v=.slice a 0 k:=by
   rcases hI.1 with⟨h,_⟩|⟨a,c,h,_⟩
   ·exact⟨_,_,h⟩
   ·exact⟨_,_,h⟩
  have R:Hid (V.heap[g]? =some (.cells (jk x (Cm.lastE ep (aD [])) (en+([]:List Cw).length) rn p) 178 (0,0))∧Out (fun i=>i=g) W V):=hide ⟨PV,oV⟩
  simp only[List.length_nil,Int.ofNat_zero,Int.add_zero]at hV R⊢
  clear hP PV oV PZ oZ hZ hI hc d0 d1 d2 d3 d4 d5 d6 d7 d8 d9
  go_enter func116,ntmps116
  go_wp2
  go_end0
  exact⟨rfl,R.out⟩
 ·have hp:0<rs.length:=by omega
  obtain⟨b1,o1,k1,rfl,_,hcell⟩:=jq hI hp
  have hlast:=(hcell (rs.length-1) (rs[rs.length-1]) (by simp)).1
  have he:Cm.lastE ep (aD rs)=(rs[rs.length-1]).e:=by
   rw[adM (aD rs) ep (by unfold aD;simpa using hp)]
   unfold aD
   simp[Cw.c]
  rw[he]at hZ PZ⊢
  generalize (rs[rs.length-1]).e=le at*
  have R:Hid (Z.heap[g]? =some (.cells (jk x le (en+rs.length) rn p) 178 (0,0))∧Out (fun i=>i=g) W Z):=hide ⟨PZ,oV.trans oZ fun i hi=>.inl hi⟩
  clear hI hc hcell hP PV oV PZ oZ he
  obtain⟨m,hm⟩:∃m,rs.length=m+1:=⟨rs.length-1,by omega⟩
  rw[hm]at hlast R hV hl d7⊢
  have hlast:V.cell? ⟨b1,o1+m*3,none⟩=some (.int .i64 le):=hlast
  clear hp hn hm
  have hcs:((m+1:Nat):Int)=(m:Int)+1:=by omega
  rw[hcs]at hV R d7⊢
  clear hcs
  have hm2:IntKind.i64.wrap (en+((m:Int)+1))=en+((m:Int)+1):=aQ _ (by omega) (by omega)
  go_enter func116,ntmps116
  go_wp2
  go_end0
  exact⟨rfl,R.out⟩
theorem auF (w:World)(p g3:Nat)(x:Pm.Pg)(ep en rn:Int)(v:Value)(rs:List Cw)(h3:w.heap[g3]? =some (.cells #[v] 22 (0,0)))(hc:∀V,Below w.heap.size w V→gD V v rs)(h0:0≤en∧en≤1000000)(hl:rs.length≤100):Chg w p 115 #[.pointer (some ⟨g3,0,none⟩)] x ep en rn x (Cm.lastE ep (aD rs)) (en+rs.length) rn:=by
 intro W g hW hg hP
 show Calls _ _ #[.pointer (some ⟨g,0,none⟩),.pointer (some ⟨g3,0,none⟩)] _ _
 have d0:=ai ((hW.block g3 (ay h3)).trans h3) 0 rfl
 have GR:=hide (aqZ g p x ep en rn W v rs hP (fun V hV=>hc V (hW.trans (hV.below (fun i hi=>by rw[hi];exact hg) hW.size))) h0 hl)
 obtain⟨ao,m,k,rfl⟩:∃a n k,v=.slice a n k:=by
  rcases(hc w (Below.refl _ _)).1 with⟨h,_⟩|⟨a,c,h,_⟩
  ·exact⟨_,_,_,h⟩
  ·exact⟨_,_,_,h⟩
 clear hc h3 hP
 go_enter func115,ntmps115
 go_wp2_with fail
 refine GR.out.mono ?_
 rintro E w' ⟨rfl,X⟩
 have X:=hide X
 clear GR
 go_wp2
 go_end0
 exact⟨rfl,X.out⟩
theorem yZ {x:Pm.Pg}(h:Pm.Ok x)(l:List Cm.Cv)(rn b:Int):vS x (Cm.lastE 0 l) l.length rn b=Rst.snd x l rn b:=by
 obtain⟨_,h⟩:=h
 rw[Bool.eq_iff_iff,Rst.p8]
 generalize Cm.lastE 0 l=ep
 generalize (l.length:Int)=en
 unfold vS
 by_cases h4:x.p=4
 ·rw[if_pos h4]
  simp only[Bool.and_eq_true,decide_eq_true_eq]
  omega
 ·rw[if_neg h4]
  by_cases h3:x.p=3∨x.p=2
  ·rw[if_pos h3]
   simp only[Bool.and_eq_true,decide_eq_true_eq]
   omega
  ·rw[if_neg h3]
   by_cases h1:x.p=1
   ·rw[if_pos h1]
    simp only[Bool.and_eq_true,decide_eq_true_eq]
    omega
   ·rw[if_neg h1]
    simp only[Bool.and_eq_true,decide_eq_true_eq]
    omega
theorem akZ (f:Nat):∀(n:Nat) (st:Dm.Ds) (bs:List Int),(Dm.wrt f n st bs).1=0∨(Dm.wrt f n st bs).1=6
 |0,_,_=>.inl rfl
 |n+1,st,bs=>by
  unfold Dm.wrt
  split
  ·exact .inl rfl
  split
  ·exact .inr rfl
  ·exact akZ f n _ _
theorem afp {st:Dm.Ds}(f:Nat)(hf:f<4)(bs:List Int):(Dm.write st f bs).1=0∨(Dm.write st f bs).1=6:=by
 unfold Dm.write
 split
 ·exact .inr rfl
 rw[if_neg (by unfold Dm.kS;simp;omega)]
 exact akZ _ _ _ _
theorem al5 (g0 g1 p q:Nat)(F:Nat→Prop)(w:World)(st:Dm.Ds)(vb:Value)(bs:List Int)(h0:w.cell? ⟨g0,0,none⟩=some (.pointer (some ⟨p,0,none⟩)))(h1:w.cell? ⟨g1,0,none⟩=some vb)(hp:w.cell? ⟨p,0,none⟩=some (.pointer (some ⟨q,0,none⟩)))(h:Pk q F w st)(hs:Big 90000000 700000 st)(hb:Is .u8 w vb bs)(hbF:∀b,vb.ownBlock=some b→¬F b)(hl:bs.length≤1000)(hn:∀g,g=g0∨g=g1∨g=p→g<w.heap.size∧¬F g):
  Calls prog 188 #[.pointer (some ⟨g0,0,none⟩),.pointer (some ⟨g1,0,none⟩)] w fun E w'=>E=.returned (.int .i64 (Dm.write st 1 bs).1)∧bN q F w w' (Dm.write st 1 bs).2:=by
 have HC:Hid (Calls prog 70 #[.pointer (some ⟨q,0,none⟩),.int .i64 1,vb] w.drew fun E w'=>E=.returned (.int .i64 (Dm.write st 1 bs).1)∧bN q F w w' (Dm.write st 1 bs).2):=hide (by
  have hd:Below w.heap.size w w.drew:=(Below.refl _ _).drew
  have hc:cnt bs.length≤17:=by unfold cnt;omega
  refine(nL q F w.drew st 1 vb bs (h.below hd) (hb.below hd) (fun _=>hbF) (by omega) (by have:=hs.1.2.1;omega) hs.2 (by have:=hs.1.2.2;omega)).mono ?_
  rintro E w' ⟨rfl,k⟩
  exact⟨rfl,bN.pre hd k⟩)
 have HK:Hid (∀w',bN q F w w' (Dm.write st 1 bs).2→w'.cell? ⟨g0,0,none⟩=some (.pointer (some ⟨p,0,none⟩))∧w'.cell? ⟨g1,0,none⟩=some vb∧w'.cell? ⟨p,0,none⟩=some (.pointer (some ⟨q,0,none⟩))):=hide (by
  rintro w' ⟨_,_,k,_⟩
  have e:∀g,g=g0∨g=g1∨g=p→w'.cell? ⟨g,0,none⟩=w.cell? ⟨g,0,none⟩:=fun g hg=>by have:=k.block g (hn g hg).1 (hn g hg).2;simp[World.cell?,this]
  exact⟨(e g0 (by simp)).trans h0,(e g1 (by simp)).trans h1,(e p (by simp)).trans hp⟩)
 clear h hs hn hb hbF hl
 go_enter func188,ntmps188
 go_wp2_with fail
 go_region_held3 (fun w'=>w'.cell? ⟨g0,0,none⟩=some (.pointer (some ⟨p,0,none⟩))∧w'.cell? ⟨g1,0,none⟩=some vb∧w'.cell? ⟨p,0,none⟩=some (.pointer (some ⟨q,0,none⟩))) (first|exact⟨h0,h1,hp⟩|exact⟨i0,i1,ip⟩|go_keep)
  (first
  |(go_at_call 70;refine HC.out.mono ?_;rintro E w' ⟨rfl,k⟩;obtain⟨i0,i1,ip⟩:=HK.out _ k;have K:=hide k;clear k))
 go_wp2
 go_ret
 exact⟨rfl,K.out⟩
theorem ah1 (w:World)(t:TypeId)(x a:Value):∃V,(w.alloc (.cells #[x] t)).setCell ⟨w.heap.size,0,none⟩ a=V∧w.alloc (.cells #[a] t)=V∧V.heap.size=w.heap.size+1∧Below w.heap.size w V∧V.heap[w.heap.size]? =some (.cells #[a] t (0,0)):=by
 obtain⟨V,h1,h2,h3,h4⟩:=au w #[a] t
 refine⟨V,?_,h1,h2,h3,h4⟩
 rw[←h1]
 simp[go_sem]
theorem apo (p q:Nat)(F:Nat→Prop)(w:World)(st:Dm.Ds)(off:Bool)(y x:Pm.Pg)(vw vr vs:Value)(en:Int)(h:Pk q F w st)(hs:Big 50000000 500000 st)(hb:w.heap[p]? =some (.cells (fo q off y vw en vr vs) 137 (0,0)))(hpF:¬F p)(hx:Pm.Ok x)(hm:fU w):
  Calls prog 125 #[.pointer (some ⟨p,0,none⟩),vp x] w fun E w'=>E=.returned (.int .i64 (Rst.ext st 1 (Fm.dK (Pm.enc x))).1)∧∃F',Pk q F' w' (Rst.ext st 1 (Fm.dK (Pm.enc x))).2∧w'.heap[p]? =some (.cells (fo q off (if (Rst.ext st 1 (Fm.dK (Pm.enc x))).1=0 then x else y) vw en vr vs) 137 (0,0))∧Out (fun g=>F g∨g=p) w w'∧∀g,F' g→F g∨w.heap.size≤g:=by
 have kQ:∀(fn:Fn) (first cap:Array Value) (w:World),(Instr.makeFunc fn first cap).run prog w=.ok (.func fn first cap) w:=fun _ _ _ _=>rfl
 have hpl:=ay hb
 have hF:∀g,F g→g<w.heap.size:=h.lt
 obtain⟨bs,hbs⟩:∃bs,Fm.dK (Pm.enc x)=bs:=⟨_,rfl⟩
 rw[hbs]
 have rM:=hide hbs
 clear hbs
 obtain⟨⟨ee,d'⟩,hex⟩:∃ex,Rst.ext st 1 bs=ex:=⟨_,rfl⟩
 rw[hex]
 simp only
 have HEX:=hide hex
 clear hex
 obtain⟨w1,hw1,s1,b1,P1⟩:=au w #[.pointer (some ⟨p,0,none⟩)] 41
 obtain⟨w2,hw2,s2,b2,P2⟩:=au w1 (cp x) 46
 have z2:w2.heap.size=w.heap.size+2:=by omega
 rw[s1]at P2
 have b02:Below w.heap.size w w2:=b1.trans (b2.mono (by omega))
 have P12:=(b2.block w.heap.size (by omega)).trans P1
 unfold cp at hw2 P2
 obtain⟨c0,c1,c2,c3,c4,c5⟩:=aR P2
 have EN:=hide (ake x w2 (wT hx) (hm.below b02))
 unfold vp at EN⊢
 rw[Pm.iV hx,kX hx]at EN
 have hel:=Pm.aci hx
 have X0:=hide (And.intro P12 (And.intro P2 b02))
 have HH:=hide (And.intro h (And.intro hs (And.intro hb hm)))
 clear h hs hb hm b1 b2 P1 P2 P12 s2 b02
 go_enter func125,ntmps125
 go_wp2_with fail
 refine EN.out.mono ?_
 rintro E w3 ⟨vb,rfl,o3,b3⟩
 have FA:=hide (aaO (.slice none 0 0) vb [] (Pm.enc x) w3 (Is.nil _ _) o3.is (by simp) (by omega))
 have au8:ape (Pm.enc x)=0:=by unfold ape;rw[if_pos (by omega)]
 have avF:apd [] (Pm.enc x)=bs:=by unfold apd;rw[if_pos (by omega)];exact rM.out
 rw[au8,avF]at FA
 have B3:=hide b3
 clear EN o3 b3 au8 avF
 go_wp2_with fail
 refine FA.out.mono ?_
 rintro E w4 ⟨v4,rfl,o4,b4⟩
 obtain⟨ao,ln,lc,hv⟩:=o4.is.form
 subst hv
 clear FA
 obtain⟨p1,p2,b02⟩:=X0.out
 obtain⟨h,hs,hb,hm⟩:=HH.out
 have b3:=B3.out
 have z3:=b3.size
 have z4:=b4.size
 have b24:Below w2.heap.size w2 w4:=b3.trans (b4.mono (by omega))
 obtain⟨w5,iw,aAO,s5,b5,P5⟩:=ah1 w4 61 (.slice none 0 0) (.slice ao ln lc)
 obtain⟨w6,jY,s6,b6,P6⟩:=au w5 #[.func (.func 188) #[] #[.pointer (some ⟨w.heap.size,0,none⟩),.pointer (some ⟨w4.heap.size,0,none⟩)],.func (.func 189) #[.pointer (some ⟨q,0,none⟩)] #[]] 228
 rw[s5]at P6
 have b26:Below w2.heap.size w2 w6:=b24.trans ((b5.mono (by omega)).trans (b6.mono (by omega)))
 have qx:Below w.heap.size w w6:=b02.trans (b26.mono (by omega))
 have o6:Own .u8 5 w3.heap.size w6 (.slice ao ln lc) bs:=(o4.below b5).below b6
 have hfl:bs.length≤1000:=by
  rw[←rM.out]
  have h2:Vm.sz (Pm.enc x).length≤1:=Vm.uq 0 _ (by omega)
  rw[Fm.nA]
  omega
 have hs2:=lJ hs 1 bs
 have hcn:cnt bs.length≤17:=by unfold cnt;omega
 have e1:(Dm.write st 1 bs).1=0∨(Dm.write st 1 bs).1=6:=afp (st:=st) 1 (by omega) bs
 have e2:=uj (Dm.write st 1 bs).2
 have C1:=al5 w.heap.size w4.heap.size p q F w6 st (.slice ao ln lc) bs (ai ((b26.block _ (by omega)).trans p1) 0 rfl) (ai ((b6.block _ (by omega)).trans P5) 0 rfl) (ai ((qx.block p hpl).trans hb) 0 rfl) (h.below qx) (hs.mono (by decide) (by decide)) o6.is (fun b e k=>by have:=(o6.2.lt b e).1;have:=hF b k;omega) hfl (by
  rintro g (rfl|rfl|rfl)
  ·exact⟨by omega,fun e=>by have:=hF _ e;omega⟩
  ·exact⟨by omega,fun e=>by have:=hF _ e;omega⟩
  ·exact⟨by omega,hpF⟩)
 have C2:∀W G,Pk q G W (Dm.write st 1 bs).2→Calls prog 189 #[.pointer (some ⟨q,0,none⟩)] W fun E w'=>E=.returned (.int .i64 (Dm.sync (Dm.write st 1 bs).2).1)∧bN q G W w' (Dm.sync (Dm.write st 1 bs).2).2:=fun W G k=>
  aaK q G W _ k (fun f=>Nat.le_trans (hs2.1.1 f) (by omega)) (Nat.le_trans hs2.1.2.1 (by omega)) hs2.2 (Nat.lt_of_le_of_lt hs2.1.2.2 (by omega))
 have RUN:Run (w4.heap.size+1) (fun e W=>e=(Rst.ext st 1 bs).1∧bN q F w6 W (Rst.ext st 1 bs).2) [.func (.func 188) #[] #[.pointer (some ⟨w.heap.size,0,none⟩),.pointer (some ⟨w4.heap.size,0,none⟩)],.func (.func 189) #[.pointer (some ⟨q,0,none⟩)] #[]] w6:=by
  unfold Rst.ext
  refine Run.cons (enters_of func188 (by kernel_rfl) rfl) (by simp) (C1.mono ?_)
  rintro E W ⟨rfl,F1,k1,k2,k3⟩
  refine⟨_,rfl,k2.block _ (by omega) fun e=>by have:=hF _ e;omega,?_⟩
  show(_∧_=(if (Dm.write st 1 bs).1≠0 then _ else _:Int×Dm.Ds).1∧bN q F w6 W (if (Dm.write st 1 bs).1≠0 then _ else _:Int×Dm.Ds).2)∨_
  rcases e1 with e1|e1
  ·refine .inr ⟨e1,Run.cons (enters_of func189 (by kernel_rfl) rfl) (by simp) ((C2 W F1 k1).mono ?_)⟩
   rintro E W2 ⟨rfl,k⟩
   have hne:¬F1 (w4.heap.size+1):=fun e=>by
    rcases k3 _ e with e|e
    ·have:=hF _ e;omega
    ·omega
   have J:bN q F w6 W2 (Dm.sync (Dm.write st 1 bs).2).2:=bN.trans k2 k3 k
   have hsz:=k2.size
   refine⟨_,rfl,?_,?_⟩
   ·obtain⟨_,_,k,_⟩:=k
    exact k.block _ (by omega) hne
   show(_∧_=(if (Dm.write st 1 bs).1≠0 then _ else _:Int×Dm.Ds).1∧bN q F w6 W2 (if (Dm.write st 1 bs).1≠0 then _ else _:Int×Dm.Ds).2)∨(_∧_=(if (Dm.write st 1 bs).1≠0 then _ else _:Int×Dm.Ds).1∧bN q F w6 W2 (if (Dm.write st 1 bs).1≠0 then _ else _:Int×Dm.Ds).2)
   rw[if_neg (by simp[e1])]
   rcases e2 with e2|e2
   ·rw[if_neg (by simp[e2])]
    exact .inr ⟨e2,rfl,J⟩
   ·rw[if_pos (by simp[e2])]
    exact .inl ⟨by rw[e2];decide,e2,J⟩
  ·rw[if_pos (by simp[e1])]
   exact .inl ⟨by rw[e1];decide,e1,⟨F1,k1,k2,k3⟩⟩
 rw[HEX.out]at RUN
 simp only at RUN
 have HO:=hide (sH (w4.heap.size+1) 2 _ w6 _ rfl (by omega) P6 RUN)
 have e5p:w5.cell? ⟨p,0,none⟩=some (.pointer (some ⟨q,0,none⟩)):=ai ((b5.block p (by omega)).trans ((b24.block p (by omega)).trans ((b02.block p hpl).trans hb))) 0 rfl
 have e5s:w5.cell? ⟨w.heap.size,0,none⟩=some (.pointer (some ⟨p,0,none⟩)):=ai ((b5.block _ (by omega)).trans ((b24.block _ (by omega)).trans p1)) 0 rfl
 have y6:=(qx.block p hpl).trans hb
 have t6:=(b26.block _ (by omega)).trans p1
 have u6:=(b26.block _ (by omega)).trans p2
 have FX:Hid ((p<w6.heap.size∧w.heap.size+1<w6.heap.size)∧(w6.heap[p]? =some (.cells (fo q off y vw en vr vs) 137 (0,0))∧w6.heap[w.heap.size]? =some (.cells #[.pointer (some ⟨p,0,none⟩)] 41 (0,0))∧w6.heap[w.heap.size+1]? =some (.cells #[.int .i64 x.e,.int .u8 x.r,.int .i64 x.a,.int .u8 x.p,.int .i64 x.f,.int .i64 x.b] 46 (0,0)))∧Below w.heap.size w w6):=hide ⟨⟨by omega,by omega⟩,⟨y6,t6,u6⟩,qx⟩
 clear RUN C1 C2 e1 e2 hs2 hcn hfl o6 o4 P5 P6 p1 p2 b02 b3 b4 b24 b26 qx y6 t6 u6 hb hm h hs X0 B3 s6
 go_wp2_with fail
 refine HO.out.mono ?_
 rintro E W ⟨e,rfl,rfl,F1,k1,k2,k3⟩
 obtain⟨⟨l1,l2⟩,⟨y6,t6,u6⟩,qx⟩:=FX.out
 have y7:=(k2.block p l1 hpF).trans y6
 have t7:=(k2.block w.heap.size (by omega) fun e=>by have:=hF _ e;omega).trans t6
 have u7:=(k2.block (w.heap.size+1) l2 fun e=>by have:=hF _ e;omega).trans u6
 have hz:=qx.size
 have o7:Out F w W:=(Out.of_below qx).trans k2 fun g hg=>.inl hg
 have n7:∀g,F1 g→F g∨w.heap.size≤g:=fun g hg=>(k3 g hg).imp id fun e=>by omega
 by_cases he:e=0
 ·subst he
  obtain⟨Z,hZ,PZ,gZ,fr⟩:=afr y7 x
  obtain⟨_,_,q2,q3,q4,q5,q6,q7,_⟩:=ku y7
  have f2:=fr 2;have f3:=fr 3;have f4:=fr 4;have f5:=fr 5;have f6:=fr 6;have f7:=fr 7
  have s7:=ai t7 0 rfl
  obtain⟨r0,r1,r2,r3,r4,r5⟩:=aR u7
  have hFp:¬F1 p:=fun e=>by
   rcases n7 p e with e|e
   ·exact hpF e
   ·omega
  have oZ:Out (fun g=>g=p) W Z:=Out.aM gZ fun i hi=>by simpa using hi.symm
  have R:Hid (∃F',Pk q F' Z d'∧Z.heap[p]? =some (.cells (fo q off x vw en vr vs) 137 (0,0))∧Out (fun g=>F g∨g=p) w Z∧∀g,F' g→F g∨w.heap.size≤g):=hide ⟨F1,k1.agree fun g hg=>oZ.block g (k1.lt g hg) fun e=>hFp (e▸hg),PZ,(Out.mono (G:=fun g=>F g∨g=p) o7 fun g hg=>Or.inl (Or.inl hg)).trans oZ fun g hg=>Or.inl (Or.inr hg),n7⟩
  clear k1 k2 k3 y6 t6 u6 y7 t7 u7 qx o7 n7 gZ PZ fr oZ hFp HO FX HH hF hpF
  go_wp2
  go_ret
  exact⟨rfl,R.out⟩
 ·have he':(e==0)=false:=by simpa using he
  have R:Hid (∃F',Pk q F' W d'∧W.heap[p]? =some (.cells (fo q off y vw en vr vs) 137 (0,0))∧Out (fun g=>F g∨g=p) w W∧∀g,F' g→F g∨w.heap.size≤g):=hide ⟨F1,k1,y7,Out.mono (G:=fun g=>F g∨g=p) o7 fun g hg=>Or.inl (Or.inl hg),n7⟩
  clear k1 k2 k3 y6 t6 u6 y7 t7 u7 qx o7 n7 HO FX HH hF hpF
  go_wp2
  go_ret
  exact⟨rfl,R.out⟩
theorem Tryz.atw:(prog.info? 119).map (fun i=>(i.zero,i.size,i.bytes))=some (some (.agg #[.int .i64 0,.int .i64 0]),2,16):=by kernel_rfl
theorem ahr {base base':Nat}{w:World}{v:Value}{l:List Sm.S}(h:oK base w v l)(hb:base'≤base):oK base' w v l:=by
 refine⟨h.1,?_⟩
 rcases h.2 with h|⟨g,cap,cur,hv,h1,r⟩
 ·exact .inl h
 ·exact .inr ⟨g,cap,cur,hv,by omega,r⟩
theorem vQ {base:Nat}{w w':World}{v:Value}{l:List Sm.S}(h:oK base w v l)(hb:Below w.heap.size w w'):oK base w' v l:=h.agree fun b hb'=>hb.block b (h.lt b hb').2
theorem aoH (w:World)(cs:Array Value)(n:Nat)(l:List Sm.S)(hn:l.length=n)(h:cs.toList=gcells kY l)(hm:n≤maxLen):
  ∃W,w.alloc (.cells cs 119)=W∧W.heap.size=w.heap.size+1∧Below w.heap.size w W∧oK w.heap.size W (.slice (some ⟨w.heap.size,0,none⟩) n n) l:=rE kY 2 yQ 119 w cs n l hn h hm
theorem Tryz.awC (op:BinOp)(x y:Operand)(xs ys:Array Value)(w:World):(eqGuard op 119 x y (.agg xs) (.agg ys)).run prog w=.ok () w:=run_eqGuard_agg w op 119 x y xs ys (by kernel_rfl)
theorem Tryz.aAE (a b c d:Int)(w:World):(binOp .neq 119 (.agg #[.int .i64 a,.int .i64 b]) (.agg #[.int .i64 c,.int .i64 d])).run prog w=.ok (.bool (!((a==c)&&(b==d)))) w:=by
 rw[run_neq_struct,run_equalIn_agg w 9999 119 _ _ (by kernel_rfl) (by kernel_rfl)]
 unfold Program.fieldsOf
 rw[underlying119]
 simp[Op.eqFields,go_sem,underlying3]
 by_cases h1:a=c<;>by_cases h2:b=d<;>simp[h1,h2]
theorem atW (va vb:Value)(xs ys:List Sm.S)(w:World)(ha:yf w va xs)(hb:yf w vb ys)(hl:xs.length≤140737488355328)(hl':ys.length≤140737488355328):
  Calls prog 250 #[va,vb] w fun e w'=>e=.returned (.bool (decide (xs=ys)))∧∃m,w'=w.drewN m:=by
 obtain⟨ans,dL⟩:∃r,decide (xs=ys)=r:=⟨_,rfl⟩
 rw[dL]
 have HA:=hide dL
 clear dL
 by_cases hne:xs.length=ys.length
 ·by_cases hz:0<xs.length
  ·obtain⟨b1,o1,c1,rfl,_,_,hB1,hc1⟩:=oh ha hz
   obtain⟨b2,o2,c2,rfl,_,_,hB2,hc2⟩:=oh hb (by omega)
   have ht:((xs.length:Int) !=(ys.length:Int))=false:=by simp;omega
   have HL:=hide hne
   have vT:=hide hc1
   have HC2:=hide hc2
   clear hne ha hb hc1 hc2
   generalize hn:xs.length=n at*
   generalize hm:ys.length=m at*
   have HN:=hide hn
   have HM:=hide hm
   clear hn hm
   go_enter func250,ntmps250
   go_wp2
   go_loopw [13] (fun i wr=>∃(k:Nat),k≤n∧i=.int .i64 k∧Hid (xs.take k=ys.take k)∧∃m,wr=w.drewN m) (fun i _=>n-(intOf i).toNat)
   case atStart=>exact⟨0,by omega,rfl,hide rfl,0,rfl⟩
   case round=>
    obtain⟨k,hk,rfl,HT,mm,rfl⟩:=hrel
    by_cases hlt:k<n
    ·obtain⟨o,ho⟩:=mH (l:=xs) (k:=k) (by have:=HN.out;omega)
     obtain⟨q,hq⟩:=mH (l:=ys) (k:=k) (by have:=HM.out;have:=HL.out;omega)
     obtain⟨d0,d1⟩:=vT.out k o ho
     obtain⟨e0,e1⟩:=HC2.out k q hq
     have hlt':(k:Int)<n:=by omega
     have hlt2:(k:Int)<m:=by have:=HL.out;omega
     have HO:=hide ho
     have HQ:=hide hq
     clear ho hq
     have hnq:=Tryz.aAE o.1 o.2 q.1 q.2
     have hgd:=Tryz.awC
     by_cases h1:o=q
     ·have HT2:Hid (xs.take (k+1)=ys.take (k+1)):=hide (by
       rw[List.take_add_one,List.take_add_one,HT.out,HO.out,HQ.out,h1])
      rw[show((o.1==q.1)&&(o.2==q.2))=true by simp[h1]]at hnq
      clear h1
      go_wp2
      go_quiet (fail)
      go_wp2
      go_roundw
      case rel=>exact⟨k+1,by omega,by go_num,HT2,_,rfl⟩
      case measure=>simp[intOf];omega
     ·have hfo:=HA.out
      rw[decide_eq_false fun e=>by
       have h3:=HO.out
       rw[e,HQ.out]at h3
       exact h1 (by rw[Option.some.inj h3])]at hfo
      subst hfo
      rw[show((o.1==q.1)&&(o.2==q.2))=false by
       by_cases e1:o.1=q.1
       ·have:o.2≠q.2:=fun e2=>h1 (Prod.ext e1 e2)
        simp[this]
       ·simp[e1]]at hnq
      clear h1 HA
      go_wp2
      go_quiet (fail)
      go_wp2
      go_ret
      exact⟨rfl,_,by first|rfl|exact World.drewN_drewN _ _ _⟩
    ·have hlt':¬(k:Int)<n:=by omega
     have hfo:=HA.out
     rw[decide_eq_true (by
      have h1:=HT.out
      rw[List.take_of_length_le (by have:=HN.out;omega),List.take_of_length_le (by have:=HN.out;have:=HM.out;have:=HL.out;omega)]at h1
      exact h1)]at hfo
     subst hfo
     clear HA
     go_wp2
     go_ret
     exact⟨rfl,mm,rfl⟩
  ·have hx:xs=[]:=List.eq_nil_of_length_eq_zero (by omega)
   have hy:ys=[]:=List.eq_nil_of_length_eq_zero (by omega)
   subst hx hy
   obtain⟨a1,c1,rfl,_,_⟩:=ha.shape
   obtain⟨a2,c2,rfl,_,_⟩:=hb.shape
   have hfo:=HA.out
   simp at hfo
   subst hfo
   simp only[List.length_nil]
   clear hl hl' hne hz ha hb HA
   go_enter func250,ntmps250
   go_wp2
   refine wp_loop_rounds 1 ?_
   rw[rounds_succ]
   go_wp2
   go_ret
   exact⟨rfl,0,rfl⟩
 ·obtain⟨a1,c1,rfl,_,_⟩:=ha.shape
  obtain⟨a2,c2,rfl,_,_⟩:=hb.shape
  have ht:((xs.length:Int) !=(ys.length:Int))=true:=by simp;omega
  have hfo:=HA.out
  rw[decide_eq_false fun h=>hne (by rw[h])]at hfo
  subst hfo
  clear hne HA
  go_enter func250,ntmps250
  go_wp2
  go_ret
  exact⟨rfl,0,rfl⟩
theorem auC (va vb:Value)(r s:List Cw)(w:World)(ha:gD w va r)(hb:gD w vb s)(fa:jH r)(fb:jH s)(hl:r.length≤140737488355328)(hl':s.length≤140737488355328):
  Calls prog 251 #[va,vb,.func (.func 252) #[] #[]] w fun E w'=>E=.returned (.bool (sameV (aD r) (aD s)))∧Below w.heap.size w w':=by
 obtain⟨ans,dL⟩:∃x,sameV (aD r) (aD s)=x:=⟨_,rfl⟩
 rw[dL]
 have HA:=hide dL
 clear dL
 obtain⟨a1,p1,hva,_,_⟩:=ha.1.shape
 obtain⟨a2,p2,hvb,_,_⟩:=hb.1.shape
 by_cases hne:r.length=s.length
 ·have C1:=hide (jq ha)
  have C2:=hide (jq hb)
  have I1:=hide ha.2
  have I2:=hide hb.2
  have F1:=hide fa
  have F2:=hide fb
  have HL:=hide hne
  have ht:((r.length:Int) !=(s.length:Int))=false:=by simp;omega
  subst hva hvb
  generalize hn:r.length=n at*
  generalize hm:s.length=m at*
  have HN:=hide hn
  have HM:=hide hm
  clear ha hb fa fb hne hn hm
  go_enter func251,ntmps251
  go_wp2
  go_loopw [17] (fun i wr=>∃(k:Nat),k≤n∧i=.int .i64 k∧Hid ((aD r).take k=(aD s).take k)∧Below w.heap.size w wr) (fun i _=>n-(intOf i).toNat)
  case atStart=>exact⟨0,by omega,rfl,hide rfl,Below.refl _ _⟩
  case round=>
   obtain⟨k,hk,rfl,HT,aI⟩:=hrel
   have sz:=aI.size
   by_cases hlt:k<n
   ·obtain⟨b1,o1,c1,hv1,hB1,hc1⟩:=C1.out (by have:=HN.out;omega)
    obtain⟨b2,o2,c2,hv2,hB2,hc2⟩:=C2.out (by have:=HM.out;have:=HL.out;omega)
    simp only[Value.slice.injEq,true_and]at hv1 hv2
    obtain⟨rfl,rfl⟩:=hv1
    obtain⟨rfl,rfl⟩:=hv2
    obtain⟨c,hc⟩:=mH (l:=r) (k:=k) (by have:=HN.out;omega)
    obtain⟨d,hd⟩:=mH (l:=s) (k:=k) (by have:=HM.out;have:=HL.out;omega)
    obtain⟨x0,x1,x2⟩:=aa0 hc1 aI hB1 hc
    have i1:=(I1.out c (List.mem_of_getElem? hc)).1.below aI
    have i2:=(I2.out d (List.mem_of_getElem? hd)).1.below aI
    have l1:=(F1.out c (List.mem_of_getElem? hc)).2
    have l2:=(F2.out d (List.mem_of_getElem? hd)).2
    have hlt':(k:Int)<n:=by omega
    have hlt2:(k:Int)<m:=by have:=HL.out;omega
    obtain⟨ga,ea,dz,_,_⟩:=i1.shape
    obtain⟨gb,eb,hvd,_,_⟩:=i2.shape
    obtain⟨V,hV,hV2,iy,bg,bV,v0,v1,v2⟩:=eY wr 35 (.int .i64 0) (.int .i64 0) (.slice none 0 0) (.int .i64 c.e) (.int .i64 c.n) c.v
    have jf:Below w.heap.size w V:=aI.trans (bg.mono (by omega))
    obtain⟨y0,y1,y2⟩:=aa0 hc2 jf hB2 hd
    obtain⟨U,hU,hU2,szU,aau,bU,u0,u1,u2⟩:=eY V 35 (.int .i64 0) (.int .i64 0) (.slice none 0 0) (.int .i64 d.e) (.int .i64 d.n) d.v
    rw[iy]at hU u0 u1 u2
    have fI:=(aau.block wr.heap.size (by omega)).trans bV
    have z0:=ai fI 0 rfl
    have z1:=ai fI 1 rfl
    have z2:=ai fI 2 rfl
    have af4:Below wr.heap.size wr U:=bg.trans (aau.mono (by omega))
    have sC:V.setCell ⟨wr.heap.size,2,none⟩ c.v=V:=aK bV (j:=2) rfl
    have X:=hide (alb c.e c.n _ c.l d.e d.n _ d.l U (i1.below af4) (i2.below af4) (by omega) (by omega))
    have HC:=hide hc
    have HD:=hide hd
    obtain⟨sm,hsm⟩:∃x,ic c.e c.n c.l d.e d.n d.l=x:=⟨_,rfl⟩
    rw[hsm]at X
    have HSM:=hide hsm
    have dh:=aI.trans (af4.mono (by omega))
    have szB:=af4.size
    clear hc hd hc1 hc2 l1 l2 hsm bV fI bU jf af4 bg aau i1 i2 sC
    rw[dz]at x2 hV hV2 v2 z2 X
    rw[hvd]at y2 hU hU2 u2 X
    clear dz hvd
    unfold cK at X
    cases sm
    ·have hfo:=HA.out
     rw[af5 fun e=>by
      have h1:(aD r)[k]? =some c.c:=by rw[pQ,HC.out];rfl
      rw[e,pQ,HD.out]at h1
      have h2:d.c=c.c:=by simpa using h1
      obtain⟨q1,q2,q3⟩:=axl h2
      have:=HSM.out
      rw[xC.2 ⟨q1.symm,q2.symm,q3.symm⟩]at this
      simp at this]at hfo
     subst hfo
     go_wp2_with (go_at_call 252;refine X.out.mono ?_;rintro E w3 ⟨rfl,aC⟩)
     go_ret
     exact⟨rfl,dh.trans (aC.mono (by omega))⟩
    ·have HT2:Hid ((aD r).take (k+1)=(aD s).take (k+1)):=hide (by
      obtain⟨q1,q2,q3⟩:=xC.1 HSM.out
      rw[List.take_add_one,List.take_add_one,HT.out,pQ,pQ,HC.out,HD.out]
      simp[Cw.c,q1,q2,q3])
     go_wp2_with (go_at_call 252;refine X.out.mono ?_;rintro E w3 ⟨rfl,aC⟩)
     have aoP:=dh.trans (aC.mono (by omega))
     go_roundw
     case rel=>exact⟨k+1,by omega,by go_num,HT2,aoP⟩
     case measure=>simp[intOf];omega
   ·have hlt':¬(k:Int)<n:=by omega
    have hfo:=HA.out
    rw[oD.2 (by
     have h1:=HT.out
     rw[List.take_of_length_le (by rw[dJ,HN.out];omega),List.take_of_length_le (by rw[dJ,HM.out];have:=HL.out;omega)]at h1
     exact h1)]at hfo
    subst hfo
    clear HA
    go_wp2
    go_ret
    exact⟨rfl,aI⟩
 ·have ht:((r.length:Int) !=(s.length:Int))=true:=by simp;omega
  have hfo:=HA.out
  rw[af5 fun e=>hne (by rw[←dJ r,←dJ s,e])]at hfo
  subst hfo hva hvb
  clear hne HA
  go_enter func251,ntmps251
  go_wp2
  go_ret
  exact⟨rfl,Below.refl _ _⟩
end Go.Proofs.YtlmkaljjocflmaaGreatDoor
