/- Texts of one layer, one behind the other. -/
import Derived.Test.YtjemlgdkjilnoaaGreatDoorH4
import Derived.Test.YtjemlgdkjilnoaaGreatDoorG3
import Derived.Test.YtjemlgdkjilnoaaGreatDoorH24
import Derived.Deep.RegionHeld3
import Derived.Test.YtjemlgdkjilnoaaGreatDoorH19
import Derived.Test.YtjemlgdkjilnoaaGreatDoorH5
set_option maxRecDepth 100000
set_option maxHeartbeats 8000000
namespace Go.Proofs.YtjemlgdkjilnoaaGreatDoor
open Go.RowKit
set_option linter.unusedVariables false
structure Sam (w:World) (g:Nat) (a b c d e f:Value):Prop where
 s0:w.setCell ⟨g,0,none⟩ a=w
 s1:w.setCell ⟨g,1,none⟩ b=w
 s2:w.setCell ⟨g,2,none⟩ c=w
 s3:w.setCell ⟨g,3,none⟩ d=w
 s4:w.setCell ⟨g,4,none⟩ e=w
 s5:w.setCell ⟨g,5,none⟩ f=w
 f0:w.frozen? ⟨g,0,none⟩=false
 f1:w.frozen? ⟨g,1,none⟩=false
 f2:w.frozen? ⟨g,2,none⟩=false
 f3:w.frozen? ⟨g,3,none⟩=false
 f4:w.frozen? ⟨g,4,none⟩=false
 f5:w.frozen? ⟨g,5,none⟩=false
theorem qJ {w:World}{g:Nat}{t:TypeId}{a b c d e f:Value}(h:w.heap[g]? =some (.cells #[a,b,c,d,e,f] t (0,0))):Sam w g a b c d e f:=
 ⟨aL h (j:=0) rfl,aL h (j:=1) rfl,aL h (j:=2) rfl,aL h (j:=3) rfl,aL h (j:=4) rfl,aL h (j:=5) rfl,aC h 0,aC h 1,aC h 2,aC h 3,aC h 4,aC h 5⟩
def anb (w:World) (g:Nat) (x:Pm.Pg):Prop:=w.heap[g]? =some (.cells (cp x) 35 (0,0))
theorem anb.six {w:World}{g:Nat}{x:Pm.Pg}(h:anb w g x):tK w g (.int .i64 x.e) (.int .u8 x.r) (.int .i64 x.a) (.int .u8 x.p) (.int .i64 x.f) (.int .i64 x.b):=aN h
theorem fM {w:World}{g:Nat}{x:Pm.Pg}(h:anb w g x):(w.cell? ⟨g,0,none⟩=some (.int .i64 x.e)∧w.cell? ⟨g,1,none⟩=some (.int .u8 x.r)∧w.cell? ⟨g,2,none⟩=some (.int .i64 x.a)∧w.cell? ⟨g,3,none⟩=some (.int .u8 x.p)∧w.cell? ⟨g,4,none⟩=some (.int .i64 x.f)∧w.cell? ⟨g,5,none⟩=some (.int .i64 x.b)):=
 ⟨h.six.c0,h.six.c1,h.six.c2,h.six.c3,h.six.c4,h.six.c5⟩
theorem eF (x:Pm.Pg)(w:World):∃w1 w2,w.alloc (.cells #[.int .i64 x.e,.int .u8 x.r,.int .i64 x.a,.int .u8 x.p,.int .i64 x.f,.int .i64 x.b] 35)=w1∧w1.alloc (.cells #[.int .i64 0,.int .u8 0,.int .i64 0,.int .u8 0,.int .i64 0,.int .i64 0] 35)=w2∧w1.heap.size=w.heap.size+1∧w2.heap.size=w.heap.size+2∧Below w.heap.size w w2∧tK w2 w.heap.size (.int .i64 x.e) (.int .u8 x.r) (.int .i64 x.a) (.int .u8 x.p) (.int .i64 x.f) (.int .i64 x.b)∧Hid (∀W,Below w2.heap.size w2 W→W.heap[w.heap.size]? =some (.cells #[.int .i64 x.e,.int .u8 x.r,.int .i64 x.a,.int .u8 x.p,.int .i64 x.f,.int .i64 x.b] 35 (0,0))∧W.heap[w.heap.size+1]? =some (.cells #[.int .i64 0,.int .u8 0,.int .i64 0,.int .u8 0,.int .i64 0,.int .i64 0] 35 (0,0))∧Below w.heap.size w W∧w.heap.size+2≤W.heap.size):=by
 obtain⟨w1,h1,s1,b1,p1⟩:=ak w #[.int .i64 x.e,.int .u8 x.r,.int .i64 x.a,.int .u8 x.p,.int .i64 x.f,.int .i64 x.b] 35
 obtain⟨w2,h2,s2,b2,p2⟩:=ak w1 #[.int .i64 0,.int .u8 0,.int .i64 0,.int .u8 0,.int .i64 0,.int .i64 0] 35
 have q1:=(b2.block w.heap.size (by omega)).trans p1
 rw[s1]at p2
 refine⟨w1,w2,h1,h2,s1,by omega,b1.trans (b2.mono (by omega)),aN q1,hide fun W hW=>⟨?_,?_,(b1.trans (b2.mono (by omega))).trans (hW.mono (by omega)),by have:=hW.size;omega⟩⟩
 ·exact(hW.block w.heap.size (by omega)).trans q1
 ·exact(hW.block (w.heap.size+1) (by omega)).trans p2
theorem fT {V V':World}{g h:Nat}(hg:V.grownBy V' (some g))(hne:h≠g∧h<V.heap.size):V'.heap[h]? =V.heap[h]? :=hg.block h hne.2 (by simp;exact hne.1)
namespace Rol
open Pm (Pg chk no Ok)
def ck (x:Pg) (n lo hi:Int):Int:=if chk x=0 then(if n<lo∨hi<n then 2 else 0)else chk x
def own (x:Pg):Int:=if x.r=1 then 0 else if x.r=2 then 1 else if x.p=1 then 2 else if x.p=2 then 3 else if x.p=3 then 4 else 5
end Rol
theorem asy (x:Pm.Pg)(n lo hi:Int)(w:World)(hx:eT x)(hm:fQ w):
  Calls Tryz.prog 176 #[vp x,.int .i64 n,.int .i64 lo,.int .i64 hi] w fun E w'=>E=.returned (.int .i64 (Rol.ck x n lo hi))∧Below w.heap.size w w':=by
 obtain⟨w2,hw2,di,au,hP⟩:=ak w #[.int .i64 x.e,.int .u8 x.r,.int .i64 x.a,.int .u8 x.p,.int .i64 x.f,.int .i64 x.b] 35
 obtain⟨p0,p1,p2,p3,p4,p5⟩:=aN hP
 have CK:=hide (iZ x w2 hx (hm.below au))
 have PST:Hid (∀W,Below w2.heap.size w2 W→Below w.heap.size w W):=hide fun W hW=>au.trans (hW.mono (by omega))
 unfold Rol.ck
 obtain⟨ch,hch⟩:∃c,Pm.chk x=c:=⟨_,rfl⟩
 rw[hch]at CK⊢
 clear au hx hP hm hch
 by_cases h0:ch=0
 ·subst h0
  rw[if_pos rfl]
  by_cases h1:n<lo
  ·rw[if_pos (.inl h1)]
   unfold vp
   go_enter Tryz.func176,Tryz.ntmps176
   go_wp2_with fail
   refine CK.out.mono ?_
   rintro E w3 ⟨rfl,b3⟩
   have BB:=hide (PST.out w3 b3)
   clear CK PST b3
   go_wp2
   go_ret
   exact⟨rfl,BB.out⟩
  ·by_cases h2:hi<n
   ·rw[if_pos (.inr h2)]
    unfold vp
    go_enter Tryz.func176,Tryz.ntmps176
    go_wp2_with fail
    refine CK.out.mono ?_
    rintro E w3 ⟨rfl,b3⟩
    have BB:=hide (PST.out w3 b3)
    clear CK PST b3
    go_wp2
    go_ret
    exact⟨rfl,BB.out⟩
   ·rw[if_neg (by omega)]
    unfold vp
    go_enter Tryz.func176,Tryz.ntmps176
    go_wp2_with fail
    refine CK.out.mono ?_
    rintro E w3 ⟨rfl,b3⟩
    have BB:=hide (PST.out w3 b3)
    clear CK PST b3
    go_wp2
    go_ret
    exact⟨rfl,BB.out⟩
 ·rw[if_neg h0]
  have hb:(ch !=0)=true:=by simpa using h0
  unfold vp
  go_enter Tryz.func176,Tryz.ntmps176
  go_wp2_with fail
  refine CK.out.mono ?_
  rintro E w3 ⟨rfl,b3⟩
  have BB:=hide (PST.out w3 b3)
  clear CK PST b3
  go_wp2
  go_ret
  exact⟨rfl,BB.out⟩
theorem nE (x:Pm.Pg)(w:World):
  Calls Tryz.prog 208 #[vp x] w fun E w'=>E=.returned (.int .i64 (Rol.own x))∧Below w.heap.size w w':=by
 obtain⟨w2,hw2,di,au,hP⟩:=ak w #[.int .i64 x.e,.int .u8 x.r,.int .i64 x.a,.int .u8 x.p,.int .i64 x.f,.int .i64 x.b] 35
 obtain⟨p0,p1,p2,p3,p4,p5⟩:=aN hP
 unfold Rol.own
 have BB:=hide au
 clear au hP
 unfold vp
 by_cases h0:x.r=1
 ·rw[if_pos h0]
  have g0:(x.r==1)=true:=by simpa using h0
  clear h0
  go_enter Tryz.func208,Tryz.ntmps208
  go_wp2
  go_ret
  exact⟨rfl,BB.out⟩
 rw[if_neg h0]
 have g0:(x.r==1)=false:=by simpa using h0
 by_cases h1:x.r=2
 ·rw[if_pos h1]
  have g1:(x.r==2)=true:=by simpa using h1
  clear h1
  go_enter Tryz.func208,Tryz.ntmps208
  go_wp2
  go_ret
  exact⟨rfl,BB.out⟩
 rw[if_neg h1]
 have g1:(x.r==2)=false:=by simpa using h1
 by_cases h2:x.p=1
 ·rw[if_pos h2]
  have g2:(x.p==1)=true:=by simpa using h2
  clear h2
  go_enter Tryz.func208,Tryz.ntmps208
  go_wp2
  go_ret
  exact⟨rfl,BB.out⟩
 rw[if_neg h2]
 have g2:(x.p==1)=false:=by simpa using h2
 by_cases h3:x.p=2
 ·rw[if_pos h3]
  have g3:(x.p==2)=true:=by simpa using h3
  clear h3
  go_enter Tryz.func208,Tryz.ntmps208
  go_wp2
  go_ret
  exact⟨rfl,BB.out⟩
 rw[if_neg h3]
 have g3:(x.p==2)=false:=by simpa using h3
 by_cases h4:x.p=3
 ·rw[if_pos h4]
  have g4:(x.p==3)=true:=by simpa using h4
  clear h4
  go_enter Tryz.func208,Tryz.ntmps208
  go_wp2
  go_ret
  exact⟨rfl,BB.out⟩
 rw[if_neg h4]
 have g4:(x.p==3)=false:=by simpa using h4
 clear h0 h1 h2 h3 h4
 go_enter Tryz.func208,Tryz.ntmps208
 go_wp2
 go_ret
 exact⟨rfl,BB.out⟩
theorem aiW (x:Pm.Pg)(n:Int)(g:Nat)(w:World)(hg:w.heap[g]? =some (.cells #[.int .i64 n] 3 (0,0))):
  Calls Tryz.prog 222 #[vp x,.pointer (some ⟨g,0,none⟩)] w fun E w'=>E=.returned (.agg #[.int .i64 x.e,.int .u8 x.r,.int .i64 n,.int .u8 x.p,.int .i64 x.f,.int .i64 x.b])∧Below w.heap.size w w':=by
 obtain⟨w1,w2,hw1,hw2,aW,di,au,⟨p0,p1,p2,p3,p4,p5⟩,PST⟩:=eF x w
 obtain⟨hP3,bN,B3,bP⟩:=PST.out w2 (Below.refl _ _)
 have lg:=ax hg
 have cg:w2.cell? ⟨g,0,none⟩=some (.int .i64 n):=ai ((au.block g lg).trans hg) 0 rfl
 obtain⟨m0,hm0,uz,rf,fm0⟩:=kS hP3 2 (.int .i64 n)
 have xy:=(fT rf (by omega)).trans bN
 have ze:=aD B3 rf (Nat.le_refl _) (by omega)
 have aei:=rf.size
 obtain⟨r00,r01,r02,r03,r04,r05⟩:tK m0 w.heap.size (.int .i64 x.e) (.int .u8 x.r) (.int .i64 n) (.int .u8 x.p) (.int .i64 x.f) (.int .i64 x.b):=aN uz
 obtain⟨Z,hZ,_,gZ,⟨a0,a1,a2,a3,a4,a5⟩,fr,⟨z0,z1,z2,z3,z4,z5⟩⟩:=dU xy (.int .i64 x.e) (.int .u8 x.r) (.int .i64 n) (.int .u8 x.p) (.int .i64 x.f) (.int .i64 x.b)
 have f0:=fr 0;have f1:=fr 1;have f2:=fr 2;have f3:=fr 3;have f4:=fr 4;have f5:=fr 5
 have BB:=hide (aD ze gZ (by omega) (by omega))
 clear PST hP3 bN B3 bP gZ fr au uz rf xy ze aei hg lg
 unfold vp
 go_enter Tryz.func222,Tryz.ntmps222
 go_wp2
 refine bodyPost_ret (v:=.agg #[.int .i64 x.e,.int .u8 x.r,.int .i64 n,.int .u8 x.p,.int .i64 x.f,.int .i64 x.b]) (by simp[results,Tryz.results222,go_sem,z0,z1,z2,z3,z4,z5]) rfl ?_
 exact⟨rfl,BB.out⟩
theorem aib (x:Pm.Pg)(b n:Int)(g h:Nat)(w:World)(hg:w.heap[g]? =some (.cells #[.int .i64 n] 3 (0,0)))(hh:w.heap[h]? =some (.cells #[.int .i64 b] 3 (0,0))):
  Calls Tryz.prog 224 #[vp x,.pointer (some ⟨g,0,none⟩),.pointer (some ⟨h,0,none⟩)] w fun E w'=>E=.returned (.agg #[.int .i64 x.e,.int .u8 x.r,.int .i64 x.a,.int .u8 2,.int .i64 n,.int .i64 b])∧Below w.heap.size w w':=by
 obtain⟨w1,w2,hw1,hw2,aW,di,au,⟨p0,p1,p2,p3,p4,p5⟩,PST⟩:=eF x w
 obtain⟨hP3,bN,B3,bP⟩:=PST.out w2 (Below.refl _ _)
 have lg:=ax hg
 have cg:w2.cell? ⟨g,0,none⟩=some (.int .i64 n):=ai ((au.block g lg).trans hg) 0 rfl
 have lh:=ax hh
 have ch:w2.cell? ⟨h,0,none⟩=some (.int .i64 b):=ai ((au.block h lh).trans hh) 0 rfl
 obtain⟨m0,hm0,uz,rf,fm0⟩:=kS hP3 3 (.int .u8 2)
 have xy:=(fT rf (by omega)).trans bN
 have ze:=aD B3 rf (Nat.le_refl _) (by omega)
 have aei:=rf.size
 obtain⟨r00,r01,r02,r03,r04,r05⟩:tK m0 w.heap.size (.int .i64 x.e) (.int .u8 x.r) (.int .i64 x.a) (.int .u8 2) (.int .i64 x.f) (.int .i64 x.b):=aN uz
 have cg0:m0.cell? ⟨g,0,none⟩=some (.int .i64 n):=ai ((ze.block g lg).trans hg) 0 rfl
 have ch0:m0.cell? ⟨h,0,none⟩=some (.int .i64 b):=ai ((ze.block h lh).trans hh) 0 rfl
 obtain⟨m1,hm1,an1,gm1,fm1⟩:=kS uz 4 (.int .i64 n)
 have atx:=(fT gm1 (by omega)).trans xy
 have Bm1:=aD ze gm1 (Nat.le_refl _) (by omega)
 have ayu:=gm1.size
 obtain⟨r10,r11,r12,r13,r14,r15⟩:tK m1 w.heap.size (.int .i64 x.e) (.int .u8 x.r) (.int .i64 x.a) (.int .u8 2) (.int .i64 n) (.int .i64 x.b):=aN an1
 have cg1:m1.cell? ⟨g,0,none⟩=some (.int .i64 n):=ai ((Bm1.block g lg).trans hg) 0 rfl
 have ch1:m1.cell? ⟨h,0,none⟩=some (.int .i64 b):=ai ((Bm1.block h lh).trans hh) 0 rfl
 obtain⟨m2,hm2,avV,gm2,fm2⟩:=kS an1 5 (.int .i64 b)
 have auv:=(fT gm2 (by omega)).trans atx
 have Bm2:=aD Bm1 gm2 (Nat.le_refl _) (by omega)
 have ax0:=gm2.size
 obtain⟨r20,r21,r22,r23,r24,r25⟩:tK m2 w.heap.size (.int .i64 x.e) (.int .u8 x.r) (.int .i64 x.a) (.int .u8 2) (.int .i64 n) (.int .i64 b):=aN avV
 have cg2:m2.cell? ⟨g,0,none⟩=some (.int .i64 n):=ai ((Bm2.block g lg).trans hg) 0 rfl
 have ch2:m2.cell? ⟨h,0,none⟩=some (.int .i64 b):=ai ((Bm2.block h lh).trans hh) 0 rfl
 obtain⟨Z,hZ,_,gZ,⟨a0,a1,a2,a3,a4,a5⟩,fr,⟨z0,z1,z2,z3,z4,z5⟩⟩:=dU auv (.int .i64 x.e) (.int .u8 x.r) (.int .i64 x.a) (.int .u8 2) (.int .i64 n) (.int .i64 b)
 have f0:=fr 0;have f1:=fr 1;have f2:=fr 2;have f3:=fr 3;have f4:=fr 4;have f5:=fr 5
 have BB:=hide (aD Bm2 gZ (by omega) (by omega))
 clear PST hP3 bN B3 bP gZ fr au uz rf xy ze aei an1 gm1 atx Bm1 ayu avV gm2 auv Bm2 ax0 hg lg hh lh
 unfold vp
 go_enter Tryz.func224,Tryz.ntmps224
 go_wp2
 go_region
 all_goals go_wp2
 all_goals
  refine bodyPost_ret (v:=.agg #[.int .i64 x.e,.int .u8 x.r,.int .i64 x.a,.int .u8 2,.int .i64 n,.int .i64 b]) (by simp[results,Tryz.results224,go_sem,z0,z1,z2,z3,z4,z5]) rfl ?_
  exact⟨rfl,BB.out.drew⟩
theorem abj (x:Pm.Pg)(q:Int)(g:Nat)(w:World)(hg:w.heap[g]? =some (.cells #[.int .u8 q] 33 (0,0))):
  Calls Tryz.prog 240 #[vp x,.pointer (some ⟨g,0,none⟩)] w fun E w'=>E=.returned (.agg #[.int .i64 x.e,.int .u8 x.r,.int .i64 x.a,.int .u8 q,.int .i64 x.f,.int .i64 x.b])∧Below w.heap.size w w':=by
 obtain⟨w1,w2,hw1,hw2,aW,di,au,⟨p0,p1,p2,p3,p4,p5⟩,PST⟩:=eF x w
 obtain⟨hP3,bN,B3,bP⟩:=PST.out w2 (Below.refl _ _)
 have lg:=ax hg
 have cg:w2.cell? ⟨g,0,none⟩=some (.int .u8 q):=ai ((au.block g lg).trans hg) 0 rfl
 obtain⟨m0,hm0,uz,rf,fm0⟩:=kS hP3 3 (.int .u8 q)
 have xy:=(fT rf (by omega)).trans bN
 have ze:=aD B3 rf (Nat.le_refl _) (by omega)
 have aei:=rf.size
 obtain⟨r00,r01,r02,r03,r04,r05⟩:tK m0 w.heap.size (.int .i64 x.e) (.int .u8 x.r) (.int .i64 x.a) (.int .u8 q) (.int .i64 x.f) (.int .i64 x.b):=aN uz
 obtain⟨Z,hZ,_,gZ,⟨a0,a1,a2,a3,a4,a5⟩,fr,⟨z0,z1,z2,z3,z4,z5⟩⟩:=dU xy (.int .i64 x.e) (.int .u8 x.r) (.int .i64 x.a) (.int .u8 q) (.int .i64 x.f) (.int .i64 x.b)
 have f0:=fr 0;have f1:=fr 1;have f2:=fr 2;have f3:=fr 3;have f4:=fr 4;have f5:=fr 5
 have BB:=hide (aD ze gZ (by omega) (by omega))
 clear PST hP3 bN B3 bP gZ fr au uz rf xy ze aei hg lg
 unfold vp
 go_enter Tryz.func240,Tryz.ntmps240
 go_wp2
 refine bodyPost_ret (v:=.agg #[.int .i64 x.e,.int .u8 x.r,.int .i64 x.a,.int .u8 q,.int .i64 x.f,.int .i64 x.b]) (by simp[results,Tryz.results240,go_sem,z0,z1,z2,z3,z4,z5]) rfl ?_
 exact⟨rfl,BB.out⟩
theorem ah6 (x:Pm.Pg)(w:World):
  Calls Tryz.prog 226 #[vp x] w fun E w'=>E=.returned (.agg #[.int .i64 x.e,.int .u8 2,.int .i64 0,.int .u8 0,.int .i64 0,.int .i64 0])∧Below w.heap.size w w':=by
 obtain⟨w1,w2,hw1,hw2,aW,di,au,⟨p0,p1,p2,p3,p4,p5⟩,PST⟩:=eF x w
 obtain⟨hP3,bN,B3,bP⟩:=PST.out w2 (Below.refl _ _)
 obtain⟨Z,hZ,_,gZ,⟨a0,a1,a2,a3,a4,a5⟩,fr,⟨z0,z1,z2,z3,z4,z5⟩⟩:=dU bN (.int .i64 x.e) (.int .u8 2) (.int .i64 0) (.int .u8 0) (.int .i64 0) (.int .i64 0)
 have f0:=fr 0;have f1:=fr 1;have f2:=fr 2;have f3:=fr 3;have f4:=fr 4;have f5:=fr 5
 have BB:=hide (aD B3 gZ (by omega) (by omega))
 clear PST hP3 bN B3 bP gZ fr au
 unfold vp
 go_enter Tryz.func226,Tryz.ntmps226
 go_wp2
 refine bodyPost_ret (v:=.agg #[.int .i64 x.e,.int .u8 2,.int .i64 0,.int .u8 0,.int .i64 0,.int .i64 0]) (by simp[results,Tryz.results226,go_sem,z0,z1,z2,z3,z4,z5]) rfl ?_
 exact⟨rfl,BB.out⟩
theorem adb (q:Int)(w:World):
  Calls Tryz.prog 225 #[.int .u8 q] w fun E w'=>E=.returned (.func (.func 240) #[] #[.pointer (some ⟨w.heap.size,0,none⟩)])∧w'.heap.size=w.heap.size+1∧w'.heap[w.heap.size]? =some (.cells #[.int .u8 q] 33 (0,0))∧Below w.heap.size w w':=by
 have qP:∀(fn:Fn) (first cap:Array Value) (w:World),(Instr.makeFunc fn first cap).run Tryz.prog w=.ok (.func fn first cap) w:=fun _ _ _ _=>rfl
 obtain⟨w1,hw1,aW,aj,hP⟩:=ak w #[.int .u8 q] 33
 have R:=hide (And.intro aW (And.intro hP aj))
 clear aW hP aj
 go_enter Tryz.func225,Tryz.ntmps225
 go_wp2
 go_ret
 exact⟨rfl,R.out⟩
structure Tbl (B:Nat) (n b:Int) (w:World):Prop where
 h0:w.heap[B]? =some (.cells #[.int .i64 n] 3 (0,0))
 h1:w.heap[B+1]? =some (.cells #[.int .i64 b] 3 (0,0))
 h3:w.heap[B+3]? =some (.cells #[.int .u8 3] 33 (0,0))
 h4:w.heap[B+4]? =some (.cells #[.int .u8 4] 33 (0,0))
def anC (B:Nat):Value:=.agg #[.func (.func 222) #[] #[.pointer (some ⟨B,0,none⟩)],.func (.func 223) #[] #[.pointer (some ⟨B,0,none⟩)],.func (.func 224) #[] #[.pointer (some ⟨B,0,none⟩),.pointer (some ⟨B+1,0,none⟩)],.func (.func 240) #[] #[.pointer (some ⟨B+3,0,none⟩)],.func (.func 240) #[] #[.pointer (some ⟨B+4,0,none⟩)],.func (.func 226) #[] #[],.func (.func 227) #[] #[.pointer (some ⟨B,0,none⟩)]]
theorem axV {V:World}{R:Nat}{t:TypeId}{u:Value}(hR:V.heap[R]? =some (.cells #[u,u,u,u,u,u,u] t (0,0)))(a b c d e f g:Value):
  ∃V',((((((V.setCell ⟨R,0,none⟩ a).setCell ⟨R,1,none⟩ b).setCell ⟨R,2,none⟩ c).setCell ⟨R,3,none⟩ d).setCell ⟨R,4,none⟩ e).setCell ⟨R,5,none⟩ f).setCell ⟨R,6,none⟩ g=V'∧V'.heap[R]? =some (.cells #[a,b,c,d,e,f,g] t (0,0))∧V.grownBy V' (some R):=by
 have h0:(V.setCell ⟨R,0,none⟩ a).heap[R]? =some (.cells #[a,u,u,u,u,u,u] t (0,0)):=aI hR 0 a
 have h1:((V.setCell ⟨R,0,none⟩ a).setCell ⟨R,1,none⟩ b).heap[R]? =some (.cells #[a,b,u,u,u,u,u] t (0,0)):=aI h0 1 b
 have h2:(((V.setCell ⟨R,0,none⟩ a).setCell ⟨R,1,none⟩ b).setCell ⟨R,2,none⟩ c).heap[R]? =some (.cells #[a,b,c,u,u,u,u] t (0,0)):=aI h1 2 c
 have h3:((((V.setCell ⟨R,0,none⟩ a).setCell ⟨R,1,none⟩ b).setCell ⟨R,2,none⟩ c).setCell ⟨R,3,none⟩ d).heap[R]? =some (.cells #[a,b,c,d,u,u,u] t (0,0)):=aI h2 3 d
 have h4:(((((V.setCell ⟨R,0,none⟩ a).setCell ⟨R,1,none⟩ b).setCell ⟨R,2,none⟩ c).setCell ⟨R,3,none⟩ d).setCell ⟨R,4,none⟩ e).heap[R]? =some (.cells #[a,b,c,d,e,u,u] t (0,0)):=aI h3 4 e
 have h5:((((((V.setCell ⟨R,0,none⟩ a).setCell ⟨R,1,none⟩ b).setCell ⟨R,2,none⟩ c).setCell ⟨R,3,none⟩ d).setCell ⟨R,4,none⟩ e).setCell ⟨R,5,none⟩ f).heap[R]? =some (.cells #[a,b,c,d,e,f,u] t (0,0)):=aI h4 5 f
 have h:(((((((V.setCell ⟨R,0,none⟩ a).setCell ⟨R,1,none⟩ b).setCell ⟨R,2,none⟩ c).setCell ⟨R,3,none⟩ d).setCell ⟨R,4,none⟩ e).setCell ⟨R,5,none⟩ f).setCell ⟨R,6,none⟩ g).heap[R]? =some (.cells #[a,b,c,d,e,f,g] t (0,0)):=aI h5 6 g
 refine⟨_,rfl,h,?_⟩
 exact aH (aH (aH (aH (aH (aH (aB V ⟨R,0,none⟩ a) (aB _ ⟨R,1,none⟩ b)) (aB _ ⟨R,2,none⟩ c)) (aB _ ⟨R,3,none⟩ d)) (aB _ ⟨R,4,none⟩ e)) (aB _ ⟨R,5,none⟩ f)) (aB _ ⟨R,6,none⟩ g)
theorem qC (n b:Int)(w:World):
  Calls Tryz.prog 209 #[.int .i64 n,.int .i64 b] w fun E w'=>E=.returned (anC w.heap.size)∧Tbl w.heap.size n b w'∧Below w.heap.size w w':=by
 have qP:∀(fn:Fn) (first cap:Array Value) (w:World),(Instr.makeFunc fn first cap).run Tryz.prog w=.ok (.func fn first cap) w:=fun _ _ _ _=>rfl
 have hsf:∀(a:Addr) (fn:Fn) (first cap:Array Value) (w:World),(store a (.func fn first cap)).run Tryz.prog w=stored Tryz.prog w a (.func fn first cap) .plain:=fun a fn first cap w=>run_store _ w a _ _ rfl
 obtain⟨w1,hw1,aW,aj,hP1⟩:=ak w #[.int .i64 n] 3
 obtain⟨w2,hw2,s2,au,hP2⟩:=ak w1 #[.int .i64 b] 3
 obtain⟨w3,hw3,s3,aF,hP3⟩:=ak w2 #[.nilFunc,.nilFunc,.nilFunc,.nilFunc,.nilFunc,.nilFunc,.nilFunc] 254
 have di:w2.heap.size=w.heap.size+2:=by omega
 have bP:w3.heap.size=w.heap.size+3:=by omega
 rw[aW]at hP2
 rw[di]at hP3
 have W3:=hide (And.intro ((aF.block _ (by omega)).trans ((au.block _ (by omega)).trans hP1)) (And.intro ((aF.block _ (by omega)).trans hP2) (And.intro hP3 (aj.trans ((au.mono (by omega)).trans (aF.mono (by omega)))))))
 have C3:=hide (adb 3 w3)
 clear aj au aF hP1 hP2 hP3 s2 s3
 go_enter Tryz.func209,Tryz.ntmps209
 go_wp2_with fail
 refine C3.out.mono ?_
 rintro E w4 ⟨rfl,s4,hP4,b4⟩
 have C4:=hide (adb 4 w4)
 have W4:=hide (And.intro hP4 b4)
 have lT:w4.heap.size=w.heap.size+4:=by omega
 clear C3 hP4 b4 s4
 go_wp2_with fail
 refine C4.out.mono ?_
 rintro E w5 ⟨rfl,sH,hP5,b5⟩
 obtain⟨p1,p2,p3,bw⟩:=W3.out
 obtain⟨p4,b4⟩:=W4.out
 rw[lT]at hP5
 rw[bP]at p4
 have b35:=b4.trans (b5.mono (by omega))
 have q1:=(b35.block _ (by omega)).trans p1
 have q2:=(b35.block _ (by omega)).trans p2
 have q3:=(b35.block _ (by omega)).trans p3
 have q4:=(b5.block _ (by omega)).trans p4
 obtain⟨Z,hZ,hZR,gZ⟩:=axV q3 (.func (.func 222) #[] #[.pointer (some ⟨w.heap.size,0,none⟩)]) (.func (.func 223) #[] #[.pointer (some ⟨w.heap.size,0,none⟩)]) (.func (.func 224) #[] #[.pointer (some ⟨w.heap.size,0,none⟩),.pointer (some ⟨w.heap.size+1,0,none⟩)]) (.func (.func 240) #[] #[.pointer (some ⟨w.heap.size+3,0,none⟩)]) (.func (.func 240) #[] #[.pointer (some ⟨w.heap.size+4,0,none⟩)]) (.func (.func 226) #[] #[]) (.func (.func 227) #[] #[.pointer (some ⟨w.heap.size,0,none⟩)])
 have R:Hid (Tbl w.heap.size n b Z∧Below w.heap.size w Z):=hide ⟨⟨(gZ.block _ (by omega) (by simp)).trans q1,(gZ.block _ (by omega) (by simp)).trans q2,(gZ.block _ (by omega) (by simp)).trans q4,(gZ.block _ (by omega) (by simp)).trans hP5⟩,aD (bw.trans (b35.mono (by omega))) gZ (by omega) (by omega)⟩
 have a0:w5.cell? ⟨w.heap.size+2,0,none⟩=some .nilFunc:=ai q3 0 rfl
 have f0:=aC q3 0
 have z0:Z.cell? ⟨w.heap.size+2,0,none⟩=some (.func (.func 222) #[] #[.pointer (some ⟨w.heap.size,0,none⟩)]):=ai hZR 0 rfl
 have a1:w5.cell? ⟨w.heap.size+2,1,none⟩=some .nilFunc:=ai q3 1 rfl
 have f1:=aC q3 1
 have z1:Z.cell? ⟨w.heap.size+2,1,none⟩=some (.func (.func 223) #[] #[.pointer (some ⟨w.heap.size,0,none⟩)]):=ai hZR 1 rfl
 have a2:w5.cell? ⟨w.heap.size+2,2,none⟩=some .nilFunc:=ai q3 2 rfl
 have f2:=aC q3 2
 have z2:Z.cell? ⟨w.heap.size+2,2,none⟩=some (.func (.func 224) #[] #[.pointer (some ⟨w.heap.size,0,none⟩),.pointer (some ⟨w.heap.size+1,0,none⟩)]):=ai hZR 2 rfl
 have a3:w5.cell? ⟨w.heap.size+2,3,none⟩=some .nilFunc:=ai q3 3 rfl
 have f3:=aC q3 3
 have z3:Z.cell? ⟨w.heap.size+2,3,none⟩=some (.func (.func 240) #[] #[.pointer (some ⟨w.heap.size+3,0,none⟩)]):=ai hZR 3 rfl
 have a4:w5.cell? ⟨w.heap.size+2,4,none⟩=some .nilFunc:=ai q3 4 rfl
 have f4:=aC q3 4
 have z4:Z.cell? ⟨w.heap.size+2,4,none⟩=some (.func (.func 240) #[] #[.pointer (some ⟨w.heap.size+4,0,none⟩)]):=ai hZR 4 rfl
 have a5:w5.cell? ⟨w.heap.size+2,5,none⟩=some .nilFunc:=ai q3 5 rfl
 have f5:=aC q3 5
 have z5:Z.cell? ⟨w.heap.size+2,5,none⟩=some (.func (.func 226) #[] #[]):=ai hZR 5 rfl
 have a6:w5.cell? ⟨w.heap.size+2,6,none⟩=some .nilFunc:=ai q3 6 rfl
 have f6:=aC q3 6
 have z6:Z.cell? ⟨w.heap.size+2,6,none⟩=some (.func (.func 227) #[] #[.pointer (some ⟨w.heap.size,0,none⟩)]):=ai hZR 6 rfl
 rw[lT]
 clear p1 p2 p3 p4 q1 q2 q3 q4 b35 b4 b5 bw hP5 hZR gZ C4 W3 W4 sH
 go_wp2
 refine bodyPost_ret (v:=anC w.heap.size) (by simp[results,Tryz.results209,go_sem,anC,z0,z1,z2,z3,z4,z5,z6]) rfl ?_
 exact⟨rfl,R.out⟩
theorem Tryz.awC (f0 f1 f2 f3 f4 f5 f6:Value)(w:World):(Instr.index 254 (.agg #[f0,f1,f2,f3,f4,f5,f6]) (.int .i64 0)).run Tryz.prog w=.ok f0 w:=by kernel_rfl
theorem Tryz.aw7 (f0 f1 f2 f3 f4 f5 f6:Value)(w:World):(Instr.index 254 (.agg #[f0,f1,f2,f3,f4,f5,f6]) (.int .i64 2)).run Tryz.prog w=.ok f2 w:=by kernel_rfl
theorem Tryz.awP (f0 f1 f2 f3 f4 f5 f6:Value)(w:World):(Instr.index 254 (.agg #[f0,f1,f2,f3,f4,f5,f6]) (.int .i64 3)).run Tryz.prog w=.ok f3 w:=by kernel_rfl
theorem Tryz.aw1 (f0 f1 f2 f3 f4 f5 f6:Value)(w:World):(Instr.index 254 (.agg #[f0,f1,f2,f3,f4,f5,f6]) (.int .i64 4)).run Tryz.prog w=.ok f4 w:=by kernel_rfl
theorem Tryz.awI (f0 f1 f2 f3 f4 f5 f6:Value)(w:World):(Instr.index 254 (.agg #[f0,f1,f2,f3,f4,f5,f6]) (.int .i64 5)).run Tryz.prog w=.ok f5 w:=by kernel_rfl
theorem yj (x:Pm.Pg)(k n b:Int)(w:World)(h:Rol.own x≠k):
  Calls Tryz.prog 177 #[vp x,.int .i64 k,.int .i64 n,.int .i64 b] w fun E w'=>E=.returned (.tuple #[.agg #[.int .i64 0,.int .u8 0,.int .i64 0,.int .u8 0,.int .i64 0,.int .i64 0],.int .i64 15])∧Below w.heap.size w w':=by
 obtain⟨w1,w2,hw1,hw2,aW,di,au,⟨p0,p1,p2,p3,p4,p5⟩,PST⟩:=eF x w
 have C0:=hide (nE x w2)
 have hb:(Rol.own x !=k)=true:=by simpa using h
 generalize Rol.own x=o at*
 clear au h
 unfold vp
 go_enter Tryz.func177,Tryz.ntmps177
 go_wp2_with fail
 refine C0.out.mono ?_
 rintro E w3 ⟨rfl,b3⟩
 obtain⟨hP3,bN,B3,bP⟩:=PST.out w3 b3
 obtain⟨Z,hZ,_,gZ,⟨a0,a1,a2,a3,a4,a5⟩,fr,⟨z0,z1,z2,z3,z4,z5⟩⟩:=dU bN (.int .i64 0) (.int .u8 0) (.int .i64 0) (.int .u8 0) (.int .i64 0) (.int .i64 0)
 have f0:=fr 0;have f1:=fr 1;have f2:=fr 2;have f3:=fr 3;have f4:=fr 4;have f5:=fr 5
 have BB:=hide (aD B3 gZ (by omega) (by omega))
 clear C0 PST b3 hP3 bN B3 bP gZ fr p0 p1 p2 p3 p4 p5
 go_wp2
 refine bodyPost_ret (v:=.tuple #[.agg #[.int .i64 0,.int .u8 0,.int .i64 0,.int .u8 0,.int .i64 0,.int .i64 0],.int .i64 15]) (by simp[results,Tryz.results177,go_sem,z0,z1,z2,z3,z4,z5]) rfl ?_
 exact⟨rfl,BB.out⟩
theorem aw8 (x:Pm.Pg)(n b:Int)(w:World)(h:Rol.own x=0):
  Calls Tryz.prog 177 #[vp x,.int .i64 0,.int .i64 n,.int .i64 b] w fun E w'=>E=.returned (.tuple #[.agg #[.int .i64 x.e,.int .u8 x.r,.int .i64 n,.int .u8 x.p,.int .i64 x.f,.int .i64 x.b],.int .i64 0])∧Below w.heap.size w w':=by
 obtain⟨w1,w2,hw1,hw2,aW,di,au,⟨p0,p1,p2,p3,p4,p5⟩,PST⟩:=eF x w
 have C0:=hide (nE x w2)
 rw[h]at C0
 have CC:Hid (∀W,Below w2.heap.size w2 W→Calls Tryz.prog 209 #[.int .i64 n,.int .i64 b] W fun E w'=>∃B,E=.returned (.agg #[.func (.func 222) #[] #[.pointer (some ⟨B,0,none⟩)],.func (.func 223) #[] #[.pointer (some ⟨B,0,none⟩)],.func (.func 224) #[] #[.pointer (some ⟨B,0,none⟩),.pointer (some ⟨B+1,0,none⟩)],.func (.func 240) #[] #[.pointer (some ⟨B+3,0,none⟩)],.func (.func 240) #[] #[.pointer (some ⟨B+4,0,none⟩)],.func (.func 226) #[] #[],.func (.func 227) #[] #[.pointer (some ⟨B,0,none⟩)]])∧Tbl B n b w'∧Below w2.heap.size w2 w'):=hide fun W hW=>(qC n b W).mono fun E w' h=>⟨W.heap.size,h.1,h.2.1,hW.trans (h.2.2.mono hW.size)⟩
 clear au h
 unfold vp
 go_enter Tryz.func177,Tryz.ntmps177
 go_wp2_with fail
 refine C0.out.mono ?_
 rintro E w3 ⟨rfl,b3⟩
 obtain⟨hP3,bN,B3,bP⟩:=PST.out w3 b3
 have Sk3:=hide (fM hP3)
 have B3':=hide b3
 clear C0 b3 hP3 bN B3 bP p0 p1 p2 p3 p4 p5
 go_wp2_with fail
 have hix:=Tryz.awC
 go_region_held3 (fun W=>W.cell? ⟨w.heap.size,0,none⟩=some (.int .i64 x.e)∧W.cell? ⟨w.heap.size,1,none⟩=some (.int .u8 x.r)∧W.cell? ⟨w.heap.size,2,none⟩=some (.int .i64 x.a)∧W.cell? ⟨w.heap.size,3,none⟩=some (.int .u8 x.p)∧W.cell? ⟨w.heap.size,4,none⟩=some (.int .i64 x.f)∧W.cell? ⟨w.heap.size,5,none⟩=some (.int .i64 x.b)) (first|exact Sk7.out|exact Sk6.out|exact Sk4.out|exact Sk3.out|go_keep)
  (first
  |(go_at_call 209;refine(CC.out _ B3'.out.drew).mono ?_;rintro E w4 ⟨B,rfl,t4,b4⟩;have T4:=hide t4;have B4:=hide b4;have Sk4:=hide (fM (PST.out w4 b4).1);clear t4 b4)
  |(go_at_call 222;refine(aiW x n B _ T4.out.h0).mono ?_;rintro E w6 ⟨rfl,b6⟩;obtain⟨mJ,mM,B6,lV⟩:=PST.out w6 (B4.out.trans (b6.mono B4.out.size));obtain⟨Z,hZ,_,gZ,⟨a0,a1,a2,a3,a4,a5⟩,fr,⟨z0,z1,z2,z3,z4,z5⟩⟩:=dU mM (.int .i64 x.e) (.int .u8 x.r) (.int .i64 n) (.int .u8 x.p) (.int .i64 x.f) (.int .i64 x.b);have f0:=fr 0;have f1:=fr 1;have f2:=fr 2;have f3:=fr 3;have f4:=fr 4;have f5:=fr 5;have BB:=hide (aD B6 gZ (by omega) (by omega));have Sk6:=hide (fM mJ);have Sk7:=hide (fM ((fT gZ ⟨by omega,by omega⟩).trans mJ));clear b6 mJ mM B6 lV gZ fr))
 all_goals
  go_wp2
  refine bodyPost_ret (v:=.tuple #[.agg #[.int .i64 x.e,.int .u8 x.r,.int .i64 n,.int .u8 x.p,.int .i64 x.f,.int .i64 x.b],.int .i64 0]) (by simp[results,Tryz.results177,go_sem,z0,z1,z2,z3,z4,z5]) rfl ?_
  exact⟨rfl,BB.out⟩
theorem akj (x:Pm.Pg)(n b:Int)(w:World)(h:Rol.own x=2):
  Calls Tryz.prog 177 #[vp x,.int .i64 2,.int .i64 n,.int .i64 b] w fun E w'=>E=.returned (.tuple #[.agg #[.int .i64 x.e,.int .u8 x.r,.int .i64 x.a,.int .u8 2,.int .i64 n,.int .i64 b],.int .i64 0])∧Below w.heap.size w w':=by
 obtain⟨w1,w2,hw1,hw2,aW,di,au,⟨p0,p1,p2,p3,p4,p5⟩,PST⟩:=eF x w
 have C0:=hide (nE x w2)
 rw[h]at C0
 have CC:Hid (∀W,Below w2.heap.size w2 W→Calls Tryz.prog 209 #[.int .i64 n,.int .i64 b] W fun E w'=>∃B,E=.returned (.agg #[.func (.func 222) #[] #[.pointer (some ⟨B,0,none⟩)],.func (.func 223) #[] #[.pointer (some ⟨B,0,none⟩)],.func (.func 224) #[] #[.pointer (some ⟨B,0,none⟩),.pointer (some ⟨B+1,0,none⟩)],.func (.func 240) #[] #[.pointer (some ⟨B+3,0,none⟩)],.func (.func 240) #[] #[.pointer (some ⟨B+4,0,none⟩)],.func (.func 226) #[] #[],.func (.func 227) #[] #[.pointer (some ⟨B,0,none⟩)]])∧Tbl B n b w'∧Below w2.heap.size w2 w'):=hide fun W hW=>(qC n b W).mono fun E w' h=>⟨W.heap.size,h.1,h.2.1,hW.trans (h.2.2.mono hW.size)⟩
 clear au h
 unfold vp
 go_enter Tryz.func177,Tryz.ntmps177
 go_wp2_with fail
 refine C0.out.mono ?_
 rintro E w3 ⟨rfl,b3⟩
 obtain⟨hP3,bN,B3,bP⟩:=PST.out w3 b3
 have Sk3:=hide (fM hP3)
 have B3':=hide b3
 clear C0 b3 hP3 bN B3 bP p0 p1 p2 p3 p4 p5
 go_wp2_with fail
 have hix:=Tryz.aw7
 go_region_held3 (fun W=>W.cell? ⟨w.heap.size,0,none⟩=some (.int .i64 x.e)∧W.cell? ⟨w.heap.size,1,none⟩=some (.int .u8 x.r)∧W.cell? ⟨w.heap.size,2,none⟩=some (.int .i64 x.a)∧W.cell? ⟨w.heap.size,3,none⟩=some (.int .u8 x.p)∧W.cell? ⟨w.heap.size,4,none⟩=some (.int .i64 x.f)∧W.cell? ⟨w.heap.size,5,none⟩=some (.int .i64 x.b)) (first|exact Sk7.out|exact Sk6.out|exact Sk4.out|exact Sk3.out|go_keep)
  (first
  |(go_at_call 209;refine(CC.out _ B3'.out.drew).mono ?_;rintro E w4 ⟨B,rfl,t4,b4⟩;have T4:=hide t4;have B4:=hide b4;have Sk4:=hide (fM (PST.out w4 b4).1);clear t4 b4)
  |(go_at_call 224;refine(aib x b n B (B+1) _ T4.out.h0 T4.out.h1).mono ?_;rintro E w6 ⟨rfl,b6⟩;obtain⟨mJ,mM,B6,lV⟩:=PST.out w6 (B4.out.trans (b6.mono B4.out.size));obtain⟨Z,hZ,_,gZ,⟨a0,a1,a2,a3,a4,a5⟩,fr,⟨z0,z1,z2,z3,z4,z5⟩⟩:=dU mM (.int .i64 x.e) (.int .u8 x.r) (.int .i64 x.a) (.int .u8 2) (.int .i64 n) (.int .i64 b);have f0:=fr 0;have f1:=fr 1;have f2:=fr 2;have f3:=fr 3;have f4:=fr 4;have f5:=fr 5;have BB:=hide (aD B6 gZ (by omega) (by omega));have Sk6:=hide (fM mJ);have Sk7:=hide (fM ((fT gZ ⟨by omega,by omega⟩).trans mJ));clear b6 mJ mM B6 lV gZ fr))
 all_goals
  go_wp2
  refine bodyPost_ret (v:=.tuple #[.agg #[.int .i64 x.e,.int .u8 x.r,.int .i64 x.a,.int .u8 2,.int .i64 n,.int .i64 b],.int .i64 0]) (by simp[results,Tryz.results177,go_sem,z0,z1,z2,z3,z4,z5]) rfl ?_
  exact⟨rfl,BB.out⟩
theorem ajC (x:Pm.Pg)(n b:Int)(w:World)(h:Rol.own x=3):
  Calls Tryz.prog 177 #[vp x,.int .i64 3,.int .i64 n,.int .i64 b] w fun E w'=>E=.returned (.tuple #[.agg #[.int .i64 x.e,.int .u8 x.r,.int .i64 x.a,.int .u8 3,.int .i64 x.f,.int .i64 x.b],.int .i64 0])∧Below w.heap.size w w':=by
 obtain⟨w1,w2,hw1,hw2,aW,di,au,⟨p0,p1,p2,p3,p4,p5⟩,PST⟩:=eF x w
 have C0:=hide (nE x w2)
 rw[h]at C0
 have CC:Hid (∀W,Below w2.heap.size w2 W→Calls Tryz.prog 209 #[.int .i64 n,.int .i64 b] W fun E w'=>∃B,E=.returned (.agg #[.func (.func 222) #[] #[.pointer (some ⟨B,0,none⟩)],.func (.func 223) #[] #[.pointer (some ⟨B,0,none⟩)],.func (.func 224) #[] #[.pointer (some ⟨B,0,none⟩),.pointer (some ⟨B+1,0,none⟩)],.func (.func 240) #[] #[.pointer (some ⟨B+3,0,none⟩)],.func (.func 240) #[] #[.pointer (some ⟨B+4,0,none⟩)],.func (.func 226) #[] #[],.func (.func 227) #[] #[.pointer (some ⟨B,0,none⟩)]])∧Tbl B n b w'∧Below w2.heap.size w2 w'):=hide fun W hW=>(qC n b W).mono fun E w' h=>⟨W.heap.size,h.1,h.2.1,hW.trans (h.2.2.mono hW.size)⟩
 clear au h
 unfold vp
 go_enter Tryz.func177,Tryz.ntmps177
 go_wp2_with fail
 refine C0.out.mono ?_
 rintro E w3 ⟨rfl,b3⟩
 obtain⟨hP3,bN,B3,bP⟩:=PST.out w3 b3
 have Sk3:=hide (fM hP3)
 have B3':=hide b3
 clear C0 b3 hP3 bN B3 bP p0 p1 p2 p3 p4 p5
 go_wp2_with fail
 have hix:=Tryz.awP
 go_region_held3 (fun W=>W.cell? ⟨w.heap.size,0,none⟩=some (.int .i64 x.e)∧W.cell? ⟨w.heap.size,1,none⟩=some (.int .u8 x.r)∧W.cell? ⟨w.heap.size,2,none⟩=some (.int .i64 x.a)∧W.cell? ⟨w.heap.size,3,none⟩=some (.int .u8 x.p)∧W.cell? ⟨w.heap.size,4,none⟩=some (.int .i64 x.f)∧W.cell? ⟨w.heap.size,5,none⟩=some (.int .i64 x.b)) (first|exact Sk7.out|exact Sk6.out|exact Sk4.out|exact Sk3.out|go_keep)
  (first
  |(go_at_call 209;refine(CC.out _ B3'.out.drew).mono ?_;rintro E w4 ⟨B,rfl,t4,b4⟩;have T4:=hide t4;have B4:=hide b4;have Sk4:=hide (fM (PST.out w4 b4).1);clear t4 b4)
  |(go_at_call 240;refine(abj x 3 (B+3) _ T4.out.h3).mono ?_;rintro E w6 ⟨rfl,b6⟩;obtain⟨mJ,mM,B6,lV⟩:=PST.out w6 (B4.out.trans (b6.mono B4.out.size));obtain⟨Z,hZ,_,gZ,⟨a0,a1,a2,a3,a4,a5⟩,fr,⟨z0,z1,z2,z3,z4,z5⟩⟩:=dU mM (.int .i64 x.e) (.int .u8 x.r) (.int .i64 x.a) (.int .u8 3) (.int .i64 x.f) (.int .i64 x.b);have f0:=fr 0;have f1:=fr 1;have f2:=fr 2;have f3:=fr 3;have f4:=fr 4;have f5:=fr 5;have BB:=hide (aD B6 gZ (by omega) (by omega));have Sk6:=hide (fM mJ);have Sk7:=hide (fM ((fT gZ ⟨by omega,by omega⟩).trans mJ));clear b6 mJ mM B6 lV gZ fr))
 all_goals
  go_wp2
  refine bodyPost_ret (v:=.tuple #[.agg #[.int .i64 x.e,.int .u8 x.r,.int .i64 x.a,.int .u8 3,.int .i64 x.f,.int .i64 x.b],.int .i64 0]) (by simp[results,Tryz.results177,go_sem,z0,z1,z2,z3,z4,z5]) rfl ?_
  exact⟨rfl,BB.out⟩
theorem al8 (x:Pm.Pg)(n b:Int)(w:World)(h:Rol.own x=4):
  Calls Tryz.prog 177 #[vp x,.int .i64 4,.int .i64 n,.int .i64 b] w fun E w'=>E=.returned (.tuple #[.agg #[.int .i64 x.e,.int .u8 x.r,.int .i64 x.a,.int .u8 4,.int .i64 x.f,.int .i64 x.b],.int .i64 0])∧Below w.heap.size w w':=by
 obtain⟨w1,w2,hw1,hw2,aW,di,au,⟨p0,p1,p2,p3,p4,p5⟩,PST⟩:=eF x w
 have C0:=hide (nE x w2)
 rw[h]at C0
 have CC:Hid (∀W,Below w2.heap.size w2 W→Calls Tryz.prog 209 #[.int .i64 n,.int .i64 b] W fun E w'=>∃B,E=.returned (.agg #[.func (.func 222) #[] #[.pointer (some ⟨B,0,none⟩)],.func (.func 223) #[] #[.pointer (some ⟨B,0,none⟩)],.func (.func 224) #[] #[.pointer (some ⟨B,0,none⟩),.pointer (some ⟨B+1,0,none⟩)],.func (.func 240) #[] #[.pointer (some ⟨B+3,0,none⟩)],.func (.func 240) #[] #[.pointer (some ⟨B+4,0,none⟩)],.func (.func 226) #[] #[],.func (.func 227) #[] #[.pointer (some ⟨B,0,none⟩)]])∧Tbl B n b w'∧Below w2.heap.size w2 w'):=hide fun W hW=>(qC n b W).mono fun E w' h=>⟨W.heap.size,h.1,h.2.1,hW.trans (h.2.2.mono hW.size)⟩
 clear au h
 unfold vp
 go_enter Tryz.func177,Tryz.ntmps177
 go_wp2_with fail
 refine C0.out.mono ?_
 rintro E w3 ⟨rfl,b3⟩
 obtain⟨hP3,bN,B3,bP⟩:=PST.out w3 b3
 have Sk3:=hide (fM hP3)
 have B3':=hide b3
 clear C0 b3 hP3 bN B3 bP p0 p1 p2 p3 p4 p5
 go_wp2_with fail
 have hix:=Tryz.aw1
 go_region_held3 (fun W=>W.cell? ⟨w.heap.size,0,none⟩=some (.int .i64 x.e)∧W.cell? ⟨w.heap.size,1,none⟩=some (.int .u8 x.r)∧W.cell? ⟨w.heap.size,2,none⟩=some (.int .i64 x.a)∧W.cell? ⟨w.heap.size,3,none⟩=some (.int .u8 x.p)∧W.cell? ⟨w.heap.size,4,none⟩=some (.int .i64 x.f)∧W.cell? ⟨w.heap.size,5,none⟩=some (.int .i64 x.b)) (first|exact Sk7.out|exact Sk6.out|exact Sk4.out|exact Sk3.out|go_keep)
  (first
  |(go_at_call 209;refine(CC.out _ B3'.out.drew).mono ?_;rintro E w4 ⟨B,rfl,t4,b4⟩;have T4:=hide t4;have B4:=hide b4;have Sk4:=hide (fM (PST.out w4 b4).1);clear t4 b4)
  |(go_at_call 240;refine(abj x 4 (B+4) _ T4.out.h4).mono ?_;rintro E w6 ⟨rfl,b6⟩;obtain⟨mJ,mM,B6,lV⟩:=PST.out w6 (B4.out.trans (b6.mono B4.out.size));obtain⟨Z,hZ,_,gZ,⟨a0,a1,a2,a3,a4,a5⟩,fr,⟨z0,z1,z2,z3,z4,z5⟩⟩:=dU mM (.int .i64 x.e) (.int .u8 x.r) (.int .i64 x.a) (.int .u8 4) (.int .i64 x.f) (.int .i64 x.b);have f0:=fr 0;have f1:=fr 1;have f2:=fr 2;have f3:=fr 3;have f4:=fr 4;have f5:=fr 5;have BB:=hide (aD B6 gZ (by omega) (by omega));have Sk6:=hide (fM mJ);have Sk7:=hide (fM ((fT gZ ⟨by omega,by omega⟩).trans mJ));clear b6 mJ mM B6 lV gZ fr))
 all_goals
  go_wp2
  refine bodyPost_ret (v:=.tuple #[.agg #[.int .i64 x.e,.int .u8 x.r,.int .i64 x.a,.int .u8 4,.int .i64 x.f,.int .i64 x.b],.int .i64 0]) (by simp[results,Tryz.results177,go_sem,z0,z1,z2,z3,z4,z5]) rfl ?_
  exact⟨rfl,BB.out⟩
theorem alp (x:Pm.Pg)(n b:Int)(w:World)(h:Rol.own x=5):
  Calls Tryz.prog 177 #[vp x,.int .i64 5,.int .i64 n,.int .i64 b] w fun E w'=>E=.returned (.tuple #[.agg #[.int .i64 x.e,.int .u8 2,.int .i64 0,.int .u8 0,.int .i64 0,.int .i64 0],.int .i64 0])∧Below w.heap.size w w':=by
 obtain⟨w1,w2,hw1,hw2,aW,di,au,⟨p0,p1,p2,p3,p4,p5⟩,PST⟩:=eF x w
 have C0:=hide (nE x w2)
 rw[h]at C0
 have CC:Hid (∀W,Below w2.heap.size w2 W→Calls Tryz.prog 209 #[.int .i64 n,.int .i64 b] W fun E w'=>∃B,E=.returned (.agg #[.func (.func 222) #[] #[.pointer (some ⟨B,0,none⟩)],.func (.func 223) #[] #[.pointer (some ⟨B,0,none⟩)],.func (.func 224) #[] #[.pointer (some ⟨B,0,none⟩),.pointer (some ⟨B+1,0,none⟩)],.func (.func 240) #[] #[.pointer (some ⟨B+3,0,none⟩)],.func (.func 240) #[] #[.pointer (some ⟨B+4,0,none⟩)],.func (.func 226) #[] #[],.func (.func 227) #[] #[.pointer (some ⟨B,0,none⟩)]])∧Tbl B n b w'∧Below w2.heap.size w2 w'):=hide fun W hW=>(qC n b W).mono fun E w' h=>⟨W.heap.size,h.1,h.2.1,hW.trans (h.2.2.mono hW.size)⟩
 clear au h
 unfold vp
 go_enter Tryz.func177,Tryz.ntmps177
 go_wp2_with fail
 refine C0.out.mono ?_
 rintro E w3 ⟨rfl,b3⟩
 obtain⟨hP3,bN,B3,bP⟩:=PST.out w3 b3
 have Sk3:=hide (fM hP3)
 have B3':=hide b3
 clear C0 b3 hP3 bN B3 bP p0 p1 p2 p3 p4 p5
 go_wp2_with fail
 have hix:=Tryz.awI
 go_region_held3 (fun W=>W.cell? ⟨w.heap.size,0,none⟩=some (.int .i64 x.e)∧W.cell? ⟨w.heap.size,1,none⟩=some (.int .u8 x.r)∧W.cell? ⟨w.heap.size,2,none⟩=some (.int .i64 x.a)∧W.cell? ⟨w.heap.size,3,none⟩=some (.int .u8 x.p)∧W.cell? ⟨w.heap.size,4,none⟩=some (.int .i64 x.f)∧W.cell? ⟨w.heap.size,5,none⟩=some (.int .i64 x.b)) (first|exact Sk7.out|exact Sk6.out|exact Sk4.out|exact Sk3.out|go_keep)
  (first
  |(go_at_call 209;refine(CC.out _ B3'.out.drew).mono ?_;rintro E w4 ⟨B,rfl,t4,b4⟩;have T4:=hide t4;have B4:=hide b4;have Sk4:=hide (fM (PST.out w4 b4).1);clear t4 b4)
  |(go_at_call 226;refine(ah6 x _).mono ?_;rintro E w6 ⟨rfl,b6⟩;obtain⟨mJ,mM,B6,lV⟩:=PST.out w6 (B4.out.trans (b6.mono B4.out.size));obtain⟨Z,hZ,_,gZ,⟨a0,a1,a2,a3,a4,a5⟩,fr,⟨z0,z1,z2,z3,z4,z5⟩⟩:=dU mM (.int .i64 x.e) (.int .u8 2) (.int .i64 0) (.int .u8 0) (.int .i64 0) (.int .i64 0);have f0:=fr 0;have f1:=fr 1;have f2:=fr 2;have f3:=fr 3;have f4:=fr 4;have f5:=fr 5;have BB:=hide (aD B6 gZ (by omega) (by omega));have Sk6:=hide (fM mJ);have Sk7:=hide (fM ((fT gZ ⟨by omega,by omega⟩).trans mJ));clear b6 mJ mM B6 lV gZ fr))
 all_goals
  go_wp2
  refine bodyPost_ret (v:=.tuple #[.agg #[.int .i64 x.e,.int .u8 2,.int .i64 0,.int .u8 0,.int .i64 0,.int .i64 0],.int .i64 0]) (by simp[results,Tryz.results177,go_sem,z0,z1,z2,z3,z4,z5]) rfl ?_
  exact⟨rfl,BB.out⟩
namespace Rol
open Pm (Pg chk no Ok)
theorem om {x:Pg}(h:chk x=0):(own x=0↔x.r=1)∧(own x=1↔x.r=2)∧(own x=2↔x.p=1)∧(own x=3↔x.p=2)∧(own x=4↔x.p=3)∧(own x=5↔x.p=4):=by
 have ho:=Pm.gy.1 h
 have:=Pm.kG ho
 obtain⟨h1,h2,_,h3,h4⟩:=aoC ho
 unfold own
 (repeat' split)<;>(refine⟨?_,?_,?_,?_,?_,?_⟩<;>omega)
theorem ahK (x:Pg)(n lo hi:Int):(chk x≠0→ck x n lo hi=chk x)∧(chk x=0→n<lo∨hi<n→ck x n lo hi=2)∧(chk x=0→¬(n<lo∨hi<n)→ck x n lo hi=0):=by
 unfold ck
 exact⟨fun h=>if_neg h,fun h k=>by rw[if_pos h,if_pos k],fun h k=>by rw[if_pos h,if_neg k]⟩
end Rol
theorem uk (x y:Pm.Pg)(k e:Int)(w:World)(hx:eT x)(hm:fQ w)(h1:Pm.chk x≠0→y=Pm.no∧e=Pm.chk x)(h2:Pm.chk x=0→∀W,Calls Tryz.prog 177 #[vp x,.int .i64 k,.int .i64 0,.int .i64 0] W fun E w'=>E=.returned (.tuple #[vp y,.int .i64 e])∧Below W.heap.size W w'):
  Calls Tryz.prog 144 #[vp x,.int .i64 k] w fun E w'=>E=.returned (.tuple #[vp y,.int .i64 e])∧Below w.heap.size w w':=by
 obtain⟨w1,w2,hw1,hw2,aW,di,au,⟨p0,p1,p2,p3,p4,p5⟩,PST⟩:=eF x w
 have CK:=hide (iZ x w2 hx (hm.below au))
 clear au hm
 by_cases h0:Pm.chk x=0
 ·have h2:=hide (h2 h0)
  rw[h0]at CK
  clear h1 h0
  unfold vp
  go_enter Tryz.func144,Tryz.ntmps144
  go_wp2_with fail
  refine CK.out.mono ?_
  rintro E w3 ⟨rfl,b3⟩
  obtain⟨hP3,bN,B3,bP⟩:=PST.out w3 b3
  obtain⟨q0,q1,q2,q3,q4,q5⟩:=aN hP3
  have FO:=hide (h2.out w3)
  have wN:=hide b3
  clear CK b3 hP3 bN B3 p0 p1 p2 p3 p4 p5
  unfold vp at FO
  go_wp2_with fail
  refine FO.out.mono ?_
  rintro E w4 ⟨rfl,b4⟩
  obtain⟨hP4,hR4,B4,lT⟩:=PST.out w4 (wN.out.trans (b4.mono wN.out.size))
  obtain⟨Z,hZ,_,gZ,⟨a0,a1,a2,a3,a4,a5⟩,fr,⟨z0,z1,z2,z3,z4,z5⟩⟩:=dU hR4 (.int .i64 y.e) (.int .u8 y.r) (.int .i64 y.a) (.int .u8 y.p) (.int .i64 y.f) (.int .i64 y.b)
  have f0:=fr 0;have f1:=fr 1;have f2:=fr 2;have f3:=fr 3;have f4:=fr 4;have f5:=fr 5
  have BB:=hide (aD B4 gZ (by omega) (by omega))
  clear PST FO wN b4 hP4 hR4 B4 lT gZ fr q0 q1 q2 q3 q4 q5
  go_wp2
  refine bodyPost_ret (v:=.tuple #[.agg #[.int .i64 y.e,.int .u8 y.r,.int .i64 y.a,.int .u8 y.p,.int .i64 y.f,.int .i64 y.b],.int .i64 e]) (by simp[results,Tryz.results144,go_sem,z0,z1,z2,z3,z4,z5]) rfl ?_
  exact⟨rfl,BB.out⟩
 ·obtain⟨rfl,rfl⟩:=h1 h0
  have hb:(Pm.chk x !=0)=true:=by simpa using h0
  generalize Pm.chk x=ch at*
  clear h1 h2 h0
  unfold vp
  go_enter Tryz.func144,Tryz.ntmps144
  go_wp2_with fail
  refine CK.out.mono ?_
  rintro E w3 ⟨rfl,b3⟩
  obtain⟨hP3,bN,B3,bP⟩:=PST.out w3 b3
  obtain⟨q0,q1,q2,q3,q4,q5⟩:=aN hP3
  obtain⟨Z,hZ,_,gZ,⟨a0,a1,a2,a3,a4,a5⟩,fr,⟨z0,z1,z2,z3,z4,z5⟩⟩:=dU bN (.int .i64 0) (.int .u8 0) (.int .i64 0) (.int .u8 0) (.int .i64 0) (.int .i64 0)
  have f0:=fr 0;have f1:=fr 1;have f2:=fr 2;have f3:=fr 3;have f4:=fr 4;have f5:=fr 5
  have BB:=hide (aD B3 gZ (by omega) (by omega))
  clear CK PST b3 hP3 bN B3 bP gZ fr p0 p1 p2 p3 p4 p5
  go_wp2
  refine bodyPost_ret (v:=.tuple #[.agg #[.int .i64 0,.int .u8 0,.int .i64 0,.int .u8 0,.int .i64 0,.int .i64 0],.int .i64 ch]) (by simp[results,Tryz.results144,go_sem,z0,z1,z2,z3,z4,z5]) rfl ?_
  exact⟨rfl,BB.out⟩
theorem ajK (x:Pm.Pg)(w:World)(hx:eT x)(hm:fQ w):
  Calls Tryz.prog 141 #[vp x] w fun E w'=>E=.returned (.tuple #[vp (Rol.nx x 2 3),.int .i64 (Rol.gP x 2)])∧Below w.heap.size w w':=by
 obtain⟨w1,w2,hw1,hw2,aW,di,au,⟨p0,p1,p2,p3,p4,p5⟩,PST⟩:=eF x w
 have CK:=hide (uk x (Rol.nx x 2 3) 3 (Rol.gP x 2) w2 hx (hm.below au) (fun h=>by unfold Rol.nx Rol.gP;simp[h]) (fun h W=>by
  by_cases hk:Rol.own x=3
  ·have hp:x.p=2:=(Rol.om h).2.2.2.1.1 hk
   have e1:Rol.gP x 2=0:=by unfold Rol.gP;rw[if_pos h,if_pos hp]
   have e2:Rol.nx x 2 3=⟨x.e,x.r,x.a,3,x.f,x.b⟩:=by unfold Rol.nx;rw[if_pos e1]
   rw[e1,e2]
   exact ajC x 0 0 W hk
  ·have hp:x.p≠2:=fun h'=>hk ((Rol.om h).2.2.2.1.2 h')
   have e1:Rol.gP x 2=15:=by unfold Rol.gP;rw[if_pos h,if_neg hp]
   have e2:Rol.nx x 2 3=Pm.no:=by unfold Rol.nx;rw[if_neg (by omega)]
   rw[e1,e2]
   exact yj x 3 0 0 W hk))
 generalize Rol.nx x 2 3=y at*
 generalize Rol.gP x 2=e at*
 clear au hm
 unfold vp at CK
 unfold vp
 go_enter Tryz.func141,Tryz.ntmps141
 go_wp2_with fail
 refine CK.out.mono ?_
 rintro E w3 ⟨rfl,b3⟩
 obtain⟨hP3,bN,B3,bP⟩:=PST.out w3 b3
 obtain⟨q0,q1,q2,q3,q4,q5⟩:=aN hP3
 obtain⟨Z,hZ,_,gZ,⟨a0,a1,a2,a3,a4,a5⟩,fr,⟨z0,z1,z2,z3,z4,z5⟩⟩:=dU bN (.int .i64 y.e) (.int .u8 y.r) (.int .i64 y.a) (.int .u8 y.p) (.int .i64 y.f) (.int .i64 y.b)
 have f0:=fr 0;have f1:=fr 1;have f2:=fr 2;have f3:=fr 3;have f4:=fr 4;have f5:=fr 5
 have BB:=hide (aD B3 gZ (by omega) (by omega))
 clear CK PST b3 hP3 bN B3 bP gZ fr p0 p1 p2 p3 p4 p5
 go_wp2
 refine bodyPost_ret (v:=.tuple #[.agg #[.int .i64 y.e,.int .u8 y.r,.int .i64 y.a,.int .u8 y.p,.int .i64 y.f,.int .i64 y.b],.int .i64 e]) (by simp[results,Tryz.results141,go_sem,z0,z1,z2,z3,z4,z5]) rfl ?_
 exact⟨rfl,BB.out⟩
theorem anE (x:Pm.Pg)(w:World)(hx:eT x)(hm:fQ w):
  Calls Tryz.prog 143 #[vp x] w fun E w'=>E=.returned (.tuple #[vp (Rol.nx x 3 4),.int .i64 (Rol.gP x 3)])∧Below w.heap.size w w':=by
 obtain⟨w1,w2,hw1,hw2,aW,di,au,⟨p0,p1,p2,p3,p4,p5⟩,PST⟩:=eF x w
 have CK:=hide (uk x (Rol.nx x 3 4) 4 (Rol.gP x 3) w2 hx (hm.below au) (fun h=>by unfold Rol.nx Rol.gP;simp[h]) (fun h W=>by
  by_cases hk:Rol.own x=4
  ·have hp:x.p=3:=(Rol.om h).2.2.2.2.1.1 hk
   have e1:Rol.gP x 3=0:=by unfold Rol.gP;rw[if_pos h,if_pos hp]
   have e2:Rol.nx x 3 4=⟨x.e,x.r,x.a,4,x.f,x.b⟩:=by unfold Rol.nx;rw[if_pos e1]
   rw[e1,e2]
   exact al8 x 0 0 W hk
  ·have hp:x.p≠3:=fun h'=>hk ((Rol.om h).2.2.2.2.1.2 h')
   have e1:Rol.gP x 3=15:=by unfold Rol.gP;rw[if_pos h,if_neg hp]
   have e2:Rol.nx x 3 4=Pm.no:=by unfold Rol.nx;rw[if_neg (by omega)]
   rw[e1,e2]
   exact yj x 4 0 0 W hk))
 generalize Rol.nx x 3 4=y at*
 generalize Rol.gP x 3=e at*
 clear au hm
 unfold vp at CK
 unfold vp
 go_enter Tryz.func143,Tryz.ntmps143
 go_wp2_with fail
 refine CK.out.mono ?_
 rintro E w3 ⟨rfl,b3⟩
 obtain⟨hP3,bN,B3,bP⟩:=PST.out w3 b3
 obtain⟨q0,q1,q2,q3,q4,q5⟩:=aN hP3
 obtain⟨Z,hZ,_,gZ,⟨a0,a1,a2,a3,a4,a5⟩,fr,⟨z0,z1,z2,z3,z4,z5⟩⟩:=dU bN (.int .i64 y.e) (.int .u8 y.r) (.int .i64 y.a) (.int .u8 y.p) (.int .i64 y.f) (.int .i64 y.b)
 have f0:=fr 0;have f1:=fr 1;have f2:=fr 2;have f3:=fr 3;have f4:=fr 4;have f5:=fr 5
 have BB:=hide (aD B3 gZ (by omega) (by omega))
 clear CK PST b3 hP3 bN B3 bP gZ fr p0 p1 p2 p3 p4 p5
 go_wp2
 refine bodyPost_ret (v:=.tuple #[.agg #[.int .i64 y.e,.int .u8 y.r,.int .i64 y.a,.int .u8 y.p,.int .i64 y.f,.int .i64 y.b],.int .i64 e]) (by simp[results,Tryz.results143,go_sem,z0,z1,z2,z3,z4,z5]) rfl ?_
 exact⟨rfl,BB.out⟩
theorem agx (x:Pm.Pg)(w:World)(hx:eT x)(hm:fQ w):
  Calls Tryz.prog 94 #[vp x] w fun E w'=>E=.returned (.tuple #[vp (Rol.rj x),.int .i64 (Rol.gP x 4)])∧Below w.heap.size w w':=by
 obtain⟨w1,w2,hw1,hw2,aW,di,au,⟨p0,p1,p2,p3,p4,p5⟩,PST⟩:=eF x w
 have CK:=hide (uk x (Rol.rj x) 5 (Rol.gP x 4) w2 hx (hm.below au) (fun h=>by unfold Rol.rj Rol.gP;simp[h]) (fun h W=>by
  by_cases hk:Rol.own x=5
  ·have hp:x.p=4:=(Rol.om h).2.2.2.2.2.1 hk
   have e1:Rol.gP x 4=0:=by unfold Rol.gP;rw[if_pos h,if_pos hp]
   have e2:Rol.rj x=⟨x.e,2,0,0,0,0⟩:=by unfold Rol.rj;rw[if_pos e1]
   rw[e1,e2]
   exact alp x 0 0 W hk
  ·have hp:x.p≠4:=fun h'=>hk ((Rol.om h).2.2.2.2.2.2 h')
   have e1:Rol.gP x 4=15:=by unfold Rol.gP;rw[if_pos h,if_neg hp]
   have e2:Rol.rj x=Pm.no:=by unfold Rol.rj;rw[if_neg (by omega)]
   rw[e1,e2]
   exact yj x 5 0 0 W hk))
 generalize Rol.rj x=y at*
 generalize Rol.gP x 4=e at*
 clear au hm
 unfold vp at CK
 unfold vp
 go_enter Tryz.func94,Tryz.ntmps94
 go_wp2_with fail
 refine CK.out.mono ?_
 rintro E w3 ⟨rfl,b3⟩
 obtain⟨hP3,bN,B3,bP⟩:=PST.out w3 b3
 obtain⟨q0,q1,q2,q3,q4,q5⟩:=aN hP3
 obtain⟨Z,hZ,_,gZ,⟨a0,a1,a2,a3,a4,a5⟩,fr,⟨z0,z1,z2,z3,z4,z5⟩⟩:=dU bN (.int .i64 y.e) (.int .u8 y.r) (.int .i64 y.a) (.int .u8 y.p) (.int .i64 y.f) (.int .i64 y.b)
 have f0:=fr 0;have f1:=fr 1;have f2:=fr 2;have f3:=fr 3;have f4:=fr 4;have f5:=fr 5
 have BB:=hide (aD B3 gZ (by omega) (by omega))
 clear CK PST b3 hP3 bN B3 bP gZ fr p0 p1 p2 p3 p4 p5
 go_wp2
 refine bodyPost_ret (v:=.tuple #[.agg #[.int .i64 y.e,.int .u8 y.r,.int .i64 y.a,.int .u8 y.p,.int .i64 y.f,.int .i64 y.b],.int .i64 e]) (by simp[results,Tryz.results94,go_sem,z0,z1,z2,z3,z4,z5]) rfl ?_
 exact⟨rfl,BB.out⟩
theorem akF (x:Pm.Pg)(n k:Int)(w:World)(hx:eT x)(hm:fQ w)(hn:I64 n)(hk:I64 k):
  Calls Tryz.prog 139 #[vp x,.int .i64 n,.int .i64 k] w fun E w'=>E=.returned (.tuple #[vp (Rol.fk x n k),.int .i64 (Rol.mP x n k)])∧Below w.heap.size w w':=by
 obtain⟨w1,w2,hw1,hw2,aW,di,au,⟨p0,p1,p2,p3,p4,p5⟩,PST⟩:=eF x w
 have CK:=hide (asy x n 0 1048576 w2 hx (hm.below au))
 clear au hm
 by_cases h0:Pm.chk x=0
 case neg=>
  rw[(Rol.ahK x n 0 1048576).1 h0]at CK
  have eE:Rol.mP x n k=Pm.chk x:=by unfold Rol.mP;(repeat' split)<;>omega
  have eP:Rol.fk x n k=Pm.no:=by unfold Rol.fk;rw[if_neg (by rw[eE];omega)]
  rw[eP,eE]
  have hb:(Pm.chk x !=0)=true:=by simpa using h0
  generalize Pm.chk x=ch at*
  clear eE eP h0 hx
  unfold vp
  go_enter Tryz.func139,Tryz.ntmps139
  go_wp2_with fail
  refine CK.out.mono ?_
  rintro E w3 ⟨rfl,b3⟩
  obtain⟨hP3,bN,B3,bP⟩:=PST.out w3 b3
  obtain⟨q0,q1,q2,q3,q4,q5⟩:=aN hP3
  obtain⟨Z,hZ,_,gZ,⟨a0,a1,a2,a3,a4,a5⟩,fr,⟨z0,z1,z2,z3,z4,z5⟩⟩:=dU bN (.int .i64 0) (.int .u8 0) (.int .i64 0) (.int .u8 0) (.int .i64 0) (.int .i64 0)
  have f0:=fr 0;have f1:=fr 1;have f2:=fr 2;have f3:=fr 3;have f4:=fr 4;have f5:=fr 5
  have BB:=hide (aD B3 gZ (by omega) (by omega))
  clear CK PST b3 hP3 bN B3 bP gZ fr p0 p1 p2 p3 p4 p5
  go_wp2
  refine bodyPost_ret (v:=.tuple #[.agg #[.int .i64 0,.int .u8 0,.int .i64 0,.int .u8 0,.int .i64 0,.int .i64 0],.int .i64 ch]) (by simp[results,Tryz.results139,go_sem,z0,z1,z2,z3,z4,z5]) rfl ?_
  exact⟨rfl,BB.out⟩
 by_cases hr:n<0∨1048576<n
 case pos=>
  rw[(Rol.ahK x n 0 1048576).2.1 h0 hr]at CK
  have eE:Rol.mP x n k=2:=by unfold Rol.mP;(repeat' split)<;>omega
  have eP:Rol.fk x n k=Pm.no:=by unfold Rol.fk;rw[if_neg (by rw[eE];omega)]
  rw[eP,eE]
  clear eE eP h0 hx hr
  unfold vp
  go_enter Tryz.func139,Tryz.ntmps139
  go_wp2_with fail
  refine CK.out.mono ?_
  rintro E w3 ⟨rfl,b3⟩
  obtain⟨hP3,bN,B3,bP⟩:=PST.out w3 b3
  obtain⟨q0,q1,q2,q3,q4,q5⟩:=aN hP3
  obtain⟨Z,hZ,_,gZ,⟨a0,a1,a2,a3,a4,a5⟩,fr,⟨z0,z1,z2,z3,z4,z5⟩⟩:=dU bN (.int .i64 0) (.int .u8 0) (.int .i64 0) (.int .u8 0) (.int .i64 0) (.int .i64 0)
  have f0:=fr 0;have f1:=fr 1;have f2:=fr 2;have f3:=fr 3;have f4:=fr 4;have f5:=fr 5
  have BB:=hide (aD B3 gZ (by omega) (by omega))
  clear CK PST b3 hP3 bN B3 bP gZ fr p0 p1 p2 p3 p4 p5
  go_wp2
  refine bodyPost_ret (v:=.tuple #[.agg #[.int .i64 0,.int .u8 0,.int .i64 0,.int .u8 0,.int .i64 0,.int .i64 0],.int .i64 2]) (by simp[results,Tryz.results139,go_sem,z0,z1,z2,z3,z4,z5]) rfl ?_
  exact⟨rfl,BB.out⟩
 rw[(Rol.ahK x n 0 1048576).2.2 h0 hr]at CK
 by_cases h3:k<0
 case pos=>
  have eE:Rol.mP x n k=2:=by unfold Rol.mP;(repeat' split)<;>omega
  have eP:Rol.fk x n k=Pm.no:=by unfold Rol.fk;rw[if_neg (by rw[eE];omega)]
  rw[eP,eE]
  clear eE eP h0 hr hx
  unfold vp
  go_enter Tryz.func139,Tryz.ntmps139
  go_wp2_with fail
  refine CK.out.mono ?_
  rintro E w3 ⟨rfl,b3⟩
  obtain⟨hP3,bN,B3,bP⟩:=PST.out w3 b3
  obtain⟨q0,q1,q2,q3,q4,q5⟩:=aN hP3
  obtain⟨Z,hZ,_,gZ,⟨a0,a1,a2,a3,a4,a5⟩,fr,⟨z0,z1,z2,z3,z4,z5⟩⟩:=dU bN (.int .i64 0) (.int .u8 0) (.int .i64 0) (.int .u8 0) (.int .i64 0) (.int .i64 0)
  have f0:=fr 0;have f1:=fr 1;have f2:=fr 2;have f3:=fr 3;have f4:=fr 4;have f5:=fr 5
  have BB:=hide (aD B3 gZ (by omega) (by omega))
  clear CK PST b3 hP3 bN B3 bP gZ fr p0 p1 p2 p3 p4 p5
  go_wp2
  refine bodyPost_ret (v:=.tuple #[.agg #[.int .i64 0,.int .u8 0,.int .i64 0,.int .u8 0,.int .i64 0,.int .i64 0],.int .i64 2]) (by simp[results,Tryz.results139,go_sem,z0,z1,z2,z3,z4,z5]) rfl ?_
  exact⟨rfl,BB.out⟩
 by_cases h4:1073741824<k
 case pos=>
  have eE:Rol.mP x n k=2:=by unfold Rol.mP;(repeat' split)<;>omega
  have eP:Rol.fk x n k=Pm.no:=by unfold Rol.fk;rw[if_neg (by rw[eE];omega)]
  rw[eP,eE]
  clear eE eP h0 hr hx
  unfold vp
  go_enter Tryz.func139,Tryz.ntmps139
  go_wp2_with fail
  refine CK.out.mono ?_
  rintro E w3 ⟨rfl,b3⟩
  obtain⟨hP3,bN,B3,bP⟩:=PST.out w3 b3
  obtain⟨q0,q1,q2,q3,q4,q5⟩:=aN hP3
  obtain⟨Z,hZ,_,gZ,⟨a0,a1,a2,a3,a4,a5⟩,fr,⟨z0,z1,z2,z3,z4,z5⟩⟩:=dU bN (.int .i64 0) (.int .u8 0) (.int .i64 0) (.int .u8 0) (.int .i64 0) (.int .i64 0)
  have f0:=fr 0;have f1:=fr 1;have f2:=fr 2;have f3:=fr 3;have f4:=fr 4;have f5:=fr 5
  have BB:=hide (aD B3 gZ (by omega) (by omega))
  clear CK PST b3 hP3 bN B3 bP gZ fr p0 p1 p2 p3 p4 p5
  go_wp2
  refine bodyPost_ret (v:=.tuple #[.agg #[.int .i64 0,.int .u8 0,.int .i64 0,.int .u8 0,.int .i64 0,.int .i64 0],.int .i64 2]) (by simp[results,Tryz.results139,go_sem,z0,z1,z2,z3,z4,z5]) rfl ?_
  exact⟨rfl,BB.out⟩
 by_cases ho:Rol.own x=2
 case pos=>
  have hp:x.p=1:=(Rol.om h0).2.2.1.1 ho
  have eE:Rol.mP x n k=0:=by unfold Rol.mP;(repeat' split)<;>omega
  have eP:Rol.fk x n k=⟨x.e,x.r,x.a,2,n,k⟩:=by unfold Rol.fk;rw[if_pos eE]
  rw[eP,eE]
  clear eE eP h0 hr hx hp
  unfold vp
  go_enter Tryz.func139,Tryz.ntmps139
  go_wp2_with fail
  refine CK.out.mono ?_
  rintro E w3 ⟨rfl,b3⟩
  obtain⟨hP3,bN,B3,bP⟩:=PST.out w3 b3
  obtain⟨q0,q1,q2,q3,q4,q5⟩:=aN hP3
  have FO:=hide (akj x n k w3 ho)
  have wN:=hide b3
  clear CK b3 hP3 bN B3 p0 p1 p2 p3 p4 p5 ho
  unfold vp at FO
  go_wp2_with fail
  refine FO.out.mono ?_
  rintro E w4 ⟨rfl,b4⟩
  obtain⟨hP4,hR4,B4,lT⟩:=PST.out w4 (wN.out.trans (b4.mono wN.out.size))
  obtain⟨Z,hZ,_,gZ,⟨a0,a1,a2,a3,a4,a5⟩,fr,⟨z0,z1,z2,z3,z4,z5⟩⟩:=dU hR4 (.int .i64 x.e) (.int .u8 x.r) (.int .i64 x.a) (.int .u8 2) (.int .i64 n) (.int .i64 k)
  have f0:=fr 0;have f1:=fr 1;have f2:=fr 2;have f3:=fr 3;have f4:=fr 4;have f5:=fr 5
  have BB:=hide (aD B4 gZ (by omega) (by omega))
  clear PST FO wN b4 hP4 hR4 B4 lT gZ fr q0 q1 q2 q3 q4 q5
  go_wp2
  refine bodyPost_ret (v:=.tuple #[.agg #[.int .i64 x.e,.int .u8 x.r,.int .i64 x.a,.int .u8 2,.int .i64 n,.int .i64 k],.int .i64 0]) (by simp[results,Tryz.results139,go_sem,z0,z1,z2,z3,z4,z5]) rfl ?_
  exact⟨rfl,BB.out⟩
 have hp:x.p≠1:=fun h=>ho ((Rol.om h0).2.2.1.2 h)
 have eE:Rol.mP x n k=15:=by unfold Rol.mP;(repeat' split)<;>omega
 have eP:Rol.fk x n k=Pm.no:=by unfold Rol.fk;rw[if_neg (by rw[eE];omega)]
 rw[eP,eE]
 clear eE eP h0 hr hx hp
 unfold vp
 go_enter Tryz.func139,Tryz.ntmps139
 go_wp2_with fail
 refine CK.out.mono ?_
 rintro E w3 ⟨rfl,b3⟩
 obtain⟨hP3,bN,B3,bP⟩:=PST.out w3 b3
 obtain⟨q0,q1,q2,q3,q4,q5⟩:=aN hP3
 have FO:=hide (yj x 2 n k w3 ho)
 have wN:=hide b3
 clear CK b3 hP3 bN B3 p0 p1 p2 p3 p4 p5 ho
 unfold vp at FO
 go_wp2_with fail
 refine FO.out.mono ?_
 rintro E w4 ⟨rfl,b4⟩
 obtain⟨hP4,hR4,B4,lT⟩:=PST.out w4 (wN.out.trans (b4.mono wN.out.size))
 obtain⟨Z,hZ,_,gZ,⟨a0,a1,a2,a3,a4,a5⟩,fr,⟨z0,z1,z2,z3,z4,z5⟩⟩:=dU hR4 (.int .i64 0) (.int .u8 0) (.int .i64 0) (.int .u8 0) (.int .i64 0) (.int .i64 0)
 have f0:=fr 0;have f1:=fr 1;have f2:=fr 2;have f3:=fr 3;have f4:=fr 4;have f5:=fr 5
 have BB:=hide (aD B4 gZ (by omega) (by omega))
 clear PST FO wN b4 hP4 hR4 B4 lT gZ fr q0 q1 q2 q3 q4 q5
 go_wp2
 refine bodyPost_ret (v:=.tuple #[.agg #[.int .i64 0,.int .u8 0,.int .i64 0,.int .u8 0,.int .i64 0,.int .i64 0],.int .i64 15]) (by simp[results,Tryz.results139,go_sem,z0,z1,z2,z3,z4,z5]) rfl ?_
 exact⟨rfl,BB.out⟩
def zst:Array Value:=#[.pointer none,.bool false,.int .i64 0,.int .u8 0,.int .i64 0,.int .u8 0,.int .i64 0,.int .i64 0,.pointer none,.int .i64 0,.slice none 0 0,.pointer none,.pointer none]
def zW (w:World) (v:Value):Prop:=v=.pointer none∨∃p,v=.pointer (some ⟨p,0,none⟩)∧w.heap[p]? =some (.cells zst 56 (0,0))
theorem zW.below {w w':World}{v:Value}(h:zW w v)(hb:Below w.heap.size w w'):zW w' v:=by
 rcases h with h|⟨p,h1,h2⟩
 ·exact .inl h
 ·exact .inr ⟨p,h1,(hb.block p (ax h2)).trans h2⟩
theorem zW.at {w:World}{v:Value}(h:zW w v):v=.pointer none∨∃p,v=.pointer (some ⟨p,0,none⟩)∧w.cell? ⟨p,0,none⟩=some (.pointer none):=by
 rcases h with h|⟨p,h1,h2⟩
 ·exact .inl h
 ·exact .inr ⟨p,h1,ai h2 0 rfl⟩
section
theorem aw5 (v:Value)(w:World)(h:zW w v):Calls Tryz.prog 20 #[v] w fun E w'=>E=.returned (vp Pm.no)∧Below w.heap.size w w':=by
 obtain⟨w1,hw1,s1,b1,P1⟩:=ak w #[.int .i64 0,.int .u8 0,.int .i64 0,.int .u8 0,.int .i64 0,.int .i64 0] 35
 obtain⟨V',hV',dG,bQ,⟨a0,a1,a2,a3,a4,a5⟩,fr,⟨z0,z1,z2,z3,z4,z5⟩⟩:=dU P1 (.int .i64 0) (.int .u8 0) (.int .i64 0) (.int .u8 0) (.int .i64 0) (.int .i64 0)
 have f0:=fr 0;have f1:=fr 1;have f2:=fr 2;have f3:=fr 3;have f4:=fr 4;have f5:=fr 5
 have BV:=hide (aD b1 bQ (Nat.le_refl _) (by omega))
 have HM:=hide (ann v w1 (h.below b1).at)
 clear h b1 P1 dG bQ fr s1
 go_enter Tryz.func20,Tryz.ntmps20
 go_wp2_with fail
 refine HM.out.mono ?_
 rintro E w2 ⟨rfl,rfl⟩
 clear HM
 go_wp2
 refine bodyPost_ret (v:=vp Pm.no) (by simp[results,Tryz.results20,go_sem,z0,z1,z2,z3,z4,z5,vp,Pm.no]) rfl ?_
 exact⟨rfl,BV.out⟩
end
theorem xB (o:Option Addr)(w:World)(h:zW w (.pointer o))(m:Mw):
  Calls Tryz.prog 11 #[.pointer o,mv m] w fun E w'=>E=.returned (.tuple #[vp Pm.no,.int .i64 1])∧Below w.heap.size w w':=by
 obtain⟨w1,hw1,s1,b1,P1⟩:=oN w m
 obtain⟨w2,hw2,s2,b2,P2⟩:=ak w1 #[.int .i64 0,.int .u8 0,.int .i64 0,.int .u8 0,.int .i64 0,.int .i64 0] 35
 rw[s1]at P2
 have b02:Below w.heap.size w w2:=b1.trans (b2.mono (by omega))
 have NP:=hide (aw5 (.pointer o) w2 (h.below b02))
 rw[show vp Pm.no=.agg #[.int .i64 0,.int .u8 0,.int .i64 0,.int .u8 0,.int .i64 0,.int .i64 0]from rfl]at NP⊢
 have hq:∀W,(binOp .eql 35 (.agg #[.int .i64 0,.int .u8 0,.int .i64 0,.int .u8 0,.int .i64 0,.int .i64 0]) (.agg #[.int .i64 0,.int .u8 0,.int .i64 0,.int .u8 0,.int .i64 0,.int .i64 0])).run Tryz.prog W=.ok (.bool true) W:=fun W=>by
  rw[Tryz.abW]
  simp
 have KEEP:Hid (∀W,Below w2.heap.size w2 W→W.heap[w.heap.size+1]? =some (.cells #[.int .i64 0,.int .u8 0,.int .i64 0,.int .u8 0,.int .i64 0,.int .i64 0] 35 (0,0))∧Below w.heap.size w W):=hide fun W hW=>⟨(hW.block _ (by omega)).trans P2,b02.trans (hW.mono (by omega))⟩
 have HM:Hid (mv m=.agg #[.int .i64 m.k,.int .i64 m.e,.int .u8 m.r,.int .i64 m.n,m.vs,.int .i64 m.f,.int .i64 m.p,m.vc]):=hide rfl
 rw[HM.out]
 clear h b1 b2 P1 P2 b02 s2
 go_enter Tryz.func11,Tryz.ntmps11
 go_wp2_with fail
 refine NP.out.mono ?_
 rintro E w3 ⟨rfl,b3⟩
 obtain⟨w4,hw4,s4,b4,P4⟩:=ak w3 #[.int .i64 0,.int .u8 0,.int .i64 0,.int .u8 0,.int .i64 0,.int .i64 0] 35
 obtain⟨n0,n1,n2,n3,n4,n5,m0,m1,m2,m3,m4,m5⟩:=qJ P4
 obtain⟨e0,e1,e2,e3,e4,e5⟩:=aN P4
 obtain⟨k1,k2⟩:=KEEP.out w4 (b3.trans (b4.mono b3.size))
 obtain⟨p0,p1,p2,p3,p4,p5,q0,q1,q2,q3,q4,q5⟩:=qJ k1
 obtain⟨r0,r1,r2,r3,r4,r5⟩:=aN k1
 have B:=hide k2
 clear NP KEEP b3 b4 P4 k1 k2
 go_wp2
 refine bodyPost_ret (v:=.tuple #[.agg #[.int .i64 0,.int .u8 0,.int .i64 0,.int .u8 0,.int .i64 0,.int .i64 0],.int .i64 1]) (by simp[results,Tryz.results11,go_sem,r0,r1,r2,r3,r4,r5]) rfl ?_
 exact⟨rfl,B.out⟩
end Go.Proofs.YtjemlgdkjilnoaaGreatDoor
