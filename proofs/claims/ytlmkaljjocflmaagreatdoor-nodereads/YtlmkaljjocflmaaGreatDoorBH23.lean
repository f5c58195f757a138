/- Texts. -/
import Derived.Test.YtlmkaljjocflmaaGreatDoorBH18
import Derived.Test.YtlmkaljjocflmaaGreatDoorBH9
set_option maxRecDepth 100000
set_option maxHeartbeats 8000000
set_option linter.unusedVariables false
open Go.Proofs.Tryz
namespace Go.Proofs.YtlmkaljjocflmaaGreatDoor
open Go.RowKit
theorem api (vb:Value)(bs:List Int)(w:World)(hb:Is .u8 w vb bs)(hl:bs.length≤140737488355328):
  Calls prog 204 #[vb] w fun E w'=>∃(e n g:Int) (v:Value) (l:List Bm.Ov),E=.returned (.tuple #[cK e n v,.int .i64 g])∧aT 71 w.heap.size w' v l∧Cm.acA bs e n l g∧Below w.heap.size w w':=by
 unfold cK
 obtain⟨w1,hw1,aV,aj,hB⟩:=au w #[.int .i64 0,.int .i64 0,.slice none 0 0] 35
 have hb1:=hb.below aj
 obtain⟨ao,cap,rfl,_,_⟩:=hb.shape
 have HB:=hide hB
 clear hB
 go_enter func204,ntmps204
 go_wp2_with fail
 refine(am3 _ bs _ hb1 (by omega)).mono ?_
 rintro E w2 ⟨e,n,k,g,vl,l,rfl,oI,hR,az⟩
 unfold cK
 have dA:=az.size
 have hB2:=(az.block w.heap.size (by omega)).trans HB.out
 have aO:=aj.trans (az.mono (by omega))
 obtain⟨ah,ch,hvl,_,_⟩:=oI.is.shape
 subst hvl
 obtain⟨V,hV,hV2,iy,bg,bC,c0,c1,c2⟩:=eY w2 35 (.int .i64 0) (.int .i64 0) (.slice none 0 0) (.int .i64 e) (.int .i64 n) (.slice ah l.length ch)
 have hB3:=(bg.block w.heap.size (by omega)).trans hB2
 have zl:=aO.trans (bg.mono (by omega))
 obtain⟨Z,hZ,bZ,gZ,⟨a0,a1,a2⟩,⟨f0,f1,f2⟩,⟨z0,z1,z2⟩⟩:=gy hB3 (.int .i64 0) (.int .i64 0) (.slice none 0 0)
 have sM:=aG zl gZ (Nat.le_refl _) (by omega)
 have H3:=hide hB3
 have HC:=hide bC
 have jm:=oI.below bg
 clear hB2 hB3 bC bZ gZ aj az aO HB oI hb1
 rcases hR with⟨rfl,x,y,hx,hy,px,py,hc,hp,rfl,rfl,rfl⟩|⟨rfl,rfl,rfl,rfl,rfl,hno⟩
 ·by_cases hk:Vm.sz x+Vm.sz y+(Bm.eO l).length=bs.length
  ·have HK:=hide hk
   rw[hk]
   have hkk:((bs.length:Int) !=(bs.length:Int))=false:=by simp
   have hfit:=(vG hc).fit
   have hl8:=(Bm.dM hc).2.1
   have P:Hid (Vm.enc x<+:bs∧Vm.enc y<+:bs.drop (Vm.sz x)∧Bm.cO l=0∧Bm.eO l<+:bs.drop (Vm.sz x+Vm.sz y)):=⟨px,py,hc,hp⟩
   clear hk px py hc hp
   go_wp2_with fail
   refine(uD x y _ l _ jm.is hfit (by omega)).mono ?_
   rintro E w4 ⟨rfl,aL⟩
   obtain⟨px,py,hc,hp⟩:=P.out
   have iK:=aL.size
   have hB4:=(aL.block w.heap.size (by omega)).trans H3.out
   have hC4:=(aL.block w2.heap.size (by omega)).trans HC.out
   have dC:=zl.trans (aL.mono (by omega))
   have d0:=ai hC4 0 rfl
   have d1:=ai hC4 1 rfl
   have d2:=ai hC4 2 rfl
   have bz:=jm.below aL
   clear hZ z0 z1 z2 sM a0 a1 a2 f0 f1 f2 c0 c1 c2 hV hV2 bg zl jm H3 HC aL P
   by_cases hck:Cm.chk x y l=0
   ·rw[hck]
    obtain⟨V',hV',fI,dO,⟨a0,a1,a2⟩,⟨f0,f1,f2⟩,⟨z0,z1,z2⟩⟩:=gy hB4 (.int .i64 x) (.int .i64 y) (.slice ah l.length ch)
    have fu:=aG dC dO (Nat.le_refl _) (by omega)
    have ab1:=(bz.nD dO (by omega)).bn (base':=w.heap.size) (by omega)
    have HR:Hid (Cm.acA bs x y l 0):=hide (.inl ⟨rfl,hck,Cm.ak0 px py hp HK.out⟩)
    clear px py hc hp fI dO hB4 bz dC hck HK hC4
    go_wp2
    refine bodyPost_ret (v:=.tuple #[.agg #[.int .i64 x,.int .i64 y,.slice ah l.length ch],.int .i64 0]) (by simp[results,results204,go_sem,z0,z1,z2]) rfl ?_
    exact⟨_,_,_,_,_,rfl,ab1,HR.out,fu⟩
   ·have HR:Hid (Cm.acA bs 0 0 [] 5):=hide (.inr ⟨rfl,rfl,rfl,rfl,Cm.aib px py hc hp (.inr hck)⟩)
    have hne:(Cm.chk x y l==0)=false:=by simpa using hck
    obtain⟨V',hV',fI,dO,⟨a0,a1,a2⟩,⟨f0,f1,f2⟩,⟨z0,z1,z2⟩⟩:=gy hB4 (.int .i64 0) (.int .i64 0) (.slice none 0 0)
    have fu:=aG dC dO (Nat.le_refl _) (by omega)
    generalize Cm.chk x y l=ck at*
    clear px py hc hp fI dO hB4 bz dC hck HK hC4
    go_wp2
    refine bodyPost_ret (v:=.tuple #[.agg #[.int .i64 0,.int .i64 0,.slice none 0 0],.int .i64 5]) (by simp[results,results204,go_sem,z0,z1,z2]) rfl ?_
    exact⟨_,_,_,_,_,rfl,aT.nil _ _ _,HR.out,fu⟩
  ·have HR:Hid (Cm.acA bs 0 0 [] 5):=hide (.inr ⟨rfl,rfl,rfl,rfl,Cm.aib px py hc hp (.inl hk)⟩)
   generalize Vm.sz x+Vm.sz y+(Bm.eO l).length=q at*
   have hkk:((q:Int) !=(bs.length:Int))=true:=by simp;omega
   clear hk px py hc hp
   go_wp2
   refine bodyPost_ret (v:=.tuple #[.agg #[.int .i64 0,.int .i64 0,.slice none 0 0],.int .i64 5]) (by simp[results,results204,go_sem,z0,z1,z2]) rfl ?_
   exact⟨_,_,_,_,_,rfl,aT.nil _ _ _,HR.out,sM⟩
 ·have HR:Hid (Cm.acA bs 0 0 [] 5):=hide (.inr ⟨rfl,rfl,rfl,rfl,hno⟩)
  clear hno
  simp only[List.length_nil]at hV hV2 c2
  go_wp2
  refine bodyPost_ret (v:=.tuple #[.agg #[.int .i64 0,.int .i64 0,.slice none 0 0],.int .i64 5]) (by simp[results,results204,go_sem,z0,z1,z2]) rfl ?_
  exact⟨_,_,_,_,_,rfl,aT.nil _ _ _,HR.out,sM⟩
namespace Rol
open Pm (Pg chk no Ok)
theorem am2 {x:Pg}(h:chk x=0):(own x=0↔x.r=1)∧(own x=1↔x.r=2)∧(own x=2↔x.p=1)∧(own x=3↔x.p=2)∧(own x=4↔x.p=3)∧(own x=5↔x.p=4):=by
 have ho:=Pm.qg.1 h
 have:=Pm.pX ho
 obtain⟨h1,h2,_,h3,h4⟩:=arw ho
 unfold own
 (repeat' split)<;>(refine⟨?_,?_,?_,?_,?_,?_⟩<;>omega)
theorem yJ (x:Pg)(n lo hi:Int):(chk x≠0→ck x n lo hi=chk x)∧(chk x=0→n<lo∨hi<n→ck x n lo hi=2)∧(chk x=0→¬(n<lo∨hi<n)→ck x n lo hi=0):=by
 unfold ck
 exact⟨fun h=>if_neg h,fun h k=>by rw[if_pos h,if_pos k],fun h k=>by rw[if_pos h,if_neg k]⟩
end Rol
theorem ahj (x:Pm.Pg)(w:World)(hx:ig x)(hm:fU w):
  Calls prog 152 #[vp x] w fun E w'=>E=.returned (.int .i64 (Rol.vW x))∧Below w.heap.size w w':=by
 obtain⟨w2,hw2,dA,az,hP⟩:=au w #[.int .i64 x.e,.int .u8 x.r,.int .i64 x.a,.int .u8 x.p,.int .i64 x.f,.int .i64 x.b] 46
 obtain⟨p0,p1,p2,p3,p4,p5⟩:=aR hP
 have PST:Hid (∀W,Below w2.heap.size w2 W→W.heap[w.heap.size]? =some (.cells #[.int .i64 x.e,.int .u8 x.r,.int .i64 x.a,.int .u8 x.p,.int .i64 x.f,.int .i64 x.b] 46 (0,0))∧Below w.heap.size w W):=hide fun W hW=>⟨(hW.block w.heap.size (by omega)).trans hP,az.trans (hW.mono (by omega))⟩
 have CK:=hide (ll x w2 hx (hm.below az))
 unfold Rol.vW
 obtain⟨ch,hch⟩:∃c,Pm.chk x=c:=⟨_,rfl⟩
 rw[hch]at CK⊢
 clear az hx hP hm hch
 by_cases h0:ch=0
 case neg=>
  rw[if_neg h0]
  have hb:(ch !=0)=true:=by simpa using h0
  unfold vp
  go_enter func152,ntmps152
  go_wp2_with fail
  refine CK.out.mono ?_
  rintro E w3 ⟨rfl,b3⟩
  obtain⟨hP3,B3⟩:=PST.out w3 b3
  obtain⟨q0,q1,q2,q3,q4,q5⟩:=aR hP3
  have BB:=hide B3
  clear CK PST b3 hP3 B3 p0 p1 p2 p3 p4 p5
  go_wp2
  go_ret
  exact⟨rfl,BB.out⟩
 subst h0
 rw[if_pos rfl]
 by_cases k0:x.r=2
 case pos=>
  rw[if_pos k0]
  have g0:(x.r==2)=true:=by simpa using k0
  clear k0
  unfold vp
  go_enter func152,ntmps152
  go_wp2_with fail
  refine CK.out.mono ?_
  rintro E w3 ⟨rfl,b3⟩
  obtain⟨hP3,B3⟩:=PST.out w3 b3
  obtain⟨q0,q1,q2,q3,q4,q5⟩:=aR hP3
  have BB:=hide B3
  clear CK PST b3 hP3 B3 p0 p1 p2 p3 p4 p5
  go_wp2
  go_ret
  exact⟨rfl,BB.out⟩
 rw[if_neg k0]
 have g0:(x.r==2)=false:=by simpa using k0
 by_cases k1:x.r=3
 case pos=>
  rw[if_pos k1]
  have g1:(x.r==3)=true:=by simpa using k1
  clear k0 k1
  unfold vp
  go_enter func152,ntmps152
  go_wp2_with fail
  refine CK.out.mono ?_
  rintro E w3 ⟨rfl,b3⟩
  obtain⟨hP3,B3⟩:=PST.out w3 b3
  obtain⟨q0,q1,q2,q3,q4,q5⟩:=aR hP3
  have BB:=hide B3
  clear CK PST b3 hP3 B3 p0 p1 p2 p3 p4 p5
  go_wp2
  go_ret
  exact⟨rfl,BB.out⟩
 rw[if_neg k1]
 have g1:(x.r==3)=false:=by simpa using k1
 clear k0 k1
 unfold vp
 go_enter func152,ntmps152
 go_wp2_with fail
 refine CK.out.mono ?_
 rintro E w3 ⟨rfl,b3⟩
 obtain⟨hP3,B3⟩:=PST.out w3 b3
 obtain⟨q0,q1,q2,q3,q4,q5⟩:=aR hP3
 have BB:=hide B3
 clear CK PST b3 hP3 B3 p0 p1 p2 p3 p4 p5
 go_wp2
 go_ret
 exact⟨rfl,BB.out⟩
theorem ajb (x:Pm.Pg)(w:World)(hx:ig x)(hm:fU w):
  Calls prog 80 #[vp x] w fun E w'=>E=.returned (.int .i64 (Rol.mE x))∧Below w.heap.size w w':=by
 obtain⟨w2,hw2,dA,az,hP⟩:=au w #[.int .i64 x.e,.int .u8 x.r,.int .i64 x.a,.int .u8 x.p,.int .i64 x.f,.int .i64 x.b] 46
 obtain⟨p0,p1,p2,p3,p4,p5⟩:=aR hP
 have PST:Hid (∀W,Below w2.heap.size w2 W→W.heap[w.heap.size]? =some (.cells #[.int .i64 x.e,.int .u8 x.r,.int .i64 x.a,.int .u8 x.p,.int .i64 x.f,.int .i64 x.b] 46 (0,0))∧Below w.heap.size w W):=hide fun W hW=>⟨(hW.block w.heap.size (by omega)).trans hP,az.trans (hW.mono (by omega))⟩
 have CK:=hide (ll x w2 hx (hm.below az))
 unfold Rol.mE
 obtain⟨ch,hch⟩:∃c,Pm.chk x=c:=⟨_,rfl⟩
 rw[hch]at CK⊢
 clear az hx hP hm hch
 by_cases h0:ch=0
 case neg=>
  rw[if_neg h0]
  have hb:(ch !=0)=true:=by simpa using h0
  unfold vp
  go_enter func80,ntmps80
  go_wp2_with fail
  refine CK.out.mono ?_
  rintro E w3 ⟨rfl,b3⟩
  obtain⟨hP3,B3⟩:=PST.out w3 b3
  obtain⟨q0,q1,q2,q3,q4,q5⟩:=aR hP3
  have BB:=hide B3
  clear CK PST b3 hP3 B3 p0 p1 p2 p3 p4 p5
  go_wp2
  go_ret
  exact⟨rfl,BB.out⟩
 subst h0
 rw[if_pos rfl]
 by_cases k0:x.r=3
 case pos=>
  rw[if_pos k0]
  have g0:(x.r==3)=true:=by simpa using k0
  clear k0
  unfold vp
  go_enter func80,ntmps80
  go_wp2_with fail
  refine CK.out.mono ?_
  rintro E w3 ⟨rfl,b3⟩
  obtain⟨hP3,B3⟩:=PST.out w3 b3
  obtain⟨q0,q1,q2,q3,q4,q5⟩:=aR hP3
  have BB:=hide B3
  clear CK PST b3 hP3 B3 p0 p1 p2 p3 p4 p5
  go_wp2
  go_ret
  exact⟨rfl,BB.out⟩
 rw[if_neg k0]
 have g0:(x.r==3)=false:=by simpa using k0
 clear k0
 unfold vp
 go_enter func80,ntmps80
 go_wp2_with fail
 refine CK.out.mono ?_
 rintro E w3 ⟨rfl,b3⟩
 obtain⟨hP3,B3⟩:=PST.out w3 b3
 obtain⟨q0,q1,q2,q3,q4,q5⟩:=aR hP3
 have BB:=hide B3
 clear CK PST b3 hP3 B3 p0 p1 p2 p3 p4 p5
 go_wp2
 go_ret
 exact⟨rfl,BB.out⟩
theorem anI (x:Pm.Pg)(n:Int)(w:World)(hx:ig x)(hm:fU w)(hn:I64 n):
  Calls prog 158 #[vp x,.int .i64 n] w fun E w'=>E=.returned (.tuple #[vp (Rol.he x n),.bool (Rol.wX x n),.int .i64 (Rol.wy x n)])∧Below w.heap.size w w':=by
 obtain⟨w1,w2,hw1,hw2,aV,dA,az,⟨p0,p1,p2,p3,p4,p5⟩,PST⟩:=lK x w
 have CK:=hide (ahy x n 1 1048576 w2 hx (hm.below az))
 clear az hm
 by_cases h0:Pm.chk x=0
 case neg=>
  rw[(Rol.yJ x n 1 1048576).1 h0]at CK
  have eE:Rol.wy x n=Pm.chk x:=by unfold Rol.wy;(repeat' split)<;>omega
  have eP:Rol.he x n=Pm.no:=by unfold Rol.he;rw[if_neg (by rw[eE];omega)]
  have eB:Rol.wX x n=false:=by unfold Rol.wX;rw[eE];simp<;>omega
  rw[eP,eE,eB]
  have hb:(Pm.chk x !=0)=true:=by simpa using h0
  generalize Pm.chk x=ch at*
  clear eE eP eB h0 hx
  unfold vp
  go_enter func158,ntmps158
  go_wp2_with fail
  refine CK.out.mono ?_
  rintro E w3 ⟨rfl,b3⟩
  obtain⟨hP3,dP,B3,bO⟩:=PST.out w3 b3
  obtain⟨q0,q1,q2,q3,q4,q5⟩:=aR hP3
  obtain⟨Z,hZ,_,gZ,⟨a0,a1,a2,a3,a4,a5⟩,fr,⟨z0,z1,z2,z3,z4,z5⟩⟩:=gN dP (.int .i64 0) (.int .u8 0) (.int .i64 0) (.int .u8 0) (.int .i64 0) (.int .i64 0)
  have f0:=fr 0;have f1:=fr 1;have f2:=fr 2;have f3:=fr 3;have f4:=fr 4;have f5:=fr 5
  have BB:=hide (aG B3 gZ (by omega) (by omega))
  clear CK PST b3 hP3 dP B3 bO gZ fr p0 p1 p2 p3 p4 p5
  go_wp2
  refine bodyPost_ret (v:=.tuple #[.agg #[.int .i64 0,.int .u8 0,.int .i64 0,.int .u8 0,.int .i64 0,.int .i64 0],.bool false,.int .i64 ch]) (by simp[results,results158,go_sem,z0,z1,z2,z3,z4,z5]) rfl ?_
  exact⟨rfl,BB.out⟩
 by_cases hr:n<1∨1048576<n
 case pos=>
  rw[(Rol.yJ x n 1 1048576).2.1 h0 hr]at CK
  have eE:Rol.wy x n=2:=by unfold Rol.wy;(repeat' split)<;>omega
  have eP:Rol.he x n=Pm.no:=by unfold Rol.he;rw[if_neg (by rw[eE];omega)]
  have eB:Rol.wX x n=false:=by unfold Rol.wX;rw[eE];simp<;>omega
  rw[eP,eE,eB]
  clear eE eP eB h0 hx hr
  unfold vp
  go_enter func158,ntmps158
  go_wp2_with fail
  refine CK.out.mono ?_
  rintro E w3 ⟨rfl,b3⟩
  obtain⟨hP3,dP,B3,bO⟩:=PST.out w3 b3
  obtain⟨q0,q1,q2,q3,q4,q5⟩:=aR hP3
  obtain⟨Z,hZ,_,gZ,⟨a0,a1,a2,a3,a4,a5⟩,fr,⟨z0,z1,z2,z3,z4,z5⟩⟩:=gN dP (.int .i64 0) (.int .u8 0) (.int .i64 0) (.int .u8 0) (.int .i64 0) (.int .i64 0)
  have f0:=fr 0;have f1:=fr 1;have f2:=fr 2;have f3:=fr 3;have f4:=fr 4;have f5:=fr 5
  have BB:=hide (aG B3 gZ (by omega) (by omega))
  clear CK PST b3 hP3 dP B3 bO gZ fr p0 p1 p2 p3 p4 p5
  go_wp2
  refine bodyPost_ret (v:=.tuple #[.agg #[.int .i64 0,.int .u8 0,.int .i64 0,.int .u8 0,.int .i64 0,.int .i64 0],.bool false,.int .i64 2]) (by simp[results,results158,go_sem,z0,z1,z2,z3,z4,z5]) rfl ?_
  exact⟨rfl,BB.out⟩
 rw[(Rol.yJ x n 1 1048576).2.2 h0 hr]at CK
 have eE:Rol.wy x n=0:=by unfold Rol.wy;rw[if_pos h0,if_neg hr]
 by_cases h3:n≤x.e
 case pos=>
  have eP:Rol.he x n=x:=by unfold Rol.he;rw[if_pos eE,if_neg (by omega)]
  have eB:Rol.wX x n=false:=by unfold Rol.wX;rw[eE];simp;omega
  rw[eP,eE,eB]
  clear eE eP eB h0 hr hx
  unfold vp
  go_enter func158,ntmps158
  go_wp2_with fail
  refine CK.out.mono ?_
  rintro E w3 ⟨rfl,b3⟩
  obtain⟨hP3,dP,B3,bO⟩:=PST.out w3 b3
  obtain⟨q0,q1,q2,q3,q4,q5⟩:=aR hP3
  obtain⟨Z,hZ,_,gZ,⟨a0,a1,a2,a3,a4,a5⟩,fr,⟨z0,z1,z2,z3,z4,z5⟩⟩:=gN dP (.int .i64 x.e) (.int .u8 x.r) (.int .i64 x.a) (.int .u8 x.p) (.int .i64 x.f) (.int .i64 x.b)
  have f0:=fr 0;have f1:=fr 1;have f2:=fr 2;have f3:=fr 3;have f4:=fr 4;have f5:=fr 5
  have BB:=hide (aG B3 gZ (by omega) (by omega))
  clear CK PST b3 hP3 dP B3 bO gZ fr p0 p1 p2 p3 p4 p5
  go_wp2
  refine bodyPost_ret (v:=.tuple #[.agg #[.int .i64 x.e,.int .u8 x.r,.int .i64 x.a,.int .u8 x.p,.int .i64 x.f,.int .i64 x.b],.bool false,.int .i64 0]) (by simp[results,results158,go_sem,z0,z1,z2,z3,z4,z5]) rfl ?_
  exact⟨rfl,BB.out⟩
 have eP:Rol.he x n=⟨n,3,0,1,0,0⟩:=by unfold Rol.he;rw[if_pos eE,if_pos (by omega)]
 have eB:Rol.wX x n=true:=by unfold Rol.wX;rw[eE];simp;omega
 rw[eP,eE,eB]
 have CC:Hid (∀W,Below w2.heap.size w2 W→Calls prog 210 #[.int .i64 n,.int .i64 0] W fun E w'=>∃B,E=.returned (.agg #[.func (.func 275) #[] #[.pointer (some ⟨B,0,none⟩)],.func (.func 276) #[] #[.pointer (some ⟨B,0,none⟩)],.func (.func 277) #[] #[.pointer (some ⟨B,0,none⟩),.pointer (some ⟨B+1,0,none⟩)],.func (.func 307) #[] #[.pointer (some ⟨B+3,0,none⟩)],.func (.func 307) #[] #[.pointer (some ⟨B+4,0,none⟩)],.func (.func 279) #[] #[],.func (.func 280) #[] #[.pointer (some ⟨B,0,none⟩)]])∧Tbl B n 0 w'∧Below w2.heap.size w2 w'):=hide fun W hW=>(aff n 0 W).mono fun E w' h=>⟨W.heap.size,h.1,h.2.1,hW.trans (h.2.2.mono hW.size)⟩
 clear eE eP eB h0 hr hx
 unfold vp
 go_enter func158,ntmps158
 go_wp2_with fail
 refine CK.out.mono ?_
 rintro E w3 ⟨rfl,b3⟩
 obtain⟨hP3,dP,B3,bO⟩:=PST.out w3 b3
 obtain⟨q0,q1,q2,q3,q4,q5⟩:=aR hP3
 have Sk3:=hide (nO hP3)
 have B3':=hide b3
 clear CK b3 hP3 dP B3 bO p0 p1 p2 p3 p4 p5
 go_wp2_with fail
 have hix:∀(f0 f1 f2 f3 f4 f5 f6:Value) (w:World),(Instr.index 264 (.agg #[f0,f1,f2,f3,f4,f5,f6]) (.int .i64 6)).run prog w=.ok f6 w:=Tryz.ayZ
 go_region_held3 (fun W=>W.cell? ⟨w.heap.size,0,none⟩=some (.int .i64 x.e)∧W.cell? ⟨w.heap.size,1,none⟩=some (.int .u8 x.r)∧W.cell? ⟨w.heap.size,2,none⟩=some (.int .i64 x.a)∧W.cell? ⟨w.heap.size,3,none⟩=some (.int .u8 x.p)∧W.cell? ⟨w.heap.size,4,none⟩=some (.int .i64 x.f)∧W.cell? ⟨w.heap.size,5,none⟩=some (.int .i64 x.b)) (first|exact Sk7.out|exact Sk6.out|exact Sk4.out|exact Sk3.out|go_keep)
  (first
  |(go_at_call 210;refine(CC.out _ B3'.out.drew).mono ?_;rintro E w4 ⟨B,rfl,t4,b4⟩;have T4:=hide t4;have B4:=hide b4;have Sk4:=hide (nO (PST.out w4 b4).1);clear t4 b4)
  |(go_at_call 280;refine(ajs x n B _ T4.out.h0).mono ?_;rintro E w6 ⟨rfl,b6⟩;obtain⟨hP6,hR6,B6,sP⟩:=PST.out w6 (B4.out.trans (b6.mono B4.out.size));obtain⟨Z,hZ,_,gZ,⟨a0,a1,a2,a3,a4,a5⟩,fr,⟨z0,z1,z2,z3,z4,z5⟩⟩:=gN hR6 (.int .i64 n) (.int .u8 3) (.int .i64 0) (.int .u8 1) (.int .i64 0) (.int .i64 0);have f0:=fr 0;have f1:=fr 1;have f2:=fr 2;have f3:=fr 3;have f4:=fr 4;have f5:=fr 5;have BB:=hide (aG B6 gZ (by omega) (by omega));have Sk6:=hide (nO hP6);have Sk7:=hide (nO ((fG gZ ⟨by omega,by omega⟩).trans hP6));clear b6 hP6 hR6 B6 sP gZ fr))
 all_goals
  go_wp2
  refine bodyPost_ret (v:=.tuple #[.agg #[.int .i64 n,.int .u8 3,.int .i64 0,.int .u8 1,.int .i64 0,.int .i64 0],.bool true,.int .i64 0]) (by simp[results,results158,go_sem,z0,z1,z2,z3,z4,z5]) rfl ?_
  exact⟨rfl,BB.out⟩
theorem Tryz.awx (a b c d e f a' b' c' d' e' f':Int)(w:World):(binOp .neq 46 (.agg #[.int .i64 a,.int .u8 b,.int .i64 c,.int .u8 d,.int .i64 e,.int .i64 f]) (.agg #[.int .i64 a',.int .u8 b',.int .i64 c',.int .u8 d',.int .i64 e',.int .i64 f'])).run prog w=.ok (.bool (!(a==a'&&b==b'&&c==c'&&d==d'&&e==e'&&f==f'))) w:=by
 rw[run_neq_struct,run_equalIn_agg w 9999 46 _ _ (by kernel_rfl) (by kernel_rfl)]
 unfold Program.fieldsOf
 rw[underlying46]
 simp[Op.eqFields,go_sem,underlying23,underlying44,underlying3]
 by_cases h1:a=a'<;>by_cases h2:b=b'<;>by_cases h3:c=c'<;>by_cases h4:d=d'<;>by_cases h5:e=e'<;>by_cases h6:f=f'<;>simp[h1,h2,h3,h4,h5,h6]
theorem akv (x:Pm.Pg)(n:Int)(w:World)(hx:ig x)(hm:fU w)(hn:I64 n):
  Calls prog 168 #[vp x,.int .i64 n] w fun E w'=>E=.returned (.tuple #[vp (Rol.ak x n),.bool (Rol.jF x n),.int .i64 (Rol.mK x n)])∧Below w.heap.size w w':=by
 obtain⟨w1,w2,hw1,hw2,aV,dA,az,⟨p0,p1,p2,p3,p4,p5⟩,PST⟩:=lK x w
 have CK:=hide (ahy x n 0 1048576 w2 hx (hm.below az))
 clear az hm
 by_cases h0:Pm.chk x=0
 case neg=>
  rw[(Rol.yJ x n 0 1048576).1 h0]at CK
  have eE:Rol.mK x n=Pm.chk x:=by unfold Rol.mK;(repeat' split)<;>omega
  have eP:Rol.ak x n=Pm.no:=by unfold Rol.ak;rw[if_neg (by rw[eE];omega)]
  have eB:Rol.jF x n=false:=by unfold Rol.jF;rw[eE];simp<;>omega
  rw[eP,eE,eB]
  have hb:(Pm.chk x !=0)=true:=by simpa using h0
  generalize Pm.chk x=ch at*
  clear eE eP eB h0 hx
  unfold vp
  go_enter func168,ntmps168
  go_wp2_with fail
  refine CK.out.mono ?_
  rintro E w3 ⟨rfl,b3⟩
  obtain⟨hP3,dP,B3,bO⟩:=PST.out w3 b3
  obtain⟨q0,q1,q2,q3,q4,q5⟩:=aR hP3
  obtain⟨Z,hZ,_,gZ,⟨a0,a1,a2,a3,a4,a5⟩,fr,⟨z0,z1,z2,z3,z4,z5⟩⟩:=gN dP (.int .i64 0) (.int .u8 0) (.int .i64 0) (.int .u8 0) (.int .i64 0) (.int .i64 0)
  have f0:=fr 0;have f1:=fr 1;have f2:=fr 2;have f3:=fr 3;have f4:=fr 4;have f5:=fr 5
  have BB:=hide (aG B3 gZ (by omega) (by omega))
  clear CK PST b3 hP3 dP B3 bO gZ fr p0 p1 p2 p3 p4 p5
  go_wp2
  refine bodyPost_ret (v:=.tuple #[.agg #[.int .i64 0,.int .u8 0,.int .i64 0,.int .u8 0,.int .i64 0,.int .i64 0],.bool false,.int .i64 ch]) (by simp[results,results168,go_sem,z0,z1,z2,z3,z4,z5]) rfl ?_
  exact⟨rfl,BB.out⟩
 by_cases hr:n<0∨1048576<n
 case pos=>
  rw[(Rol.yJ x n 0 1048576).2.1 h0 hr]at CK
  have eE:Rol.mK x n=2:=by unfold Rol.mK;(repeat' split)<;>omega
  have eP:Rol.ak x n=Pm.no:=by unfold Rol.ak;rw[if_neg (by rw[eE];omega)]
  have eB:Rol.jF x n=false:=by unfold Rol.jF;rw[eE];simp<;>omega
  rw[eP,eE,eB]
  clear eE eP eB h0 hx hr
  unfold vp
  go_enter func168,ntmps168
  go_wp2_with fail
  refine CK.out.mono ?_
  rintro E w3 ⟨rfl,b3⟩
  obtain⟨hP3,dP,B3,bO⟩:=PST.out w3 b3
  obtain⟨q0,q1,q2,q3,q4,q5⟩:=aR hP3
  obtain⟨Z,hZ,_,gZ,⟨a0,a1,a2,a3,a4,a5⟩,fr,⟨z0,z1,z2,z3,z4,z5⟩⟩:=gN dP (.int .i64 0) (.int .u8 0) (.int .i64 0) (.int .u8 0) (.int .i64 0) (.int .i64 0)
  have f0:=fr 0;have f1:=fr 1;have f2:=fr 2;have f3:=fr 3;have f4:=fr 4;have f5:=fr 5
  have BB:=hide (aG B3 gZ (by omega) (by omega))
  clear CK PST b3 hP3 dP B3 bO gZ fr p0 p1 p2 p3 p4 p5
  go_wp2
  refine bodyPost_ret (v:=.tuple #[.agg #[.int .i64 0,.int .u8 0,.int .i64 0,.int .u8 0,.int .i64 0,.int .i64 0],.bool false,.int .i64 2]) (by simp[results,results168,go_sem,z0,z1,z2,z3,z4,z5]) rfl ?_
  exact⟨rfl,BB.out⟩
 rw[(Rol.yJ x n 0 1048576).2.2 h0 hr]at CK
 by_cases ho:Rol.own x=0
 case neg=>
  have hp:x.r≠1:=fun h=>ho ((Rol.am2 h0).1.2 h)
  have eE:Rol.mK x n=15:=by unfold Rol.mK;(repeat' split)<;>omega
  have eP:Rol.ak x n=Pm.no:=by unfold Rol.ak;rw[if_neg (by rw[eE];omega)]
  have eB:Rol.jF x n=false:=by unfold Rol.jF;rw[eE];simp
  rw[eP,eE,eB]
  clear eE eP eB h0 hr hx hp
  unfold vp
  go_enter func168,ntmps168
  go_wp2_with fail
  refine CK.out.mono ?_
  rintro E w3 ⟨rfl,b3⟩
  obtain⟨hP3,dP,B3,bO⟩:=PST.out w3 b3
  obtain⟨q0,q1,q2,q3,q4,q5⟩:=aR hP3
  have FO:=hide (fun m=>atf x 0 m 0 w3 ho)
  have qZ:=hide b3
  skip
  clear CK b3 hP3 dP B3 p0 p1 p2 p3 p4 p5 ho
  unfold vp at FO
  go_wp2_with fail
  all_goals
   refine(FO.out _).mono ?_
   rintro E w4 ⟨rfl,b4⟩
   obtain⟨rA,mg,B4,iK⟩:=PST.out w4 (qZ.out.trans (b4.mono qZ.out.size))
   obtain⟨V,hV,hV2,iy,bV,wG,⟨v0,v1,v2,v3,v4,v5⟩⟩:=ng w4 46 (.int .i64 0) (.int .u8 0) (.int .i64 0) (.int .u8 0) (.int .i64 0) (.int .i64 0) (.int .i64 0) (.int .u8 0) (.int .i64 0) (.int .u8 0) (.int .i64 0) (.int .i64 0)
   have qp:=(bV.block w.heap.size (by omega)).trans rA
   have rf:=(bV.block (w.heap.size+1) (by omega)).trans mg
   have BV:=B4.trans (bV.mono (by omega))
   obtain⟨x0,x1,x2,x3,x4,x5⟩:=aR qp
   obtain⟨Z,hZ,_,gZ,⟨a0,a1,a2,a3,a4,a5⟩,fr,⟨z0,z1,z2,z3,z4,z5⟩⟩:=gN rf (.int .i64 0) (.int .u8 0) (.int .i64 0) (.int .u8 0) (.int .i64 0) (.int .i64 0)
   have f0:=fr 0;have f1:=fr 1;have f2:=fr 2;have f3:=fr 3;have f4:=fr 4;have f5:=fr 5
   have BB:=hide (aG BV gZ (by omega) (by omega))
   clear hV
   obtain⟨y0,y1,y2,y3,y4,y5,d0,d1,d2,d3,d4,d5⟩:=axU wG
   obtain⟨u0,u1,u2,u3,u4,u5⟩:=aR ((fG gZ ⟨by omega,by omega⟩).trans qp)
   obtain⟨t0,t1,t2,t3,t4,t5⟩:=aR ((fG gZ ⟨by omega,by omega⟩).trans wG)
   clear PST FO qZ b4 rA mg B4 gZ fr q0 q1 q2 q3 q4 q5 qp rf BV bV wG
   go_wp2
   go_region
   all_goals
    go_wp2
    refine bodyPost_ret (v:=.tuple #[.agg #[.int .i64 0,.int .u8 0,.int .i64 0,.int .u8 0,.int .i64 0,.int .i64 0],.bool false,.int .i64 15]) (by simp[results,results168,go_sem,z0,z1,z2,z3,z4,z5]) rfl ?_
    exact⟨rfl,BB.out.drew⟩
 have hp:x.r=1:=(Rol.am2 h0).1.1 ho
 have eE:Rol.mK x n=0:=by unfold Rol.mK;(repeat' split)<;>omega
 by_cases h4:x.a<n
 case pos=>
  have eP:Rol.ak x n=⟨x.e,x.r,n,x.p,x.f,x.b⟩:=by unfold Rol.ak;rw[if_pos eE,if_pos h4]
  have eB:Rol.jF x n=true:=by unfold Rol.jF;rw[eE];simp;omega
  rw[eP,eE,eB]
  have hne:∀W,(binOp .neq 46 (.agg #[.int .i64 x.e,.int .u8 x.r,.int .i64 n,.int .u8 x.p,.int .i64 x.f,.int .i64 x.b]) (.agg #[.int .i64 x.e,.int .u8 x.r,.int .i64 x.a,.int .u8 x.p,.int .i64 x.f,.int .i64 x.b])).run prog W=.ok (.bool true) W:=fun W=>by
   rw[Tryz.awx]
   have:(n==x.a)=false:=by rw[beq_eq_false_iff_ne];omega
   simp[this]
  have h5:¬n<x.a:=by omega
  clear eE eP eB h0 hr hx hp
  unfold vp
  go_enter func168,ntmps168
  go_wp2_with fail
  refine CK.out.mono ?_
  rintro E w3 ⟨rfl,b3⟩
  obtain⟨hP3,dP,B3,bO⟩:=PST.out w3 b3
  obtain⟨q0,q1,q2,q3,q4,q5⟩:=aR hP3
  have FO:=hide (yC x n 0 w3 ho)
  have qZ:=hide b3
  skip
  clear CK b3 hP3 dP B3 p0 p1 p2 p3 p4 p5 ho
  unfold vp at FO
  go_wp2_with fail
  refine FO.out.mono ?_
  rintro E w4 ⟨rfl,b4⟩
  obtain⟨rA,mg,B4,iK⟩:=PST.out w4 (qZ.out.trans (b4.mono qZ.out.size))
  obtain⟨V,hV,hV2,iy,bV,wG,⟨v0,v1,v2,v3,v4,v5⟩⟩:=ng w4 46 (.int .i64 0) (.int .u8 0) (.int .i64 0) (.int .u8 0) (.int .i64 0) (.int .i64 0) (.int .i64 x.e) (.int .u8 x.r) (.int .i64 n) (.int .u8 x.p) (.int .i64 x.f) (.int .i64 x.b)
  have qp:=(bV.block w.heap.size (by omega)).trans rA
  have rf:=(bV.block (w.heap.size+1) (by omega)).trans mg
  have BV:=B4.trans (bV.mono (by omega))
  obtain⟨x0,x1,x2,x3,x4,x5⟩:=aR qp
  obtain⟨Z,hZ,_,gZ,⟨a0,a1,a2,a3,a4,a5⟩,fr,⟨z0,z1,z2,z3,z4,z5⟩⟩:=gN rf (.int .i64 x.e) (.int .u8 x.r) (.int .i64 n) (.int .u8 x.p) (.int .i64 x.f) (.int .i64 x.b)
  have f0:=fr 0;have f1:=fr 1;have f2:=fr 2;have f3:=fr 3;have f4:=fr 4;have f5:=fr 5
  have BB:=hide (aG BV gZ (by omega) (by omega))
  skip
  obtain⟨u0,u1,u2,u3,u4,u5⟩:=aR ((fG gZ ⟨by omega,by omega⟩).trans qp)
  obtain⟨t0,t1,t2,t3,t4,t5⟩:=aR ((fG gZ ⟨by omega,by omega⟩).trans wG)
  clear PST FO qZ b4 rA mg B4 gZ fr q0 q1 q2 q3 q4 q5 qp rf BV bV wG
  go_wp2
  go_region
  all_goals
   go_wp2
   refine bodyPost_ret (v:=.tuple #[.agg #[.int .i64 x.e,.int .u8 x.r,.int .i64 n,.int .u8 x.p,.int .i64 x.f,.int .i64 x.b],.bool true,.int .i64 0]) (by simp[results,results168,go_sem,z0,z1,z2,z3,z4,z5]) rfl ?_
   exact⟨rfl,BB.out.drew⟩
 have eP:Rol.ak x n=x:=by unfold Rol.ak;rw[if_pos eE,if_neg h4]
 have eB:Rol.jF x n=false:=by unfold Rol.jF;rw[eE];simp;omega
 rw[eP,eE,eB]
 have hne:∀W,(binOp .neq 46 (.agg #[.int .i64 x.e,.int .u8 x.r,.int .i64 x.a,.int .u8 x.p,.int .i64 x.f,.int .i64 x.b]) (.agg #[.int .i64 x.e,.int .u8 x.r,.int .i64 x.a,.int .u8 x.p,.int .i64 x.f,.int .i64 x.b])).run prog W=.ok (.bool false) W:=fun W=>by
  rw[Tryz.awx]
  simp
 by_cases h5:n=x.a
 case pos=>
  subst h5
  clear eE eP eB h0 hr hx hp
  unfold vp
  go_enter func168,ntmps168
  go_wp2_with fail
  refine CK.out.mono ?_
  rintro E w3 ⟨rfl,b3⟩
  obtain⟨hP3,dP,B3,bO⟩:=PST.out w3 b3
  obtain⟨q0,q1,q2,q3,q4,q5⟩:=aR hP3
  have FO:=hide (yC x x.a 0 w3 ho)
  have qZ:=hide b3
  skip
  clear CK b3 hP3 dP B3 p0 p1 p2 p3 p4 p5 ho
  unfold vp at FO
  go_wp2_with fail
  refine FO.out.mono ?_
  rintro E w4 ⟨rfl,b4⟩
  obtain⟨rA,mg,B4,iK⟩:=PST.out w4 (qZ.out.trans (b4.mono qZ.out.size))
  obtain⟨V,hV,hV2,iy,bV,wG,⟨v0,v1,v2,v3,v4,v5⟩⟩:=ng w4 46 (.int .i64 0) (.int .u8 0) (.int .i64 0) (.int .u8 0) (.int .i64 0) (.int .i64 0) (.int .i64 x.e) (.int .u8 x.r) (.int .i64 x.a) (.int .u8 x.p) (.int .i64 x.f) (.int .i64 x.b)
  have qp:=(bV.block w.heap.size (by omega)).trans rA
  have rf:=(bV.block (w.heap.size+1) (by omega)).trans mg
  have BV:=B4.trans (bV.mono (by omega))
  obtain⟨x0,x1,x2,x3,x4,x5⟩:=aR qp
  obtain⟨Z,hZ,_,gZ,⟨a0,a1,a2,a3,a4,a5⟩,fr,⟨z0,z1,z2,z3,z4,z5⟩⟩:=gN rf (.int .i64 x.e) (.int .u8 x.r) (.int .i64 x.a) (.int .u8 x.p) (.int .i64 x.f) (.int .i64 x.b)
  have f0:=fr 0;have f1:=fr 1;have f2:=fr 2;have f3:=fr 3;have f4:=fr 4;have f5:=fr 5
  have BB:=hide (aG BV gZ (by omega) (by omega))
  skip
  obtain⟨u0,u1,u2,u3,u4,u5⟩:=aR ((fG gZ ⟨by omega,by omega⟩).trans qp)
  obtain⟨t0,t1,t2,t3,t4,t5⟩:=aR ((fG gZ ⟨by omega,by omega⟩).trans wG)
  clear PST FO qZ b4 rA mg B4 gZ fr q0 q1 q2 q3 q4 q5 qp rf BV bV wG
  go_wp2
  go_region
  all_goals
   go_wp2
   refine bodyPost_ret (v:=.tuple #[.agg #[.int .i64 x.e,.int .u8 x.r,.int .i64 x.a,.int .u8 x.p,.int .i64 x.f,.int .i64 x.b],.bool false,.int .i64 0]) (by simp[results,results168,go_sem,z0,z1,z2,z3,z4,z5]) rfl ?_
   exact⟨rfl,BB.out.drew⟩
 have h6:n<x.a:=by omega
 clear eE eP eB h0 hr hx hp h5
 unfold vp
 go_enter func168,ntmps168
 go_wp2_with fail
 refine CK.out.mono ?_
 rintro E w3 ⟨rfl,b3⟩
 obtain⟨hP3,dP,B3,bO⟩:=PST.out w3 b3
 obtain⟨q0,q1,q2,q3,q4,q5⟩:=aR hP3
 have FO:=hide (yC x x.a 0 w3 ho)
 have qZ:=hide b3
 skip
 clear CK b3 hP3 dP B3 p0 p1 p2 p3 p4 p5 ho
 unfold vp at FO
 go_wp2_with fail
 refine FO.out.mono ?_
 rintro E w4 ⟨rfl,b4⟩
 obtain⟨rA,mg,B4,iK⟩:=PST.out w4 (qZ.out.trans (b4.mono qZ.out.size))
 obtain⟨V,hV,hV2,iy,bV,wG,⟨v0,v1,v2,v3,v4,v5⟩⟩:=ng w4 46 (.int .i64 0) (.int .u8 0) (.int .i64 0) (.int .u8 0) (.int .i64 0) (.int .i64 0) (.int .i64 x.e) (.int .u8 x.r) (.int .i64 x.a) (.int .u8 x.p) (.int .i64 x.f) (.int .i64 x.b)
 have qp:=(bV.block w.heap.size (by omega)).trans rA
 have rf:=(bV.block (w.heap.size+1) (by omega)).trans mg
 have BV:=B4.trans (bV.mono (by omega))
 obtain⟨x0,x1,x2,x3,x4,x5⟩:=aR qp
 obtain⟨Z,hZ,_,gZ,⟨a0,a1,a2,a3,a4,a5⟩,fr,⟨z0,z1,z2,z3,z4,z5⟩⟩:=gN rf (.int .i64 x.e) (.int .u8 x.r) (.int .i64 x.a) (.int .u8 x.p) (.int .i64 x.f) (.int .i64 x.b)
 have f0:=fr 0;have f1:=fr 1;have f2:=fr 2;have f3:=fr 3;have f4:=fr 4;have f5:=fr 5
 have BB:=hide (aG BV gZ (by omega) (by omega))
 skip
 obtain⟨u0,u1,u2,u3,u4,u5⟩:=aR ((fG gZ ⟨by omega,by omega⟩).trans qp)
 obtain⟨t0,t1,t2,t3,t4,t5⟩:=aR ((fG gZ ⟨by omega,by omega⟩).trans wG)
 clear PST FO qZ b4 rA mg B4 gZ fr q0 q1 q2 q3 q4 q5 qp rf BV bV wG
 go_wp2
 go_region
 all_goals
  go_wp2
  refine bodyPost_ret (v:=.tuple #[.agg #[.int .i64 x.e,.int .u8 x.r,.int .i64 x.a,.int .u8 x.p,.int .i64 x.f,.int .i64 x.b],.bool false,.int .i64 0]) (by simp[results,results168,go_sem,z0,z1,z2,z3,z4,z5]) rfl ?_
  exact⟨rfl,BB.out.drew⟩
end Go.Proofs.YtlmkaljjocflmaaGreatDoor
