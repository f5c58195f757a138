/- Texts. -/
import Derived.Test.YtlmkaljjocflmaaGreatDoorBH32
import Derived.Test.YtlmkaljjocflmaaGreatDoorBG2
import Derived.Test.YtlmkaljjocflmaaGreatDoorBH4
import Derived.Test.YtlmkaljjocflmaaGreatDoorBH1
import Derived.Test.YtlmkaljjocflmaaGreatDoorBH3
import Derived.Deep.RegionLaw
import Derived.Test.YtlmkaljjocflmaaGreatDoorBH30
import Derived.Deep.CutRange
import Derived.BigQuiet
import Derived.Test.YtlmkaljjocflmaaGreatDoorBH24
import Derived.Test.YtlmkaljjocflmaaGreatDoorBH15
import Derived.Deep.RegionHeld3
import Derived.Deep.QuietTactic
import Derived.Test.YtlmkaljjocflmaaGreatDoorBH17
import Derived.Deep.RegionWith
import Derived.Test.YtlmkaljjocflmaaGreatDoorBH23
import Derived.Test.YtlmkaljjocflmaaGreatDoorBH29
import Derived.Test.YtlmkaljjocflmaaGreatDoorBH13
import Derived.Test.YtlmkaljjocflmaaGreatDoorProg
import Derived.Test.YtlmkaljjocflmaaGreatDoorBH31
import Derived.Test.YtlmkaljjocflmaaGreatDoorBZNlw
import Derived.Test.YtlmkaljjocflmaaGreatDoorBH34
import Derived.Test.YtlmkaljjocflmaaGreatDoorBH8
set_option maxRecDepth 100000
set_option maxHeartbeats 8000000
set_option linter.unusedVariables false
open Go.Proofs.Tryz
namespace Go.Proofs.YtlmkaljjocflmaaGreatDoor
open Go.RowKit
def azv (w:World) (m':Mm.Msg) (g:Int) (E:Ending) (w':World):Prop:=
 ∃m:Mw,E=.returned (.tuple #[mv m,.int .i64 g])∧Hid (m.m=m'∧bT w.heap.size w' m∧bQ m∧Below w.heap.size w w')
theorem al6 {w w':World}(hb:Below w.heap.size w w'):Hid (fZ.m=Mm.no∧bT w.heap.size w' fZ∧bQ fZ∧Below w.heap.size w w'):=hide ⟨rfl,bT.no _ _,bQ.no,hb⟩
theorem ahg (vb:Value)(bs:List Int)(w:World)(hb:Is .u8 w vb bs)(hl:bs.length≤100000000000000)(m':Mm.Msg)(g:Int)(hD:Mm.Dc bs m' g):
  Calls prog 157 #[vb] w (azv w m' g):=by
 obtain⟨xo,xc,hvb,_,_⟩:=hb.shape
 subst hvb
 obtain⟨w1,hw1,aV,aj,hR⟩:=au w #[.int .i64 0,.int .i64 0,.int .u8 0,.int .i64 0,.slice none 0 0,.int .i64 0,.int .i64 0,.slice none 0 0] 26
 have C1:=hide (amE _ bs w1 (hb.below aj) hl)
 have HD:=hide hD
 have HR:=hide hR
 clear hR hb hD
 go_enter func157,ntmps157
 go_wp2_with fail
 refine C1.out.mono ?_
 rintro E w2 ⟨m,a,bad,rfl,H⟩
 obtain⟨ho,hf,hrd,az⟩:=H.out
 have dA:=az.size
 obtain⟨ao,cap,hvs,_,_⟩:=ho.is.s.shape
 obtain⟨mM,cap2,dz,_,_⟩:=ho.is.c.1.shape
 rw[jc hvs dz]
 have jL:=hide hvs
 have jS:=hide dz
 have HO:=hide ho
 have HF:=hide hf
 have HE:=hide (ayD hrd)
 have aO:=aj.trans (az.mono (by omega))
 obtain⟨V,hV,hV2,iy,bg,hM,_⟩:=aox w2 26 (.int .i64 0) (.int .i64 0) (.int .u8 0) (.int .i64 0) (.slice none 0 0) (.int .i64 0) (.int .i64 0) (.slice none 0 0) (.int .i64 m.k) (.int .i64 m.e) (.int .u8 m.r) (.int .i64 m.n) (.slice ao m.ss.length cap) (.int .i64 m.f) (.int .i64 m.p) (.slice mM m.cs.length cap2)
 have MV:Hid (gm V w2.heap.size m):=hide (by unfold gm;rw[akn hvs dz];exact hM)
 have dP:=(bg.block w.heap.size (by omega)).trans ((az.block w.heap.size (by omega)).trans HR.out)
 have zl:=aO.trans (bg.mono (by omega))
 have OV:=hide (HO.out.below bg)
 obtain⟨Z,hZ,bZ,gZ,⟨a0,a1,a2,a3,a4,a5,a6,a7⟩,fr,⟨z0,z1,z2,z3,z4,z5,z6,z7⟩⟩:=apE dP (.int .i64 0) (.int .i64 0) (.int .u8 0) (.int .i64 0) (.slice none 0 0) (.int .i64 0) (.int .i64 0) (.slice none 0 0)
 have f0:=fr 0;have f1:=fr 1;have f2:=fr 2;have f3:=fr 3;have f4:=fr 4;have f5:=fr 5;have f6:=fr 6;have f7:=fr 7
 have sM:=aG zl gZ (Nat.le_refl _) (by omega)
 have HR3:=hide dP
 have NOZ:Hid (fZ.m=Mm.no∧bT w.heap.size Z fZ∧bQ fZ∧Below w.heap.size w Z):=al6 sM
 clear ho hf hrd H hvs dz hM dP bZ gZ fr aj az HO HR C1 sM
 have NO:Hid (¬(bad=false∧a=bs.length∧Mm.Ok m.m)→m'=Mm.no∧g=5):=hide fun h=>by
  rcases HE.out with⟨h1,_⟩|⟨_,h2⟩
  ·exact absurd h1 h
  ·exact Mm.anA HD.out h2
 cases bad
 ·have hb5:fK false=0:=rfl
  rw[hb5]
  by_cases hn:a=bs.length
  ·subst hn
   have hnn:(((bs.length:Int)) !=(bs.length:Int))=false:=by simp
   obtain⟨c,hc⟩:∃c,Mm.Ck m.m c:=by
    by_cases h:Mm.Ok m.m
    ·exact⟨0,.inl ⟨rfl,h⟩⟩
    ·exact⟨2,.inr ⟨rfl,h⟩⟩
   have HC:=hide hc
   have XX:=hide (vN m c V OV.out.is HF.out hc)
   rw[jc jL.out jS.out]at XX
   obtain⟨q0,q1,q2,q3,q4,q5,q6,q7⟩:=MV.out.mP jL.out jS.out
   clear hc
   go_wp2_with fail
   refine XX.out.mono ?_
   rintro E w4 ⟨rfl,aL⟩
   have iK:=aL.size
   have mg:=(aL.block w.heap.size (by omega)).trans HR3.out
   have dC:=zl.trans (aL.mono (by omega))
   have O4:=hide (OV.out.below aL)
   clear XX q0 q1 q2 q3 q4 q5 q6 q7 hZ a0 a1 a2 a3 a4 a5 a6 a7 z0 z1 z2 z3 z4 z5 z6 z7 f0 f1 f2 f3 f4 f5 f6 f7 hw1 hV hV2
   obtain⟨q0,q1,q2,q3,q4,q5,q6,q7⟩:=(MV.out.below aL).mP jL.out jS.out
   rcases HC.out with⟨hc0,hok⟩|⟨hc2,hok⟩
   ·subst hc0
    obtain⟨Y,hY,bY,gY,⟨a0,a1,a2,a3,a4,a5,a6,a7⟩,fr,⟨y0,y1,y2,y3,y4,y5,y6,y7⟩⟩:=apE mg (.int .i64 m.k) (.int .i64 m.e) (.int .u8 m.r) (.int .i64 m.n) (.slice ao m.ss.length cap) (.int .i64 m.f) (.int .i64 m.p) (.slice mM m.cs.length cap2)
    have f0:=fr 0;have f1:=fr 1;have f2:=fr 2;have f3:=fr 3;have f4:=fr 4;have f5:=fr 5;have f6:=fr 6;have f7:=fr 7
    have aw2:=aG dC gY (Nat.le_refl _) (by omega)
    have OY:=((O4.out.out (F:=fun i=>i=w.heap.size) (Out.aM gY (fun i hi=>by simpa using hi.symm)) (fun i hi=>by omega)).bn (base':=w.heap.size) (by omega))
    have hres:m.m=m'∧(0:Int)=g:=by
     rcases HE.out with⟨_,h2⟩|⟨h1,_⟩
     ·exact Mm.anA h2 HD.out
     ·exact(h1 (by simp[hok])).elim
    obtain⟨hmm,rfl⟩:=hres
    have HZZ:Hid (m.m=m'∧bT w.heap.size Y m∧bQ m∧Below w.heap.size w Y):=hide ⟨hmm,OY,HF.out,aw2⟩
    have hmv:=jc jL.out jS.out
    clear hok hmm OY aw2 gY bY fr mg O4 dC NO HE HD
    go_wp2
    refine bodyPost_ret (v:=.tuple #[.agg #[.int .i64 m.k,.int .i64 m.e,.int .u8 m.r,.int .i64 m.n,.slice ao m.ss.length cap,.int .i64 m.f,.int .i64 m.p,.slice mM m.cs.length cap2],.int .i64 0]) (by simp[results,results157,go_sem,y0,y1,y2,y3,y4,y5,y6,y7]) rfl ?_
    exact⟨m,by rw[hmv],HZZ⟩
   ·subst hc2
    obtain⟨rfl,rfl⟩:=NO.out fun h=>hok h.2.2
    obtain⟨Y,hY,bY,gY,⟨a0,a1,a2,a3,a4,a5,a6,a7⟩,fr,⟨y0,y1,y2,y3,y4,y5,y6,y7⟩⟩:=apE mg (.int .i64 0) (.int .i64 0) (.int .u8 0) (.int .i64 0) (.slice none 0 0) (.int .i64 0) (.int .i64 0) (.slice none 0 0)
    have f0:=fr 0;have f1:=fr 1;have f2:=fr 2;have f3:=fr 3;have f4:=fr 4;have f5:=fr 5;have f6:=fr 6;have f7:=fr 7
    have HZZ:=al6 (aG dC gY (Nat.le_refl _) (by omega))
    clear hok gY bY fr mg O4 dC NO HE HD
    go_wp2
    refine bodyPost_ret (v:=.tuple #[.agg #[.int .i64 0,.int .i64 0,.int .u8 0,.int .i64 0,.slice none 0 0,.int .i64 0,.int .i64 0,.slice none 0 0],.int .i64 5]) (by simp[results,results157,go_sem,y0,y1,y2,y3,y4,y5,y6,y7]) rfl ?_
    exact⟨fZ,rfl,HZZ⟩
  ·obtain⟨rfl,rfl⟩:=NO.out fun h=>hn h.2.1
   have hnn:(((a:Int)) !=(bs.length:Int))=true:=by simp;omega
   clear hn
   go_wp2
   refine bodyPost_ret (v:=.tuple #[.agg #[.int .i64 0,.int .i64 0,.int .u8 0,.int .i64 0,.slice none 0 0,.int .i64 0,.int .i64 0,.slice none 0 0],.int .i64 5]) (by simp[results,results157,go_sem,z0,z1,z2,z3,z4,z5,z6,z7]) rfl ?_
   exact⟨fZ,rfl,NOZ⟩
 ·have hb5:fK true=5:=rfl
  rw[hb5]
  obtain⟨rfl,rfl⟩:=NO.out fun h=>by simp at h
  go_wp2
  refine bodyPost_ret (v:=.tuple #[.agg #[.int .i64 0,.int .i64 0,.int .u8 0,.int .i64 0,.slice none 0 0,.int .i64 0,.int .i64 0,.slice none 0 0],.int .i64 5]) (by simp[results,results157,go_sem,z0,z1,z2,z3,z4,z5,z6,z7]) rfl ?_
  exact⟨fZ,rfl,NOZ⟩
structure NS (W1 w:World) (R:Nat) (e f p:Int) (v:Value) (cs:List Cw) (l:List Cm.Cv):Prop where
 blk:w.heap[R]? =some (.cells #[.int .i64 2,.int .i64 e,.int .u8 0,.int .i64 0,.slice none 0 0,.int .i64 f,.int .i64 p,v] 26 (0,0))
 sh:lh W1.heap.size w v cs
 is:aD cs=l
 out:Out (fun g=>g=R) W1 w
 lt:R<W1.heap.size
theorem aoV (e:Int)(m:Mw)(c:Int)(w:World)(hi:ji w m)(hf:bQ m)(hc:Mm.Ck m.m c):
  Calls prog 308 #[.int .i64 e,mv m] w fun E w'=>E=.returned (.int .i64 (Tak.wO c e m.m))∧Below w.heap.size w w':=by
 obtain⟨sa,so,hvs,_,_⟩:=hi.s.shape
 obtain⟨ca,co,dz,_,_⟩:=hi.c.1.shape
 obtain⟨w1,hw1,aV,aj,hA⟩:=yI w m hvs dz
 have CK:=hide (vN m c w1 (hi.below aj) hf hc)
 rw[jc hvs dz]at CK⊢
 have HE:Hid (∀W,Below w1.heap.size w1 W→Ei W w.heap.size (.int .i64 m.k) (.int .i64 m.e) (.int .u8 m.r) (.int .i64 m.n) (.slice sa m.ss.length so) (.int .i64 m.f) (.int .i64 m.p) (.slice ca m.cs.length co)):=hide fun W hb=>(hA.below hb).mP hvs dz
 obtain⟨p0,p1,p2,p3,p4,p5,p6,p7⟩:=HE.out w1 (Below.refl _ _)
 have B1:=hide aj
 have eE:Tak.wO c e m.m=if c=0 then(if m.e<e then 12 else if e<m.e then 2 else 0)else 2:=rfl
 rw[eE]
 clear hi hf hc hA hvs dz aj eE
 by_cases h0:c=0
 case neg=>
  rw[if_neg h0]
  have hb:(c !=0)=true:=by simpa using h0
  clear HE
  go_enter func308,ntmps308
  go_wp2_with fail
  refine CK.out.mono ?_
  rintro E w2 ⟨rfl,b2⟩
  have B2:=hide (B1.out.trans (b2.mono B1.out.size))
  clear CK b2
  go_wp2
  go_ret
  exact⟨rfl,B2.out⟩
 rw[if_pos h0]
 have hb:(c !=0)=false:=by simp[h0]
 clear h0
 by_cases h1:m.e<e
 ·rw[if_pos h1]
  go_enter func308,ntmps308
  go_wp2_with fail
  refine CK.out.mono ?_
  rintro E w2 ⟨rfl,b2⟩
  have B2:=hide (B1.out.trans (b2.mono B1.out.size))
  obtain⟨q0,q1,q2,q3,q4,q5,q6,q7⟩:=HE.out w2 b2
  clear CK b2 HE
  go_wp2
  go_ret
  exact⟨rfl,B2.out⟩
 rw[if_neg h1]
 by_cases h2:e<m.e
 ·rw[if_pos h2]
  go_enter func308,ntmps308
  go_wp2_with fail
  refine CK.out.mono ?_
  rintro E w2 ⟨rfl,b2⟩
  have B2:=hide (B1.out.trans (b2.mono B1.out.size))
  obtain⟨q0,q1,q2,q3,q4,q5,q6,q7⟩:=HE.out w2 b2
  clear CK b2 HE
  go_wp2
  go_ret
  exact⟨rfl,B2.out⟩
 ·rw[if_neg h2]
  go_enter func308,ntmps308
  go_wp2_with fail
  refine CK.out.mono ?_
  rintro E w2 ⟨rfl,b2⟩
  have B2:=hide (B1.out.trans (b2.mono B1.out.size))
  obtain⟨q0,q1,q2,q3,q4,q5,q6,q7⟩:=HE.out w2 b2
  clear CK b2 HE
  go_wp2
  go_ret
  exact⟨rfl,B2.out⟩
theorem ai7 (e k:Int)(m:Mw)(c:Int)(w:World)(hi:ji w m)(hf:bQ m)(hc:Mm.Ck m.m c)(he:In64 e)(hk:In64 k):
  Calls prog 283 #[.int .i64 e,.int .i64 k,mv m] w fun E w'=>E=.returned (.tuple #[.int .i64 (Tak.yx c e k m.m),.bool (Tak.knF c e m.m),.int .i64 (Tak.wO c e m.m)])∧Below w.heap.size w w':=by
 obtain⟨sa,so,hvs,_,_⟩:=hi.s.shape
 obtain⟨ca,co,dz,_,_⟩:=hi.c.1.shape
 obtain⟨w1,hw1,aV,aj,hA⟩:=yI w m hvs dz
 have CK:=hide (aoV e m c w1 (hi.below aj) hf hc)
 rw[jc hvs dz]at CK⊢
 have HE:Hid (∀W,Below w1.heap.size w1 W→Ei W w.heap.size (.int .i64 m.k) (.int .i64 m.e) (.int .u8 m.r) (.int .i64 m.n) (.slice sa m.ss.length so) (.int .i64 m.f) (.int .i64 m.p) (.slice ca m.cs.length co)):=hide fun W hb=>(hA.below hb).mP hvs dz
 obtain⟨p0,p1,p2,p3,p4,p5,p6,p7⟩:=HE.out w1 (Below.refl _ _)
 have B1:=hide aj
 have eF:Tak.knF c e m.m=(decide (Tak.wO c e m.m=0)&&(decide (m.k=3)||(decide (m.k=1)&&decide (m.r=2)))):=rfl
 have eV:Tak.yx c e k m.m=if Tak.wO c e m.m=0 then(if (decide (m.k=3)||(decide (m.k=1)&&decide (m.r=2)))=true then max k m.n else max k 0)else 0:=rfl
 obtain⟨z,hz⟩:∃z,Tak.wO c e m.m=z:=⟨_,rfl⟩
 rw[hz]at eF eV CK
 rw[hz,eF,eV]
 clear hi hf hc hA hvs dz aj eF eV hz
 by_cases h0:z=0
 case neg=>
  rw[decide_eq_false h0,Bool.false_and,if_neg h0]
  have hb:(z !=0)=true:=by simpa using h0
  clear HE h0
  go_enter func283,ntmps283
  go_wp2_with fail
  refine CK.out.mono ?_
  rintro E w2 ⟨rfl,b2⟩
  have B2:=hide (B1.out.trans (b2.mono B1.out.size))
  clear CK b2
  go_wp2
  go_ret3
  exact⟨rfl,B2.out⟩
 subst h0
 rw[if_pos rfl,show decide ((0:Int)=0)=true from rfl,Bool.true_and]
 by_cases h3:m.k=3
 ·have hb3:(m.k==3)=true:=by simpa using h3
  rw[decide_eq_true h3,Bool.true_or,if_pos rfl]
  clear h3
  by_cases hm:k<m.n
  ·rw[show max k m.n=m.n by omega]
   go_enter func283,ntmps283
   go_wp2_with fail
   refine CK.out.mono ?_
   rintro E w2 ⟨rfl,b2⟩
   have B2:=hide (B1.out.trans (b2.mono B1.out.size))
   obtain⟨q0,q1,q2,q3,q4,q5,q6,q7⟩:=HE.out w2 b2
   clear CK b2 HE
   go_wp2
   go_ret3
   first|exact⟨rfl,B2.out⟩|exact⟨congrArg (fun z=>Ending.returned (.tuple #[.int .i64 z,.bool true,.int .i64 0])) (show max k m.n=m.n by omega),B2.out⟩
  by_cases hm2:m.n<k
  ·rw[show max k m.n=k by omega]
   go_enter func283,ntmps283
   go_wp2_with fail
   refine CK.out.mono ?_
   rintro E w2 ⟨rfl,b2⟩
   have B2:=hide (B1.out.trans (b2.mono B1.out.size))
   obtain⟨q0,q1,q2,q3,q4,q5,q6,q7⟩:=HE.out w2 b2
   clear CK b2 HE
   go_wp2
   go_ret3
   first|exact⟨rfl,B2.out⟩|exact⟨congrArg (fun z=>Ending.returned (.tuple #[.int .i64 z,.bool true,.int .i64 0])) (show max k m.n=k by omega),B2.out⟩
  obtain rfl:k=m.n:=by omega
  rw[show max m.n m.n=m.n by omega]
  go_enter func283,ntmps283
  go_wp2_with fail
  refine CK.out.mono ?_
  rintro E w2 ⟨rfl,b2⟩
  have B2:=hide (B1.out.trans (b2.mono B1.out.size))
  obtain⟨q0,q1,q2,q3,q4,q5,q6,q7⟩:=HE.out w2 b2
  clear CK b2 HE
  go_wp2
  go_ret3
  first|exact⟨rfl,B2.out⟩|exact⟨congrArg (fun z=>Ending.returned (.tuple #[.int .i64 z,.bool true,.int .i64 0])) (show max m.n m.n=m.n by omega),B2.out⟩
 have hb3:(m.k==3)=false:=by simpa using h3
 rw[decide_eq_false h3,Bool.false_or]
 clear h3
 by_cases h4:m.k=1
 ·have hb4:(m.k==1)=true:=by simpa using h4
  rw[decide_eq_true h4,Bool.true_and]
  clear h4
  by_cases h5:m.r=2
  ·have hb5:(m.r==2)=true:=by simpa using h5
   rw[decide_eq_true h5,if_pos rfl]
   clear h5
   by_cases hm:k<m.n
   ·rw[show max k m.n=m.n by omega]
    go_enter func283,ntmps283
    go_wp2_with fail
    refine CK.out.mono ?_
    rintro E w2 ⟨rfl,b2⟩
    have B2:=hide (B1.out.trans (b2.mono B1.out.size))
    obtain⟨q0,q1,q2,q3,q4,q5,q6,q7⟩:=HE.out w2 b2
    clear CK b2 HE
    go_wp2
    go_ret3
    first|exact⟨rfl,B2.out⟩|exact⟨congrArg (fun z=>Ending.returned (.tuple #[.int .i64 z,.bool true,.int .i64 0])) (show max k m.n=m.n by omega),B2.out⟩
   by_cases hm2:m.n<k
   ·rw[show max k m.n=k by omega]
    go_enter func283,ntmps283
    go_wp2_with fail
    refine CK.out.mono ?_
    rintro E w2 ⟨rfl,b2⟩
    have B2:=hide (B1.out.trans (b2.mono B1.out.size))
    obtain⟨q0,q1,q2,q3,q4,q5,q6,q7⟩:=HE.out w2 b2
    clear CK b2 HE
    go_wp2
    go_ret3
    first|exact⟨rfl,B2.out⟩|exact⟨congrArg (fun z=>Ending.returned (.tuple #[.int .i64 z,.bool true,.int .i64 0])) (show max k m.n=k by omega),B2.out⟩
   obtain rfl:k=m.n:=by omega
   rw[show max m.n m.n=m.n by omega]
   go_enter func283,ntmps283
   go_wp2_with fail
   refine CK.out.mono ?_
   rintro E w2 ⟨rfl,b2⟩
   have B2:=hide (B1.out.trans (b2.mono B1.out.size))
   obtain⟨q0,q1,q2,q3,q4,q5,q6,q7⟩:=HE.out w2 b2
   clear CK b2 HE
   go_wp2
   go_ret3
   first|exact⟨rfl,B2.out⟩|exact⟨congrArg (fun z=>Ending.returned (.tuple #[.int .i64 z,.bool true,.int .i64 0])) (show max m.n m.n=m.n by omega),B2.out⟩
  ·have hb5:(m.r==2)=false:=by simpa using h5
   rw[decide_eq_false h5,if_neg (by decide)]
   clear h5
   by_cases hm:k<0
   ·rw[show max k 0=0 by omega]
    go_enter func283,ntmps283
    go_wp2_with fail
    refine CK.out.mono ?_
    rintro E w2 ⟨rfl,b2⟩
    have B2:=hide (B1.out.trans (b2.mono B1.out.size))
    obtain⟨q0,q1,q2,q3,q4,q5,q6,q7⟩:=HE.out w2 b2
    clear CK b2 HE
    go_wp2
    go_ret3
    first|exact⟨rfl,B2.out⟩|exact⟨congrArg (fun z=>Ending.returned (.tuple #[.int .i64 z,.bool false,.int .i64 0])) (show max k 0=0 by omega),B2.out⟩
   by_cases hm2:0<k
   ·rw[show max k 0=k by omega]
    go_enter func283,ntmps283
    go_wp2_with fail
    refine CK.out.mono ?_
    rintro E w2 ⟨rfl,b2⟩
    have B2:=hide (B1.out.trans (b2.mono B1.out.size))
    obtain⟨q0,q1,q2,q3,q4,q5,q6,q7⟩:=HE.out w2 b2
    clear CK b2 HE
    go_wp2
    go_ret3
    first|exact⟨rfl,B2.out⟩|exact⟨congrArg (fun z=>Ending.returned (.tuple #[.int .i64 z,.bool false,.int .i64 0])) (show max k 0=k by omega),B2.out⟩
   obtain rfl:k=0:=by omega
   rw[show max (0:Int) 0=0 by omega]
   go_enter func283,ntmps283
   go_wp2_with fail
   refine CK.out.mono ?_
   rintro E w2 ⟨rfl,b2⟩
   have B2:=hide (B1.out.trans (b2.mono B1.out.size))
   obtain⟨q0,q1,q2,q3,q4,q5,q6,q7⟩:=HE.out w2 b2
   clear CK b2 HE
   go_wp2
   go_ret3
   exact⟨rfl,B2.out⟩
 ·have hb4:(m.k==1)=false:=by simpa using h4
  rw[decide_eq_false h4,Bool.false_and,if_neg (by decide)]
  clear h4
  by_cases hm:k<0
  ·rw[show max k 0=0 by omega]
   go_enter func283,ntmps283
   go_wp2_with fail
   refine CK.out.mono ?_
   rintro E w2 ⟨rfl,b2⟩
   have B2:=hide (B1.out.trans (b2.mono B1.out.size))
   obtain⟨q0,q1,q2,q3,q4,q5,q6,q7⟩:=HE.out w2 b2
   clear CK b2 HE
   go_wp2
   go_ret3
   first|exact⟨rfl,B2.out⟩|exact⟨congrArg (fun z=>Ending.returned (.tuple #[.int .i64 z,.bool false,.int .i64 0])) (show max k 0=0 by omega),B2.out⟩
  by_cases hm2:0<k
  ·rw[show max k 0=k by omega]
   go_enter func283,ntmps283
   go_wp2_with fail
   refine CK.out.mono ?_
   rintro E w2 ⟨rfl,b2⟩
   have B2:=hide (B1.out.trans (b2.mono B1.out.size))
   obtain⟨q0,q1,q2,q3,q4,q5,q6,q7⟩:=HE.out w2 b2
   clear CK b2 HE
   go_wp2
   go_ret3
   first|exact⟨rfl,B2.out⟩|exact⟨congrArg (fun z=>Ending.returned (.tuple #[.int .i64 z,.bool false,.int .i64 0])) (show max k 0=k by omega),B2.out⟩
  obtain rfl:k=0:=by omega
  rw[show max (0:Int) 0=0 by omega]
  go_enter func283,ntmps283
  go_wp2_with fail
  refine CK.out.mono ?_
  rintro E w2 ⟨rfl,b2⟩
  have B2:=hide (B1.out.trans (b2.mono B1.out.size))
  obtain⟨q0,q1,q2,q3,q4,q5,q6,q7⟩:=HE.out w2 b2
  clear CK b2 HE
  go_wp2
  go_ret3
  exact⟨rfl,B2.out⟩
def Ns.fT (x:Ns) (c:Int) (m:Mm.Msg):Ns:=if Tak.knF c x.s.p.e m=true then⟨x.u,x.t,aZ.kV x.s.l.length x.a (Tak.yx c x.s.p.e x.k m),Tak.yx c x.s.p.e x.k m,x.m,x.s⟩else x
theorem aku (n p q:Nat)(F:Nat→Prop)(w:World)(x:Ns)(h:Nd n p q F w x)(hR:iY x.s)(m:Mw)(c:Int)(hi:ji w m)(hf:bQ m)(hc:Mm.Ck m.m c)(he:In64 x.s.p.e)(hk:In64 x.k):
  Calls prog 212 #[.pointer (some ⟨n,0,none⟩),mv m] w fun E w'=>E=.returned (.tuple #[])∧dF n p q F w w' (x.fT c m.m):=by
 have hfd:=fun(a b c d e f:Int) (w:World)=>show(Instr.field 46 (.agg #[.int .i64 a,.int .u8 b,.int .i64 c,.int .u8 d,.int .i64 e,.int .i64 f]) 0).run prog w=.ok (.int .i64 a) w by kernel_rfl
 obtain⟨w1,hw1,s1,b1,P1⟩:=au w (mc m) 26
 have h1:=h.below b1
 obtain⟨y,hy⟩:∃y,x.s.p=y:=⟨_,rfl⟩
 have PG:Hid (∀W,Below w1.heap.size w1 W→Calls prog 16 #[.pointer (some ⟨p,0,none⟩)] W fun E w'=>E=.returned (.agg #[.int .i64 y.e,.int .u8 y.r,.int .i64 y.a,.int .u8 y.p,.int .i64 y.f,.int .i64 y.b])∧Below w1.heap.size w1 w'):=hide fun W hW=>by
  refine(jA p q F W x.s (h1.below hW).st hR).mono ?_
  rintro E w' ⟨rfl,b⟩
  rw[hy]
  exact⟨rfl,hW.trans (b.mono hW.size)⟩
 have KN:Hid (∀W,Below w1.heap.size w1 W→Calls prog 283 #[.int .i64 y.e,.int .i64 x.k,mv m] W fun E w'=>E=.returned (.tuple #[.int .i64 (Tak.yx c y.e x.k m.m),.bool (Tak.knF c y.e m.m),.int .i64 (Tak.wO c y.e m.m)])∧Below w1.heap.size w1 w'):=hide fun W hW=>by
  refine(ai7 y.e x.k m c W ((hi.below b1).below hW) hf hc (hy▸he) hk).mono ?_
  rintro E w' ⟨rfl,b⟩
  exact⟨rfl,hW.trans (b.mono hW.size)⟩
 have EN:Hid (∀W F',Nd n p q F' W ⟨x.u,x.t,x.a,Tak.yx c y.e x.k m.m,x.m,x.s⟩→Calls prog 24 #[.pointer (some ⟨p,0,none⟩)] W fun E w'=>E=.returned (.int .i64 x.s.l.length)∧Below W.heap.size W w'):=hide fun W F' hW=>vR p q F' W x.s hW.st hR
 have CE:Hid (∀W,Below w1.heap.size w1 W→W.cell? ⟨n,3,none⟩=some (.pointer (some ⟨p,0,none⟩))∧W.cell? ⟨n,5,none⟩=some (.int .i64 x.k)∧W.heap[w.heap.size]? =some (.cells (mc m) 26 (0,0))):=hide fun W hW=>⟨(h1.below hW).cs.c3,(h1.below hW).cs.c5,(hW.block _ (by omega)).trans P1⟩
 have ND:Hid (∀W,Below w1.heap.size w1 W→Nd n p q F W x∧Below w.heap.size w W):=hide fun W hW=>⟨h1.below hW,b1.trans (hW.mono (by omega))⟩
 have AK:=hide (fun W=>aj0 x.s.l.length x.a (Tak.yx c y.e x.k m.m) W)
 have HL:Hid (x.fT c m.m=if Tak.knF c y.e m.m=true then⟨x.u,x.t,aZ.kV x.s.l.length x.a (Tak.yx c y.e x.k m.m),Tak.yx c y.e x.k m.m,x.m,x.s⟩else x):=hide (by unfold Ns.fT;rw[hy])
 obtain⟨sa,so,hvs,_,_⟩:=hi.s.shape
 obtain⟨ca,co,dz,_,_⟩:=hi.c.1.shape
 have HZ:=hide h.n0
 generalize x.fT c m.m=lx at*
 generalize Tak.yx c y.e x.k m.m=kv at*
 generalize Tak.knF c y.e m.m=kf at*
 generalize Tak.wO c y.e m.m=ke at*
 obtain⟨av,hav⟩:∃z,aZ.kV x.s.l.length x.a kv=z:=⟨_,rfl⟩
 rw[hav]at AK HL
 generalize aZ.oE x.s.l.length x.a=oe at*
 generalize (x.s.l.length:Int)=en at*
 obtain⟨xk,hxk⟩:∃z,x.k=z:=⟨_,rfl⟩
 rw[hxk]at KN CE
 obtain⟨mk,me,mr,mn,mvs,mss,mf,mp,mvc,mcs⟩:=m
 dsimp only at hvs dz
 subst hvs dz
 unfold mv at KN⊢
 unfold mc at CE hw1
 dsimp only at KN CE hw1⊢
 clear h h1 hR hi hf hc he hk hy hav hxk P1 b1 s1
 obtain⟨c3,c5,M1⟩:=CE.out w1 (Below.refl _ _)
 obtain⟨m0,m1,m2,m3,m4,m5,m6,m7⟩:=dw M1
 have P0:=hide (PG.out w1.drew (Below.refl _ _).drew)
 clear M1
 go_enter func212,ntmps212
 go_wp2_with fail
 go_region_held3 (fun w'=>w'.cell? ⟨n,3,none⟩=some (.pointer (some ⟨p,0,none⟩))∧w'.cell? ⟨n,5,none⟩=some (.int .i64 xk)∧w'.cell? ⟨w.heap.size,0,none⟩=some (.int .i64 mk)∧w'.cell? ⟨w.heap.size,1,none⟩=some (.int .i64 me)∧w'.cell? ⟨w.heap.size,2,none⟩=some (.int .u8 mr)∧w'.cell? ⟨w.heap.size,3,none⟩=some (.int .i64 mn)∧w'.cell? ⟨w.heap.size,4,none⟩=some (.slice sa mss.length so)∧w'.cell? ⟨w.heap.size,5,none⟩=some (.int .i64 mf)∧w'.cell? ⟨w.heap.size,6,none⟩=some (.int .i64 mp)∧w'.cell? ⟨w.heap.size,7,none⟩=some (.slice ca mcs.length co)) (first|exact⟨c3,c5,m0,m1,m2,m3,m4,m5,m6,m7⟩|exact⟨d3,d5,e2.c0,e2.c1,e2.c2,e2.c3,e2.c4,e2.c5,e2.c6,e2.c7⟩|exact⟨f3,f5,e3.c0,e3.c1,e3.c2,e3.c3,e3.c4,e3.c5,e3.c6,e3.c7⟩|go_keep)
  (first
  |(go_at_call 283;refine(KN.out _ B2.out).mono ?_;rintro E w3 ⟨rfl,b3⟩;obtain⟨f3,f5,M3⟩:=CE.out w3 b3;have e3:=dw M3;have B3:=hide b3;clear b3 M3)
  |(go_at_call 16;refine P0.out.mono ?_;rintro E w2 ⟨rfl,b2⟩;obtain⟨d3,d5,M2⟩:=CE.out w2 b2;have e2:=dw M2;have B2:=hide b2;clear b2 M2))
 obtain⟨N3,fC⟩:=ND.out w3 B3.out
 cases kf with
 |false=>
  have RR:Hid (dF n p q F w w3 lx):=hide (by
   have e:=HL.out
   rw[if_neg (by simp)]at e
   rw[e]
   exact(dF.same N3 (Below.refl _ _)).ahead fC)
  clear N3 fC ND AK EN HL PG KN CE P0
  go_wp2
  first|go_end0|refine bodyPost_ret (results_none rfl _ _ _) rfl ?_
  exact⟨rfl,RR.out⟩
 |true=>
  have HL:Hid (lx=⟨x.u,x.t,av,kv,x.m,x.s⟩):=hide (by
   have e:=HL.out
   rw[if_pos rfl]at e
   exact e)
  obtain⟨V,hV,bV,gV,fV⟩:=uM N3.blk 5 (.int .i64 kv)
  have K4:=N3.put (y:=⟨x.u,x.t,x.a,kv,x.m,x.s⟩) HZ.out gV bV rfl
  have v5:w3.cell? ⟨n,5,none⟩=some (.int .i64 x.k):=N3.cs.c5
  obtain⟨F4,N4,o4,f4⟩:=K4
  have a3:=N4.cs.c3
  have a4:V.cell? ⟨n,4,none⟩=some (.int .i64 x.a):=N4.cs.c4
  have dV:Below V.heap.size V V.drew:=(Below.refl _ _).drew
  have E4:=hide (EN.out V.drew F4 (N4.below dV))
  have X4:=hide (And.intro N4 (And.intro o4 f4))
  have B03:=hide fC
  clear N3 fC N4 o4 f4 bV gV dV ND EN PG KN CE P0 c3 c5 m0 m1 m2 m3 m4 m5 m6 m7 d3 d5 e2 f3 f5 e3 B2 B3
  obtain⟨xa,hxa⟩:∃z,x.a=z:=⟨_,rfl⟩
  rw[hxa]at AK a4
  have FIN:Hid (∀W5,Below V.heap.size V W5→∃V5,W5.setCell ⟨n,4,none⟩ (.int .i64 av)=V5∧W5.cell? ⟨n,4,none⟩=some (.int .i64 xa)∧W5.cell? ⟨n,3,none⟩=some (.pointer (some ⟨p,0,none⟩))∧W5.frozen? ⟨n,4,none⟩=false∧Hid (dF n p q F w V5 lx)):=hide fun W5 b5=>by
   obtain⟨N4,o4,f4⟩:=X4.out
   have N5:=N4.below b5
   obtain⟨V5,xg,zQ,uf,fV5⟩:=uM N5.blk 4 (.int .i64 av)
   have K5:=N5.put (y:=⟨x.u,x.t,av,kv,x.m,x.s⟩) HZ.out uf zQ rfl
   refine⟨V5,xg,hxa▸N5.cs.c4,N5.cs.c3,fV5,hide ?_⟩
   rw[HL.out]
   exact(dF.join o4 f4 (K5.ahead b5)).ahead B03.out
  clear X4 HL B03 HZ hxa
  go_wp2_with fail
  go_region_with (first|(go_at_call 284;refine(AK.out _).mono ?_;rintro E w6 ⟨rfl,rfl⟩)|(go_at_call 24;refine E4.out.mono ?_;rintro E w5 ⟨rfl,b5⟩;obtain⟨V5,xg,g4,g3,ff,RR⟩:=FIN.out w5 ((Below.refl V.heap.size V).drew.trans b5);clear b5))
  all_goals
   go_wp2
   first|go_end0|refine bodyPost_ret (results_none rfl _ _ _) rfl ?_
   exact⟨rfl,RR.out⟩
theorem amt (n p q:Nat)(F:Nat→Prop)(w:World)(x:Ns)(h:Nd n p q F w x)(hR:iY x.s)(m:Mw)(c:Int)(hi:ji w m)(hf:bQ m)(hc:Mm.Ck m.m c)(he:In64 x.s.p.e)(hk:In64 x.k)(hr:x.s.p.r=1)(hm:m.k=3):
  Calls prog 159 #[.pointer (some ⟨n,0,none⟩),mv m] w fun E w'=>E=.returned (.tuple #[.slice none 0 0,.int .i64 0])∧dF n p q F w w' (x.fT c m.m):=by
 obtain⟨w1,hw1,s1,b1,P1⟩:=au w (mc m) 26
 have h1:=h.below b1
 have c3:=h1.cs.c3
 obtain⟨y,hy⟩:∃y,x.s.p=y:=⟨_,rfl⟩
 have PG:Hid (Calls prog 16 #[.pointer (some ⟨p,0,none⟩)] w1 fun E w'=>E=.returned (.agg #[.int .i64 y.e,.int .u8 1,.int .i64 y.a,.int .u8 y.p,.int .i64 y.f,.int .i64 y.b])∧Below w1.heap.size w1 w'):=hide (by
  have:=jA p q F w1 x.s h1.st hR
  rw[hy,show vp y=.agg #[.int .i64 y.e,.int .u8 1,.int .i64 y.a,.int .u8 y.p,.int .i64 y.f,.int .i64 y.b]by rw[←hr,hy];rfl]at this
  exact this)
 have LN:Hid (∀W,Below w.heap.size w W→Calls prog 212 #[.pointer (some ⟨n,0,none⟩),mv m] W fun E w'=>E=.returned (.tuple #[])∧Hid (dF n p q F w w' (x.fT c m.m))):=hide fun W hW=>by
  refine(aku n p q F W x (h.below hW) hR m c (hi.below hW) hf hc he hk).mono ?_
  rintro E w' ⟨rfl,k⟩
  exact⟨rfl,hide (k.ahead hW)⟩
 generalize x.fT c m.m=lx at*
 obtain⟨sa,so,hvs,_,_⟩:=hi.s.shape
 obtain⟨ca,co,dz,_,_⟩:=hi.c.1.shape
 obtain⟨mk,me,mr,mn,mvs,mss,mf,mp,mvc,mcs⟩:=m
 dsimp only at hvs dz hm
 subst hvs dz hm
 unfold mv at LN⊢
 unfold mc at P1 hw1
 dsimp only at LN P1 hw1⊢
 have PP:=hide (And.intro P1 b1)
 clear h h1 hR hi hf hc he hk hr hy P1 b1
 go_enter func159,ntmps159
 go_wp2_with fail
 refine PG.out.mono ?_
 rintro E w2 ⟨rfl,b2⟩
 obtain⟨P1,b1⟩:=PP.out
 have z2:=b2.size
 have P2:=(b2.block w.heap.size (by omega)).trans P1
 obtain⟨w3,hw3,ayy,s3,b3,P3,⟨g0,g1,g2,g3,g4,g5⟩⟩:=ng w2 46 (.int .i64 0) (.int .u8 0) (.int .i64 0) (.int .u8 0) (.int .i64 0) (.int .i64 0) (.int .i64 y.e) (.int .u8 1) (.int .i64 y.a) (.int .u8 y.p) (.int .i64 y.f) (.int .i64 y.b)
 obtain⟨m0,m1,m2,m3,m4,m5,m6,m7⟩:=dw ((b3.block w.heap.size (by omega)).trans P2)
 have L3:=hide (LN.out w3 ((b1.trans (b2.mono (by omega))).trans (b3.mono (by omega))))
 clear PG PP LN P1 b1 b2 z2 P2 b3 P3 s3 s1
 go_wp2_with fail
 refine L3.out.mono ?_
 rintro E w4 ⟨rfl,RR⟩
 clear L3
 go_wp2
 go_ret2
 exact⟨rfl,RR.out⟩
theorem agq (n p q:Nat)(F:Nat→Prop)(w:World)(x:Ns)(h:Nd n p q F w x)(hR:iY x.s)(vb:Value)(mm:Mm.Msg)(hb:Is .u8 w vb (Mm.enc mm))(hok:Mm.Ok mm)(hl:(Mm.enc mm).length≤100000000000000)(he:In64 x.s.p.e)(hk:In64 x.k)(hr:x.s.p.r=1)(hm:mm.k=3)(hme:mm.e=x.s.p.e)(hhe:Rol.wy x.s.p x.s.p.e=0):
  Calls prog 77 #[.pointer (some ⟨n,0,none⟩),vb] w fun E w'=>E=.returned (.tuple #[.slice none 0 0,.int .i64 0])∧dF n p q F w w' (x.fT 0 mm):=by
 have DC:=hide (ahg vb (Mm.enc mm) w hb hl mm 0 (Mm.avn hok))
 obtain⟨xo,xc,hvb,_,_⟩:=hb.shape
 subst hvb
 obtain⟨y,hy⟩:∃y,x.s.p=y:=⟨_,rfl⟩
 have xL:ig y:=by rw[←hy];exact h.st.fit
 have HV:vp y=.agg #[.int .i64 y.e,.int .u8 y.r,.int .i64 y.a,.int .u8 y.p,.int .i64 y.f,.int .i64 y.b]:=rfl
 rw[hy]at hme hhe
 have PG:Hid (∀W,Below w.heap.size w W→Calls prog 16 #[.pointer (some ⟨p,0,none⟩)] W fun E w'=>E=.returned (vp y)∧Below W.heap.size W w'):=hide fun W hW=>by
  rw[←hy]
  exact jA p q F W x.s (h.below hW).st hR
 have hh:Rol.wX y y.e=false∧Rol.he y y.e=y:=by
  unfold Rol.wX Rol.he
  rw[hhe]
  simp
 have HE:Hid (∀W,Below w.heap.size w W→Calls prog 158 #[vp y,.int .i64 y.e] W fun E w'=>E=.returned (.tuple #[vp y,.bool false,.int .i64 0])∧Below W.heap.size W w'):=hide fun W hW=>by
  have:=anI y y.e W xL (h.below hW).st.gQ (by rw[←hy];exact⟨he.1,by have:=he.2;omega⟩)
  rw[hhe,hh.1,hh.2]at this
  exact this
 rw[HV]at PG HE
 have C3:Hid (∀W,Below w.heap.size w W→W.cell? ⟨n,3,none⟩=some (.pointer (some ⟨p,0,none⟩))):=hide fun W hW=>(h.below hW).cs.c3
 have HD:Hid (∀W (m:Mw),Below w.heap.size w W→ji W m→bQ m→m.m=mm→Calls prog 159 #[.pointer (some ⟨n,0,none⟩),mv m] W fun E w'=>E=.returned (.tuple #[.slice none 0 0,.int .i64 0])∧Hid (dF n p q F w w' (x.fT 0 mm))):=hide fun W m hW i1 i2 i3=>by
  have ck:Mm.Ck m.m 0:=by rw[i3];exact .inl ⟨rfl,hok⟩
  have mk3:m.k=3:=by have:=congrArg Mm.Msg.k i3;exact this.trans hm
  refine(amt n p q F W x (h.below hW) hR m 0 i1 i2 ck he hk hr mk3).mono ?_
  rw[i3]
  rintro E w' ⟨rfl,k⟩
  exact⟨rfl,hide (k.ahead hW)⟩
 generalize x.fT 0 mm=lx at*
 have HME:=hide hme
 clear h hR hb hok hl he hk hr hm hme hhe hy xL HV hh
 go_enter func77,ntmps77
 go_wp2_with fail
 refine DC.out.mono ?_
 rintro E w1 ⟨m,rfl,H⟩
 obtain⟨hmm,ho,hf,b1⟩:=H.out
 have hme:m.e=y.e:=by rw[←HME.out,←hmm];rfl
 have HI:=hide (And.intro ho.is (And.intro hf hmm))
 obtain⟨sa,so,hvs,_,_⟩:=ho.is.s.shape
 obtain⟨ca,co,dz,_,_⟩:=ho.is.c.1.shape
 clear H ho hf hmm DC HME
 obtain⟨mk,me,mr,mn,mvs,mss,mf,mp,mvc,mcs⟩:=m
 dsimp only at hvs dz hme
 subst hvs dz hme
 unfold mv
 dsimp only
 obtain⟨w2,hw2,uR,s2,b2,P2,⟨m0,m1,m2,m3,m4,m5,m6,m7⟩⟩:=aox w1 26 (.int .i64 0) (.int .i64 0) (.int .u8 0) (.int .i64 0) (.slice none 0 0) (.int .i64 0) (.int .i64 0) (.slice none 0 0) (.int .i64 mk) (.int .i64 y.e) (.int .u8 mr) (.int .i64 mn) (.slice sa mss.length so) (.int .i64 mf) (.int .i64 mp) (.slice ca mcs.length co)
 have z1:=b1.size
 have b02:Below w.heap.size w w2:=b1.trans (b2.mono (by omega))
 have c3:=C3.out w2 b02
 have P2':=hide (PG.out w2 b02)
 have B2:=hide (And.intro b02 (And.intro P2 b2))
 clear b1 b2 P2 b02 s2 z1
 go_wp2_with fail
 refine P2'.out.mono ?_
 rintro E w3 ⟨rfl,b3⟩
 obtain⟨b02,P2,b2⟩:=B2.out
 have z2:=b02.size
 have l2:=ay P2
 have P3:=(b3.block _ l2).trans P2
 obtain⟨w4,hw4,avB,s4,b4,Q4,⟨g0,g1,g2,g3,g4,g5⟩⟩:=ng w3 46 (.int .i64 0) (.int .u8 0) (.int .i64 0) (.int .u8 0) (.int .i64 0) (.int .i64 0) (.int .i64 y.e) (.int .u8 y.r) (.int .i64 y.a) (.int .u8 y.p) (.int .i64 y.f) (.int .i64 y.b)
 have P4:=(b4.block _ (ay P3)).trans P3
 have jN:Below w.heap.size w w4:=(b02.trans (b3.mono z2)).trans (b4.mono (by have:=b3.size;omega))
 obtain⟨k0,k1,k2,k3,k4,k5,k6,k7⟩:=dw P4
 have H4:=hide (HE.out w4 jN)
 have B4:=hide (And.intro jN (And.intro P4 (And.intro (b2.trans ((b3.mono (by have:=b2.size;omega)).trans (b4.mono (by have:=b2.size;have:=b3.size;omega)))) Q4)))
 have hlt:¬y.e<y.e:=by omega
 clear P2' B2 b02 P2 b2 z2 l2 P3 P4 b3 b4 jN Q4 s4 PG HE c3 m0 m1 m2 m3 m4 m5 m6 m7
 go_wp2_with fail
 refine H4.out.mono ?_
 rintro E w5 ⟨rfl,b5⟩
 obtain⟨jN,P4,bI,Q4⟩:=B4.out
 have P5:=(b5.block _ (ay P4)).trans P4
 obtain⟨w6,jY,hw6',s6,b6,Q6,gg⟩:=ng w5 46 (.int .i64 0) (.int .u8 0) (.int .i64 0) (.int .u8 0) (.int .i64 0) (.int .i64 0) (.int .i64 y.e) (.int .u8 y.r) (.int .i64 y.a) (.int .u8 y.p) (.int .i64 y.f) (.int .i64 y.b)
 have P6:=(b6.block _ (ay P5)).trans P5
 obtain⟨j0,j1,j2,j3,j4,j5,j6,j7⟩:=dw P6
 have z4:=jN.size
 have z5:=b5.size
 have z1:=bI.size
 have qx:Below w.heap.size w w6:=(jN.trans (b5.mono (by omega))).trans (b6.mono (by omega))
 have bI6:Below w1.heap.size w1 w6:=(bI.trans (b5.mono (by omega))).trans (b6.mono (by omega))
 have D6:=HD.out w6 _ qx (HI.out.1.below bI6) HI.out.2.1 HI.out.2.2
 unfold mv at D6
 dsimp only at D6
 have D6:=hide D6
 clear H4 B4 jN P4 bI Q4 P5 P6 b5 b6 qx bI6 z4 z5 z1 s6 Q6 gg HI HD g0 g1 g2 g3 g4 g5 k0 k1 k2 k3 k4 k5 k6 k7
 go_wp2_with fail
 refine D6.out.mono ?_
 rintro E w7 ⟨rfl,RR⟩
 clear D6
 go_wp2
 go_ret2
 exact⟨rfl,RR.out⟩
theorem afU (n p q:Nat)(F:Nat→Prop)(w:World)(x:Ns)(h:Nd n p q F w x)(hR:iY x.s)(hon:x.s.d.on=true)(vb:Value)(mm:Mm.Msg)(hb:Is .u8 w vb (Mm.enc mm))(hok:Mm.Ok mm)(hl:(Mm.enc mm).length≤100000000000000)(he:In64 x.s.p.e)(hk:In64 x.k)(hr:x.s.p.r=1)(hm:mm.k=3)(hme:mm.e=x.s.p.e)(hhe:Rol.wy x.s.p x.s.p.e=0):
  Calls prog 31 #[.pointer (some ⟨n,0,none⟩),vb] w fun E w'=>E=.returned (.tuple #[.slice none 0 0,.int .i64 0])∧dF n p q F w w' (x.fT 0 mm):=by
 have kQ:∀(fn:Fn) (first cap:Array Value) (w:World),(Instr.makeFunc fn first cap).run prog w=.ok (.func fn first cap) w:=fun _ _ _ _=>rfl
 obtain⟨va,vn,vk,rfl⟩:∃a n k,vb=.slice a n k:=by
  obtain⟨a,k,e,_,_⟩:=hb.shape
  exact⟨_,_,_,e⟩
 obtain⟨w1,hw1,s1,b1,P1⟩:=au w #[.pointer (some ⟨n,0,none⟩)] 66
 obtain⟨w2,hw2,s2,b2,P2⟩:=au w1 #[.slice va vn vk] 61
 obtain⟨w3,hw3,s3,b3,P3⟩:=au w2 #[.slice none 0 0] 75
 rw[s1]at P2
 rw[s2,s1]at P3
 have fC:Below w.heap.size w w3:=(b1.trans (b2.mono (by omega))).trans (b3.mono (by omega))
 have P1:=(b3.block _ (by omega)).trans ((b2.block _ (by omega)).trans P1)
 have P2:=(b3.block _ (by omega)).trans P2
 have lt:=h.lt
 have hw0:=h.st.gQ.pos
 obtain⟨cx,hcx⟩:∃z,x.fT 0 mm=z:=⟨_,rfl⟩
 have CC:=fun W hW=>agq n p q F W x (h.below hW) hR (.slice va vn vk) mm (hb.below hW) hok hl he hk hr hm hme hhe
 rw[hcx]at CC
 rw[hcx]
 have CL:=rD n p q F w3 x (h.below fC) hon 76 #[] #[.pointer (some ⟨w.heap.size,0,none⟩),.pointer (some ⟨w.heap.size+1,0,none⟩),.pointer (some ⟨w.heap.size+1+1,0,none⟩)] _ (enters_of func76 (by kernel_rfl) rfl) rfl (fun e W w'=>e=0∧w'.heap[w.heap.size+1+1]? =some (.cells #[.slice none 0 0] 75 (0,0))∧wK n p q F w W w' cx) (fun W hW=>by
  have q1:=(hW.block _ (by omega)).trans P1
  have q2:=(hW.block _ (by omega)).trans P2
  have q3:=(hW.block _ (by omega)).trans P3
  have d1:W.cell? ⟨w.heap.size,0,none⟩=some (.pointer (some ⟨n,0,none⟩)):=ai q1 0 rfl
  have d2:W.cell? ⟨w.heap.size+1,0,none⟩=some (.slice va vn vk):=ai q2 0 rfl
  have ug:=fC.trans (hW.mono (by omega))
  have zW:=hW.size
  have C1:=hide (CC W ug)
  have FIN:Hid (∀W4,dF n p q F W W4 cx→∃V,W4.setCell ⟨w.heap.size+1+1,0,none⟩ (.slice none 0 0)=V∧W4.cell? ⟨w.heap.size+1+1,0,none⟩=some (.slice none 0 0)∧W4.frozen? ⟨w.heap.size+1+1,0,none⟩=false∧Hid (∃e,Ending.returned (.int .i64 0)=.returned (.int .i64 e)∧(e==6)=false∧(∀g,w3.heap.size≤g→g<W.heap.size→V.heap[g]? =W.heap[g]?)∧W.heap.size≤V.heap.size∧e=0∧V.heap[w.heap.size+1+1]? =some (.cells #[.slice none 0 0] 75 (0,0))∧wK n p q F w W V cx)):=hide fun W4 k=>by
   have k0:=k
   obtain⟨F',N',o',f'⟩:=k0
   have nl:∀g,w.heap.size≤g→¬(F g∨g=n):=fun g hg e=>by have:=lt g e;omega
   have q4:=(o'.block _ (by omega) (nl _ (by omega))).trans q3
   obtain⟨V,hV,bV,gV,fV⟩:=uM q4 0 (.slice none 0 0)
   refine⟨V,hV,ai q4 0 rfl,fV,hide ⟨0,rfl,rfl,fun g g1 g2=>?_,Nat.le_trans o'.size gV.size,rfl,bV,(k.toQ ug).put lt hw0 ⟨by omega,by omega⟩ gV⟩⟩
   rw[gV.block g (Nat.lt_of_lt_of_le g2 o'.size) (fun e=>by have:=Option.some.inj e;omega)]
   exact o'.block g g2 (nl g (by omega))
  clear q1 q2 q3 ug zW
  clear CC P1 P2 P3 b1 b2 b3 fC s1 s2 s3 hw1 hw2 hw3 h hR hon hb hok hl he hk hr hm hme hhe hcx lt hw0 hW
  go_enter func76,ntmps76
  go_wp2_with fail
  refine C1.out.mono ?_
  rintro E W4 ⟨rfl,k⟩
  obtain⟨V,hV,e4,f4,RR⟩:=FIN.out W4 k
  clear C1 FIN k
  go_wp2
  go_ret
  exact RR.out)
 have CL:=hide CL
 have FIN:Hid (∀W W1 B w4,Below w3.heap.size w3 W→w3.heap.size≤B∧B<W.heap.size→W1.grownBy w4 (some B)→W1.heap[w.heap.size+1+1]? =some (.cells #[.slice none 0 0] 75 (0,0))→wK n p q F w W W1 cx→w4.heap[w.heap.size+1+1]? =some (.cells #[.slice none 0 0] 75 (0,0))∧dF n p q F w w4 cx):=hide fun W W1 B w4 hW hB g c k=>by
  have zW:=hW.size
  have k0:=k
  obtain⟨F',N',o',f'⟩:=k0
  exact⟨(g.block _ (ay c) (fun e=>by have:=Option.some.inj e;omega)).trans c,(k.put lt hw0 ⟨by omega,hB.2⟩ g).toS (by omega)⟩
 clear CC P2 P3 b1 b2 b3 fC s3 h hR hon hb hok hl he hk hr hm hme hhe hcx lt hw0
 have d1:w3.cell? ⟨w.heap.size,0,none⟩=some (.pointer (some ⟨n,0,none⟩)):=ai P1 0 rfl
 clear P1
 go_enter func31,ntmps31
 go_wp2_with fail
 refine CL.out.mono ?_
 rintro E w4 ⟨e,rfl,W,W1,B,hW,hB,g,rfl,c,k⟩
 obtain⟨q4,N4⟩:=FIN.out W W1 B w4 hW hB g c k
 have RR:=hide N4
 have e4:w4.cell? ⟨w.heap.size+1+1,0,none⟩=some (.slice none 0 0):=ai q4 0 rfl
 have f4:=aA q4 0
 have u4:w4.setCell ⟨w.heap.size+1+1,0,none⟩ (.slice none 0 0)=w4:=aK q4 (j:=0) rfl
 clear CL FIN hW hB g c k q4 N4
 go_wp2
 refine bodyPost_ret (v:=.tuple #[.slice none 0 0,.int .i64 0]) (by simp[results,results31,go_sem,e4]) rfl ?_
 exact⟨rfl,RR.out⟩
structure N2 (w0 w:World) (n p q:Nat) (F:Nat→Prop) (x:Ns) (n' p' q':Nat) (F':Nat→Prop) (x':Ns):Prop where
 a:Nl w0 w n p q F x
 b:Nl w0 w n' p' q' F' x'
 ap:∀g,F g∨g=n→¬(F' g∨g=n')
section
variable {w0 w w':World} {n p q n' p' q' m:Nat} {F F':Nat→Prop} {x x' y:Ns} {e pa:Int}
def eU (e k:Int):Mm.Msg:=⟨3,e,0,k,[],0,0,[]⟩
theorem afV {k:Int}(he:1≤e∧e≤1048576)(hk:0≤k∧k≤1048576):Mm.Ok (eU e k):=⟨he.1,he.2,.inr (.inr ⟨rfl,hk.1,hk.2,rfl,rfl,rfl,rfl,rfl⟩)⟩
theorem ath {k:Int}(he:1≤e∧e≤1048576)(hk:0≤k∧k≤1048576):(Mm.enc (eU e k)).length≤100000000000000:=by
 have h:=afV (e:=e) he hk
 unfold Mm.enc
 obtain⟨h1,_,_,_,_,_,_,_,h8⟩:=Mm.gM h
 have h2:=jE (l:=Mm.hd (eU e k)) (fun z hz=>(h1 z hz).2)
 have h3:=xA (Mm.yN h)
 have h4:=h8 rfl
 have h5:(eU e k).cs.length=0:=rfl
 rw[List.length_append]
 omega
theorem eG.fT {k:Int}(h:eG m x e pa)(hm:m≤500)(hk:0≤k):x.fT 0 (eU e k)=⟨x.u,x.t,aZ.kV x.s.l.length x.a (max x.k k),max x.k k,x.m,x.s⟩∧eG m (x.fT 0 (eU e k)) e pa∧x.a≤(x.fT 0 (eU e k)).a:=by
 have e0:Tak.wO 0 x.s.p.e (eU e k)=0:=by
  unfold Tak.wO
  rw[if_pos rfl,h.pg]
  show(if e<e then(12:Int)else if e<e then 2 else 0)=0
  rw[if_neg (by omega),if_neg (by omega)]
 have e1:x.fT 0 (eU e k)=⟨x.u,x.t,aZ.kV x.s.l.length x.a (max x.k k),max x.k k,x.m,x.s⟩:=by
  unfold Ns.fT Tak.knF Tak.yx
  rw[e0]
  rfl
 have h2:=h.a
 have h3:=h.rz.2.1
 have ka:x.a≤aZ.kV x.s.l.length x.a (max x.k k)∧aZ.kV x.s.l.length x.a (max x.k k)≤x.s.l.length:=by
  unfold aZ.kV
  rw[if_pos (by omega)]
  split
  ·omega
  ·split<;>omega
 refine⟨e1,?_,by rw[e1];exact ka.1⟩
 rw[e1]
 exact⟨h.inn,h.has,h.rz,h.pg,h.e,h.t,⟨h2.1,by show pa≤aZ.kV _ _ _;omega,ka.2⟩,Int.le_trans h.r ka.1⟩
theorem avv (h:Nd n p q F w x)(hp:eG m x e pa)(hm:m≤500)(hk:In64 x.k){k:Int}(hk2:0≤k∧k≤1048576)(vb:Value)(hb:Is .u8 w vb (Mm.enc (eU e k)))(hl:(Mm.enc (eU e k)).length≤100000000000000):
  Calls prog 31 #[.pointer (some ⟨n,0,none⟩),vb] w fun E w'=>E=.returned (.tuple #[.slice none 0 0,.int .i64 0])∧dF n p q F w w' (x.fT 0 (eU e k)):=
 afU n p q F w x h (hp.tF hm) hp.on vb (eU e k) hb (afV hp.e hk2) hl hp.i64 hk (by rw[hp.pg]) rfl (by rw[hp.pg];rfl) (by
  unfold Rol.wy
  rw[if_pos (hp.ok hm),hp.pg,if_neg (by show ¬(e<1∨1048576<e);have:=hp.e;omega)])
end
structure gB (w0 w:World) (n p q tp tb:Nat) (F:Nat→Prop) (x:Ns) (t:List Bm.Ov) (i:Nat):Prop where
 nl:Nl w0 w n p q F x
 pr:∃pa,eG (2*i+1) x 1 pa
 tab:Tb tp tb w t
 ap:∀g,g=tp∨g=tb→¬(F g∨g=n)
 new:w0.heap.size≤tb∧w0.heap.size≤tp
 k:-1≤x.k∧x.k≤100
 ln:x.s.l.length≤i
 le:t.length≤40*i
section
variable {w0 w w':World} {n p q tp tb:Nat} {F:Nat→Prop} {x y:Ns} {t:List Bm.Ov} {i:Nat}
theorem gB.below (h:gB w0 w n p q tp tb F x t i)(hb:Below w.heap.size w w'):gB w0 w' n p q tp tb F x t i:=
 ⟨h.nl.below hb,h.pr,h.tab.below hb,h.ap,h.new,h.k,h.ln,h.le⟩
theorem gB.next {i':Nat}(h:gB w0 w n p q tp tb F x t i)(k:dF n p q F w w' y)(hi:i≤i')(hp:∃pa,eG (2*i'+1) y 1 pa)(hk:-1≤y.k∧y.k≤100)(hl:y.s.l.length≤i'):∃F',gB w0 w' n p q tp tb F' y t i':=by
 have k':=k
 obtain⟨F2,k1,k2,k3⟩:=k'
 have hs:=h.nl.aI.size
 have ta:=h.tab.agree (k2.block tp h.tab.plt (h.ap tp (.inl rfl))) (k2.block tb h.tab.blt (h.ap tb (.inr rfl)))
 refine⟨F2,⟨k1,fun g hg=>?_,h.nl.aI.trans (k2.below (fun g hg=>(h.nl.new g hg).1) hs)⟩,hp,ta,fun g hg c=>?_,h.new,hk,hl,by have:=h.le;omega⟩
 ·rcases hg with e|e
  ·rcases k3 g e with e|e
   ·exact h.nl.new g (.inl e)
   ·have:=h.nl.nd.st.gQ.pos;omega
  ·exact h.nl.new g (.inr e)
 ·have lt:g<w.heap.size:=by
   rcases hg with e|e
   ·rw[e];exact h.tab.plt
   ·rw[e];exact h.tab.blt
  rcases c with e|e
  ·rcases k3 g e with e|e
   ·exact h.ap g hg (.inl e)
   ·omega
  ·exact h.ap g hg (.inr e)
theorem gB.tF (h:gB w0 w n p q tp tb F x t i)(hi:i≤200):iY x.s:=by
 obtain⟨pa,k⟩:=h.pr
 exact k.tF (by omega)
theorem gB.on (h:gB w0 w n p q tp tb F x t i):x.s.d.on=true:=by
 obtain⟨pa,k⟩:=h.pr
 exact k.on
theorem gB.e1 (h:gB w0 w n p q tp tb F x t i):x.s.p.e=1∧x.s.p.r=1:=by
 obtain⟨pa,k⟩:=h.pr
 rw[k.pg]
 exact⟨rfl,rfl⟩
theorem gB.au0 (h:gB w0 w n p q tp tb F x t i)(hi:i≤200){v:Value}{l:List Bm.Ov}(hv:bM w0 v l)(hf:dZ l)(hl:l.length≤40):
  ∃c y,(c=0→y.s.l=x.s.l++[⟨1,x.s.l.length+1,l⟩]∧Bm.first l=0∧Sto.fold (Rst.aP y.s)=Tm.app (Sto.fold (Rst.aP x.s)) l)∧(c≠0→y=x)∧
   Calls prog 28 #[.pointer (some ⟨n,0,none⟩),v] w fun E w'=>E=.returned (.tuple #[.int .i64 (if c=0 then x.s.l.length+1 else 0),.int .i64 c])∧(∃F',gB w0 w' n p q tp tb F' y t (i+1))∧∀g,g<w.heap.size→¬(F g∨g=n)→w'.heap[g]? =w.heap[g]? :=by
 obtain⟨pa,hp⟩:=h.pr
 have h0:=h.nl.aI.size
 have hm:2*i+1≤500:=by omega
 have h6:x.kP l≠6:=by
  by_cases hb:x.bar l=0
  ·rw[(hp.yes hm hb).1];simp
  ·rw[(hp.no hm hb).1,hp.bar hm]
   rcases Bm.wS l with g|g|g<;>rw[g]<;>simp
   split<;>simp
 refine⟨x.kP l,x.co l,fun hc=>?_,fun hc=>?_,?_⟩
 ·by_cases hb:x.bar l=0
  ·obtain⟨y1,y2,y3,y4,y5,y6,y7,y8⟩:=hp.yes hm hb
   have hch:Bm.cO l=0:=by
    have:=hp.bar (l:=l) hm
    rw[hb]at this
    split at this
    ·rename_i g;exact absurd this.symm g
    ·rename_i g;exact Classical.not_not.1 g
   exact⟨y3,Bm.oG (Bm.dM hch).2.2,y8⟩
  ·rw[(hp.no hm hb).1]at hc
   exact absurd hc hb
 ·by_cases hb:x.bar l=0
  ·exact absurd (hp.yes hm hb).1 hc
  ·exact(hp.no hm hb).2
 ·refine(zI n p q F w x h.nl.nd (hp.tF hm) hp.t3 h.nl.n0 hp.on v l (fun W hW=>?_) hf (by omega) hp.i64 h6).mono ?_
  ·exact hv.below (h.nl.aI.trans (hW.below (fun g hg=>(h.nl.new g (.inl hg)).1) h0))
  ·rintro E w' ⟨rfl,k⟩
   have kb:=k
   obtain⟨_,_,kb,_⟩:=kb
   refine⟨rfl,h.next (i':=i+1) k (by omega) ?_ ?_ ?_,fun g g1 g2=>kb.block g g1 g2⟩
   ·by_cases hb:x.bar l=0
    ·exact⟨pa,(hp.yes hm hb).2.1.mono (by omega)⟩
    ·rw[(hp.no hm hb).2]
     exact⟨pa,hp.mono (by omega)⟩
   ·by_cases hb:x.bar l=0
    ·rw[(hp.yes hm hb).2.2.2.2.2.1]
     exact h.k
    ·rw[(hp.no hm hb).2]
     exact h.k
   ·have:=h.ln
    by_cases hb:x.bar l=0
    ·rw[(hp.yes hm hb).2.2.1,List.length_append]
     exact Nat.add_le_add_right this 1
    ·rw[(hp.no hm hb).2]
     omega
theorem gB.apply (h:gB w0 w n p q tp tb F y t (i+1))(ht:t.length≤40*i)(hi:i≤200){v:Value}{l:List Bm.Ov}(hv:bM w0 v l)(hf:dZ l)(hl:l.length≤40)(h0:Bm.first l=0):
  Calls prog 47 #[.pointer (some ⟨tp,0,none⟩),v] w fun E w'=>E=.returned (.int .i64 0)∧gB w0 w' n p q tp tb F y (Tm.app t l) (i+1)∧∀g,g<w.heap.size→g≠tb→w'.heap[g]? =w.heap[g]? :=by
 refine(uW tp tb w t v l h.tab (hv.below h.nl.aI) hf (by omega)).mono ?_
 rintro E w' ⟨rfl,t2,o2⟩
 rw[show Tm.aft t l=Tm.app t l by unfold Tm.aft;rw[if_pos h0]]at t2
 rw[h0]
 have na:=h.ap tb (.inr rfl)
 have hn:=h.nl.nd.agree (w':=w') (fun g hg=>o2.block g (h.nl.nd.lt g hg) fun e=>na (e▸hg)) o2.size (gz h.nl.nd.st.gQ o2 fun e=>h.tab.row h.nl.nd.st.gQ.c0 e)
 refine⟨rfl,⟨⟨hn,h.nl.new,h.nl.aI.trans (o2.below (fun g hg=>by rw[hg];exact h.new.1) h.nl.aI.size)⟩,h.pr,t2,h.ap,h.new,h.k,h.ln,?_⟩,fun g g1 g2=>o2.block g g1 g2⟩
 have:=Tm.sQ l t
 omega
theorem gB.ack (h:gB w0 w n p q tp tb F x t i)(hi:i≤200){k:Int}(hk:0≤k∧k≤60)(vb:Value)(hb:Is .u8 w vb (Mm.enc (eU 1 k))):
  Calls prog 31 #[.pointer (some ⟨n,0,none⟩),vb] w fun E w'=>E=.returned (.tuple #[.slice none 0 0,.int .i64 0])∧dF n p q F w w' (x.fT 0 (eU 1 k)):=by
 obtain⟨pa,hp⟩:=h.pr
 have hx:=h.k
 exact avv h.nl.nd hp (by omega) ⟨by omega,by omega⟩ (k:=k) ⟨hk.1,by omega⟩ vb hb (ath (by decide) ⟨hk.1,by omega⟩)
theorem gB.fT (h:gB w0 w n p q tp tb F x t i)(hi:i≤200){k:Int}(hk:0≤k∧k≤60)(g:dF n p q F w w' (x.fT 0 (eU 1 k))):
  ∃F',gB w0 w' n p q tp tb F' (x.fT 0 (eU 1 k)) t (i+1):=by
 obtain⟨pa,hp⟩:=h.pr
 obtain⟨e,p1,_⟩:=hp.fT (k:=k) (by omega) hk.1
 have hx:=h.k
 have hl:=h.ln
 refine h.next (i':=i+1) g (by omega) ⟨pa,p1.mono (by omega)⟩ ?_ ?_
 ·rw[e]
  show -1≤max x.k k∧max x.k k≤100
  omega
 ·rw[e]
  show x.s.l.length≤i+1
  omega
theorem aiF {m:Nat}{e pa k:Int}(h:eG m x e pa)(hm:m≤500)(hk:0≤k):(x.fT 0 (eU e k)).fT 0 (eU e k)=x.fT 0 (eU e k)∧(x.fT 0 (eU e k)).s=x.s:=by
 obtain⟨e1,p1,_⟩:=h.fT (k:=k) hm hk
 obtain⟨e2,_,_⟩:=p1.fT (k:=k) hm hk
 have h2:=h.a
 have h3:=h.rz.2.1
 refine⟨?_,by rw[e1]⟩
 rw[e2,e1]
 have hmx:max (max x.k k) k=max x.k k:=by omega
 have:aZ.kV x.s.l.length (aZ.kV x.s.l.length x.a (max x.k k)) (max (max x.k k) k)=aZ.kV x.s.l.length x.a (max x.k k):=by
  rw[hmx]
  generalize max x.k k=z
  have e3:aZ.kV x.s.l.length x.a z=if z≤x.a then x.a else if z≤x.s.l.length then z else x.s.l.length:=by unfold aZ.kV;rw[if_pos (by omega)]
  rw[e3]
  unfold aZ.kV
  rw[if_pos (by split<;>(try split)<;>omega)]
  split<;>(try split)<;>(try split)<;>omega
 show(⟨_,_,aZ.kV x.s.l.length (aZ.kV x.s.l.length x.a (max x.k k)) (max (max x.k k) k),max (max x.k k) k,_,_⟩:Ns)=_
 rw[this,hmx]
theorem gB.aBb (h:gB w0 w n p q tp tb F x t i)(hi:i≤200){k:Int}(hk:0≤k∧k≤60){z:Ns}(hz:x=z.fT 0 (eU 1 k))(hpz:∃m pa,m≤500∧eG m z 1 pa)(g:dF n p q F w w' (x.fT 0 (eU 1 k))):
  ∃F',gB w0 w' n p q tp tb F' x t i:=by
 obtain⟨m,pa,hm,hp⟩:=hpz
 have e:=(aiF hp hm hk.1).1
 rw[←hz]at e
 rw[e]at g
 exact h.next (i':=i) g (Nat.le_refl _) h.pr h.k h.ln
theorem gB.flush (h:gB w0 w n p q tp tb F x t i)(hi:i≤100):
  Calls prog 39 #[.pointer (some ⟨n,0,none⟩)] w fun E w'=>E=.returned (.int .i64 0)∧∃F',gB w0 w' n p q tp tb F' x.fl t (i+1):=by
 obtain⟨pa,hp⟩:=h.pr
 have hl:=h.ln
 obtain⟨f1,f2,f3,f4,⟨pa',f5⟩,f6,f7,f8,f9,_⟩:=hp.fl (by omega) (by omega)
 refine(aiS n p q F w x h.nl.nd (hp.tF (by omega)) hp.t3 h.nl.n0 hp.on (by rw[hp.pg]) (by have:=hp.a;simp only[In64];have:=hp.rz.2.1;omega) hp.r f1 ⟨f2.1.mono (by omega) (by omega),by have:=f2.2.1;omega⟩ f2.2.2 f3 f4).mono ?_
 rintro E w' ⟨rfl,k⟩
 refine⟨rfl,h.next (i':=i+1) k (by omega) ⟨pa',f5.mono (by omega)⟩ (by rw[f9];exact h.k) (by rw[f6];omega)⟩
end
theorem anx {b:Nat}{w:World}{v:Value}{cs:List Cw}(h:lh b w v cs):gD w v cs:=⟨h.c.row,fun c hc=>⟨(h.o c hc).is,h.i c hc⟩⟩
theorem aq5 {w:World}{v:Value}{rs:List Cw}{l:List Cm.Cv}{c:Cm.Cv}(h:gD w v rs)(e:aD rs=l++[c]):
  ∃b off ln cap ca k,v=.slice (some ⟨b,off,none⟩) ln cap∧ln=l.length+1∧b<w.heap.size∧w.cell? ⟨b,off+l.length*3,none⟩=some (.int .i64 c.e)∧w.cell? ⟨b,off+l.length*3+1,none⟩=some (.int .i64 c.n)∧w.cell? ⟨b,off+l.length*3+2,none⟩=some (.slice ca c.l.length k)∧bM w (.slice ca c.l.length k) c.l:=by
 have hl:rs.length=l.length+1:=by
  have:=congrArg List.length e
  rw[List.length_append]at this
  unfold aD at this
  rw[List.length_map]at this
  exact this
 obtain⟨b,off,cap,hv,_,_,hb,hc⟩:=h.1.full (by omega)
 obtain⟨d,hd⟩:∃d,rs[l.length]? =some d:=⟨rs[l.length],List.getElem?_eq_getElem (by omega)⟩
 have hdc:d.c=c:=by
  have:=congrArg (fun z=>z[l.length]?) e
  simp only[aD,List.getElem?_map,hd]at this
  simpa using this
 obtain⟨x0,x1,x2⟩:=hc _ d hd
 have ho:=(h.2 d (List.mem_of_getElem? hd)).1
 obtain⟨ca,k,hdv,_,_⟩:=ho.shape
 rw[hdv]at x2 ho
 subst hdc
 exact⟨b,off,rs.length,cap,ca,k,hv,hl,hb,x0,x1,x2,ho⟩
end Go.Proofs.YtlmkaljjocflmaaGreatDoor
