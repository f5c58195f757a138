/- Texts of one layer, one behind the other. -/
import Derived.Test.YtlmkaljjocflmaaGreatDoorAH36
import Derived.Test.YtlmkaljjocflmaaGreatDoorAH18
import Derived.Deep.RegionWith
set_option maxRecDepth 100000
set_option maxHeartbeats 8000000
namespace Go.Proofs.YtlmkaljjocflmaaGreatDoor
open Go.RowKit
set_option linter.unusedVariables false
theorem ahS (e k:Int)(m:Mw)(c:Int)(w:World)(hi:iY w m)(hf:bQ m)(hc:Mm.Ck m.m c)(he:In64 e)(hk:In64 k):
  Calls Tryz.prog 283 #[.int .i64 e,.int .i64 k,mv m] w fun E w'=>E=.returned (.tuple #[.int .i64 (Tak.vR c e k m.m),.bool (Tak.knF c e m.m),.int .i64 (Tak.uq c e m.m)])∧Below w.heap.size w w':=by
 obtain⟨sa,so,hvs,_,_⟩:=hi.s.shape
 obtain⟨ca,co,dD,_,_⟩:=hi.c.1.shape
 obtain⟨w1,hw1,aT,ak,hA⟩:=xC w m hvs dD
 have CK:=hide (aoq e m c w1 (hi.below ak) hf hc)
 rw[iL hvs dD]at CK⊢
 have HE:Hid (∀W,Below w1.heap.size w1 W→Ei W w.heap.size (.int .i64 m.k) (.int .i64 m.e) (.int .u8 m.r) (.int .i64 m.n) (.slice sa m.ss.length so) (.int .i64 m.f) (.int .i64 m.p) (.slice ca m.cs.length co)):=hide fun W hb=>(hA.below hb).lT hvs dD
 obtain⟨p0,p1,p2,p3,p4,p5,p6,p7⟩:=HE.out w1 (Below.refl _ _)
 have B1:=hide ak
 have eF:Tak.knF c e m.m=(decide (Tak.uq c e m.m=0)&&(decide (m.k=3)||(decide (m.k=1)&&decide (m.r=2)))):=rfl
 have eV:Tak.vR c e k m.m=if Tak.uq c e m.m=0 then(if (decide (m.k=3)||(decide (m.k=1)&&decide (m.r=2)))=true then max k m.n else max k 0)else 0:=rfl
 obtain⟨z,hz⟩:∃z,Tak.uq c e m.m=z:=⟨_,rfl⟩
 rw[hz]at eF eV CK
 rw[hz,eF,eV]
 clear hi hf hc hA hvs dD ak eF eV hz
 by_cases h0:z=0
 case neg=>
  rw[decide_eq_false h0,Bool.false_and,if_neg h0]
  have hb:(z !=0)=true:=by simpa using h0
  clear HE h0
  go_enter Tryz.func283,Tryz.ntmps283
  go_wp2_with fail
  refine CK.out.mono ?_
  rintro E w2 ⟨rfl,b2⟩
  have B2:=hide (B1.out.trans (b2.mono B1.out.size))
  clear CK b2
  go_wp2
  go_ret3
  exact⟨rfl,B2.out⟩
 subst h0
 rw[if_pos rfl,show decide ((0:Int)=0)=true from rfl,Bool.true_and]
 by_cases h3:m.k=3
 ·have hb3:(m.k==3)=true:=by simpa using h3
  rw[decide_eq_true h3,Bool.true_or,if_pos rfl]
  clear h3
  by_cases hm:k<m.n
  ·rw[show max k m.n=m.n by omega]
   go_enter Tryz.func283,Tryz.ntmps283
   go_wp2_with fail
   refine CK.out.mono ?_
   rintro E w2 ⟨rfl,b2⟩
   have B2:=hide (B1.out.trans (b2.mono B1.out.size))
   obtain⟨q0,q1,q2,q3,q4,q5,q6,q7⟩:=HE.out w2 b2
   clear CK b2 HE
   go_wp2
   go_ret3
   first|exact⟨rfl,B2.out⟩|exact⟨congrArg (fun z=>Ending.returned (.tuple #[.int .i64 z,.bool true,.int .i64 0])) (show max k m.n=m.n by omega),B2.out⟩
  by_cases hm2:m.n<k
  ·rw[show max k m.n=k by omega]
   go_enter Tryz.func283,Tryz.ntmps283
   go_wp2_with fail
   refine CK.out.mono ?_
   rintro E w2 ⟨rfl,b2⟩
   have B2:=hide (B1.out.trans (b2.mono B1.out.size))
   obtain⟨q0,q1,q2,q3,q4,q5,q6,q7⟩:=HE.out w2 b2
   clear CK b2 HE
   go_wp2
   go_ret3
   first|exact⟨rfl,B2.out⟩|exact⟨congrArg (fun z=>Ending.returned (.tuple #[.int .i64 z,.bool true,.int .i64 0])) (show max k m.n=k by omega),B2.out⟩
  obtain rfl:k=m.n:=by omega
  rw[show max m.n m.n=m.n by omega]
  go_enter Tryz.func283,Tryz.ntmps283
  go_wp2_with fail
  refine CK.out.mono ?_
  rintro E w2 ⟨rfl,b2⟩
  have B2:=hide (B1.out.trans (b2.mono B1.out.size))
  obtain⟨q0,q1,q2,q3,q4,q5,q6,q7⟩:=HE.out w2 b2
  clear CK b2 HE
  go_wp2
  go_ret3
  first|exact⟨rfl,B2.out⟩|exact⟨congrArg (fun z=>Ending.returned (.tuple #[.int .i64 z,.bool true,.int .i64 0])) (show max m.n m.n=m.n by omega),B2.out⟩
 have hb3:(m.k==3)=false:=by simpa using h3
 rw[decide_eq_false h3,Bool.false_or]
 clear h3
 by_cases h4:m.k=1
 ·have hb4:(m.k==1)=true:=by simpa using h4
  rw[decide_eq_true h4,Bool.true_and]
  clear h4
  by_cases h5:m.r=2
  ·have hb5:(m.r==2)=true:=by simpa using h5
   rw[decide_eq_true h5,if_pos rfl]
   clear h5
   by_cases hm:k<m.n
   ·rw[show max k m.n=m.n by omega]
    go_enter Tryz.func283,Tryz.ntmps283
    go_wp2_with fail
    refine CK.out.mono ?_
    rintro E w2 ⟨rfl,b2⟩
    have B2:=hide (B1.out.trans (b2.mono B1.out.size))
    obtain⟨q0,q1,q2,q3,q4,q5,q6,q7⟩:=HE.out w2 b2
    clear CK b2 HE
    go_wp2
    go_ret3
    first|exact⟨rfl,B2.out⟩|exact⟨congrArg (fun z=>Ending.returned (.tuple #[.int .i64 z,.bool true,.int .i64 0])) (show max k m.n=m.n by omega),B2.out⟩
   by_cases hm2:m.n<k
   ·rw[show max k m.n=k by omega]
    go_enter Tryz.func283,Tryz.ntmps283
    go_wp2_with fail
    refine CK.out.mono ?_
    rintro E w2 ⟨rfl,b2⟩
    have B2:=hide (B1.out.trans (b2.mono B1.out.size))
    obtain⟨q0,q1,q2,q3,q4,q5,q6,q7⟩:=HE.out w2 b2
    clear CK b2 HE
    go_wp2
    go_ret3
    first|exact⟨rfl,B2.out⟩|exact⟨congrArg (fun z=>Ending.returned (.tuple #[.int .i64 z,.bool true,.int .i64 0])) (show max k m.n=k by omega),B2.out⟩
   obtain rfl:k=m.n:=by omega
   rw[show max m.n m.n=m.n by omega]
   go_enter Tryz.func283,Tryz.ntmps283
   go_wp2_with fail
   refine CK.out.mono ?_
   rintro E w2 ⟨rfl,b2⟩
   have B2:=hide (B1.out.trans (b2.mono B1.out.size))
   obtain⟨q0,q1,q2,q3,q4,q5,q6,q7⟩:=HE.out w2 b2
   clear CK b2 HE
   go_wp2
   go_ret3
   first|exact⟨rfl,B2.out⟩|exact⟨congrArg (fun z=>Ending.returned (.tuple #[.int .i64 z,.bool true,.int .i64 0])) (show max m.n m.n=m.n by omega),B2.out⟩
  ·have hb5:(m.r==2)=false:=by simpa using h5
   rw[decide_eq_false h5,if_neg (by decide)]
   clear h5
   by_cases hm:k<0
   ·rw[show max k 0=0 by omega]
    go_enter Tryz.func283,Tryz.ntmps283
    go_wp2_with fail
    refine CK.out.mono ?_
    rintro E w2 ⟨rfl,b2⟩
    have B2:=hide (B1.out.trans (b2.mono B1.out.size))
    obtain⟨q0,q1,q2,q3,q4,q5,q6,q7⟩:=HE.out w2 b2
    clear CK b2 HE
    go_wp2
    go_ret3
    first|exact⟨rfl,B2.out⟩|exact⟨congrArg (fun z=>Ending.returned (.tuple #[.int .i64 z,.bool false,.int .i64 0])) (show max k 0=0 by omega),B2.out⟩
   by_cases hm2:0<k
   ·rw[show max k 0=k by omega]
    go_enter Tryz.func283,Tryz.ntmps283
    go_wp2_with fail
    refine CK.out.mono ?_
    rintro E w2 ⟨rfl,b2⟩
    have B2:=hide (B1.out.trans (b2.mono B1.out.size))
    obtain⟨q0,q1,q2,q3,q4,q5,q6,q7⟩:=HE.out w2 b2
    clear CK b2 HE
    go_wp2
    go_ret3
    first|exact⟨rfl,B2.out⟩|exact⟨congrArg (fun z=>Ending.returned (.tuple #[.int .i64 z,.bool false,.int .i64 0])) (show max k 0=k by omega),B2.out⟩
   obtain rfl:k=0:=by omega
   rw[show max (0:Int) 0=0 by omega]
   go_enter Tryz.func283,Tryz.ntmps283
   go_wp2_with fail
   refine CK.out.mono ?_
   rintro E w2 ⟨rfl,b2⟩
   have B2:=hide (B1.out.trans (b2.mono B1.out.size))
   obtain⟨q0,q1,q2,q3,q4,q5,q6,q7⟩:=HE.out w2 b2
   clear CK b2 HE
   go_wp2
   go_ret3
   exact⟨rfl,B2.out⟩
 ·have hb4:(m.k==1)=false:=by simpa using h4
  rw[decide_eq_false h4,Bool.false_and,if_neg (by decide)]
  clear h4
  by_cases hm:k<0
  ·rw[show max k 0=0 by omega]
   go_enter Tryz.func283,Tryz.ntmps283
   go_wp2_with fail
   refine CK.out.mono ?_
   rintro E w2 ⟨rfl,b2⟩
   have B2:=hide (B1.out.trans (b2.mono B1.out.size))
   obtain⟨q0,q1,q2,q3,q4,q5,q6,q7⟩:=HE.out w2 b2
   clear CK b2 HE
   go_wp2
   go_ret3
   first|exact⟨rfl,B2.out⟩|exact⟨congrArg (fun z=>Ending.returned (.tuple #[.int .i64 z,.bool false,.int .i64 0])) (show max k 0=0 by omega),B2.out⟩
  by_cases hm2:0<k
  ·rw[show max k 0=k by omega]
   go_enter Tryz.func283,Tryz.ntmps283
   go_wp2_with fail
   refine CK.out.mono ?_
   rintro E w2 ⟨rfl,b2⟩
   have B2:=hide (B1.out.trans (b2.mono B1.out.size))
   obtain⟨q0,q1,q2,q3,q4,q5,q6,q7⟩:=HE.out w2 b2
   clear CK b2 HE
   go_wp2
   go_ret3
   first|exact⟨rfl,B2.out⟩|exact⟨congrArg (fun z=>Ending.returned (.tuple #[.int .i64 z,.bool false,.int .i64 0])) (show max k 0=k by omega),B2.out⟩
  obtain rfl:k=0:=by omega
  rw[show max (0:Int) 0=0 by omega]
  go_enter Tryz.func283,Tryz.ntmps283
  go_wp2_with fail
  refine CK.out.mono ?_
  rintro E w2 ⟨rfl,b2⟩
  have B2:=hide (B1.out.trans (b2.mono B1.out.size))
  obtain⟨q0,q1,q2,q3,q4,q5,q6,q7⟩:=HE.out w2 b2
  clear CK b2 HE
  go_wp2
  go_ret3
  exact⟨rfl,B2.out⟩
def Ns.kE (x:Ns) (c:Int) (m:Mm.Msg):Ns:=if Tak.knF c x.s.p.e m=true then⟨x.u,x.t,bg.kV x.s.l.length x.a (Tak.vR c x.s.p.e x.k m),Tak.vR c x.s.p.e x.k m,x.m,x.s⟩else x
theorem ah2 (n p q:Nat)(F:Nat→Prop)(w:World)(x:Ns)(h:Nd n p q F w x)(hR:iV x.s)(m:Mw)(c:Int)(hi:iY w m)(hf:bQ m)(hc:Mm.Ck m.m c)(he:In64 x.s.p.e)(hk:In64 x.k):
  Calls Tryz.prog 212 #[.pointer (some ⟨n,0,none⟩),mv m] w fun E w'=>E=.returned (.tuple #[])∧dA n p q F w w' (x.kE c m.m):=by
 have hfd:=fun(a b c d e f:Int) (w:World)=>show(Instr.field 46 (.agg #[.int .i64 a,.int .u8 b,.int .i64 c,.int .u8 d,.int .i64 e,.int .i64 f]) 0).run Tryz.prog w=.ok (.int .i64 a) w by kernel_rfl
 obtain⟨w1,hw1,s1,b1,P1⟩:=au w (mc m) 26
 have h1:=h.below b1
 obtain⟨y,hy⟩:∃y,x.s.p=y:=⟨_,rfl⟩
 have PG:Hid (∀W,Below w1.heap.size w1 W→Calls Tryz.prog 16 #[.pointer (some ⟨p,0,none⟩)] W fun E w'=>E=.returned (.agg #[.int .i64 y.e,.int .u8 y.r,.int .i64 y.a,.int .u8 y.p,.int .i64 y.f,.int .i64 y.b])∧Below w1.heap.size w1 w'):=hide fun W hW=>by
  refine(iZ p q F W x.s (h1.below hW).st hR).mono ?_
  rintro E w' ⟨rfl,b⟩
  rw[hy]
  exact⟨rfl,hW.trans (b.mono hW.size)⟩
 have KN:Hid (∀W,Below w1.heap.size w1 W→Calls Tryz.prog 283 #[.int .i64 y.e,.int .i64 x.k,mv m] W fun E w'=>E=.returned (.tuple #[.int .i64 (Tak.vR c y.e x.k m.m),.bool (Tak.knF c y.e m.m),.int .i64 (Tak.uq c y.e m.m)])∧Below w1.heap.size w1 w'):=hide fun W hW=>by
  refine(ahS y.e x.k m c W ((hi.below b1).below hW) hf hc (hy▸he) hk).mono ?_
  rintro E w' ⟨rfl,b⟩
  exact⟨rfl,hW.trans (b.mono hW.size)⟩
 have EN:Hid (∀W F',Nd n p q F' W ⟨x.u,x.t,x.a,Tak.vR c y.e x.k m.m,x.m,x.s⟩→Calls Tryz.prog 24 #[.pointer (some ⟨p,0,none⟩)] W fun E w'=>E=.returned (.int .i64 x.s.l.length)∧Below W.heap.size W w'):=hide fun W F' hW=>tJ p q F' W x.s hW.st hR
 have CE:Hid (∀W,Below w1.heap.size w1 W→W.cell? ⟨n,3,none⟩=some (.pointer (some ⟨p,0,none⟩))∧W.cell? ⟨n,5,none⟩=some (.int .i64 x.k)∧W.heap[w.heap.size]? =some (.cells (mc m) 26 (0,0))):=hide fun W hW=>⟨(h1.below hW).cs.c3,(h1.below hW).cs.c5,(hW.block _ (by omega)).trans P1⟩
 have ND:Hid (∀W,Below w1.heap.size w1 W→Nd n p q F W x∧Below w.heap.size w W):=hide fun W hW=>⟨h1.below hW,b1.trans (hW.mono (by omega))⟩
 have AK:=hide (fun W=>ahC x.s.l.length x.a (Tak.vR c y.e x.k m.m) W)
 have HL:Hid (x.kE c m.m=if Tak.knF c y.e m.m=true then⟨x.u,x.t,bg.kV x.s.l.length x.a (Tak.vR c y.e x.k m.m),Tak.vR c y.e x.k m.m,x.m,x.s⟩else x):=hide (by unfold Ns.kE;rw[hy])
 obtain⟨sa,so,hvs,_,_⟩:=hi.s.shape
 obtain⟨ca,co,dD,_,_⟩:=hi.c.1.shape
 have HZ:=hide h.n0
 generalize x.kE c m.m=lx at*
 generalize Tak.vR c y.e x.k m.m=kv at*
 generalize Tak.knF c y.e m.m=kf at*
 generalize Tak.uq c y.e m.m=ke at*
 obtain⟨av,hav⟩:∃z,bg.kV x.s.l.length x.a kv=z:=⟨_,rfl⟩
 rw[hav]at AK HL
 generalize bg.oE x.s.l.length x.a=oe at*
 generalize (x.s.l.length:Int)=en at*
 obtain⟨xk,hxk⟩:∃z,x.k=z:=⟨_,rfl⟩
 rw[hxk]at KN CE
 obtain⟨mk,me,mr,mn,mvs,mss,mf,mp,mvc,mcs⟩:=m
 dsimp only at hvs dD
 subst hvs dD
 unfold mv at KN⊢
 unfold mc at CE hw1
 dsimp only at KN CE hw1⊢
 clear h h1 hR hi hf hc he hk hy hav hxk P1 b1 s1
 obtain⟨c3,c5,M1⟩:=CE.out w1 (Below.refl _ _)
 obtain⟨m0,m1,m2,m3,m4,m5,m6,m7⟩:=df M1
 have P0:=hide (PG.out w1.drew (Below.refl _ _).drew)
 clear M1
 go_enter Tryz.func212,Tryz.ntmps212
 go_wp2_with fail
 go_region_held3 (fun w'=>w'.cell? ⟨n,3,none⟩=some (.pointer (some ⟨p,0,none⟩))∧w'.cell? ⟨n,5,none⟩=some (.int .i64 xk)∧w'.cell? ⟨w.heap.size,0,none⟩=some (.int .i64 mk)∧w'.cell? ⟨w.heap.size,1,none⟩=some (.int .i64 me)∧w'.cell? ⟨w.heap.size,2,none⟩=some (.int .u8 mr)∧w'.cell? ⟨w.heap.size,3,none⟩=some (.int .i64 mn)∧w'.cell? ⟨w.heap.size,4,none⟩=some (.slice sa mss.length so)∧w'.cell? ⟨w.heap.size,5,none⟩=some (.int .i64 mf)∧w'.cell? ⟨w.heap.size,6,none⟩=some (.int .i64 mp)∧w'.cell? ⟨w.heap.size,7,none⟩=some (.slice ca mcs.length co)) (first|exact⟨c3,c5,m0,m1,m2,m3,m4,m5,m6,m7⟩|exact⟨d3,d5,e2.c0,e2.c1,e2.c2,e2.c3,e2.c4,e2.c5,e2.c6,e2.c7⟩|exact⟨f3,f5,e3.c0,e3.c1,e3.c2,e3.c3,e3.c4,e3.c5,e3.c6,e3.c7⟩|go_keep)
  (first
  |(go_at_call 283;refine(KN.out _ B2.out).mono ?_;rintro E w3 ⟨rfl,b3⟩;obtain⟨f3,f5,M3⟩:=CE.out w3 b3;have e3:=df M3;have B3:=hide b3;clear b3 M3)
  |(go_at_call 16;refine P0.out.mono ?_;rintro E w2 ⟨rfl,b2⟩;obtain⟨d3,d5,M2⟩:=CE.out w2 b2;have e2:=df M2;have B2:=hide b2;clear b2 M2))
 obtain⟨N3,iw⟩:=ND.out w3 B3.out
 cases kf with
 |false=>
  have RR:Hid (dA n p q F w w3 lx):=hide (by
   have e:=HL.out
   rw[if_neg (by simp)]at e
   rw[e]
   exact(dA.same N3 (Below.refl _ _)).ahead iw)
  clear N3 iw ND AK EN HL PG KN CE P0
  go_wp2
  first|go_end0|refine bodyPost_ret (results_none rfl _ _ _) rfl ?_
  exact⟨rfl,RR.out⟩
 |true=>
  have HL:Hid (lx=⟨x.u,x.t,av,kv,x.m,x.s⟩):=hide (by
   have e:=HL.out
   rw[if_pos rfl]at e
   exact e)
  obtain⟨V,hV,bV,gV,fV⟩:=qI N3.blk 5 (.int .i64 kv)
  have K4:=N3.put (y:=⟨x.u,x.t,x.a,kv,x.m,x.s⟩) HZ.out gV bV rfl
  have v5:w3.cell? ⟨n,5,none⟩=some (.int .i64 x.k):=N3.cs.c5
  obtain⟨F4,N4,o4,f4⟩:=K4
  have a3:=N4.cs.c3
  have a4:V.cell? ⟨n,4,none⟩=some (.int .i64 x.a):=N4.cs.c4
  have dV:Below V.heap.size V V.drew:=(Below.refl _ _).drew
  have E4:=hide (EN.out V.drew F4 (N4.below dV))
  have X4:=hide (And.intro N4 (And.intro o4 f4))
  have B03:=hide iw
  clear N3 iw N4 o4 f4 bV gV dV ND EN PG KN CE P0 c3 c5 m0 m1 m2 m3 m4 m5 m6 m7 d3 d5 e2 f3 f5 e3 B2 B3
  obtain⟨xa,hxa⟩:∃z,x.a=z:=⟨_,rfl⟩
  rw[hxa]at AK a4
  have FIN:Hid (∀W5,Below V.heap.size V W5→∃V5,W5.setCell ⟨n,4,none⟩ (.int .i64 av)=V5∧W5.cell? ⟨n,4,none⟩=some (.int .i64 xa)∧W5.cell? ⟨n,3,none⟩=some (.pointer (some ⟨p,0,none⟩))∧W5.frozen? ⟨n,4,none⟩=false∧Hid (dA n p q F w V5 lx)):=hide fun W5 b5=>by
   obtain⟨N4,o4,f4⟩:=X4.out
   have N5:=N4.below b5
   obtain⟨V5,uK,xY,rF,fV5⟩:=qI N5.blk 4 (.int .i64 av)
   have K5:=N5.put (y:=⟨x.u,x.t,av,kv,x.m,x.s⟩) HZ.out rF xY rfl
   refine⟨V5,uK,hxa▸N5.cs.c4,N5.cs.c3,fV5,hide ?_⟩
   rw[HL.out]
   exact(dA.join o4 f4 (K5.ahead b5)).ahead B03.out
  clear X4 HL B03 HZ hxa
  go_wp2_with fail
  go_region_with (first|(go_at_call 284;refine(AK.out _).mono ?_;rintro E w6 ⟨rfl,rfl⟩)|(go_at_call 24;refine E4.out.mono ?_;rintro E w5 ⟨rfl,b5⟩;obtain⟨V5,uK,g4,g3,ff,RR⟩:=FIN.out w5 ((Below.refl V.heap.size V).drew.trans b5);clear b5))
  all_goals
   go_wp2
   first|go_end0|refine bodyPost_ret (results_none rfl _ _ _) rfl ?_
   exact⟨rfl,RR.out⟩
end Go.Proofs.YtlmkaljjocflmaaGreatDoor
