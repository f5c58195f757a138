/- Texts. -/
import Derived.Test.YtlmkaljjocflmaaGreatDoorBH17
import Derived.Test.YtlmkaljjocflmaaGreatDoorBZRqt
import Derived.Test.YtlmkaljjocflmaaGreatDoorBH23
import Derived.Test.YtlmkaljjocflmaaGreatDoorBH3
import Derived.Test.YtlmkaljjocflmaaGreatDoorBH13
import Derived.Deep.CutRange
import Derived.Test.YtlmkaljjocflmaaGreatDoorBH27
import Derived.Test.YtlmkaljjocflmaaGreatDoorBH20
import Derived.Test.YtlmkaljjocflmaaGreatDoorBH22
import Derived.Test.YtlmkaljjocflmaaGreatDoorBM3
import Derived.Test.YtlmkaljjocflmaaGreatDoorBH12
set_option maxRecDepth 100000
set_option maxHeartbeats 8000000
set_option linter.unusedVariables false
open Go.Proofs.Tryz
namespace Go.Proofs.YtlmkaljjocflmaaGreatDoor
open Go.RowKit
def Ns.bar (x:Ns) (l:List Bm.Ov):Int:=if Bm.cO l≠0 then Bm.cO l else if Rol.vW x.s.p≠0 then Rol.vW x.s.p else aZ.ad x.s.l.length x.a x.t
def Ns.com (x:Ns) (l:List Bm.Ov):Cm.Cv:=⟨x.s.p.e,x.s.l.length+1,l⟩
def Ns.kP (x:Ns) (l:List Bm.Ov):Int:=if x.bar l≠0 then x.bar l else(Rst.add x.s [x.com l]).1
def Ns.co (x:Ns) (l:List Bm.Ov):Ns:=if x.bar l≠0 then x else⟨x.u,x.t,x.a,x.k,x.m,(Rst.add x.s [x.com l]).2⟩
theorem ahn (n p q:Nat)(F:Nat→Prop)(w:World)(x:Ns)(h:Nd n p q F w x)(hR:iY x.s)(h3:T3 x.s.d)(h0:¬F 0)(v:Value)(l:List Bm.Ov)(hv:∀W,Out F w W→bM W v l)(hf:dZ l)(hl:l.length*40≤140737488351232)(he:In64 x.s.p.e):
  Calls prog 74 #[.pointer (some ⟨n,0,none⟩),v] w fun E w'=>E=.returned (.tuple #[.int .i64 (if x.kP l=0 then x.s.l.length+1 else 0),.int .i64 (x.kP l)])∧dF n p q F w w' (x.co l):=by
 have BC:=hide (kN v l w (hv w (Out.refl _ _)) hf (by omega))
 obtain⟨va,vn,vk,rfl⟩:∃a n k,v=.slice a n k:=by
  obtain⟨a,k,e,_,_⟩:=(hv w (Out.refl _ _)).shape
  exact⟨_,_,_,e⟩
 by_cases hb:Bm.cO l≠0
 ·have acp:x.bar l=Bm.cO l:=by unfold Ns.bar;rw[if_pos hb]
  have e1:x.kP l=Bm.cO l:=by unfold Ns.kP;rw[acp,if_pos hb]
  have e2:x.co l=x:=by unfold Ns.co;rw[acp,if_pos hb]
  have SM:Hid (∀W,Below w.heap.size w W→dF n p q F w W x):=hide fun W hW=>dF.same h hW
  rw[e1,e2,if_neg hb]
  have hb':(Bm.cO l==0)=false:=by simpa using hb
  generalize Bm.cO l=z at*
  clear h hR h3 h0 hv hf hl he acp e1 e2 hb
  go_enter func74,ntmps74
  go_wp2_with fail
  refine BC.out.mono ?_
  rintro E w1 ⟨rfl,b1⟩
  have RR:=hide (SM.out w1 b1)
  clear BC SM b1
  go_wp2
  go_ret2
  exact⟨rfl,RR.out⟩
 have hb:Bm.cO l=0:=Classical.not_not.1 hb
 rw[hb]at BC
 have hlen:=hR.2
 obtain⟨en,hen⟩:∃en:Int,(x.s.l.length:Int)=en:=⟨_,rfl⟩
 have hen0:0≤en∧en≤2000:=by omega
 obtain⟨y,hy⟩:∃y,x.s.p=y:=⟨_,rfl⟩
 have HV:vp y=.agg #[.int .i64 y.e,.int .u8 y.r,.int .i64 y.a,.int .u8 y.p,.int .i64 y.f,.int .i64 y.b]:=rfl
 have PG0:Hid (∀W0 W,Below w.heap.size w W0→Below W0.heap.size W0 W→Calls prog 16 #[.pointer (some ⟨p,0,none⟩)] W fun E w'=>E=.returned (vp y)∧Below W.heap.size W w'):=hide fun W0 W hW0 hW=>by
  rw[←hy]
  exact jA p q F W x.s ((h.below hW0).below hW).st hR
 have EN0:Hid (∀W0 W,Below w.heap.size w W0→Below W0.heap.size W0 W→Calls prog 24 #[.pointer (some ⟨p,0,none⟩)] W fun E w'=>E=.returned (.int .i64 en)∧Below W.heap.size W w'):=hide fun W0 W hW0 hW=>by
  rw[←hen]
  exact vR p q F W x.s ((h.below hW0).below hW).st hR
 have SX0:Hid (∀W0 W,Below w.heap.size w W0→Below W0.heap.size W0 W→W.cell? ⟨n,3,none⟩=some (.pointer (some ⟨p,0,none⟩))):=hide fun W0 W hW0 hW=>((h.below hW0).below hW).cs.c3
 have C0:Hid (∀W,Below w.heap.size w W→W.cell? ⟨n,1,none⟩=some (.int .i64 x.t)∧W.cell? ⟨n,3,none⟩=some (.pointer (some ⟨p,0,none⟩))∧W.cell? ⟨n,4,none⟩=some (.int .i64 x.a)∧fU W):=hide fun W hW=>⟨(h.below hW).cs.c1,(h.below hW).cs.c3,(h.below hW).cs.c4,(h.below hW).st.gQ⟩
 have xL:ig y:=by rw[←hy];exact h.st.fit
 have WR:Hid (∀W,fU W→Calls prog 152 #[vp y] W fun E w'=>E=.returned (.int .i64 (Rol.vW y))∧Below W.heap.size W w'):=hide fun W hm=>ahj y W xL hm
 have LA:Hid (∀W,Calls prog 153 #[.int .i64 en,.int .i64 x.a,.int .i64 x.t] W fun E w'=>E=.returned (.int .i64 (aZ.ad en x.a x.t))∧W=w'):=hide fun W=>ajh en x.a x.t W
 have AD:Hid (∀W V,Below w.heap.size w W→W.alloc (.cells #[.int .i64 y.e,.int .i64 (en+1),.slice va vn vk] 35)=V→Calls prog 56 #[.pointer (some ⟨p,0,none⟩),.slice (some ⟨W.heap.size,0,none⟩) 1 1] V fun E w'=>E=.returned (.int .i64 (Rst.add x.s [x.com l]).1)∧dF n p q F w w' ⟨x.u,x.t,x.a,x.k,x.m,(Rst.add x.s [x.com l]).2⟩∧∀g,w.heap.size≤g→g<W.heap.size→w'.heap[g]? =W.heap[g]?):=hide fun W V hW hV=>by
  obtain⟨V',hV',iy,bg,jm⟩:=kE 35 W #[.int .i64 y.e,.int .i64 (en+1),.slice va vn vk] 1 [⟨y.e,en+1,.slice va vn vk,l⟩] rfl rfl (by simp[maxLen])
  obtain rfl:V'=V:=hV'.symm.trans hV
  have bV:=hW.trans (bg.mono hW.size)
  have hz:=hW.size
  have NV:=h.below bV
  have hIC:∀W',Out F V' W'→gD W' (.slice (some ⟨W.heap.size,0,none⟩) 1 1) [⟨y.e,en+1,.slice va vn vk,l⟩]:=fun W' hW'=>by
   have r1:bD 35 W.heap.size W' (.slice (some ⟨W.heap.size,0,none⟩) 1 1) [⟨y.e,en+1,.slice va vn vk,l⟩]:=dH jm fun g hg=>hW'.block g (World.ownsRow.lt jm g hg).2 fun hF=>by
    have a1:=(World.ownsRow.lt jm g hg).1
    have a2:=h.st.lt g hF
    omega
   refine⟨r1.row,fun c hc=>?_⟩
   rw[List.mem_singleton.1 hc]
   exact⟨hv W' ((Out.of_below bV).trans hW' fun g e=>.inl e),hy▸he,by simp[In64];omega⟩
  refine(arj p q F V' x.s NV.st hR ⟨h3,h0⟩ _ [⟨y.e,en+1,.slice va vn vk,l⟩] hIC (fun c hc=>by rw[List.mem_singleton.1 hc];exact⟨hf,by show l.length*40≤_;omega⟩) (by simp)).mono ?_
  rintro E w' ⟨rfl,k⟩
  have ecv:aD [(⟨y.e,en+1,.slice va vn vk,l⟩:Cw)]=[x.com l]:=by rw[←hy,←hen];rfl
  rw[ecv]at k⊢
  have k':=k
  obtain⟨F',k1,k2,k3⟩:=k'
  refine⟨rfl,(NV.step k).ahead bV,fun g g1 g2=>?_⟩
  rw[k2.block g (by omega) fun e=>by have:=h.st.lt g e;omega]
  exact bg.block g g2
 have SM:Hid (∀W,Below w.heap.size w W→dF n p q F w W x):=hide fun W hW=>dF.same h hW
 have acp:x.bar l=if Rol.vW y≠0 then Rol.vW y else aZ.ad en x.a x.t:=by
  unfold Ns.bar
  rw[if_neg (by rw[hb];simp),hy,hen]
 have HX:Hid (x.bar l=if Rol.vW y≠0 then Rol.vW y else aZ.ad en x.a x.t):=hide acp
 have HC:Hid (x.kP l=(if x.bar l≠0 then x.bar l else(Rst.add x.s [x.com l]).1)∧x.co l=if x.bar l≠0 then x else⟨x.u,x.t,x.a,x.k,x.m,(Rst.add x.s [x.com l]).2⟩):=hide ⟨rfl,rfl⟩
 generalize x.kP l=ce at*
 generalize x.co l=cx at*
 rw[hen]
 rw[HV]at PG0 WR
 generalize x.bar l=br at*
 generalize Rst.add x.s [x.com l]=ad at*
 obtain⟨ae,asx⟩:=ad
 have hwr:IntKind.i64.wrap (en+1)=en+1:=aQ _ (by omega) (by omega)
 obtain⟨xt,hxt⟩:∃z,x.t=z:=⟨_,rfl⟩
 obtain⟨xa,hxa⟩:∃z,x.a=z:=⟨_,rfl⟩
 obtain⟨aw,haw⟩:∃z,Rol.vW y=z:=⟨_,rfl⟩
 obtain⟨al,hal⟩:∃z,aZ.ad en xa xt=z:=⟨_,rfl⟩
 rw[hxt,hxa]at C0 LA HX
 rw[hal]at LA HX
 rw[haw]at WR HX
 obtain⟨cn,hcn⟩:∃z,(if ce=0 then en+1 else 0)=z:=⟨_,rfl⟩
 rw[hcn]
 have HN:=hide hcn
 clear h hR h3 h0 hv hf hl he hb hlen hen hy xL acp HV hxt hxa haw hal hcn
 go_enter func74,ntmps74
 go_wp2_with fail
 refine BC.out.mono ?_
 rintro E w1 ⟨rfl,b1⟩
 have B1:=hide b1
 have PG:Hid (∀W,Below w1.heap.size w1 W→Calls prog 16 #[.pointer (some ⟨p,0,none⟩)] W fun E w'=>E=.returned (.agg #[.int .i64 y.e,.int .u8 y.r,.int .i64 y.a,.int .u8 y.p,.int .i64 y.f,.int .i64 y.b])∧Below W.heap.size W w'):=hide fun W hW=>PG0.out w1 W B1.out hW
 have EN:Hid (∀W,Below w1.heap.size w1 W→Calls prog 24 #[.pointer (some ⟨p,0,none⟩)] W fun E w'=>E=.returned (.int .i64 en)∧Below W.heap.size W w'):=hide fun W hW=>EN0.out w1 W B1.out hW
 have SX:Hid (∀W,Below w1.heap.size w1 W→W.cell? ⟨n,3,none⟩=some (.pointer (some ⟨p,0,none⟩))):=hide fun W hW=>SX0.out w1 W B1.out hW
 clear BC b1 PG0 EN0 SX0
 go_wp2_with fail
 go_cut [7,8]from 18 to 29 (fun v7 v8 wx=>∃X,v7=.pointer (some ⟨X,0,none⟩)∧v8=.int .i64 en∧Hid (wx.heap[X]? =some (.cells (cp y) 46 (0,0))∧Below w1.heap.size w1 wx))
 case first=>
  obtain⟨W0,hW0⟩:∃x,w1.drew=x:=⟨_,rfl⟩
  have D0:Hid (Below w1.heap.size w1 W0):=hide (by rw[←hW0];exact(Below.refl _ _).drew)
  refine kM (ops:=(aB 4 f74)) (S:=fun W=>W.cell? ⟨n,3,none⟩=some (.pointer (some ⟨p,0,none⟩))) (by kernel_rfl) an6 ?_
  rw[ata,hW0]
  refine bu apV (SX.out _ D0.out) ?_
  refine bu aqL (SX.out _ D0.out) ?_
  refine bu aps (SX.out _ D0.out) ?_
  refine bu apc (SX.out _ D0.out) ?_
  refine bu anq (SX.out _ D0.out) ?_
  refine bu alO (SX.out _ D0.out) ?_
  refine bu alX (SX.out _ D0.out) ?_
  refine bu ajx (SX.out _ D0.out) ?_
  refine bu aje (SX.out _ D0.out) ?_
  refine bu ahu (SX.out _ D0.out) ?_
  refine qG akS ?_ ?_
  ·refine aJ rfl (by rfl) (fun K hK=>?_)
   go_simp
   refine(PG.out _ D0.out).mono ?_
   rintro E U1 ⟨rfl,bU1⟩
   have D1:=hide (D0.out.trans (bU1.mono D0.out.size))
   clear bU1
   go_wp2_with fail
   refine bf hK (SX.out _ D1.out) ?_
   clear hK K
   refine qG anJ ?_ ?_
   ·refine aJ rfl (by rfl) (fun K hK=>?_)
    go_simp
    refine(EN.out _ D1.out).mono ?_
    rintro E U2 ⟨rfl,bU2⟩
    have D2:=hide (D1.out.trans (bU2.mono D1.out.size))
    clear bU2
    go_wp2_with fail
    refine bf hK (SX.out _ D2.out) ?_
    clear hK K
    refine dm alp ?_
    obtain⟨U3,hU3,sU3,bU3,qU3⟩:=au U2 #[.int .i64 0,.int .u8 0,.int .i64 0,.int .u8 0,.int .i64 0,.int .i64 0] 46
    have D3:=hide (D2.out.trans (bU3.mono D2.out.size))
    have Q3:=hide qU3
    have GX:=hide (D2.out.size)
    clear bU3 qU3 sU3
    refine aJ rfl (by rfl) (fun K hK=>?_)
    go_simp
    go_wp2_with fail
    refine bf hK (SX.out _ D3.out) ?_
    clear hK K
    refine dm xz ?_
    obtain⟨V,hV,pV,gV,⟨y0,y1,y2,y3,y4,y5⟩,fr,zz⟩:=gN Q3.out (.int .i64 y.e) (.int .u8 y.r) (.int .i64 y.a) (.int .u8 y.p) (.int .i64 y.f) (.int .i64 y.b)
    have f0:=fr 0;have f1:=fr 1;have f2:=fr 2;have f3:=fr 3;have f4:=fr 4;have f5:=fr 5
    have DV:=hide (aG D3.out gV GX.out D3.out.size)
    have PV:=hide pV
    clear gV pV fr zz
    refine aJ rfl (by rfl) (fun K hK=>?_)
    go_simp
    go_wp2_with fail
    refine bf hK (SX.out _ DV.out) ?_
    clear hK K
    refine bu oH (SX.out _ DV.out) ?_
    refine cZ acg ?_
    go_wp2_with fail
    go_meet
    case rel=>exact⟨_,rfl,rfl,hide ⟨PV.out,DV.out⟩⟩
   ·obtain⟨U5,hU5,sU5,bU5,qU5⟩:=au U1 #[.int .i64 0,.int .u8 0,.int .i64 0,.int .u8 0,.int .i64 0,.int .i64 0] 46
    have D5:=hide (D1.out.trans (bU5.mono D1.out.size))
    have Q5:=hide qU5
    have GX:=hide (D1.out.size)
    clear bU5 qU5 sU5
    refine aJ rfl (by rfl) (fun K hK=>?_)
    go_simp
    go_wp2_with fail
    refine bf hK (SX.out _ D5.out) ?_
    clear hK K
    refine dm acY ?_
    refine aJ rfl (by rfl) (fun K hK=>?_)
    go_simp
    refine(EN.out _ D5.out).mono ?_
    rintro E U6 ⟨rfl,bU6⟩
    have D6:=hide (D5.out.trans (bU6.mono D5.out.size))
    have Q6:=hide ((bU6.block _ (ay Q5.out)).trans Q5.out)
    clear bU6
    go_wp2_with fail
    refine bf hK (SX.out _ D6.out) ?_
    clear hK K
    refine dm xz ?_
    obtain⟨V,hV,pV,gV,⟨y0,y1,y2,y3,y4,y5⟩,fr,zz⟩:=gN Q6.out (.int .i64 y.e) (.int .u8 y.r) (.int .i64 y.a) (.int .u8 y.p) (.int .i64 y.f) (.int .i64 y.b)
    have f0:=fr 0;have f1:=fr 1;have f2:=fr 2;have f3:=fr 3;have f4:=fr 4;have f5:=fr 5
    have DV:=hide (aG D6.out gV GX.out D6.out.size)
    have PV:=hide pV
    clear gV pV fr zz
    refine aJ rfl (by rfl) (fun K hK=>?_)
    go_simp
    go_wp2_with fail
    refine bf hK (SX.out _ DV.out) ?_
    clear hK K
    refine bu oH (SX.out _ DV.out) ?_
    refine cZ acg ?_
    go_wp2_with fail
    go_meet
    case rel=>exact⟨_,rfl,rfl,hide ⟨PV.out,DV.out⟩⟩
  ·obtain⟨U8,hU8,sU8,bU8,qU8⟩:=au W0 #[.int .i64 0,.int .u8 0,.int .i64 0,.int .u8 0,.int .i64 0,.int .i64 0] 46
   have D8:=hide (D0.out.trans (bU8.mono D0.out.size))
   have Q8:=hide qU8
   have GX:=hide (D0.out.size)
   clear bU8 qU8 sU8
   refine aJ rfl (by rfl) (fun K hK=>?_)
   go_simp
   go_wp2_with fail
   refine bf hK (SX.out _ D8.out) ?_
   clear hK K
   refine dm anl ?_
   refine aJ rfl (by rfl) (fun K hK=>?_)
   go_simp
   refine(PG.out _ D8.out).mono ?_
   rintro E U9 ⟨rfl,bU9⟩
   have D9:=hide (D8.out.trans (bU9.mono D8.out.size))
   have Q9:=hide ((bU9.block _ (ay Q8.out)).trans Q8.out)
   clear bU9
   go_wp2_with fail
   refine bf hK (SX.out _ D9.out) ?_
   clear hK K
   refine dm acY ?_
   refine aJ rfl (by rfl) (fun K hK=>?_)
   go_simp
   refine(EN.out _ D9.out).mono ?_
   rintro E U10 ⟨rfl,aoh⟩
   have D10:=hide (D9.out.trans (aoh.mono D9.out.size))
   have Q10:=hide ((aoh.block _ (ay Q9.out)).trans Q9.out)
   clear aoh
   go_wp2_with fail
   refine bf hK (SX.out _ D10.out) ?_
   clear hK K
   refine dm xz ?_
   obtain⟨V,hV,pV,gV,⟨y0,y1,y2,y3,y4,y5⟩,fr,zz⟩:=gN Q10.out (.int .i64 y.e) (.int .u8 y.r) (.int .i64 y.a) (.int .u8 y.p) (.int .i64 y.f) (.int .i64 y.b)
   have f0:=fr 0;have f1:=fr 1;have f2:=fr 2;have f3:=fr 3;have f4:=fr 4;have f5:=fr 5
   have DV:=hide (aG D10.out gV GX.out D10.out.size)
   have PV:=hide pV
   clear gV pV fr zz
   refine aJ rfl (by rfl) (fun K hK=>?_)
   go_simp
   go_wp2_with fail
   refine bf hK (SX.out _ DV.out) ?_
   clear hK K
   refine bu oH (SX.out _ DV.out) ?_
   refine cZ acg ?_
   go_wp2_with fail
   go_meet
   case rel=>exact⟨_,rfl,rfl,hide ⟨PV.out,DV.out⟩⟩
 case rest=>
 obtain⟨X,rfl,rfl,vT⟩:=hcut
 obtain⟨P1,b1⟩:=vT.out
 unfold cp at P1
 obtain⟨g0,g1,g2,g3,g4,g5⟩:=aR P1
 have b0:=B1.out.trans (b1.mono B1.out.size)
 obtain⟨c1,c3,c4,hm⟩:=C0.out wc b0
 have W1:=hide (WR.out wc hm)
 have B0:=hide b0
 have P1:=hide P1
 clear vT b1 b0 hm WR PG EN SX B1
 go_wp2_with fail
 refine W1.out.mono ?_
 rintro E w2 ⟨rfl,b2⟩
 have B2:=hide (B0.out.trans (b2.mono B0.out.size))
 have P2:=hide ((b2.block X (ay P1.out)).trans P1.out)
 clear W1 B0 P1 b2 c1 c3 c4 g0 g1 g2 g3 g4 g5
 by_cases hw:aw≠0
 ·have RR:Hid (ce=aw∧cx=x):=hide (by
   have e:=HX.out
   rw[if_pos hw]at e
   rw[HC.out.1,HC.out.2,e,if_pos hw,if_pos hw]
   exact⟨rfl,rfl⟩)
  have R2:=hide (SM.out w2 B2.out)
  have hw':(aw==0)=false:=by simpa using hw
  have hce:ce≠0:=by rw[RR.out.1];exact hw
  have FI:Hid (Ending.returned (.tuple #[.int .i64 0,.int .i64 aw])=.returned (.tuple #[.int .i64 cn,.int .i64 ce])∧dF n p q F w w2 cx):=hide ⟨by rw[←HN.out,if_neg hce,RR.out.1],by rw[RR.out.2];exact R2.out⟩
  clear hw hce
  go_wp2
  go_ret2
  exact FI.out
 obtain rfl:aw=0:=Classical.not_not.1 hw
 have HX:Hid (br=al):=hide (by have e:=HX.out;rw[if_neg (by simp)]at e;exact e)
 obtain⟨c1,c3,c4,hm⟩:=C0.out w2 B2.out
 clear hw hm
 go_wp2_with fail
 go_region_held3 (fun w'=>w'.cell? ⟨n,1,none⟩=some (.int .i64 xt)∧w'.cell? ⟨n,4,none⟩=some (.int .i64 xa)) (first|exact⟨c1,c4⟩|go_keep)
  (first|(go_at_call 153;refine(LA.out _).mono ?_;rintro E w3 ⟨rfl,rfl⟩))
 clear LA c1 c4
 by_cases hw:al≠0
 ·have RR:Hid (ce=al∧cx=x):=hide (by
   rw[HC.out.1,HC.out.2,HX.out,if_pos hw,if_pos hw]
   exact⟨rfl,rfl⟩)
  have R2:=hide (SM.out w2.drew B2.out.drew)
  have hw':(al==0)=false:=by simpa using hw
  have hce:ce≠0:=by rw[RR.out.1];exact hw
  have FI:Hid (Ending.returned (.tuple #[.int .i64 0,.int .i64 al])=.returned (.tuple #[.int .i64 cn,.int .i64 ce])∧dF n p q F w w2.drew cx):=hide ⟨by rw[←HN.out,if_neg hce,RR.out.1],by rw[RR.out.2];exact R2.out⟩
  clear hw hce
  go_wp2
  go_ret2
  exact FI.out
 obtain rfl:al=0:=Classical.not_not.1 hw
 have RR:Hid (ce=ae∧cx=⟨x.u,x.t,x.a,x.k,x.m,asx⟩):=hide (by
  rw[HC.out.1,HC.out.2,HX.out,if_neg (by simp),if_neg (by simp)]
  exact⟨rfl,rfl⟩)
 obtain⟨w3,hw3⟩:∃z,w2.drew=z:=⟨_,rfl⟩
 have B3:Below w.heap.size w w3:=by rw[←hw3];exact B2.out.drew
 have P3:w3.heap[X]? =some (.cells #[.int .i64 y.e,.int .u8 y.r,.int .i64 y.a,.int .u8 y.p,.int .i64 y.f,.int .i64 y.b] 46 (0,0)):=by rw[←hw3];exact P2.out
 have c3:w3.cell? ⟨n,3,none⟩=some (.pointer (some ⟨p,0,none⟩)):=by rw[←hw3];exact c3
 rw[hw3]
 obtain⟨g0,g1,g2,g3,g4,g5⟩:=aR P3
 obtain⟨w4,hw4,avB,s4,b4,P4,k0,k1,k2⟩:=eY w3 35 (.int .i64 0) (.int .i64 0) (.slice none 0 0) (.int .i64 y.e) (.int .i64 (en+1)) (.slice va vn vk)
 have B4:=B3.trans (b4.mono B3.size)
 obtain⟨_,c3',_⟩:=C0.out w4 B4
 obtain⟨V,hV,sV,bV,PV⟩:=au w4.drew #[.int .i64 y.e,.int .i64 (en+1),.slice va vn vk] 35
 have A5:=AD.out w4.drew V B4.drew hV
 have z3:=B3.size
 have A6:Hid (Calls prog 56 #[.pointer (some ⟨p,0,none⟩),.slice (some ⟨w4.heap.size,0,none⟩) 1 1] V fun E w'=>E=.returned (.int .i64 ae)∧Hid (dF n p q F w w' ⟨x.u,x.t,x.a,x.k,x.m,asx⟩)∧w'.heap[w3.heap.size]? =some (.cells #[.int .i64 y.e,.int .i64 (en+1),.slice va vn vk] 35 (0,0))∧w'.cell? ⟨n,3,none⟩=some (.pointer (some ⟨p,0,none⟩))):=hide (by
  refine A5.mono ?_
  rintro E w' ⟨rfl,k,kk⟩
  have:=k
  obtain⟨F',N,_⟩:=this
  exact⟨rfl,hide k,(kk w3.heap.size (by omega) (by show _<w4.heap.size;omega)).trans P4,N.cs.c3⟩)
 have cV:V.cell? ⟨n,3,none⟩=some (.pointer (some ⟨p,0,none⟩)):=(C0.out V (B4.drew.trans (bV.mono B4.size))).2.1
 have kV:V.heap[w3.heap.size]? =some (.cells #[.int .i64 y.e,.int .i64 (en+1),.slice va vn vk] 35 (0,0)):=(bV.block _ (by show _<w4.heap.size;omega)).trans P4
 have FIN:Hid (∀W,dF n p q F w W ⟨x.u,x.t,x.a,x.k,x.m,asx⟩→Ending.returned (.tuple #[.int .i64 (if ae=0 then en+1 else 0),.int .i64 ae])=.returned (.tuple #[.int .i64 cn,.int .i64 ce])∧dF n p q F w W cx):=hide fun W k=>by rw[←HN.out,RR.out.1,RR.out.2];exact⟨rfl,k⟩
 clear AD A5 C0 SM HX HC RR B2 P2 P3 B3 b4 B4 P4 s4 sV bV PV z3 hw3 hw c3
 go_wp2_with fail
 go_region_held3 (fun w'=>w'.cell? ⟨n,3,none⟩=some (.pointer (some ⟨p,0,none⟩))∧w'.cell? ⟨w3.heap.size,0,none⟩=some (.int .i64 y.e)∧w'.cell? ⟨w3.heap.size,1,none⟩=some (.int .i64 (en+1))∧w'.cell? ⟨w3.heap.size,2,none⟩=some (.slice va vn vk)) (first|exact⟨c3',k0,k1,k2⟩|exact⟨cV,ai kV 0 rfl,ai kV 1 rfl,ai kV 2 rfl⟩|exact⟨c6,ai k6 0 rfl,ai k6 1 rfl,ai k6 2 rfl⟩|go_keep)
  (first|(go_at_call 56;refine A6.out.mono ?_;rintro E w6 ⟨rfl,N6,k6,c6⟩))
 have d1:w6.cell? ⟨w3.heap.size,1,none⟩=some (.int .i64 (en+1)):=ai k6 1 rfl
 have RR:=hide (FIN.out w6 N6.out)
 by_cases ha:ae=0
 ·subst ha
  go_wp2
  go_ret2
  exact RR.out
 ·have ha':(ae==0)=false:=by simpa using ha
  rw[if_neg ha]at RR
  clear ha
  go_wp2
  go_ret2
  exact RR.out
theorem ao8 (l:List Cm.Cv)(n:Int)(h0:0≤n)(h:n≤l.length):zC l (n+1) l.length=l.drop n.toNat:=by
 unfold zC
 split
 ·rename_i k
  have:l.length≤n.toNat:=by omega
  rw[List.drop_eq_nil_of_le this]
 ·rw[show(n+1).toNat-1=n.toNat by omega]
  exact List.take_of_length_le (by rw[List.length_drop];omega)
theorem ad4 (P q pw pr:Nat)(F Gw Gr:Nat→Prop)(w:World)(off:Bool)(x:Pm.Pg)(vs:Value)(d:Dm.Ds)(l r:List Cm.Cv)(hb:w.heap[P]? =some (.cells (fo q off x (.pointer (some ⟨pw,0,none⟩)) l.length (.pointer (some ⟨pr,0,none⟩)) vs) 137 (0,0)))(hp:∃o,vs=.pointer o)(hd:Pk q F w d)(h1:Wk pw q Gw w l false)(h2:Rk pr q Gr w r false)(hle:Cm.lastN 0 r≤l.length)(hll:l.length≤100000):
  Calls prog 108 #[.pointer (some ⟨P,0,none⟩)] w fun E w'=>E=.returned (.int .i64 0)∧∃ps,∃Gs,Sk ps pr Gs w' (l.drop (Cm.lastN 0 r).toNat)∧(∀g,Gs g→w.heap.size≤g)∧w'.heap[P]? =some (.cells (fo q off x (.pointer (some ⟨pw,0,none⟩)) l.length (.pointer (some ⟨pr,0,none⟩)) (.pointer (some ⟨ps,0,none⟩))) 137 (0,0))∧Out (fun g=>g=P) w w':=by
 obtain⟨o,rfl⟩:=hp
 have hpl:=ay hb
 have hgr:Rl.Good 0 r:=by
  obtain⟨v,rs,k,_⟩:=h2
  exact k.log.good
 have h0n:0≤Cm.lastN 0 r:=(Rl.fM hgr).2.1
 have hgl:=h1.good
 have hgd:Cm.Good 1 (Cm.lastN 0 r) (l.drop (Cm.lastN 0 r).toNat):=by
  have:=Sto.nQ (Rst.ni hgl) (Cm.lastN 0 r).toNat (by omega)
  rw[show(0:Int)+((Cm.lastN 0 r).toNat:Int)=Cm.lastN 0 r by omega]at this
  exact this
 have hfr:=ao8 l (Cm.lastN 0 r) h0n hle
 obtain⟨K,hK⟩:∃K:World→Prop,K=fun W=>Hid (W.heap[P]? =w.heap[P]?∧Below w.heap.size w W):=⟨_,rfl⟩
 have HE:Hid (∀W,K W→Calls prog 179 #[.pointer (some ⟨pr,0,none⟩)] W fun E w'=>E=.returned (.int .i64 (Cm.lastN 0 r))∧K w'):=hide fun W k=>by
  subst hK
  refine(jy pr q _ W ⟨d,r,false⟩ ⟨F,Gr,hd.below k.out.2,h2.below k.out.2,rfl⟩).mono ?_
  rintro E w' ⟨rfl,rfl⟩
  exact⟨rfl,k⟩
 have HF:Hid (∀W,K W→Calls prog 63 #[.pointer (some ⟨pw,0,none⟩),.int .i64 (Cm.lastN 0 r+1),.int .i64 l.length] W fun E w'=>∃a n k rs,E=.returned (.slice a n k)∧Hid (gD w' (.slice a n k) rs∧aD rs=l.drop (Cm.lastN 0 r).toNat)∧K w'):=hide fun W k=>by
  subst hK
  refine(adS pw q _ W ⟨d,l,false⟩ (Cm.lastN 0 r+1) l.length ⟨F,Gw,hd.below k.out.2,h1.below k.out.2,rfl⟩).mono ?_
  rintro E w' ⟨v,rs,rfl,o1,o2,o3,o4,o5⟩
  have b:=k.out.2.trans (o5.mono k.out.2.size)
  have o3:aD rs=l.drop (Cm.lastN 0 r).toNat:=o3.trans hfr
  have hic:gD w' v rs:=⟨o1.row,fun c hc=>⟨(o2 c hc).is,by
   have hm:c.c∈l.drop (Cm.lastN 0 r).toNat:=by rw[←o3];exact List.mem_map_of_mem hc
   have:=Sto.gI hgd c.c hm
   have h3:=Cm.bJ this.1
   have e1:c.c.e=c.e:=rfl
   have e2:c.c.n=c.n:=rfl
   unfold In64
   omega⟩⟩
  obtain⟨a,n,kk,rfl⟩:∃a n k,v=.slice a n k:=by
   rcases hic.1 with⟨h,_⟩|⟨a,c,h,_⟩
   ·exact⟨_,_,_,h⟩
   ·exact⟨_,_,_,h⟩
  exact⟨a,n,kk,rs,rfl,hide ⟨hic,o3⟩,hide ⟨b.block P hpl,b⟩⟩
 have HO:Hid (∀W,K W→∀a n k rs,Hid (gD W (.slice a n k) rs∧aD rs=l.drop (Cm.lastN 0 r).toNat)→Calls prog 181 #[.pointer (some ⟨pr,0,none⟩),.slice a n k] W fun E w'=>∃ps,E=.returned (.tuple #[.pointer (some ⟨ps,0,none⟩),.int .i64 0])∧Hid (∃Gs,Sk ps pr Gs w' (l.drop (Cm.lastN 0 r).toNat)∧∀g,Gs g→w.heap.size≤g)∧K w'):=hide fun W k a n kk rs RC=>by
  subst hK
  have hz:=k.out.2.size
  have hfc:jH rs:=fun c hc=>by
   have hm:c.c∈l.drop (Cm.lastN 0 r).toNat:=by rw[←RC.out.2];exact List.mem_map_of_mem hc
   obtain⟨_,_,_,_,h5⟩:=Cm.bJ (Sto.gI hgd c.c hm).1
   have:=(Bm.dM h5).2.1
   exact⟨(vG h5).fit,by show c.c.l.length*40≤_;omega⟩
  have hrl:rs.length≤100000:=by
   have:=congrArg List.length RC.out.2
   unfold aD at this
   rw[List.length_map,List.length_drop]at this
   omega
  refine(al4 pr q _ W ⟨d,r,false⟩ _ rs ⟨F,Gr,hd.below k.out.2,h2.below k.out.2,rfl⟩ RC.out.1 hfc hrl).mono ?_
  have hf0:(Cm.fol 1 (Cm.lastN 0 r) 0 (aD rs)).1=0:=(Cm.iN _ _ _ 0).2 (by rw[RC.out.2];exact hgd)
  rintro E w' (⟨h,_⟩|⟨_,ps,rfl,Gs,g1,g2,g3⟩)
  ·exact absurd hf0 h
  ·have b:=k.out.2.trans (g3.mono hz)
   rw[RC.out.2]at g1
   exact⟨ps,rfl,hide ⟨Gs,g1,fun g hg=>by have:=g2 g hg;omega⟩,hide ⟨b.block P hpl,b⟩⟩
 have hwr:IntKind.i64.wrap (Cm.lastN 0 r+1)=Cm.lastN 0 r+1:=aQ _ (by omega) (by omega)
 have HL:Hid (∃m,m=l.drop (Cm.lastN 0 r).toNat):=hide ⟨_,rfl⟩
 obtain⟨SS,hSS⟩:∃SS:Int→World→Prop,SS=fun en=>(fun W=>W.cell? ⟨P,8,none⟩=some (.pointer (some ⟨pw,0,none⟩))∧W.cell? ⟨P,9,none⟩=some (.int .i64 en)∧W.cell? ⟨P,11,none⟩=some (.pointer (some ⟨pr,0,none⟩))):=⟨_,rfl⟩
 have sB:∀W,W.heap[P]? =w.heap[P]?→SS l.length W:=fun W k=>by
  subst hSS
  obtain⟨c0,_,c2,c3,c4,c5,c6,c7,c8,c9,_,c11,_⟩:=ku (k.trans hb)
  exact⟨c8,c9,c11⟩
 have KS:Hid (∀W,K W→SS l.length W):=hide fun W k=>by
  subst hK
  exact sB W k.out.1
 have PT:Hid (∀W ps,K W→Hid (∃Gs,Sk ps pr Gs W (l.drop (Cm.lastN 0 r).toNat)∧∀g,Gs g→w.heap.size≤g)→∃V,W.setCell ⟨P,12,none⟩ (.pointer (some ⟨ps,0,none⟩))=V∧W.cell? ⟨P,12,none⟩=some (.pointer o)∧W.frozen? ⟨P,12,none⟩=false∧(SS l.length V∧∃Gs,Sk ps pr Gs V (l.drop (Cm.lastN 0 r).toNat)∧(∀g,Gs g→w.heap.size≤g)∧V.heap[P]? =some (.cells (fo q off x (.pointer (some ⟨pw,0,none⟩)) l.length (.pointer (some ⟨pr,0,none⟩)) (.pointer (some ⟨ps,0,none⟩))) 137 (0,0))∧Out (fun g=>g=P) w V)):=hide fun W ps k sk=>by
  subst hK hSS
  obtain⟨Gs,s1,s2⟩:=sk.out
  have pW:=k.out.1.trans hb
  have oV:Out (fun g=>g=P) W (W.setCell ⟨P,12,none⟩ (.pointer (some ⟨ps,0,none⟩))):=Out.aM (ax W ⟨P,12,none⟩ (.pointer (some ⟨ps,0,none⟩))) fun i hi=>by simpa using hi.symm
  have pV:(W.setCell ⟨P,12,none⟩ (.pointer (some ⟨ps,0,none⟩))).heap[P]? =some (.cells (fo q off x (.pointer (some ⟨pw,0,none⟩)) l.length (.pointer (some ⟨pr,0,none⟩)) (.pointer (some ⟨ps,0,none⟩))) 137 (0,0)):=aF pW 12 (.pointer (some ⟨ps,0,none⟩))
  obtain⟨_,_,_,_,_,_,_,_,c8,c9,_,c11,_⟩:=ku pV
  exact⟨_,rfl,ai pW 12 rfl,aA pW 12,⟨c8,c9,c11⟩,Gs,s1.out oV fun g hg e=>by have:=s2 g hg;omega,s2,pV,(Out.of_below k.out.2).trans oV fun g hg=>.inl hg⟩
 obtain⟨W0,hW0⟩:∃W,w.drew=W:=⟨_,rfl⟩
 have K0:K W0:=by
  subst hK
  rw[←hW0]
  exact hide ⟨rfl,(Below.refl _ _).drew⟩
 subst hK hSS
 simp only at KS PT
 generalize (l.length:Int)=en at*
 generalize l.drop (Cm.lastN 0 r).toNat=rest at*
 generalize Cm.lastN 0 r=n at*
 clear h1 h2 hd hb sB hgr hgl hgd hfr hle hll HL
 go_enter func108,ntmps108
 go_wp2_with fail
 refine kM (ops:=(aB 1 f108)) (S:=fun W=>W.cell? ⟨P,8,none⟩=some (.pointer (some ⟨pw,0,none⟩))∧W.cell? ⟨P,9,none⟩=some (.int .i64 en)∧W.cell? ⟨P,11,none⟩=some (.pointer (some ⟨pr,0,none⟩))) (by kernel_rfl) apQ ?_
 rw[atC,hW0]
 refine bu aqE (KS.out _ K0) ?_
 refine bu aqn (KS.out _ K0) ?_
 refine bu an1 (KS.out _ K0) ?_
 refine bu an9 (KS.out _ K0) ?_
 refine bu amH (KS.out _ K0) ?_
 refine bu amV (KS.out _ K0) ?_
 refine bu ala (KS.out _ K0) ?_
 refine bu ai1 (KS.out _ K0) ?_
 refine bu aj4 (KS.out _ K0) ?_
 refine bu akD (KS.out _ K0) ?_
 refine bu afa (KS.out _ K0) ?_
 refine bu agH (KS.out _ K0) ?_
 refine bu afO (KS.out _ K0) ?_
 refine bu ag4 (KS.out _ K0) ?_
 refine bu ad7 (KS.out _ K0) ?_
 refine bu ad8 (KS.out _ K0) ?_
 refine bu ad5 (KS.out _ K0) ?_
 refine bu acr (KS.out _ K0) ?_
 refine bu ace (KS.out _ K0) ?_
 refine bu abq (KS.out _ K0) ?_
 refine bu abh (KS.out _ K0) ?_
 refine dm agr ?_
 refine aJ rfl (by rfl) (fun K hK=>?_)
 go_simp
 refine(HE.out _ K0).mono ?_
 rintro E U1 ⟨rfl,k1⟩
 go_wp2_with fail
 refine bf hK (KS.out _ k1) ?_
 clear hK K
 refine bu aa5 (KS.out _ k1) ?_
 refine dm agY ?_
 refine aJ rfl (by rfl) (fun K hK=>?_)
 go_simp
 refine(HF.out _ k1).mono ?_
 rintro E U2 ⟨ro,rn,rk,rs,rfl,RC,k2⟩
 go_wp2_with fail
 refine bf hK (KS.out _ k2) ?_
 clear hK K
 refine dm aef ?_
 refine aJ rfl (by rfl) (fun K hK=>?_)
 go_simp
 refine(HO.out _ k2 _ _ _ rs RC).mono ?_
 rintro E U3 ⟨pn,rfl,SK,k3⟩
 go_wp2_with fail
 refine bf hK (KS.out _ k3) ?_
 clear hK K
 refine bu zY (KS.out _ k3) ?_
 refine bu aam (KS.out _ k3) ?_
 refine bu zA (KS.out _ k3) ?_
 refine bu zx (KS.out _ k3) ?_
 refine bu zB (KS.out _ k3) ?_
 refine bu xI (KS.out _ k3) ?_
 refine dm aaX ?_
 obtain⟨V,hV,a12,f12,SV⟩:=PT.out _ pn k3 SK
 have SV:=hide SV
 refine aJ rfl (by rfl) (fun K hK=>?_)
 go_simp
 go_wp2_with fail
 refine bf hK SV.out.1 ?_
 clear hK K
 refine bu xO SV.out.1 ?_
 refine cZ auI ?_
 clear HE HF HO KS PT
 go_wp2
 go_ret
 exact⟨rfl,pn,SV.out.2⟩
structure ui (q:Nat) (F:Nat→Prop) (w w5 W:World) (n0 P:Nat) (Fk:Nat→Prop) (d:Dm.Ds):Prop where
 qI:Pk q Fk W d
 out:Out F w W
 far:∀g,Fk g→F g∨w.heap.size≤g
 gQ:fU W
 nb:∀g,g=n0∨g=P∨g=P+1∨g=P+2→¬Fk g∧g<W.heap.size
 keep:∀g,g=n0∨g=P+1∨g=P+2→W.heap[g]? =w5.heap[g]?
section
variable {q n0 P:Nat} {F Fk F':Nat→Prop} {w w5 W W':World} {d d':Dm.Ds}
theorem ui.step (h:ui q F w w5 W n0 P Fk d)(h0:¬F 0)(hp:0<w.heap.size)(hP:w.heap.size≤P)(hn:n0<P)(k1:Pk q F' W' d')(k2:Out (fun g=>Fk g∨g=P) W W')(k3:∀g,F' g→Fk g∨W.heap.size≤g):ui q F w w5 W' n0 P F' d':=by
 have hs:=h.out.size
 have hz:=k2.size
 refine⟨k1,h.out.trans k2 fun g hg=>?_,fun g hg=>?_,gz h.gQ k2 fun e=>?_,fun g hg=>⟨fun e=>?_,?_⟩,fun g hg=>(k2.block g (h.nb g ?_).2 fun e=>?_).trans (h.keep g hg)⟩
 ·rcases hg with e|e
  ·exact h.far g e
  ·exact .inr (by omega)
 ·rcases k3 g hg with e|e
  ·exact h.far g e
  ·exact .inr (by omega)
 ·rcases e with e|e
  ·rcases h.far 0 e with e|e
   ·exact h0 e
   ·omega
  ·omega
 ·rcases k3 g e with e|e
  ·exact(h.nb g hg).1 e
  ·have:=(h.nb g hg).2;omega
 ·have:=(h.nb g hg).2;omega
 ·rcases hg with e|e|e
  ·exact .inl e
  ·exact .inr (.inr (.inl e))
  ·exact .inr (.inr (.inr e))
 ·rcases e with e|e
  ·exact(h.nb g (by rcases hg with e|e|e;exact .inl e;exact .inr (.inr (.inl e));exact .inr (.inr (.inr e)))).1 e
  ·rcases hg with k|k|k<;>omega
theorem ui.below (h:ui q F w w5 W n0 P Fk d)(h0:¬F 0)(hp:0<w.heap.size)(hP:w.heap.size≤P)(hn:n0<P)(hb:Below W.heap.size W W'):ui q F w w5 W' n0 P Fk d:=
 h.step h0 hp hP hn (h.qI.below hb) (Out.of_below hb) fun g hg=>.inl hg
end
theorem azh (p q:Nat)(F:Nat→Prop)(w:World)(st:Dm.Ds)(ss:List Orp.Se)(h:Pk q F w st)(hs:Big 90000000 700000 st)(hp:w.cell? ⟨p,0,none⟩=some (.pointer (some ⟨q,0,none⟩)))(hpl:p<w.heap.size)(ho:st.on=true)(h3:Rst.hf 3 st=Orp.secs ss)(hr:ss=[]):∀W,Below w.heap.size w W→
  Calls prog 180 #[.pointer (some ⟨p,0,none⟩)] W fun E w'=>E=.returned (.int .i64 (Orp.secs ss).length)∧Below W.heap.size W w':=by
 intro W hW
 subst hr
 have e:W.cell? ⟨p,0,none⟩=w.cell? ⟨p,0,none⟩:=by have:=hW.block p hpl;simp[World.cell?,this]
 exact ae9 p q F W st (h.below hW) hs (e.trans hp) ho h3
theorem ajU (st:Dm.Ds):∃e,Dm.write st 0 []=(e,st)∧(e==1)=false:=by
 unfold Dm.write
 split
 ·exact⟨6,rfl,rfl⟩
 ·rw[if_neg (by decide)]
  exact⟨0,rfl,rfl⟩
theorem an0 (q:Nat)(F:Nat→Prop)(w:World)(st:Dm.Ds)(node:Int)(h:Pk q F w st)(hm:fU w)(h0:¬F 0)(hB:Big 50000000 500000 st)(X:Nat→Int→World→Prop)
  (hrun:∀F2 w5 n0 P,n0=w.heap.size→ui q F w w5 w5 n0 P F2 st→w.heap.size≤P→n0<P→w5.heap[n0]? =some (.cells #[.int .i64 node] 3 (0,0))→w5.heap[P+1]? =some (.cells #[.pointer (some ⟨P,0,none⟩)] 41 (0,0))→w5.heap[P]? =some (.cells (fo q false Pm.no (.pointer none) 0 (.pointer none) (.pointer none)) 137 (0,0))→Run (P+2) (fun e W=>W.heap[P+1]? =w5.heap[P+1]?∧X P e W) [.func (.func 98) #[] #[.pointer (some ⟨n0,0,none⟩)],.func (.func 100) #[.pointer (some ⟨P,0,none⟩)] #[],.func (.func 101) #[] #[.pointer (some ⟨P+1,0,none⟩),.pointer (some ⟨n0,0,none⟩)],.func (.func 103) #[.pointer (some ⟨P,0,none⟩)] #[],.func (.func 104) #[.pointer (some ⟨P,0,none⟩)] #[],.func (.func 105) #[] #[.pointer (some ⟨P+1,0,none⟩)],.func (.func 108) #[.pointer (some ⟨P,0,none⟩)] #[]] w5):
  Calls prog 55 #[.pointer (some ⟨q,0,none⟩),.int .i64 node] w fun E w'=>∃P e,Hid (X P e w')∧(e≠0∧E=.returned (.tuple #[.pointer none,.int .i64 e])∨e=0∧E=.returned (.tuple #[.pointer (some ⟨P,0,none⟩),.int .i64 0])):=by
 have kQ:∀(fn:Fn) (first cap:Array Value) (w:World),(Instr.makeFunc fn first cap).run prog w=.ok (.func fn first cap) w:=fun _ _ _ _=>rfl
 have hp:=hm.pos
 obtain⟨w1,hw1,s1,b1,P1⟩:=au w #[.int .i64 node] 3
 obtain⟨e0,hwe,he0⟩:=ajU st
 have WR:Hid (Calls prog 70 #[.pointer (some ⟨q,0,none⟩),.int .i64 0,.slice none 0 0] w1 fun E w'=>E=.returned (.int .i64 e0)∧bN q F w1 w' st):=hide (by
  have:=nL q F w1 st 0 (.slice none 0 0) [] (h.below b1) (Is.nil _ _) (fun k=>by simp at k) (by simp) (by have:=hB.1.2.1;simp[cnt];omega) hB.2 (by have:=hB.1.2.2;simp[cnt];omega)
  rw[hwe]at this
  exact this)
 have HH:=hide (And.intro h (And.intro hm (And.intro b1 P1)))
 have HR:=hide hrun
 clear h hm hB b1 P1 hwe hrun
 go_enter func55,ntmps55
 go_wp2_with fail
 refine WR.out.mono ?_
 rintro E w2 ⟨rfl,F2,k1,k2,k3⟩
 clear WR
 obtain⟨h,hm,b1,P1⟩:=HH.out
 have hF:=h.lt
 have z2:=k2.size
 obtain⟨P,hP⟩:∃P,w2.heap.size=P:=⟨_,rfl⟩
 obtain⟨w3,hw3,s3,b3,P3⟩:=au w2 (fo q false Pm.no (.pointer none) 0 (.pointer none) (.pointer none)) 137
 obtain⟨w4,hw4,avB,s4,b4,P4⟩:=ah1 w3 41 (.pointer none) (.pointer (some ⟨P,0,none⟩))
 obtain⟨n0,hn0⟩:∃n,w.heap.size=n:=⟨_,rfl⟩
 obtain⟨w5,iw,s5,b5,P5⟩:=au w4 #[.func (.func 98) #[] #[.pointer (some ⟨n0,0,none⟩)],.func (.func 100) #[.pointer (some ⟨P,0,none⟩)] #[],.func (.func 101) #[] #[.pointer (some ⟨P+1,0,none⟩),.pointer (some ⟨n0,0,none⟩)],.func (.func 103) #[.pointer (some ⟨P,0,none⟩)] #[],.func (.func 104) #[.pointer (some ⟨P,0,none⟩)] #[],.func (.func 105) #[] #[.pointer (some ⟨P+1,0,none⟩)],.func (.func 108) #[.pointer (some ⟨P,0,none⟩)] #[]] 228
 have z3:w3.heap.size=P+1:=by omega
 have z4:w4.heap.size=P+2:=by omega
 have z5:w5.heap.size=P+3:=by omega
 rw[hP]at P3
 rw[z3]at P4
 rw[z4]at P5
 have b25:Below w2.heap.size w2 w5:=(b3.trans (b4.mono (by omega))).trans (b5.mono (by omega))
 have n1:w1.heap.size=n0+1:=by omega
 have nF2:¬F2 n0:=fun e=>by
  rcases k3 n0 e with e|e
  ·have:=hF n0 e;omega
  ·omega
 have lF2:=k1.lt
 have c1:w2.heap[n0]? =some (.cells #[.int .i64 node] 3 (0,0)):=(k2.block n0 (by omega) fun e=>by have:=hF n0 e;omega).trans (by rw[←hn0];exact P1)
 have I5:ui q F w w5 w5 n0 P F2 st:=by
  refine⟨k1.below b25,((Out.of_below b1).trans k2 fun g hg=>.inl hg).trans (Out.of_below (F:=fun _=>False) b25) fun g hg=>hg.elim,fun g hg=>(k3 g hg).imp id fun e=>by omega,(gz (hm.below b1) k2 h0).below b25,?_,fun g hg=>rfl⟩
  rintro g (rfl|rfl|rfl|rfl)
  ·exact⟨nF2,by omega⟩
  ·exact⟨fun e=>by have:=lF2 _ e;omega,by omega⟩
  ·exact⟨fun e=>by have:=lF2 _ e;omega,by omega⟩
  ·exact⟨fun e=>by have:=lF2 _ e;omega,by omega⟩
 have q1:=(b5.block (P+1) (by omega)).trans P4
 have RUN:=HR.out F2 w5 n0 P hn0.symm I5 (by omega) (by omega) ((b25.block n0 (by omega)).trans c1) q1 ((b5.block P (by omega)).trans ((b4.block P (by omega)).trans P3))
 have Ioq:=hide (sH (P+2) 7 _ w5 _ rfl (by omega) P5 RUN)
 have Q1:=hide q1
 have c4:w4.cell? ⟨P+1,0,none⟩=some (.pointer (some ⟨P,0,none⟩)):=ai P4 0 rfl
 unfold fo Pm.no at hw3
 simp only at hw3
 rw[hn0]
 clear HR HH RUN I5 q1 P1 P3 P4 P5 b1 b3 b4 b5 b25 k1 k2 k3 nF2 lF2 c1 h hm hF n1 z5 s3 s4 s5 z2 hp h0
 go_wp2_with fail
 refine Ioq.out.mono ?_
 rintro E W ⟨e,rfl,hk,hX⟩
 have cW:W.cell? ⟨P+1,0,none⟩=some (.pointer (some ⟨P,0,none⟩)):=ai (hk.trans Q1.out) 0 rfl
 have HX:=hide hX
 clear Ioq Q1 hk hX
 by_cases he:e=0
 ·subst he
  go_wp2
  go_ret2
  exact⟨P,0,HX,.inr ⟨rfl,rfl⟩⟩
 ·have he':(e==0)=false:=by simpa using he
  go_wp2
  go_ret2
  exact⟨P,e,HX,.inl ⟨he,rfl⟩⟩
theorem ad3 (m:Mw)(ans:Bool)(w:World)(hi:ji w m)(hf:bQ m)(h:nM ans (acy m)):
  Calls prog 191 #[mv m] w fun E w'=>E=.returned (.bool ans)∧Below w.heap.size w w':=by
 have NO:Hid (¬acy m→ans=false):=hide fun k=>h.no k
 have HD:Hid (nM ans (acy m)):=hide h
 unfold mv
 obtain⟨w1,hw1,aV,aj,hA⟩:=aaD w m
 have A1:=hide hA
 obtain⟨c0,c1,c2,c3,c4,c5,c6,c7⟩:=hA.ei
 have i1:=hide (hi.c.below aj)
 have hl:=hf.lc
 have HF:=hide hf.fc
 have ff:=hf.f
 have X:=hide (fun(W:World) (k:gD W m.vc m.cs)=>q9 m.p (m.f-1) m.vc m.cs W k HF.out hl)
 have C:=hide (jq i1.out)
 obtain⟨ao,cap,hv,_,_⟩:=i1.out.1.shape
 have i1':Hid (gD w1 m.vc m.cs):=i1
 rw[hv]at c7 hw1 X C i1'
 rw[hv]
 have A2:Hid (∀W,Below w1.heap.size w1 W→Ei W w.heap.size (.int .i64 m.k) (.int .i64 m.e) (.int .u8 m.r) (.int .i64 m.n) m.vs (.int .i64 m.f) (.int .i64 m.p) (.slice ao m.cs.length cap)):=hide fun W hb=>by
  have:=(A1.out.below hb).ei
  rw[hv]at this
  exact this
 generalize hn:m.cs.length=n at*
 have HN:=hide hn
 clear h hA hi hf hv i1 A1 hn
 go_enter func191,ntmps191
 by_cases h1:m.f<1
 ·obtain rfl:=NO.out fun k=>by have:=k.1;omega
  go_wp2
  go_ret
  exact⟨rfl,aj⟩
 by_cases h2:1048576<m.f
 ·obtain rfl:=NO.out fun k=>by have:=k.2.1;omega
  go_wp2
  go_ret
  exact⟨rfl,aj⟩
 by_cases h3:m.p<0
 ·obtain rfl:=NO.out fun k=>by have:=k.2.2.1;omega
  go_wp2
  go_ret
  exact⟨rfl,aj⟩
 by_cases h4:m.e<m.p
 ·obtain rfl:=NO.out fun k=>by have:=k.2.2.2.1;omega
  go_wp2
  go_ret
  exact⟨rfl,aj⟩
 rcases atE m.p m.f 0 1 with⟨hbb,bb,q1,q2⟩|⟨hbb,bb,q1,q2⟩
 rotate_left
 ·obtain rfl:=NO.out fun k=>hbb k.2.2.2.2.1
  clear hbb
  cases bb
  ·have q3:(m.f==1)=true:=q2
   clear q2
   go_wp2
   go_ret
   exact⟨rfl,aj⟩
  ·have q3:(m.f==1)=false:=q2
   clear q2
   go_wp2
   go_ret
   exact⟨rfl,aj⟩
 have HB:=hide hbb
 have hbn:(bb !=bb)=false:=by simp
 clear hbb
 by_cases h5:4<n
 ·obtain rfl:=NO.out fun k=>by have:=k.2.2.2.2.2.1;have:=HN.out;omega
  clear X
  have h5':(4:Int)<n:=by omega
  go_wp2
  go_ret
  exact⟨rfl,aj⟩
 have h5':¬(4:Int)<n:=by omega
 go_wp2_with fail
 refine(X.out _ i1'.out).mono ?_
 rintro E w2 ⟨rfl,az⟩
 have dA:=az.size
 have aO:=aj.trans (az.mono (by omega))
 clear c0 c1 c2 c3 c4 c5 c6 c7 hw1 X
 obtain⟨c0,c1,c2,c3,c4,c5,c6,c7⟩:=A2.out _ az
 clear A2
 have hft:=auK (aD m.cs) m.p (m.f-1)
 have hgd:=Tryz.yE
 unfold zP
 rcases hft with⟨hg,hfo⟩|⟨hg,hfo⟩
 rotate_left
 ·obtain rfl:=NO.out fun k=>hg k.2.2.2.2.2.2.2
  have hnq:=Tryz.agJ (Cm.fol m.p (m.f-1) 0 (aD m.cs)).1 (Cm.fol m.p (m.f-1) 0 (aD m.cs)).2 0 0
  rw[show((Cm.fol m.p (m.f-1) 0 (aD m.cs)).1==0&&(Cm.fol m.p (m.f-1) 0 (aD m.cs)).2==0)=false by simp[hfo]]at hnq
  generalize (Cm.fol m.p (m.f-1) 0 (aD m.cs)).1=x1 at*
  generalize (Cm.fol m.p (m.f-1) 0 (aD m.cs)).2=x2 at*
  clear hg hfo
  go_wp2
  go_ret
  exact⟨rfl,aO⟩
 rw[hfo]
 have hnq:=Tryz.agJ 0 0 0 0
 rw[show((0:Int)==0&&(0:Int)==0)=true from rfl]at hnq
 have HG:=hide hg
 clear hfo hg
 by_cases hz:n=0
 ·have hn:m.cs=[]:=List.eq_nil_of_length_eq_zero (by have:=HN.out;omega)
  obtain rfl:=HD.out.yes ⟨by omega,by omega,by omega,by omega,HB.out,by have:=HN.out;omega,fun c hc=>by rw[hn]at hc;simp[aD]at hc,HG.out⟩
  have hz':((n:Int)==0)=true:=by simp[hz]
  clear hn hz
  go_wp2
  go_quiet (fail)
  go_wp2
  go_ret
  exact⟨rfl,below_drewN aO _⟩
 ·obtain⟨b,off,cap',hv',hB',hc⟩:=C.out (by have:=HN.out;omega)
  simp only[Value.slice.injEq,true_and]at hv'
  obtain⟨rfl,rfl⟩:=hv'
  obtain⟨s,hs⟩:=mH (l:=m.cs) (k:=n-1) (by have:=HN.out;omega)
  obtain⟨d0,d1,d2⟩:=aa0 hc az hB' hs
  have hla:Cm.lastE m.p (aD m.cs)=s.e:=aic (aD m.cs) m.p s.c (by rw[dJ,HN.out,pQ,hs];rfl)
  have hq:ans=decide (s.e≤m.e):=HD.out.dec (fun hx=>⟨by omega,by omega,by omega,by omega,HB.out,by have:=HN.out;omega,fun c hc=>by have:=(ahU _ _ _ HG.out).2 c hc;omega,HG.out⟩) (fun k=>k.2.2.2.2.2.2.1 s.c (by unfold aD;exact List.mem_map_of_mem (List.mem_of_getElem? hs)))
  subst hq
  obtain⟨k,hk⟩:∃k,n-1=k:=⟨_,rfl⟩
  rw[hk]at d0 d1 d2
  have hne:((n:Int)==0)=false:=by simp;omega
  have hsub:(n:Int)-1=(k:Int):=by omega
  have hk1:(k:Int)<(n:Int):=by omega
  clear hc hs hz NO HD HG HB hla hk C i1'
  go_wp2
  have hk1:(k:Int)<(n:Int):=by omega
  go_big_quiet (fail)
  go_wp2
  go_ret
  exact⟨rfl,below_drewN aO _⟩
end Go.Proofs.YtlmkaljjocflmaaGreatDoor
