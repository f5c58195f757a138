/- Texts of one layer, one behind the other. -/
import Derived.Test.YtlmkaljjocflmaaGreatDoorAH18
import Derived.Test.YtlmkaljjocflmaaGreatDoorAZRqt
import Derived.Test.YtlmkaljjocflmaaGreatDoorAH23
import Derived.Test.YtlmkaljjocflmaaGreatDoorAH4
import Derived.Test.YtlmkaljjocflmaaGreatDoorAH21
import Derived.Deep.CutRange
import Derived.Test.YtlmkaljjocflmaaGreatDoorAH32
import Derived.Test.YtlmkaljjocflmaaGreatDoorAH20
import Derived.Test.YtlmkaljjocflmaaGreatDoorAH29
import Derived.Test.YtlmkaljjocflmaaGreatDoorAH26
import Derived.Test.YtlmkaljjocflmaaGreatDoorAM3
import Derived.Test.YtlmkaljjocflmaaGreatDoorAH31
set_option maxRecDepth 100000
set_option maxHeartbeats 8000000
namespace Go.Proofs.YtlmkaljjocflmaaGreatDoor
open Go.RowKit
set_option linter.unusedVariables false
def Ns.bar (x:Ns) (l:List Bm.Ov):Int:=if Bm.cO l≠0 then Bm.cO l else if Rol.uB x.s.p≠0 then Rol.uB x.s.p else bg.ad x.s.l.length x.a x.t
def Ns.com (x:Ns) (l:List Bm.Ov):Cm.Cv:=⟨x.s.p.e,x.s.l.length+1,l⟩
def Ns.jK (x:Ns) (l:List Bm.Ov):Int:=if x.bar l≠0 then x.bar l else(Rst.add x.s [x.com l]).1
def Ns.co (x:Ns) (l:List Bm.Ov):Ns:=if x.bar l≠0 then x else⟨x.u,x.t,x.a,x.k,x.m,(Rst.add x.s [x.com l]).2⟩
theorem afP (n p q:Nat)(F:Nat→Prop)(w:World)(x:Ns)(h:Nd n p q F w x)(hR:iV x.s)(h3:T3 x.s.d)(h0:¬F 0)(v:Value)(l:List Bm.Ov)(hv:∀W,Out F w W→dz W v l)(hf:fZ l)(hl:l.length*40≤140737488351232)(he:In64 x.s.p.e):
  Calls Tryz.prog 74 #[.pointer (some ⟨n,0,none⟩),v] w fun E w'=>E=.returned (.tuple #[.int .i64 (if x.jK l=0 then x.s.l.length+1 else 0),.int .i64 (x.jK l)])∧dA n p q F w w' (x.co l):=by
 have BC:=hide (jY v l w (hv w (Out.refl _ _)) hf (by omega))
 obtain⟨va,vn,vk,rfl⟩:∃a n k,v=.slice a n k:=by
  obtain⟨a,k,e,_,_⟩:=(hv w (Out.refl _ _)).shape
  exact⟨_,_,_,e⟩
 by_cases hb:Bm.cO l≠0
 ·have aa2:x.bar l=Bm.cO l:=by unfold Ns.bar;rw[if_pos hb]
  have e1:x.jK l=Bm.cO l:=by unfold Ns.jK;rw[aa2,if_pos hb]
  have e2:x.co l=x:=by unfold Ns.co;rw[aa2,if_pos hb]
  have SM:Hid (∀W,Below w.heap.size w W→dA n p q F w W x):=hide fun W hW=>dA.same h hW
  rw[e1,e2,if_neg hb]
  have hb':(Bm.cO l==0)=false:=by simpa using hb
  generalize Bm.cO l=z at*
  clear h hR h3 h0 hv hf hl he aa2 e1 e2 hb
  go_enter Tryz.func74,Tryz.ntmps74
  go_wp2_with fail
  refine BC.out.mono ?_
  rintro E w1 ⟨rfl,b1⟩
  have RR:=hide (SM.out w1 b1)
  clear BC SM b1
  go_wp2
  go_ret2
  exact⟨rfl,RR.out⟩
 have hb:Bm.cO l=0:=Classical.not_not.1 hb
 rw[hb]at BC
 have hlen:=hR.2
 obtain⟨en,hen⟩:∃en:Int,(x.s.l.length:Int)=en:=⟨_,rfl⟩
 have hen0:0≤en∧en≤2000:=by omega
 obtain⟨y,hy⟩:∃y,x.s.p=y:=⟨_,rfl⟩
 have HV:vp y=.agg #[.int .i64 y.e,.int .u8 y.r,.int .i64 y.a,.int .u8 y.p,.int .i64 y.f,.int .i64 y.b]:=rfl
 have PG0:Hid (∀W0 W,Below w.heap.size w W0→Below W0.heap.size W0 W→Calls Tryz.prog 16 #[.pointer (some ⟨p,0,none⟩)] W fun E w'=>E=.returned (vp y)∧Below W.heap.size W w'):=hide fun W0 W hW0 hW=>by
  rw[←hy]
  exact iZ p q F W x.s ((h.below hW0).below hW).st hR
 have EN0:Hid (∀W0 W,Below w.heap.size w W0→Below W0.heap.size W0 W→Calls Tryz.prog 24 #[.pointer (some ⟨p,0,none⟩)] W fun E w'=>E=.returned (.int .i64 en)∧Below W.heap.size W w'):=hide fun W0 W hW0 hW=>by
  rw[←hen]
  exact tJ p q F W x.s ((h.below hW0).below hW).st hR
 have SX0:Hid (∀W0 W,Below w.heap.size w W0→Below W0.heap.size W0 W→W.cell? ⟨n,3,none⟩=some (.pointer (some ⟨p,0,none⟩))):=hide fun W0 W hW0 hW=>((h.below hW0).below hW).cs.c3
 have C0:Hid (∀W,Below w.heap.size w W→W.cell? ⟨n,1,none⟩=some (.int .i64 x.t)∧W.cell? ⟨n,3,none⟩=some (.pointer (some ⟨p,0,none⟩))∧W.cell? ⟨n,4,none⟩=some (.int .i64 x.a)∧fC W):=hide fun W hW=>⟨(h.below hW).cs.c1,(h.below hW).cs.c3,(h.below hW).cs.c4,(h.below hW).st.gu⟩
 have uM:gF y:=by rw[←hy];exact h.st.fit
 have WR:Hid (∀W,fC W→Calls Tryz.prog 152 #[vp y] W fun E w'=>E=.returned (.int .i64 (Rol.uB y))∧Below W.heap.size W w'):=hide fun W hm=>afX y W uM hm
 have LA:Hid (∀W,Calls Tryz.prog 153 #[.int .i64 en,.int .i64 x.a,.int .i64 x.t] W fun E w'=>E=.returned (.int .i64 (bg.ad en x.a x.t))∧W=w'):=hide fun W=>ahT en x.a x.t W
 have AD:Hid (∀W V,Below w.heap.size w W→W.alloc (.cells #[.int .i64 y.e,.int .i64 (en+1),.slice va vn vk] 35)=V→Calls Tryz.prog 56 #[.pointer (some ⟨p,0,none⟩),.slice (some ⟨W.heap.size,0,none⟩) 1 1] V fun E w'=>E=.returned (.int .i64 (Rst.add x.s [x.com l]).1)∧dA n p q F w w' ⟨x.u,x.t,x.a,x.k,x.m,(Rst.add x.s [x.com l]).2⟩∧∀g,w.heap.size≤g→g<W.heap.size→w'.heap[g]? =W.heap[g]?):=hide fun W V hW hV=>by
  obtain⟨V',hV',jE,aX,kK⟩:=mZ 35 W #[.int .i64 y.e,.int .i64 (en+1),.slice va vn vk] 1 [⟨y.e,en+1,.slice va vn vk,l⟩] rfl rfl (by simp[maxLen])
  obtain rfl:V'=V:=hV'.symm.trans hV
  have bV:=hW.trans (aX.mono hW.size)
  have hz:=hW.size
  have NV:=h.below bV
  have hIC:∀W',Out F V' W'→iy W' (.slice (some ⟨W.heap.size,0,none⟩) 1 1) [⟨y.e,en+1,.slice va vn vk,l⟩]:=fun W' hW'=>by
   have r1:bK 35 W.heap.size W' (.slice (some ⟨W.heap.size,0,none⟩) 1 1) [⟨y.e,en+1,.slice va vn vk,l⟩]:=dw kK fun g hg=>hW'.block g (World.ownsRow.lt kK g hg).2 fun hF=>by
    have a1:=(World.ownsRow.lt kK g hg).1
    have a2:=h.st.lt g hF
    omega
   refine⟨r1.row,fun c hc=>?_⟩
   rw[List.mem_singleton.1 hc]
   exact⟨hv W' ((Out.of_below bV).trans hW' fun g e=>.inl e),hy▸he,by simp[In64];omega⟩
  refine(anc p q F V' x.s NV.st hR ⟨h3,h0⟩ _ [⟨y.e,en+1,.slice va vn vk,l⟩] hIC (fun c hc=>by rw[List.mem_singleton.1 hc];exact⟨hf,by show l.length*40≤_;omega⟩) (by simp)).mono ?_
  rintro E w' ⟨rfl,k⟩
  have ecv:aH [(⟨y.e,en+1,.slice va vn vk,l⟩:Cw)]=[x.com l]:=by rw[←hy,←hen];rfl
  rw[ecv]at k⊢
  have k':=k
  obtain⟨F',k1,k2,k3⟩:=k'
  refine⟨rfl,(NV.step k).ahead bV,fun g g1 g2=>?_⟩
  rw[k2.block g (by omega) fun e=>by have:=h.st.lt g e;omega]
  exact aX.block g g2
 have SM:Hid (∀W,Below w.heap.size w W→dA n p q F w W x):=hide fun W hW=>dA.same h hW
 have aa2:x.bar l=if Rol.uB y≠0 then Rol.uB y else bg.ad en x.a x.t:=by
  unfold Ns.bar
  rw[if_neg (by rw[hb];simp),hy,hen]
 have HX:Hid (x.bar l=if Rol.uB y≠0 then Rol.uB y else bg.ad en x.a x.t):=hide aa2
 have HC:Hid (x.jK l=(if x.bar l≠0 then x.bar l else(Rst.add x.s [x.com l]).1)∧x.co l=if x.bar l≠0 then x else⟨x.u,x.t,x.a,x.k,x.m,(Rst.add x.s [x.com l]).2⟩):=hide ⟨rfl,rfl⟩
 generalize x.jK l=ce at*
 generalize x.co l=cx at*
 rw[hen]
 rw[HV]at PG0 WR
 generalize x.bar l=br at*
 generalize Rst.add x.s [x.com l]=ad at*
 obtain⟨ae,asx⟩:=ad
 have hwr:IntKind.i64.wrap (en+1)=en+1:=aS _ (by omega) (by omega)
 obtain⟨xt,hxt⟩:∃z,x.t=z:=⟨_,rfl⟩
 obtain⟨xa,hxa⟩:∃z,x.a=z:=⟨_,rfl⟩
 obtain⟨aw,haw⟩:∃z,Rol.uB y=z:=⟨_,rfl⟩
 obtain⟨al,hal⟩:∃z,bg.ad en xa xt=z:=⟨_,rfl⟩
 rw[hxt,hxa]at C0 LA HX
 rw[hal]at LA HX
 rw[haw]at WR HX
 obtain⟨cn,hcn⟩:∃z,(if ce=0 then en+1 else 0)=z:=⟨_,rfl⟩
 rw[hcn]
 have HN:=hide hcn
 clear h hR h3 h0 hv hf hl he hb hlen hen hy uM aa2 HV hxt hxa haw hal hcn
 go_enter Tryz.func74,Tryz.ntmps74
 go_wp2_with fail
 refine BC.out.mono ?_
 rintro E w1 ⟨rfl,b1⟩
 have B1:=hide b1
 have PG:Hid (∀W,Below w1.heap.size w1 W→Calls Tryz.prog 16 #[.pointer (some ⟨p,0,none⟩)] W fun E w'=>E=.returned (.agg #[.int .i64 y.e,.int .u8 y.r,.int .i64 y.a,.int .u8 y.p,.int .i64 y.f,.int .i64 y.b])∧Below W.heap.size W w'):=hide fun W hW=>PG0.out w1 W B1.out hW
 have EN:Hid (∀W,Below w1.heap.size w1 W→Calls Tryz.prog 24 #[.pointer (some ⟨p,0,none⟩)] W fun E w'=>E=.returned (.int .i64 en)∧Below W.heap.size W w'):=hide fun W hW=>EN0.out w1 W B1.out hW
 have SX:Hid (∀W,Below w1.heap.size w1 W→W.cell? ⟨n,3,none⟩=some (.pointer (some ⟨p,0,none⟩))):=hide fun W hW=>SX0.out w1 W B1.out hW
 clear BC b1 PG0 EN0 SX0
 go_wp2_with fail
 go_cut [7,8]from 18 to 29 (fun v7 v8 wx=>∃X,v7=.pointer (some ⟨X,0,none⟩)∧v8=.int .i64 en∧Hid (wx.heap[X]? =some (.cells (cp y) 46 (0,0))∧Below w1.heap.size w1 wx))
 case first=>
  obtain⟨W0,hW0⟩:∃x,w1.drew=x:=⟨_,rfl⟩
  have D0:Hid (Below w1.heap.size w1 W0):=hide (by rw[←hW0];exact(Below.refl _ _).drew)
  refine lS (ops:=(ay 4 Tryz.f74)) (S:=fun W=>W.cell? ⟨n,3,none⟩=some (.pointer (some ⟨p,0,none⟩))) (by kernel_rfl) an2 ?_
  rw[aqs,hW0]
  refine aD (v:=?_) aoi (by kernel_rfl) (fun _ _ _ _ _ h=>h) (SX.out _ D0.out) rfl rfl (by rfl) ?_ ?_
  rotate_left 1
  ·intro w hS
   (try dsimp only at hS)
   go_simp
   all_goals with_reducible rfl
  simp only[Act.put,List.setIfInBounds_toArray,List.set_cons_zero,List.set_cons_succ]
  refine aD (v:=?_) aoP (by kernel_rfl) (fun _ _ _ _ _ h=>h) (SX.out _ D0.out) rfl rfl (by rfl) ?_ ?_
  rotate_left 1
  ·intro w hS
   (try dsimp only at hS)
   go_simp
   all_goals with_reducible rfl
  simp only[Act.put,List.setIfInBounds_toArray,List.set_cons_zero,List.set_cons_succ]
  refine aD (v:=?_) anY (by kernel_rfl) (fun _ _ _ _ _ h=>h) (SX.out _ D0.out) rfl rfl (by rfl) ?_ ?_
  rotate_left 1
  ·intro w hS
   (try dsimp only at hS)
   go_simp
   all_goals with_reducible rfl
  simp only[Act.put,List.setIfInBounds_toArray,List.set_cons_zero,List.set_cons_succ]
  refine aD (v:=?_) anh (by kernel_rfl) (fun _ _ _ _ _ h=>h) (SX.out _ D0.out) rfl rfl (by rfl) ?_ ?_
  rotate_left 1
  ·intro w hS
   (try dsimp only at hS)
   go_simp
   all_goals with_reducible rfl
  simp only[Act.put,List.setIfInBounds_toArray,List.set_cons_zero,List.set_cons_succ]
  refine aD (v:=?_) akO (by kernel_rfl) (fun _ _ _ _ _ h=>h) (SX.out _ D0.out) rfl rfl (by rfl) ?_ ?_
  rotate_left 1
  ·intro w hS
   (try dsimp only at hS)
   go_simp
   all_goals with_reducible rfl
  simp only[Act.put,List.setIfInBounds_toArray,List.set_cons_zero,List.set_cons_succ]
  refine aD (v:=?_) akL (by kernel_rfl) (fun _ _ _ _ _ h=>h) (SX.out _ D0.out) rfl rfl (by rfl) ?_ ?_
  rotate_left 1
  ·intro w hS
   (try dsimp only at hS)
   go_simp
   all_goals with_reducible rfl
  simp only[Act.put,List.setIfInBounds_toArray,List.set_cons_zero,List.set_cons_succ]
  refine aD (v:=?_) ajZ (by kernel_rfl) (fun _ _ _ _ _ h=>h) (SX.out _ D0.out) rfl rfl (by rfl) ?_ ?_
  rotate_left 1
  ·intro w hS
   (try dsimp only at hS)
   go_simp
   all_goals with_reducible rfl
  simp only[Act.put,List.setIfInBounds_toArray,List.set_cons_zero,List.set_cons_succ]
  refine aD (v:=?_) aiJ (by kernel_rfl) (fun _ _ _ _ _ h=>h) (SX.out _ D0.out) rfl rfl (by rfl) ?_ ?_
  rotate_left 1
  ·intro w hS
   (try dsimp only at hS)
   go_simp
   all_goals with_reducible rfl
  simp only[Act.put,List.setIfInBounds_toArray,List.set_cons_zero,List.set_cons_succ]
  refine aD (v:=?_) aiO (by kernel_rfl) (fun _ _ _ _ _ h=>h) (SX.out _ D0.out) rfl rfl (by rfl) ?_ ?_
  rotate_left 1
  ·intro w hS
   (try dsimp only at hS)
   go_simp
   all_goals with_reducible rfl
  simp only[Act.put,List.setIfInBounds_toArray,List.set_cons_zero,List.set_cons_succ]
  refine aD (v:=?_) afV (by kernel_rfl) (fun _ _ _ _ _ h=>h) (SX.out _ D0.out) rfl rfl (by rfl) ?_ ?_
  rotate_left 1
  ·intro w hS
   (try dsimp only at hS)
   go_simp
   all_goals with_reducible rfl
  simp only[Act.put,List.setIfInBounds_toArray,List.set_cons_zero,List.set_cons_succ]
  refine eX ai5 ?_ ?_
  ·refine aJ rfl (by rfl) (fun K hK=>?_)
   go_simp
   refine(PG.out _ D0.out).mono ?_
   rintro E U1 ⟨rfl,bU1⟩
   have D1:=hide (D0.out.trans (bU1.mono D0.out.size))
   clear bU1
   go_wp2_with fail
   refine hK.out _ _ (SX.out _ D1.out) ?_
   clear hK K
   try simp only[Act.put,List.setIfInBounds_toArray,List.set_cons_zero,List.set_cons_succ]
   refine eX als ?_ ?_
   ·refine aJ rfl (by rfl) (fun K hK=>?_)
    go_simp
    refine(EN.out _ D1.out).mono ?_
    rintro E U2 ⟨rfl,bU2⟩
    have D2:=hide (D1.out.trans (bU2.mono D1.out.size))
    clear bU2
    go_wp2_with fail
    refine hK.out _ _ (SX.out _ D2.out) ?_
    clear hK K
    try simp only[Act.put,List.setIfInBounds_toArray,List.set_cons_zero,List.set_cons_succ]
    refine aN ajo ?_
    obtain⟨U3,hU3,sU3,bU3,qU3⟩:=au U2 #[.int .i64 0,.int .u8 0,.int .i64 0,.int .u8 0,.int .i64 0,.int .i64 0] 46
    have D3:=hide (D2.out.trans (bU3.mono D2.out.size))
    have Q3:=hide qU3
    have GX:=hide (D2.out.size)
    clear bU3 qU3 sU3
    refine aJ rfl (by rfl) (fun K hK=>?_)
    go_simp
    go_wp2_with fail
    refine hK.out _ _ (SX.out _ D3.out) ?_
    clear hK K
    try simp only[Act.put,List.setIfInBounds_toArray,List.set_cons_zero,List.set_cons_succ]
    refine aN wy ?_
    obtain⟨V,hV,pV,gV,⟨y0,y1,y2,y3,y4,y5⟩,fr,zz⟩:=fq Q3.out (.int .i64 y.e) (.int .u8 y.r) (.int .i64 y.a) (.int .u8 y.p) (.int .i64 y.f) (.int .i64 y.b)
    have f0:=fr 0;have f1:=fr 1;have f2:=fr 2;have f3:=fr 3;have f4:=fr 4;have f5:=fr 5
    have DV:=hide (aF D3.out gV GX.out D3.out.size)
    have PV:=hide pV
    clear gV pV fr zz
    refine aJ rfl (by rfl) (fun K hK=>?_)
    go_simp
    go_wp2_with fail
    refine hK.out _ _ (SX.out _ DV.out) ?_
    clear hK K
    try simp only[Act.put,List.setIfInBounds_toArray,List.set_cons_zero,List.set_cons_succ]
    refine aD (v:=?_) nK (by kernel_rfl) (fun _ _ _ _ _ h=>h) (SX.out _ DV.out) rfl rfl (by rfl) ?_ ?_
    rotate_left 1
    ·intro w hS
     (try dsimp only at hS)
     go_simp
     all_goals with_reducible rfl
    simp only[Act.put,List.setIfInBounds_toArray,List.set_cons_zero,List.set_cons_succ]
    refine bO abe ?_
    go_wp2_with fail
    go_meet
    case rel=>exact⟨_,rfl,rfl,hide ⟨PV.out,DV.out⟩⟩
   ·obtain⟨U5,hU5,sU5,bU5,qU5⟩:=au U1 #[.int .i64 0,.int .u8 0,.int .i64 0,.int .u8 0,.int .i64 0,.int .i64 0] 46
    have D5:=hide (D1.out.trans (bU5.mono D1.out.size))
    have Q5:=hide qU5
    have GX:=hide (D1.out.size)
    clear bU5 qU5 sU5
    refine aJ rfl (by rfl) (fun K hK=>?_)
    go_simp
    go_wp2_with fail
    refine hK.out _ _ (SX.out _ D5.out) ?_
    clear hK K
    try simp only[Act.put,List.setIfInBounds_toArray,List.set_cons_zero,List.set_cons_succ]
    refine aN acy ?_
    refine aJ rfl (by rfl) (fun K hK=>?_)
    go_simp
    refine(EN.out _ D5.out).mono ?_
    rintro E U6 ⟨rfl,bU6⟩
    have D6:=hide (D5.out.trans (bU6.mono D5.out.size))
    have Q6:=hide ((bU6.block _ (aA Q5.out)).trans Q5.out)
    clear bU6
    go_wp2_with fail
    refine hK.out _ _ (SX.out _ D6.out) ?_
    clear hK K
    try simp only[Act.put,List.setIfInBounds_toArray,List.set_cons_zero,List.set_cons_succ]
    refine aN wy ?_
    obtain⟨V,hV,pV,gV,⟨y0,y1,y2,y3,y4,y5⟩,fr,zz⟩:=fq Q6.out (.int .i64 y.e) (.int .u8 y.r) (.int .i64 y.a) (.int .u8 y.p) (.int .i64 y.f) (.int .i64 y.b)
    have f0:=fr 0;have f1:=fr 1;have f2:=fr 2;have f3:=fr 3;have f4:=fr 4;have f5:=fr 5
    have DV:=hide (aF D6.out gV GX.out D6.out.size)
    have PV:=hide pV
    clear gV pV fr zz
    refine aJ rfl (by rfl) (fun K hK=>?_)
    go_simp
    go_wp2_with fail
    refine hK.out _ _ (SX.out _ DV.out) ?_
    clear hK K
    try simp only[Act.put,List.setIfInBounds_toArray,List.set_cons_zero,List.set_cons_succ]
    refine aD (v:=?_) nK (by kernel_rfl) (fun _ _ _ _ _ h=>h) (SX.out _ DV.out) rfl rfl (by rfl) ?_ ?_
    rotate_left 1
    ·intro w hS
     (try dsimp only at hS)
     go_simp
     all_goals with_reducible rfl
    simp only[Act.put,List.setIfInBounds_toArray,List.set_cons_zero,List.set_cons_succ]
    refine bO abe ?_
    go_wp2_with fail
    go_meet
    case rel=>exact⟨_,rfl,rfl,hide ⟨PV.out,DV.out⟩⟩
  ·obtain⟨U8,hU8,sU8,bU8,qU8⟩:=au W0 #[.int .i64 0,.int .u8 0,.int .i64 0,.int .u8 0,.int .i64 0,.int .i64 0] 46
   have D8:=hide (D0.out.trans (bU8.mono D0.out.size))
   have Q8:=hide qU8
   have GX:=hide (D0.out.size)
   clear bU8 qU8 sU8
   refine aJ rfl (by rfl) (fun K hK=>?_)
   go_simp
   go_wp2_with fail
   refine hK.out _ _ (SX.out _ D8.out) ?_
   clear hK K
   try simp only[Act.put,List.setIfInBounds_toArray,List.set_cons_zero,List.set_cons_succ]
   refine aN ak7 ?_
   refine aJ rfl (by rfl) (fun K hK=>?_)
   go_simp
   refine(PG.out _ D8.out).mono ?_
   rintro E U9 ⟨rfl,bU9⟩
   have D9:=hide (D8.out.trans (bU9.mono D8.out.size))
   have Q9:=hide ((bU9.block _ (aA Q8.out)).trans Q8.out)
   clear bU9
   go_wp2_with fail
   refine hK.out _ _ (SX.out _ D9.out) ?_
   clear hK K
   try simp only[Act.put,List.setIfInBounds_toArray,List.set_cons_zero,List.set_cons_succ]
   refine aN acy ?_
   refine aJ rfl (by rfl) (fun K hK=>?_)
   go_simp
   refine(EN.out _ D9.out).mono ?_
   rintro E U10 ⟨rfl,yF⟩
   have D10:=hide (D9.out.trans (yF.mono D9.out.size))
   have Q10:=hide ((yF.block _ (aA Q9.out)).trans Q9.out)
   clear yF
   go_wp2_with fail
   refine hK.out _ _ (SX.out _ D10.out) ?_
   clear hK K
   try simp only[Act.put,List.setIfInBounds_toArray,List.set_cons_zero,List.set_cons_succ]
   refine aN wy ?_
   obtain⟨V,hV,pV,gV,⟨y0,y1,y2,y3,y4,y5⟩,fr,zz⟩:=fq Q10.out (.int .i64 y.e) (.int .u8 y.r) (.int .i64 y.a) (.int .u8 y.p) (.int .i64 y.f) (.int .i64 y.b)
   have f0:=fr 0;have f1:=fr 1;have f2:=fr 2;have f3:=fr 3;have f4:=fr 4;have f5:=fr 5
   have DV:=hide (aF D10.out gV GX.out D10.out.size)
   have PV:=hide pV
   clear gV pV fr zz
   refine aJ rfl (by rfl) (fun K hK=>?_)
   go_simp
   go_wp2_with fail
   refine hK.out _ _ (SX.out _ DV.out) ?_
   clear hK K
   try simp only[Act.put,List.setIfInBounds_toArray,List.set_cons_zero,List.set_cons_succ]
   refine aD (v:=?_) nK (by kernel_rfl) (fun _ _ _ _ _ h=>h) (SX.out _ DV.out) rfl rfl (by rfl) ?_ ?_
   rotate_left 1
   ·intro w hS
    (try dsimp only at hS)
    go_simp
    all_goals with_reducible rfl
   simp only[Act.put,List.setIfInBounds_toArray,List.set_cons_zero,List.set_cons_succ]
   refine bO abe ?_
   go_wp2_with fail
   go_meet
   case rel=>exact⟨_,rfl,rfl,hide ⟨PV.out,DV.out⟩⟩
 case rest=>
 obtain⟨X,rfl,rfl,uF⟩:=hcut
 obtain⟨P1,b1⟩:=uF.out
 unfold cp at P1
 obtain⟨g0,g1,g2,g3,g4,g5⟩:=aR P1
 have b0:=B1.out.trans (b1.mono B1.out.size)
 obtain⟨c1,c3,c4,hm⟩:=C0.out wc b0
 have W1:=hide (WR.out wc hm)
 have B0:=hide b0
 have P1:=hide P1
 clear uF b1 b0 hm WR PG EN SX B1
 go_wp2_with fail
 refine W1.out.mono ?_
 rintro E w2 ⟨rfl,b2⟩
 have B2:=hide (B0.out.trans (b2.mono B0.out.size))
 have P2:=hide ((b2.block X (aA P1.out)).trans P1.out)
 clear W1 B0 P1 b2 c1 c3 c4 g0 g1 g2 g3 g4 g5
 by_cases hw:aw≠0
 ·have RR:Hid (ce=aw∧cx=x):=hide (by
   have e:=HX.out
   rw[if_pos hw]at e
   rw[HC.out.1,HC.out.2,e,if_pos hw,if_pos hw]
   exact⟨rfl,rfl⟩)
  have R2:=hide (SM.out w2 B2.out)
  have hw':(aw==0)=false:=by simpa using hw
  have hce:ce≠0:=by rw[RR.out.1];exact hw
  have FI:Hid (Ending.returned (.tuple #[.int .i64 0,.int .i64 aw])=.returned (.tuple #[.int .i64 cn,.int .i64 ce])∧dA n p q F w w2 cx):=hide ⟨by rw[←HN.out,if_neg hce,RR.out.1],by rw[RR.out.2];exact R2.out⟩
  clear hw hce
  go_wp2
  go_ret2
  exact FI.out
 obtain rfl:aw=0:=Classical.not_not.1 hw
 have HX:Hid (br=al):=hide (by have e:=HX.out;rw[if_neg (by simp)]at e;exact e)
 obtain⟨c1,c3,c4,hm⟩:=C0.out w2 B2.out
 clear hw hm
 go_wp2_with fail
 go_region_held3 (fun w'=>w'.cell? ⟨n,1,none⟩=some (.int .i64 xt)∧w'.cell? ⟨n,4,none⟩=some (.int .i64 xa)) (first|exact⟨c1,c4⟩|go_keep)
  (first|(go_at_call 153;refine(LA.out _).mono ?_;rintro E w3 ⟨rfl,rfl⟩))
 clear LA c1 c4
 by_cases hw:al≠0
 ·have RR:Hid (ce=al∧cx=x):=hide (by
   rw[HC.out.1,HC.out.2,HX.out,if_pos hw,if_pos hw]
   exact⟨rfl,rfl⟩)
  have R2:=hide (SM.out w2.drew B2.out.drew)
  have hw':(al==0)=false:=by simpa using hw
  have hce:ce≠0:=by rw[RR.out.1];exact hw
  have FI:Hid (Ending.returned (.tuple #[.int .i64 0,.int .i64 al])=.returned (.tuple #[.int .i64 cn,.int .i64 ce])∧dA n p q F w w2.drew cx):=hide ⟨by rw[←HN.out,if_neg hce,RR.out.1],by rw[RR.out.2];exact R2.out⟩
  clear hw hce
  go_wp2
  go_ret2
  exact FI.out
 obtain rfl:al=0:=Classical.not_not.1 hw
 have RR:Hid (ce=ae∧cx=⟨x.u,x.t,x.a,x.k,x.m,asx⟩):=hide (by
  rw[HC.out.1,HC.out.2,HX.out,if_neg (by simp),if_neg (by simp)]
  exact⟨rfl,rfl⟩)
 obtain⟨w3,hw3⟩:∃z,w2.drew=z:=⟨_,rfl⟩
 have B3:Below w.heap.size w w3:=by rw[←hw3];exact B2.out.drew
 have P3:w3.heap[X]? =some (.cells #[.int .i64 y.e,.int .u8 y.r,.int .i64 y.a,.int .u8 y.p,.int .i64 y.f,.int .i64 y.b] 46 (0,0)):=by rw[←hw3];exact P2.out
 have c3:w3.cell? ⟨n,3,none⟩=some (.pointer (some ⟨p,0,none⟩)):=by rw[←hw3];exact c3
 rw[hw3]
 obtain⟨g0,g1,g2,g3,g4,g5⟩:=aR P3
 obtain⟨w4,hw4,asv,s4,b4,P4,k0,k1,k2⟩:=gG w3 35 (.int .i64 0) (.int .i64 0) (.slice none 0 0) (.int .i64 y.e) (.int .i64 (en+1)) (.slice va vn vk)
 have B4:=B3.trans (b4.mono B3.size)
 obtain⟨_,c3',_⟩:=C0.out w4 B4
 obtain⟨V,hV,sV,bV,PV⟩:=au w4.drew #[.int .i64 y.e,.int .i64 (en+1),.slice va vn vk] 35
 have A5:=AD.out w4.drew V B4.drew hV
 have z3:=B3.size
 have A6:Hid (Calls Tryz.prog 56 #[.pointer (some ⟨p,0,none⟩),.slice (some ⟨w4.heap.size,0,none⟩) 1 1] V fun E w'=>E=.returned (.int .i64 ae)∧Hid (dA n p q F w w' ⟨x.u,x.t,x.a,x.k,x.m,asx⟩)∧w'.heap[w3.heap.size]? =some (.cells #[.int .i64 y.e,.int .i64 (en+1),.slice va vn vk] 35 (0,0))∧w'.cell? ⟨n,3,none⟩=some (.pointer (some ⟨p,0,none⟩))):=hide (by
  refine A5.mono ?_
  rintro E w' ⟨rfl,k,kk⟩
  have:=k
  obtain⟨F',N,_⟩:=this
  exact⟨rfl,hide k,(kk w3.heap.size (by omega) (by show _<w4.heap.size;omega)).trans P4,N.cs.c3⟩)
 have cV:V.cell? ⟨n,3,none⟩=some (.pointer (some ⟨p,0,none⟩)):=(C0.out V (B4.drew.trans (bV.mono B4.size))).2.1
 have kV:V.heap[w3.heap.size]? =some (.cells #[.int .i64 y.e,.int .i64 (en+1),.slice va vn vk] 35 (0,0)):=(bV.block _ (by show _<w4.heap.size;omega)).trans P4
 have FIN:Hid (∀W,dA n p q F w W ⟨x.u,x.t,x.a,x.k,x.m,asx⟩→Ending.returned (.tuple #[.int .i64 (if ae=0 then en+1 else 0),.int .i64 ae])=.returned (.tuple #[.int .i64 cn,.int .i64 ce])∧dA n p q F w W cx):=hide fun W k=>by rw[←HN.out,RR.out.1,RR.out.2];exact⟨rfl,k⟩
 clear AD A5 C0 SM HX HC RR B2 P2 P3 B3 b4 B4 P4 s4 sV bV PV z3 hw3 hw c3
 go_wp2_with fail
 go_region_held3 (fun w'=>w'.cell? ⟨n,3,none⟩=some (.pointer (some ⟨p,0,none⟩))∧w'.cell? ⟨w3.heap.size,0,none⟩=some (.int .i64 y.e)∧w'.cell? ⟨w3.heap.size,1,none⟩=some (.int .i64 (en+1))∧w'.cell? ⟨w3.heap.size,2,none⟩=some (.slice va vn vk)) (first|exact⟨c3',k0,k1,k2⟩|exact⟨cV,ai kV 0 rfl,ai kV 1 rfl,ai kV 2 rfl⟩|exact⟨c6,ai k6 0 rfl,ai k6 1 rfl,ai k6 2 rfl⟩|go_keep)
  (first|(go_at_call 56;refine A6.out.mono ?_;rintro E w6 ⟨rfl,N6,k6,c6⟩))
 have d1:w6.cell? ⟨w3.heap.size,1,none⟩=some (.int .i64 (en+1)):=ai k6 1 rfl
 have RR:=hide (FIN.out w6 N6.out)
 by_cases ha:ae=0
 ·subst ha
  go_wp2
  go_ret2
  exact RR.out
 ·have ha':(ae==0)=false:=by simpa using ha
  rw[if_neg ha]at RR
  clear ha
  go_wp2
  go_ret2
  exact RR.out
theorem asq {node:Int}(hn:node=0∨node=1):Pm.Ok (fst node)∧fse node=0:=by
 rcases hn with rfl|rfl
 ·exact⟨by unfold fst;rw[if_pos rfl];decide,rfl⟩
 ·exact⟨by unfold fst;rw[if_neg (by decide),if_pos rfl];decide,rfl⟩
theorem alo (g0 g1 P:Nat)(n r:Int)(w:World)(X:Int→World→Prop)(h0:w.cell? ⟨g0,0,none⟩=some (.pointer (some ⟨P,0,none⟩)))(h1:w.cell? ⟨g1,0,none⟩=some (.int .i64 n))(hs:Calls Tryz.prog 102 #[.pointer (some ⟨P,0,none⟩),.int .i64 n] w fun E w'=>∃e,E=.returned (.int .i64 e)∧X e w'):
  Calls Tryz.prog 101 #[.pointer (some ⟨g0,0,none⟩),.pointer (some ⟨g1,0,none⟩)] w fun E w'=>∃e,E=.returned (.int .i64 e)∧X e w':=by
 have PC:=hide hs
 clear hs
 go_enter Tryz.func101,Tryz.ntmps101
 go_wp2_with fail
 refine PC.out.mono ?_
 rintro E w' ⟨e,rfl,k⟩
 have K:=hide k
 clear k PC
 go_wp2
 go_ret
 exact⟨e,rfl,K.out⟩
theorem ajn (g0 P q pw pr:Nat)(F F':Nat→Prop)(w:World)(off:Bool)(x:Pm.Pg)(en b:Int)(vs:Value)(sw:Wl.Ws)(sr:Rl.Rs)(h0:w.cell? ⟨g0,0,none⟩=some (.pointer (some ⟨P,0,none⟩)))(hb:w.heap[P]? =some (.cells (dQ q off x (.pointer (some ⟨pw,0,none⟩)) en (.pointer (some ⟨pr,0,none⟩)) vs) 137 (0,0)))(h1:WW pw q F w sw)(h2:RW pr q F' w sr)(hS:∀W,Below w.heap.size w W→Calls Tryz.prog 180 #[.pointer (some ⟨P,0,none⟩)] W fun E w'=>E=.returned (.int .i64 b)∧Below W.heap.size W w'):
  Calls Tryz.prog 105 #[.pointer (some ⟨g0,0,none⟩)] w fun E w'=>E=.returned (.int .i64 (if uw x (Cm.lastE 0 sw.l) en (Cm.lastN 0 sr.l) b=true then 0 else 5))∧Below w.heap.size w w':=by
 have OL:=hide (yo P q pw pr F F' w off x en vs sw sr hb h1 h2)
 have CK:Hid (∀w1,Below w.heap.size w w1→Calls Tryz.prog 107 #[.agg (iW x (Cm.lastE 0 sw.l) en (Cm.lastN 0 sr.l) P)] w1 fun E w'=>E=.returned (.int .i64 (if uw x (Cm.lastE 0 sw.l) en (Cm.lastN 0 sr.l) b=true then 0 else 5))∧Below w1.heap.size w1 w'):=hide fun w1 k=>zV P x _ en _ b w1 fun _ W hW=>hS W (k.trans (hW.mono k.size))
 generalize (if uw x (Cm.lastE 0 sw.l) en (Cm.lastN 0 sr.l) b=true then(0:Int)else 5)=r at*
 clear hb h1 h2 hS
 go_enter Tryz.func105,Tryz.ntmps105
 go_wp2_with fail
 refine OL.out.mono ?_
 rintro E w1 ⟨rfl,b1⟩
 have CK1:=hide (CK.out w1 b1)
 have B1:=hide b1
 clear OL CK b1
 go_wp2_with fail
 refine CK1.out.mono ?_
 rintro E w2 ⟨rfl,b2⟩
 have B2:=hide (B1.out.trans (b2.mono B1.out.size))
 clear CK1 b2 B1
 go_wp2
 go_ret
 exact⟨rfl,B2.out⟩
theorem amw (l:List Cm.Cv)(n:Int)(h0:0≤n)(h:n≤l.length):frl l (n+1) l.length=l.drop n.toNat:=by
 unfold frl
 split
 ·rename_i k
  have:l.length≤n.toNat:=by omega
  rw[List.drop_eq_nil_of_le this]
 ·rw[show(n+1).toNat-1=n.toNat by omega]
  exact List.take_of_length_le (by rw[List.length_drop];omega)
theorem acU (P q pw pr:Nat)(F Gw Gr:Nat→Prop)(w:World)(off:Bool)(x:Pm.Pg)(vs:Value)(d:Dm.Ds)(l r:List Cm.Cv)(hb:w.heap[P]? =some (.cells (dQ q off x (.pointer (some ⟨pw,0,none⟩)) l.length (.pointer (some ⟨pr,0,none⟩)) vs) 137 (0,0)))(hp:∃o,vs=.pointer o)(hd:Pk q F w d)(h1:Wk pw q Gw w l false)(h2:Rk pr q Gr w r false)(hle:Cm.lastN 0 r≤l.length)(hll:l.length≤100000):
  Calls Tryz.prog 108 #[.pointer (some ⟨P,0,none⟩)] w fun E w'=>E=.returned (.int .i64 0)∧∃ps,∃Gs,Sk ps pr Gs w' (l.drop (Cm.lastN 0 r).toNat)∧(∀g,Gs g→w.heap.size≤g)∧w'.heap[P]? =some (.cells (dQ q off x (.pointer (some ⟨pw,0,none⟩)) l.length (.pointer (some ⟨pr,0,none⟩)) (.pointer (some ⟨ps,0,none⟩))) 137 (0,0))∧Out (fun g=>g=P) w w':=by
 obtain⟨o,rfl⟩:=hp
 have hpl:=aA hb
 have hgr:Rl.Good 0 r:=by
  obtain⟨v,rs,k,_⟩:=h2
  exact k.log.good
 have h0n:0≤Cm.lastN 0 r:=(Rl.eU hgr).2.1
 have hgl:=h1.good
 have hgd:Cm.Good 1 (Cm.lastN 0 r) (l.drop (Cm.lastN 0 r).toNat):=by
  have:=Sto.qx (Rst.l8 hgl) (Cm.lastN 0 r).toNat (by omega)
  rw[show(0:Int)+((Cm.lastN 0 r).toNat:Int)=Cm.lastN 0 r by omega]at this
  exact this
 have hfr:=amw l (Cm.lastN 0 r) h0n hle
 obtain⟨K,hK⟩:∃K:World→Prop,K=fun W=>Hid (W.heap[P]? =w.heap[P]?∧Below w.heap.size w W):=⟨_,rfl⟩
 have HE:Hid (∀W,K W→Calls Tryz.prog 179 #[.pointer (some ⟨pr,0,none⟩)] W fun E w'=>E=.returned (.int .i64 (Cm.lastN 0 r))∧K w'):=hide fun W k=>by
  subst hK
  refine(mY pr q _ W ⟨d,r,false⟩ ⟨F,Gr,hd.below k.out.2,h2.below k.out.2,rfl⟩).mono ?_
  rintro E w' ⟨rfl,rfl⟩
  exact⟨rfl,k⟩
 have HF:Hid (∀W,K W→Calls Tryz.prog 63 #[.pointer (some ⟨pw,0,none⟩),.int .i64 (Cm.lastN 0 r+1),.int .i64 l.length] W fun E w'=>∃a n k rs,E=.returned (.slice a n k)∧Hid (iy w' (.slice a n k) rs∧aH rs=l.drop (Cm.lastN 0 r).toNat)∧K w'):=hide fun W k=>by
  subst hK
  refine(ajc pw q _ W ⟨d,l,false⟩ (Cm.lastN 0 r+1) l.length ⟨F,Gw,hd.below k.out.2,h1.below k.out.2,rfl⟩).mono ?_
  rintro E w' ⟨v,rs,rfl,o1,o2,o3,o4,o5⟩
  have b:=k.out.2.trans (o5.mono k.out.2.size)
  have o3:aH rs=l.drop (Cm.lastN 0 r).toNat:=o3.trans hfr
  have hic:iy w' v rs:=⟨o1.row,fun c hc=>⟨(o2 c hc).is,by
   have hm:c.c∈l.drop (Cm.lastN 0 r).toNat:=by rw[←o3];exact List.mem_map_of_mem hc
   have:=Sto.iJ hgd c.c hm
   have h3:=Cm.aV this.1
   have e1:c.c.e=c.e:=rfl
   have e2:c.c.n=c.n:=rfl
   unfold In64
   omega⟩⟩
  obtain⟨a,n,kk,rfl⟩:∃a n k,v=.slice a n k:=by
   rcases hic.1 with⟨h,_⟩|⟨a,c,h,_⟩
   ·exact⟨_,_,_,h⟩
   ·exact⟨_,_,_,h⟩
  exact⟨a,n,kk,rs,rfl,hide ⟨hic,o3⟩,hide ⟨b.block P hpl,b⟩⟩
 have HO:Hid (∀W,K W→∀a n k rs,Hid (iy W (.slice a n k) rs∧aH rs=l.drop (Cm.lastN 0 r).toNat)→Calls Tryz.prog 181 #[.pointer (some ⟨pr,0,none⟩),.slice a n k] W fun E w'=>∃ps,E=.returned (.tuple #[.pointer (some ⟨ps,0,none⟩),.int .i64 0])∧Hid (∃Gs,Sk ps pr Gs w' (l.drop (Cm.lastN 0 r).toNat)∧∀g,Gs g→w.heap.size≤g)∧K w'):=hide fun W k a n kk rs RC=>by
  subst hK
  have hz:=k.out.2.size
  have hfc:jr rs:=fun c hc=>by
   have hm:c.c∈l.drop (Cm.lastN 0 r).toNat:=by rw[←RC.out.2];exact List.mem_map_of_mem hc
   obtain⟨_,_,_,_,h5⟩:=Cm.aV (Sto.iJ hgd c.c hm).1
   have:=(Bm.dJ h5).2.1
   exact⟨(sK h5).fit,by show c.c.l.length*40≤_;omega⟩
  have hrl:rs.length≤100000:=by
   have:=congrArg List.length RC.out.2
   unfold aH at this
   rw[List.length_map,List.length_drop]at this
   omega
  refine(ald pr q _ W ⟨d,r,false⟩ _ rs ⟨F,Gr,hd.below k.out.2,h2.below k.out.2,rfl⟩ RC.out.1 hfc hrl).mono ?_
  have hf0:(Cm.fol 1 (Cm.lastN 0 r) 0 (aH rs)).1=0:=(Cm.gH _ _ _ 0).2 (by rw[RC.out.2];exact hgd)
  rintro E w' (⟨h,_⟩|⟨_,ps,rfl,Gs,g1,g2,g3⟩)
  ·exact absurd hf0 h
  ·have b:=k.out.2.trans (g3.mono hz)
   rw[RC.out.2]at g1
   exact⟨ps,rfl,hide ⟨Gs,g1,fun g hg=>by have:=g2 g hg;omega⟩,hide ⟨b.block P hpl,b⟩⟩
 have hwr:IntKind.i64.wrap (Cm.lastN 0 r+1)=Cm.lastN 0 r+1:=aS _ (by omega) (by omega)
 have HL:Hid (∃m,m=l.drop (Cm.lastN 0 r).toNat):=hide ⟨_,rfl⟩
 obtain⟨SS,hSS⟩:∃SS:Int→World→Prop,SS=fun en=>(fun W=>W.cell? ⟨P,8,none⟩=some (.pointer (some ⟨pw,0,none⟩))∧W.cell? ⟨P,9,none⟩=some (.int .i64 en)∧W.cell? ⟨P,11,none⟩=some (.pointer (some ⟨pr,0,none⟩))):=⟨_,rfl⟩
 have sB:∀W,W.heap[P]? =w.heap[P]?→SS l.length W:=fun W k=>by
  subst hSS
  obtain⟨c0,_,c2,c3,c4,c5,c6,c7,c8,c9,_,c11,_⟩:=mM (k.trans hb)
  exact⟨c8,c9,c11⟩
 have KS:Hid (∀W,K W→SS l.length W):=hide fun W k=>by
  subst hK
  exact sB W k.out.1
 have PT:Hid (∀W ps,K W→Hid (∃Gs,Sk ps pr Gs W (l.drop (Cm.lastN 0 r).toNat)∧∀g,Gs g→w.heap.size≤g)→∃V,W.setCell ⟨P,12,none⟩ (.pointer (some ⟨ps,0,none⟩))=V∧W.cell? ⟨P,12,none⟩=some (.pointer o)∧W.frozen? ⟨P,12,none⟩=false∧(SS l.length V∧∃Gs,Sk ps pr Gs V (l.drop (Cm.lastN 0 r).toNat)∧(∀g,Gs g→w.heap.size≤g)∧V.heap[P]? =some (.cells (dQ q off x (.pointer (some ⟨pw,0,none⟩)) l.length (.pointer (some ⟨pr,0,none⟩)) (.pointer (some ⟨ps,0,none⟩))) 137 (0,0))∧Out (fun g=>g=P) w V)):=hide fun W ps k sk=>by
  subst hK hSS
  obtain⟨Gs,s1,s2⟩:=sk.out
  have pW:=k.out.1.trans hb
  have oV:Out (fun g=>g=P) W (W.setCell ⟨P,12,none⟩ (.pointer (some ⟨ps,0,none⟩))):=Out.aP (ax W ⟨P,12,none⟩ (.pointer (some ⟨ps,0,none⟩))) fun i hi=>by simpa using hi.symm
  have pV:(W.setCell ⟨P,12,none⟩ (.pointer (some ⟨ps,0,none⟩))).heap[P]? =some (.cells (dQ q off x (.pointer (some ⟨pw,0,none⟩)) l.length (.pointer (some ⟨pr,0,none⟩)) (.pointer (some ⟨ps,0,none⟩))) 137 (0,0)):=aG pW 12 (.pointer (some ⟨ps,0,none⟩))
  obtain⟨_,_,_,_,_,_,_,_,c8,c9,_,c11,_⟩:=mM pV
  exact⟨_,rfl,ai pW 12 rfl,aB pW 12,⟨c8,c9,c11⟩,Gs,s1.out oV fun g hg e=>by have:=s2 g hg;omega,s2,pV,(Out.of_below k.out.2).trans oV fun g hg=>.inl hg⟩
 obtain⟨W0,hW0⟩:∃W,w.drew=W:=⟨_,rfl⟩
 have K0:K W0:=by
  subst hK
  rw[←hW0]
  exact hide ⟨rfl,(Below.refl _ _).drew⟩
 subst hK hSS
 simp only at KS PT
 generalize (l.length:Int)=en at*
 generalize l.drop (Cm.lastN 0 r).toNat=rest at*
 generalize Cm.lastN 0 r=n at*
 clear h1 h2 hd hb sB hgr hgl hgd hfr hle hll HL
 go_enter Tryz.func108,Tryz.ntmps108
 go_wp2_with fail
 refine lS (ops:=(ay 1 Tryz.f108)) (S:=fun W=>W.cell? ⟨P,8,none⟩=some (.pointer (some ⟨pw,0,none⟩))∧W.cell? ⟨P,9,none⟩=some (.int .i64 en)∧W.cell? ⟨P,11,none⟩=some (.pointer (some ⟨pr,0,none⟩))) (by kernel_rfl) am1 ?_
 rw[aq2,hW0]
 refine aD (v:=?_) ant (by kernel_rfl) (fun _ _ _ _ _ h=>h) (KS.out _ K0) rfl rfl (by rfl) ?_ ?_
 rotate_left 1
 ·intro w hS
  (try dsimp only at hS)
  go_simp
  all_goals with_reducible rfl
 simp only[Act.put,List.setIfInBounds_toArray,List.set_cons_zero,List.set_cons_succ]
 refine aD (v:=?_) amS (by kernel_rfl) (fun _ _ _ _ _ h=>h) (KS.out _ K0) rfl rfl (by rfl) ?_ ?_
 rotate_left 1
 ·intro w hS
  (try dsimp only at hS)
  go_simp
  all_goals with_reducible rfl
 simp only[Act.put,List.setIfInBounds_toArray,List.set_cons_zero,List.set_cons_succ]
 refine aD (v:=?_) aox (by kernel_rfl) (fun _ _ _ _ _ h=>h) (KS.out _ K0) rfl rfl (by rfl) ?_ ?_
 rotate_left 1
 ·intro w hS
  (try dsimp only at hS)
  go_simp
  all_goals with_reducible rfl
 simp only[Act.put,List.setIfInBounds_toArray,List.set_cons_zero,List.set_cons_succ]
 refine aD (v:=?_) anl (by kernel_rfl) (fun _ _ _ _ _ h=>h) (KS.out _ K0) rfl rfl (by rfl) ?_ ?_
 rotate_left 1
 ·intro w hS
  (try dsimp only at hS)
  go_simp
  all_goals with_reducible rfl
 simp only[Act.put,List.setIfInBounds_toArray,List.set_cons_zero,List.set_cons_succ]
 refine aD (v:=?_) ajA (by kernel_rfl) (fun _ _ _ _ _ h=>h) (KS.out _ K0) rfl rfl (by rfl) ?_ ?_
 rotate_left 1
 ·intro w hS
  (try dsimp only at hS)
  go_simp
  all_goals with_reducible rfl
 simp only[Act.put,List.setIfInBounds_toArray,List.set_cons_zero,List.set_cons_succ]
 refine aD (v:=?_) ajr (by kernel_rfl) (fun _ _ _ _ _ h=>h) (KS.out _ K0) rfl rfl (by rfl) ?_ ?_
 rotate_left 1
 ·intro w hS
  (try dsimp only at hS)
  go_simp
  all_goals with_reducible rfl
 simp only[Act.put,List.setIfInBounds_toArray,List.set_cons_zero,List.set_cons_succ]
 refine aD (v:=?_) akz (by kernel_rfl) (fun _ _ _ _ _ h=>h) (KS.out _ K0) rfl rfl (by rfl) ?_ ?_
 rotate_left 1
 ·intro w hS
  (try dsimp only at hS)
  go_simp
  all_goals with_reducible rfl
 simp only[Act.put,List.setIfInBounds_toArray,List.set_cons_zero,List.set_cons_succ]
 refine aD (v:=?_) aif (by kernel_rfl) (fun _ _ _ _ _ h=>h) (KS.out _ K0) rfl rfl (by rfl) ?_ ?_
 rotate_left 1
 ·intro w hS
  (try dsimp only at hS)
  go_simp
  all_goals with_reducible rfl
 simp only[Act.put,List.setIfInBounds_toArray,List.set_cons_zero,List.set_cons_succ]
 refine aD (v:=?_) ah3 (by kernel_rfl) (fun _ _ _ _ _ h=>h) (KS.out _ K0) rfl rfl (by rfl) ?_ ?_
 rotate_left 1
 ·intro w hS
  (try dsimp only at hS)
  go_simp
  all_goals with_reducible rfl
 simp only[Act.put,List.setIfInBounds_toArray,List.set_cons_zero,List.set_cons_succ]
 refine aD (v:=?_) aiE (by kernel_rfl) (fun _ _ _ _ _ h=>h) (KS.out _ K0) rfl rfl (by rfl) ?_ ?_
 rotate_left 1
 ·intro w hS
  (try dsimp only at hS)
  go_simp
  all_goals with_reducible rfl
 simp only[Act.put,List.setIfInBounds_toArray,List.set_cons_zero,List.set_cons_succ]
 refine aD (v:=?_) aez (by kernel_rfl) (fun _ _ _ _ _ h=>h) (KS.out _ K0) rfl rfl (by rfl) ?_ ?_
 rotate_left 1
 ·intro w hS
  (try dsimp only at hS)
  go_simp
  all_goals with_reducible rfl
 simp only[Act.put,List.setIfInBounds_toArray,List.set_cons_zero,List.set_cons_succ]
 refine aD (v:=?_) aeN (by kernel_rfl) (fun _ _ _ _ _ h=>h) (KS.out _ K0) rfl rfl (by rfl) ?_ ?_
 rotate_left 1
 ·intro w hS
  (try dsimp only at hS)
  go_simp
  all_goals with_reducible rfl
 simp only[Act.put,List.setIfInBounds_toArray,List.set_cons_zero,List.set_cons_succ]
 refine aD (v:=?_) afG (by kernel_rfl) (fun _ _ _ _ _ h=>h) (KS.out _ K0) rfl rfl (by rfl) ?_ ?_
 rotate_left 1
 ·intro w hS
  (try dsimp only at hS)
  go_simp
  all_goals with_reducible rfl
 simp only[Act.put,List.setIfInBounds_toArray,List.set_cons_zero,List.set_cons_succ]
 refine aD (v:=?_) aeF (by kernel_rfl) (fun _ _ _ _ _ h=>h) (KS.out _ K0) rfl rfl (by rfl) ?_ ?_
 rotate_left 1
 ·intro w hS
  (try dsimp only at hS)
  go_simp
  all_goals with_reducible rfl
 simp only[Act.put,List.setIfInBounds_toArray,List.set_cons_zero,List.set_cons_succ]
 refine aD (v:=?_) ada (by kernel_rfl) (fun _ _ _ _ _ h=>h) (KS.out _ K0) rfl rfl (by rfl) ?_ ?_
 rotate_left 1
 ·intro w hS
  (try dsimp only at hS)
  go_simp
  all_goals with_reducible rfl
 simp only[Act.put,List.setIfInBounds_toArray,List.set_cons_zero,List.set_cons_succ]
 refine aD (v:=?_) ac9 (by kernel_rfl) (fun _ _ _ _ _ h=>h) (KS.out _ K0) rfl rfl (by rfl) ?_ ?_
 rotate_left 1
 ·intro w hS
  (try dsimp only at hS)
  go_simp
  all_goals with_reducible rfl
 simp only[Act.put,List.setIfInBounds_toArray,List.set_cons_zero,List.set_cons_succ]
 refine aD (v:=?_) acS (by kernel_rfl) (fun _ _ _ _ _ h=>h) (KS.out _ K0) rfl rfl (by rfl) ?_ ?_
 rotate_left 1
 ·intro w hS
  (try dsimp only at hS)
  go_simp
  all_goals with_reducible rfl
 simp only[Act.put,List.setIfInBounds_toArray,List.set_cons_zero,List.set_cons_succ]
 refine aD (v:=?_) abv (by kernel_rfl) (fun _ _ _ _ _ h=>h) (KS.out _ K0) rfl rfl (by rfl) ?_ ?_
 rotate_left 1
 ·intro w hS
  (try dsimp only at hS)
  go_simp
  all_goals with_reducible rfl
 simp only[Act.put,List.setIfInBounds_toArray,List.set_cons_zero,List.set_cons_succ]
 refine aD (v:=?_) aa9 (by kernel_rfl) (fun _ _ _ _ _ h=>h) (KS.out _ K0) rfl rfl (by rfl) ?_ ?_
 rotate_left 1
 ·intro w hS
  (try dsimp only at hS)
  go_simp
  all_goals with_reducible rfl
 simp only[Act.put,List.setIfInBounds_toArray,List.set_cons_zero,List.set_cons_succ]
 refine aD (v:=?_) zI (by kernel_rfl) (fun _ _ _ _ _ h=>h) (KS.out _ K0) rfl rfl (by rfl) ?_ ?_
 rotate_left 1
 ·intro w hS
  (try dsimp only at hS)
  go_simp
  all_goals with_reducible rfl
 simp only[Act.put,List.setIfInBounds_toArray,List.set_cons_zero,List.set_cons_succ]
 refine aD (v:=?_) aag (by kernel_rfl) (fun _ _ _ _ _ h=>h) (KS.out _ K0) rfl rfl (by rfl) ?_ ?_
 rotate_left 1
 ·intro w hS
  (try dsimp only at hS)
  go_simp
  all_goals with_reducible rfl
 simp only[Act.put,List.setIfInBounds_toArray,List.set_cons_zero,List.set_cons_succ]
 refine aN aff ?_
 refine aJ rfl (by rfl) (fun K hK=>?_)
 go_simp
 refine(HE.out _ K0).mono ?_
 rintro E U1 ⟨rfl,k1⟩
 go_wp2_with fail
 refine hK.out _ _ (KS.out _ k1) ?_
 clear hK K
 try simp only[Act.put,List.setIfInBounds_toArray,List.set_cons_zero,List.set_cons_succ]
 refine aD (v:=?_) aab (by kernel_rfl) (fun _ _ _ _ _ h=>h) (KS.out _ k1) rfl rfl (by rfl) ?_ ?_
 rotate_left 1
 ·intro w hS
  (try dsimp only at hS)
  go_simp
  all_goals with_reducible rfl
 simp only[Act.put,List.setIfInBounds_toArray,List.set_cons_zero,List.set_cons_succ]
 refine aN afu ?_
 refine aJ rfl (by rfl) (fun K hK=>?_)
 go_simp
 refine(HF.out _ k1).mono ?_
 rintro E U2 ⟨ro,rn,rk,rs,rfl,RC,k2⟩
 go_wp2_with fail
 refine hK.out _ _ (KS.out _ k2) ?_
 clear hK K
 try simp only[Act.put,List.setIfInBounds_toArray,List.set_cons_zero,List.set_cons_succ]
 refine aN ac3 ?_
 refine aJ rfl (by rfl) (fun K hK=>?_)
 go_simp
 refine(HO.out _ k2 _ _ _ rs RC).mono ?_
 rintro E U3 ⟨pn,rfl,SK,k3⟩
 go_wp2_with fail
 refine hK.out _ _ (KS.out _ k3) ?_
 clear hK K
 try simp only[Act.put,List.setIfInBounds_toArray,List.set_cons_zero,List.set_cons_succ]
 refine aD (v:=?_) zo (by kernel_rfl) (fun _ _ _ _ _ h=>h) (KS.out _ k3) rfl rfl (by rfl) ?_ ?_
 rotate_left 1
 ·intro w hS
  (try dsimp only at hS)
  go_simp
  all_goals with_reducible rfl
 simp only[Act.put,List.setIfInBounds_toArray,List.set_cons_zero,List.set_cons_succ]
 refine aD (v:=?_) yT (by kernel_rfl) (fun _ _ _ _ _ h=>h) (KS.out _ k3) rfl rfl (by rfl) ?_ ?_
 rotate_left 1
 ·intro w hS
  (try dsimp only at hS)
  go_simp
  all_goals with_reducible rfl
 simp only[Act.put,List.setIfInBounds_toArray,List.set_cons_zero,List.set_cons_succ]
 refine aD (v:=?_) xJ (by kernel_rfl) (fun _ _ _ _ _ h=>h) (KS.out _ k3) rfl rfl (by rfl) ?_ ?_
 rotate_left 1
 ·intro w hS
  (try dsimp only at hS)
  go_simp
  all_goals with_reducible rfl
 simp only[Act.put,List.setIfInBounds_toArray,List.set_cons_zero,List.set_cons_succ]
 refine aD (v:=?_) xL (by kernel_rfl) (fun _ _ _ _ _ h=>h) (KS.out _ k3) rfl rfl (by rfl) ?_ ?_
 rotate_left 1
 ·intro w hS
  (try dsimp only at hS)
  go_simp
  all_goals with_reducible rfl
 simp only[Act.put,List.setIfInBounds_toArray,List.set_cons_zero,List.set_cons_succ]
 refine aD (v:=?_) xN (by kernel_rfl) (fun _ _ _ _ _ h=>h) (KS.out _ k3) rfl rfl (by rfl) ?_ ?_
 rotate_left 1
 ·intro w hS
  (try dsimp only at hS)
  go_simp
  all_goals with_reducible rfl
 simp only[Act.put,List.setIfInBounds_toArray,List.set_cons_zero,List.set_cons_succ]
 refine aD (v:=?_) vF (by kernel_rfl) (fun _ _ _ _ _ h=>h) (KS.out _ k3) rfl rfl (by rfl) ?_ ?_
 rotate_left 1
 ·intro w hS
  (try dsimp only at hS)
  go_simp
  all_goals with_reducible rfl
 simp only[Act.put,List.setIfInBounds_toArray,List.set_cons_zero,List.set_cons_succ]
 refine aN aaJ ?_
 obtain⟨V,hV,a12,f12,SV⟩:=PT.out _ pn k3 SK
 have SV:=hide SV
 refine aJ rfl (by rfl) (fun K hK=>?_)
 go_simp
 go_wp2_with fail
 refine hK.out _ _ SV.out.1 ?_
 clear hK K
 try simp only[Act.put,List.setIfInBounds_toArray,List.set_cons_zero,List.set_cons_succ]
 refine aD (v:=?_) uW (by kernel_rfl) (fun _ _ _ _ _ h=>h) SV.out.1 rfl rfl (by rfl) ?_ ?_
 rotate_left 1
 ·intro w hS
  (try dsimp only at hS)
  go_simp
  all_goals with_reducible rfl
 simp only[Act.put,List.setIfInBounds_toArray,List.set_cons_zero,List.set_cons_succ]
 refine bO aqO ?_
 clear HE HF HO KS PT
 go_wp2
 go_ret
 exact⟨rfl,pn,SV.out.2⟩
structure rQ (q:Nat) (F:Nat→Prop) (w w5 W:World) (n0 P:Nat) (Fk:Nat→Prop) (d:Dm.Ds):Prop where
 pK:Pk q Fk W d
 out:Out F w W
 far:∀g,Fk g→F g∨w.heap.size≤g
 gu:fC W
 nb:∀g,g=n0∨g=P∨g=P+1∨g=P+2→¬Fk g∧g<W.heap.size
 keep:∀g,g=n0∨g=P+1∨g=P+2→W.heap[g]? =w5.heap[g]?
section
variable {q n0 P:Nat} {F Fk F':Nat→Prop} {w w5 W W':World} {d d':Dm.Ds}
theorem rQ.step (h:rQ q F w w5 W n0 P Fk d)(h0:¬F 0)(hp:0<w.heap.size)(hP:w.heap.size≤P)(hn:n0<P)(k1:Pk q F' W' d')(k2:Out (fun g=>Fk g∨g=P) W W')(k3:∀g,F' g→Fk g∨W.heap.size≤g):rQ q F w w5 W' n0 P F' d':=by
 have hs:=h.out.size
 have hz:=k2.size
 refine⟨k1,h.out.trans k2 fun g hg=>?_,fun g hg=>?_,gz h.gu k2 fun e=>?_,fun g hg=>⟨fun e=>?_,?_⟩,fun g hg=>(k2.block g (h.nb g ?_).2 fun e=>?_).trans (h.keep g hg)⟩
 ·rcases hg with e|e
  ·exact h.far g e
  ·exact .inr (by omega)
 ·rcases k3 g hg with e|e
  ·exact h.far g e
  ·exact .inr (by omega)
 ·rcases e with e|e
  ·rcases h.far 0 e with e|e
   ·exact h0 e
   ·omega
  ·omega
 ·rcases k3 g e with e|e
  ·exact(h.nb g hg).1 e
  ·have:=(h.nb g hg).2;omega
 ·have:=(h.nb g hg).2;omega
 ·rcases hg with e|e|e
  ·exact .inl e
  ·exact .inr (.inr (.inl e))
  ·exact .inr (.inr (.inr e))
 ·rcases e with e|e
  ·exact(h.nb g (by rcases hg with e|e|e;exact .inl e;exact .inr (.inr (.inl e));exact .inr (.inr (.inr e)))).1 e
  ·rcases hg with k|k|k<;>omega
theorem rQ.below (h:rQ q F w w5 W n0 P Fk d)(h0:¬F 0)(hp:0<w.heap.size)(hP:w.heap.size≤P)(hn:n0<P)(hb:Below W.heap.size W W'):rQ q F w w5 W' n0 P Fk d:=
 h.step h0 hp hP hn (h.pK.below hb) (Out.of_below hb) fun g hg=>.inl hg
end
theorem avt (p q:Nat)(F:Nat→Prop)(w:World)(st:Dm.Ds)(ss:List Orp.Se)(h:Pk q F w st)(hs:Big 90000000 700000 st)(hp:w.cell? ⟨p,0,none⟩=some (.pointer (some ⟨q,0,none⟩)))(hpl:p<w.heap.size)(ho:st.on=true)(h3:Rst.hf 3 st=Orp.secs ss)(hr:ss=[]):∀W,Below w.heap.size w W→
  Calls Tryz.prog 180 #[.pointer (some ⟨p,0,none⟩)] W fun E w'=>E=.returned (.int .i64 (Orp.secs ss).length)∧Below W.heap.size W w':=by
 intro W hW
 subst hr
 have e:W.cell? ⟨p,0,none⟩=w.cell? ⟨p,0,none⟩:=by have:=hW.block p hpl;simp[World.cell?,this]
 exact aeo p q F W st (h.below hW) hs (e.trans hp) ho h3
end Go.Proofs.YtlmkaljjocflmaaGreatDoor
