/- Texts of one layer, one behind the other. -/
import Derived.Test.YtjemlgdkjilnoaaGreatDoorZRrg
import Derived.Test.YtjemlgdkjilnoaaGreatDoorH33
import Derived.Deep.RegionHeld3
import Derived.Test.YtjemlgdkjilnoaaGreatDoorH37
import Derived.Test.YtjemlgdkjilnoaaGreatDoorH16
import Derived.Test.YtjemlgdkjilnoaaGreatDoorH29
import Derived.Test.YtjemlgdkjilnoaaGreatDoorH26
import Derived.Test.YtjemlgdkjilnoaaGreatDoorZRqt
import Derived.Test.YtjemlgdkjilnoaaGreatDoorH35
import Derived.Test.YtjemlgdkjilnoaaGreatDoorH3
set_option maxRecDepth 100000
set_option maxHeartbeats 8000000
namespace Go.Proofs.YtjemlgdkjilnoaaGreatDoor
open Go.RowKit Go.Maps
set_option linter.unusedVariables false
def dK (k:Int) (g:Nat):Value:=
 if k=1 then .func (.func 88) #[] #[.pointer (some ⟨g,0,none⟩),.pointer (some ⟨g+1,0,none⟩)]else if k=2 then .func (.func 90) #[] #[.pointer (some ⟨g,0,none⟩)]else if k=3 then .func (.func 92) #[] #[.pointer (some ⟨g,0,none⟩)]else .func (.func 94) #[] #[]
theorem Tryz.akN (w:World):(zeroValue 101).run Tryz.prog w=.ok .nilFunc w:=by kernel_rfl
theorem arw {p base g:Nat}{w:World}{v:Value}(h:PhM p base w (dK 1 g) (dK 2 g) (dK 3 g) (dK 4 g) v)(k:Int)(h1:1≤k)(h4:k≤4):
  ∃gd gs,(Instr.lookup 103 v (.int .u8 k) true).run Tryz.prog w=.ok (.tuple #[jI gd gs,.bool true]) w∧w.heap[gd]? =some (.cells #[dK k g] 101 (0,0))∧w.heap[gs]? =some (.cells #[.pointer (some ⟨p,0,none⟩)] 22 (0,0))∧base≤gd∧base≤gs:=by
 obtain⟨b,u1,u2,u3,u4,rfl,lL,e1,e2,e3,e4⟩:=h
 have key:∀(k:Int) (u d:Value),keyOf Tryz.prog 33 (.int .u8 k)=some (.int .u8 k)→Maps.has (DataW.map (kQ true true true true u1 u2 u3 u4)) (.int .u8 k)=true→(DataW.map (kQ true true true true u1 u2 u3 u4)).atKey (.int .u8 k) (.agg [])=zh u→En p base w u d→∃gd gs,(Instr.lookup 103 (.map (some b)) (.int .u8 k) true).run Tryz.prog w=.ok (.tuple #[jI gd gs,.bool true]) w∧w.heap[gd]? =some (.cells #[d] 101 (0,0))∧w.heap[gs]? =some (.cells #[.pointer (some ⟨p,0,none⟩)] 22 (0,0))∧base≤gd∧base≤gs:=by
  intro k u d hk hh ha hu
  obtain⟨gd,gs,rfl,q1,q2,q3,q4⟩:=hu
  obtain⟨v,ps,hr,hv⟩:=lL.look_ok Tryz.ab8 Tryz.underlying103 (Tryz.akN w) (zd:=.agg []) (zp:=[]) rfl hk
  rw[ha]at hv
  obtain rfl:v=jI gd gs:=arv hv
  rw[hh]at hr
  exact⟨gd,gs,hr,q1,q2,q3,q4⟩
 obtain rfl|rfl|rfl|rfl:k=1∨k=2∨k=3∨k=4:=by omega
 ·exact key 1 u1 _ (by kernel_rfl) rfl rfl e1
 ·exact key 2 u2 _ (by kernel_rfl) rfl rfl e2
 ·exact key 3 u3 _ (by kernel_rfl) rfl rfl e3
 ·exact key 4 u4 _ (by kernel_rfl) rfl rfl e4
theorem arz {p base:Nat}{w:World}{v d1 d2 d3 d4:Value}(h:PhM p base w d1 d2 d3 d4 v):∃u,(Instr.lookup 103 v (.int .u8 0) true).run Tryz.prog w=.ok (.tuple #[u,.bool false]) w:=by
 obtain⟨b,u1,u2,u3,u4,rfl,lL,_⟩:=h
 obtain⟨v,ps,hr,hv⟩:=lL.look_ok Tryz.ab8 Tryz.underlying103 (Tryz.akN w) (zd:=.agg []) (zp:=[]) rfl (key:=.int .u8 0) (kl:=.int .u8 0) (by kernel_rfl)
 exact⟨v,hr⟩
theorem lN (p q:Nat)(F:Nat→Prop)(w:World)(s:Rst.St)(h:PS p q F w s)(hR:o9 s)(he:1≤s.p.e)(lQ:0≤s.p.p∧s.p.p≤4)(m:Mw)(c:Int)(hi:gQ w m)(hf:dC m)(hc:Mm.Ck m.m c)(RR:Ending→World→Prop)
  (H0:s.p.p=0→∀W,Below w.heap.size w W→RR (.returned (.tuple #[vp Pm.no,.int .i64 2])) W)
  (H4:s.p.p=1→xN s.p m c=false→∀W,Below w.heap.size w W→RR (.returned (.tuple #[vp Pm.no,.int .i64 4])) W)
  (HD:1≤s.p.p→(s.p.p=1→xN s.p m c=true)→∀W g gd gs,Below w.heap.size w W→W.heap[gd]? =some (.cells #[dK s.p.p g] 101 (0,0))→W.heap[gs]? =some (.cells #[.pointer (some ⟨p,0,none⟩)] 22 (0,0))→W.heap[g]? =some (.cells #[.pointer (some ⟨p,0,none⟩)] 22 (0,0))→fP W (g+1) m→(w.heap.size≤g∧w.heap.size≤gd∧w.heap.size≤gs)→Calls Tryz.prog 135 #[vp s.p,.pointer (some ⟨gd,0,none⟩),.pointer (some ⟨gs,0,none⟩)] W fun E w'=>∃y e,E=.returned (.tuple #[vp y,.int .i64 e])∧((∃o,W.heap[w.heap.size+1]? =some o)→w'.heap[w.heap.size+1]? =W.heap[w.heap.size+1]?)∧∀V,w.heap.size+1<W.heap.size→w'.grownBy V (some (w.heap.size+1))→RR (.returned (.tuple #[vp y,.int .i64 e])) V):
  Calls Tryz.prog 11 #[.pointer (some ⟨p,0,none⟩),mv m] w RR:=by
 obtain⟨x,hx⟩:∃x,s.p=x:=⟨_,rfl⟩
 rw[hx]at he lQ H0 H4 HD
 obtain⟨w1,hw1,s1,b1,P1⟩:=oN w m
 obtain⟨w2,hw2,s2,b2,P2⟩:=ak w1 #[.int .i64 0,.int .u8 0,.int .i64 0,.int .u8 0,.int .i64 0,.int .i64 0] 35
 rw[s1]at P2
 have b02:Below w.heap.size w w2:=b1.trans (b2.mono (by omega))
 have fD:fP w2 w.heap.size m:=(b2.block w.heap.size (by omega)).trans P1
 have HG:=hide (alS p q F w2 s (h.below b02) hR)
 rw[hx]at HG
 have HV:Hid (∀y:Pm.Pg,vp y=.agg #[.int .i64 y.e,.int .u8 y.r,.int .i64 y.a,.int .u8 y.p,.int .i64 y.f,.int .i64 y.b]):=hide fun _=>rfl
 have hfx:eT x:=by rw[←hx];exact h.fit
 have KEEP:Hid (∀W,Below w2.heap.size w2 W→fP W w.heap.size m∧W.heap[w.heap.size+1]? =some (.cells #[.int .i64 0,.int .u8 0,.int .i64 0,.int .u8 0,.int .i64 0,.int .i64 0] 35 (0,0))∧gQ W m∧Below w.heap.size w W):=hide fun W hW=>by
  have b:=b02.trans (hW.mono (by omega))
  exact⟨(hW.block _ (by omega)).trans fD,(hW.block _ (by omega)).trans P2,hi.below b,b⟩
 have z2:w2.heap.size=w.heap.size+2:=by omega
 have HH:=hide (And.intro hf (And.intro hc (And.intro hfx (And.intro H0 (And.intro H4 HD)))))
 have hz:(x.e==0)=false:=by
  rw[beq_eq_false_iff_ne]
  omega
 have hq:∀W,(binOp .eql 35 (.agg #[.int .i64 x.e,.int .u8 x.r,.int .i64 x.a,.int .u8 x.p,.int .i64 x.f,.int .i64 x.b]) (.agg #[.int .i64 0,.int .u8 0,.int .i64 0,.int .u8 0,.int .i64 0,.int .i64 0])).run Tryz.prog W=.ok (.bool false) W:=fun W=>by
  rw[Tryz.abW,hz]
  simp
 obtain⟨a0,a1,a2,a3,a4,a5,a6,a7⟩:=fD.ei
 have HM:Hid (mv m=.agg #[.int .i64 m.k,.int .i64 m.e,.int .u8 m.r,.int .i64 m.n,m.vs,.int .i64 m.f,.int .i64 m.p,m.vc]):=hide rfl
 rw[HM.out]
 rw[HV.out]at HG
 clear h hR he hi hf hc H0 H4 HD b1 b2 P1 P2 fD b02 hx hfx hz s2
 go_enter Tryz.func11,Tryz.ntmps11
 go_wp2_with fail
 refine HG.out.mono ?_
 rintro E w3 ⟨rfl,b3⟩
 obtain⟨w4,hw4,ayx,lT,b4,P4,⟨e0,e1,e2,e3,e4,e5⟩⟩:=xA w3 35 (.int .i64 0) (.int .u8 0) (.int .i64 0) (.int .u8 0) (.int .i64 0) (.int .i64 0) (.int .i64 x.e) (.int .u8 x.r) (.int .i64 x.a) (.int .u8 x.p) (.int .i64 x.f) (.int .i64 x.b)
 have mR:Below w2.heap.size w2 w4:=b3.trans (b4.mono b3.size)
 obtain⟨k1,k2,k3,k4⟩:=KEEP.out w4 mR
 obtain⟨a0,a1,a2,a3,a4,a5,a6,a7⟩:=k1.ei
 have CP:Hid (Calls Tryz.prog 42 #[.pointer (some ⟨p,0,none⟩),.agg #[.int .i64 m.k,.int .i64 m.e,.int .u8 m.r,.int .i64 m.n,m.vs,.int .i64 m.f,.int .i64 m.p,m.vc]] w4.drew fun E w'=>∃v,E=.returned v∧Hid (PhM p w4.heap.size w' (dK 1 w4.heap.size) (dK 2 w4.heap.size) (dK 3 w4.heap.size) (dK 4 w4.heap.size) v∧w'.heap[w4.heap.size]? =some (.cells #[.pointer (some ⟨p,0,none⟩)] 22 (0,0))∧fP w' (w4.heap.size+1) m∧Below w4.heap.size w4 w')∧(∃u bb,(Instr.lookup 103 v (.int .u8 x.p) true).run Tryz.prog w'=.ok (.tuple #[u,.bool bb]) w'∧Hid (x.p=0∧bb=false∨1≤x.p∧bb=true∧∃gd gs,u=jI gd gs∧w'.heap[gd]? =some (.cells #[dK x.p w4.heap.size] 101 (0,0))∧w'.heap[gs]? =some (.cells #[.pointer (some ⟨p,0,none⟩)] 22 (0,0))∧w4.heap.size≤gd∧w4.heap.size≤gs))∧(w'.cell? ⟨w.heap.size,0,none⟩=some (.int .i64 m.k)∧w'.cell? ⟨w.heap.size,1,none⟩=some (.int .i64 m.e)∧w'.cell? ⟨w.heap.size,2,none⟩=some (.int .u8 m.r)∧w'.cell? ⟨w.heap.size,3,none⟩=some (.int .i64 m.n)∧w'.cell? ⟨w.heap.size,4,none⟩=some m.vs∧w'.cell? ⟨w.heap.size,5,none⟩=some (.int .i64 m.f)∧w'.cell? ⟨w.heap.size,6,none⟩=some (.int .i64 m.p)∧w'.cell? ⟨w.heap.size,7,none⟩=some m.vc)∧w'.cell? ⟨w3.heap.size,3,none⟩=some (.int .u8 x.p)):=hide (by
  have bd:Below w4.heap.size w4 w4.drew:=(Below.refl _ _).drew
  refine(agq p m w4.drew).mono ?_
  rintro E w' ⟨v,rfl,j1,j2,j3,j4⟩
  have b5:Below w4.heap.size w4 w':=bd.trans j4
  have j1:PhM p w4.heap.size w' (dK 1 w4.heap.size) (dK 2 w4.heap.size) (dK 3 w4.heap.size) (dK 4 w4.heap.size) v:=j1
  obtain⟨l1,_,_,_⟩:=KEEP.out w' (mR.trans (b5.mono mR.size))
  obtain⟨c0,c1,c2,c3,c4,c5,c6,c7⟩:=l1.ei
  refine⟨v,rfl,hide ⟨j1,j2,j3,b5⟩,?_,⟨c0,c1,c2,c3,c4,c5,c6,c7⟩,ai ((b5.block _ (by omega)).trans P4) 3 rfl⟩
  by_cases h0:x.p=0
  ·obtain⟨u,hu⟩:=arz j1
   rw[h0]
   exact⟨u,false,hu,hide (.inl ⟨rfl,rfl⟩)⟩
  ·obtain⟨gd,gs,hu,q⟩:=arw j1 x.p (by omega) lQ.2
   exact⟨_,true,hu,hide (.inr ⟨by omega,rfl,gd,gs,rfl,q⟩)⟩)
 have qK:=hide mR
 have P4:=hide P4
 clear HG b3 b4 k1 k2 k3 k4 mR
 go_wp2_with fail
 go_region_held3 (fun w'=>(w'.cell? ⟨w.heap.size,0,none⟩=some (.int .i64 m.k)∧w'.cell? ⟨w.heap.size,1,none⟩=some (.int .i64 m.e)∧w'.cell? ⟨w.heap.size,2,none⟩=some (.int .u8 m.r)∧w'.cell? ⟨w.heap.size,3,none⟩=some (.int .i64 m.n)∧w'.cell? ⟨w.heap.size,4,none⟩=some m.vs∧w'.cell? ⟨w.heap.size,5,none⟩=some (.int .i64 m.f)∧w'.cell? ⟨w.heap.size,6,none⟩=some (.int .i64 m.p)∧w'.cell? ⟨w.heap.size,7,none⟩=some m.vc)∧w'.cell? ⟨w3.heap.size,3,none⟩=some (.int .u8 x.p)) (first|exact⟨⟨a0,a1,a2,a3,a4,a5,a6,a7⟩,e3⟩|exact hS5|go_keep)
  (first
  |(go_at_call 42;refine CP.out.mono ?_;rintro E w5 ⟨v,rfl,X5,⟨u,bb,hlk,Y5⟩,hS5⟩))
 have qY:=qK.out.trans (X5.out.2.2.2.mono qK.out.size)
 obtain⟨k1,k2,k3,k4⟩:=KEEP.out w5 qY
 obtain⟨⟨a0,a1,a2,a3,a4,a5,a6,a7⟩,_⟩:=hS5
 obtain⟨e0,e1,e2,e3,e4,e5⟩:=aN ((X5.out.2.2.2.block _ (ax P4.out)).trans P4.out)
 rcases Y5.out with⟨y1,rfl⟩|⟨y1,rfl,gd,gs,rfl,q1,q2,q3,q4⟩
 ·have F0:=hide (HH.out.2.2.2.1 y1 w5 k4)
  clear y1
  have x0:w5.setCell ⟨w.heap.size+1,0,none⟩ (.int .i64 0)=w5:=aL k2 (j:=0) rfl
  have x1:w5.setCell ⟨w.heap.size+1,1,none⟩ (.int .u8 0)=w5:=aL k2 (j:=1) rfl
  have x2:w5.setCell ⟨w.heap.size+1,2,none⟩ (.int .i64 0)=w5:=aL k2 (j:=2) rfl
  have x3:w5.setCell ⟨w.heap.size+1,3,none⟩ (.int .u8 0)=w5:=aL k2 (j:=3) rfl
  have x4:w5.setCell ⟨w.heap.size+1,4,none⟩ (.int .i64 0)=w5:=aL k2 (j:=4) rfl
  have x5:w5.setCell ⟨w.heap.size+1,5,none⟩ (.int .i64 0)=w5:=aL k2 (j:=5) rfl
  obtain⟨r0,r1,r2,r3,r4,r5⟩:=aN k2
  have z0:=aC k2 0;have z1:=aC k2 1;have z3:=aC k2 2;have z4:=aC k2 3;have z5:=aC k2 4;have z6:=aC k2 5
  have FF:=hide (F0.out)
  clear X5 Y5 HH KEEP CP k1 k2 k3 k4 P4 qK
  go_wp2
  refine bodyPost_ret (v:=.tuple #[.agg #[.int .i64 0,.int .u8 0,.int .i64 0,.int .u8 0,.int .i64 0,.int .i64 0],.int .i64 2]) (by simp[results,Tryz.results11,go_sem,r0,r1,r2,r3,r4,r5]) rfl ?_
  exact FF.out
 ·have Q:Hid (w5.heap[gd]? =some (.cells #[dK x.p w4.heap.size] 101 (0,0))∧w5.heap[gs]? =some (.cells #[.pointer (some ⟨p,0,none⟩)] 22 (0,0))∧w5.heap[w4.heap.size]? =some (.cells #[.pointer (some ⟨p,0,none⟩)] 22 (0,0))∧fP w5 (w4.heap.size+1) m∧(w.heap.size≤w4.heap.size∧w.heap.size≤gd∧w.heap.size≤gs)):=hide (by
   have:=qK.out.size
   exact⟨q1,q2,X5.out.2.1,X5.out.2.2.1,by omega,by omega,by omega⟩)
  unfold jI at hlk⊢
  clear q1 q2 q3 q4
  by_cases y2:x.p=1
  ·have y2':(x.p==1)=true:=by simpa using y2
   have FT:=hide (aki x m c w5 k3 HH.out.1 HH.out.2.1)
   rw[HV.out,HM.out]at FT
   cases hft:xN x m c with
   |false=>
    rw[hft]at FT
    have F4:=hide (HH.out.2.2.2.2.1 y2 hft)
    have KK:Hid (∀W,Below w5.heap.size w5 W→W.heap[w.heap.size+1]? =some (.cells #[.int .i64 0,.int .u8 0,.int .i64 0,.int .u8 0,.int .i64 0,.int .i64 0] 35 (0,0))∧Below w.heap.size w W):=hide fun W hW=>⟨(hW.block _ (ax k2)).trans k2,k4.trans (hW.mono k4.size)⟩
    clear y1 y2 hft Q k1 k2 k3 k4 qY
    go_wp2_with fail
    refine FT.out.mono ?_
    rintro E w6 ⟨rfl,b6⟩
    obtain⟨k2,k4⟩:=KK.out w6 b6
    clear FT b6
    have x0:w6.setCell ⟨w.heap.size+1,0,none⟩ (.int .i64 0)=w6:=aL k2 (j:=0) rfl
    have x1:w6.setCell ⟨w.heap.size+1,1,none⟩ (.int .u8 0)=w6:=aL k2 (j:=1) rfl
    have x2:w6.setCell ⟨w.heap.size+1,2,none⟩ (.int .i64 0)=w6:=aL k2 (j:=2) rfl
    have x3:w6.setCell ⟨w.heap.size+1,3,none⟩ (.int .u8 0)=w6:=aL k2 (j:=3) rfl
    have x4:w6.setCell ⟨w.heap.size+1,4,none⟩ (.int .i64 0)=w6:=aL k2 (j:=4) rfl
    have x5:w6.setCell ⟨w.heap.size+1,5,none⟩ (.int .i64 0)=w6:=aL k2 (j:=5) rfl
    obtain⟨r0,r1,r2,r3,r4,r5⟩:=aN k2
    have z0:=aC k2 0;have z1:=aC k2 1;have z3:=aC k2 2;have z4:=aC k2 3;have z5:=aC k2 4;have z6:=aC k2 5
    have FF:=hide (F4.out w6 k4)
    clear X5 Y5 HH KEEP CP k2 k4 P4 qK
    go_wp2
    refine bodyPost_ret (v:=.tuple #[.agg #[.int .i64 0,.int .u8 0,.int .i64 0,.int .u8 0,.int .i64 0,.int .i64 0],.int .i64 4]) (by simp[results,Tryz.results11,go_sem,r0,r1,r2,r3,r4,r5]) rfl ?_
    exact FF.out
   |true=>
    rw[hft]at FT
    have HFT:=hide hft
    have KK:Hid (∀W,Below w5.heap.size w5 W→W.heap[w.heap.size+1]? =some (.cells #[.int .i64 0,.int .u8 0,.int .i64 0,.int .u8 0,.int .i64 0,.int .i64 0] 35 (0,0))∧Below w.heap.size w W∧(W.heap[gd]? =some (.cells #[dK x.p w4.heap.size] 101 (0,0))∧W.heap[gs]? =some (.cells #[.pointer (some ⟨p,0,none⟩)] 22 (0,0))∧W.heap[w4.heap.size]? =some (.cells #[.pointer (some ⟨p,0,none⟩)] 22 (0,0))∧fP W (w4.heap.size+1) m∧(w.heap.size≤w4.heap.size∧w.heap.size≤gd∧w.heap.size≤gs))∧tK W w3.heap.size (.int .i64 x.e) (.int .u8 x.r) (.int .i64 x.a) (.int .u8 x.p) (.int .i64 x.f) (.int .i64 x.b)):=hide fun W hW=>by
     obtain⟨q1,q2,q3,q4,q5⟩:=Q.out
     have p5:=(X5.out.2.2.2.block _ (ax P4.out)).trans P4.out
     exact⟨(hW.block _ (ax k2)).trans k2,k4.trans (hW.mono k4.size),⟨(hW.block _ (ax q1)).trans q1,(hW.block _ (ax q2)).trans q2,(hW.block _ (ax q3)).trans q3,(hW.block _ (ax q4)).trans q4,q5⟩,aN ((hW.block _ (ax p5)).trans p5)⟩
    clear hft Q k1 k2 k3 k4 qY
    have Y12:=hide (And.intro y1 y2)
    clear y1 y2
    go_wp2_with fail
    refine FT.out.mono ?_
    rintro E w6 ⟨rfl,b6⟩
    obtain⟨k2,k4,q,⟨e0,e1,e2,e3,e4,e5⟩⟩:=KK.out w6 b6
    have Q:=hide q
    have k1:=trivial
    have k3:=trivial
    have y1:=Y12.out.1
    clear FT b6 q
    have CE:=hide (HH.out.2.2.2.2.2 y1 (fun _=>HFT.out) w6 w4.heap.size gd gs k4 Q.out.1 Q.out.2.1 Q.out.2.2.1 Q.out.2.2.2.1 Q.out.2.2.2.2)
    have K2:=hide k2
    rw[HV.out]at CE
    clear X5 Y5 HH KEEP CP k1 k2 k3 k4 P4 qK Q Y12 y1 HFT KK
    go_wp2_with fail
    refine CE.out.mono ?_
    rintro E w7 ⟨y,e,rfl,r7,f7⟩
    have k7:=(r7 ⟨_,K2.out⟩).trans K2.out
    obtain⟨V',hV',dG,bQ,⟨q0,q1,q2,q3,q4,q5⟩,fr,⟨u0,u1,u2,u3,u4,u5⟩⟩:=dU k7 (.int .i64 y.e) (.int .u8 y.r) (.int .i64 y.a) (.int .u8 y.p) (.int .i64 y.f) (.int .i64 y.b)
    have f0:=fr 0;have f1:=fr 1;have f2:=fr 2;have f3:=fr 3;have f4:=fr 4;have f5:=fr 5
    have FF:=hide (f7 V' (ax K2.out) bQ)
    rw[HV.out]at FF⊢
    clear CE r7 f7 k7 bQ dG fr K2
    go_wp2
    refine bodyPost_ret (v:=.tuple #[.agg #[.int .i64 y.e,.int .u8 y.r,.int .i64 y.a,.int .u8 y.p,.int .i64 y.f,.int .i64 y.b],.int .i64 e]) (by simp[results,Tryz.results11,go_sem,u0,u1,u2,u3,u4,u5]) rfl ?_
    exact FF.out
  ·have y2':(x.p==1)=false:=by simpa using y2
   have CE:=hide (HH.out.2.2.2.2.2 y1 (fun e=>absurd e y2) w5 w4.heap.size gd gs k4 Q.out.1 Q.out.2.1 Q.out.2.2.1 Q.out.2.2.2.1 Q.out.2.2.2.2)
   have K2:=hide k2
   rw[HV.out]at CE
   clear X5 Y5 HH KEEP CP k1 k2 k3 k4 P4 qK Q y1 y2 qY
   go_wp2_with fail
   refine CE.out.mono ?_
   rintro E w7 ⟨y,e,rfl,r7,f7⟩
   have k7:=(r7 ⟨_,K2.out⟩).trans K2.out
   obtain⟨V',hV',dG,bQ,⟨q0,q1,q2,q3,q4,q5⟩,fr,⟨u0,u1,u2,u3,u4,u5⟩⟩:=dU k7 (.int .i64 y.e) (.int .u8 y.r) (.int .i64 y.a) (.int .u8 y.p) (.int .i64 y.f) (.int .i64 y.b)
   have f0:=fr 0;have f1:=fr 1;have f2:=fr 2;have f3:=fr 3;have f4:=fr 4;have f5:=fr 5
   have FF:=hide (f7 V' (ax K2.out) bQ)
   rw[HV.out]at FF⊢
   clear CE r7 f7 k7 bQ dG fr K2
   go_wp2
   refine bodyPost_ret (v:=.tuple #[.agg #[.int .i64 y.e,.int .u8 y.r,.int .i64 y.a,.int .u8 y.p,.int .i64 y.f,.int .i64 y.b],.int .i64 e]) (by simp[results,Tryz.results11,go_sem,u0,u1,u2,u3,u4,u5]) rfl ?_
   exact FF.out
end Go.Proofs.YtjemlgdkjilnoaaGreatDoor
namespace Go.Proofs.YtjemlgdkjilnoaaGreatDoor
open Go.RowKit
set_option linter.unusedVariables false
def Stp (p q:Nat) (F:Nat→Prop) (w:World) (y:Pm.Pg) (s2:Rst.St) (E:Ending) (V:World):Prop:=E=.returned (.tuple #[vp y,.int .i64 0])∧bM p q F w V s2
section
variable {p q:Nat} {F:Nat→Prop} {w:World} {s:Rst.St} {n:Nat} {ss:List Orp.Se} {m:Mw} {c:Int}
theorem aaI {W:World}{gd gs:Nat}{x y:Pm.Pg}{s2:Rst.St}(h:PS p q F w s)(hb:Below w.heap.size w W)(hC:Calls Tryz.prog 135 #[vp x,.pointer (some ⟨gd,0,none⟩),.pointer (some ⟨gs,0,none⟩)] W fun E w'=>E=.returned (.tuple #[vp y,.int .i64 0])∧bM p q F W w' s2):
  Calls Tryz.prog 135 #[vp x,.pointer (some ⟨gd,0,none⟩),.pointer (some ⟨gs,0,none⟩)] W fun E w'=>∃y' e,E=.returned (.tuple #[vp y',.int .i64 e])∧((∃o,W.heap[w.heap.size+1]? =some o)→w'.heap[w.heap.size+1]? =W.heap[w.heap.size+1]?)∧∀V,w.heap.size+1<W.heap.size→w'.grownBy V (some (w.heap.size+1))→Stp p q F w y s2 (.returned (.tuple #[vp y',.int .i64 e])) V:=by
 have ik:=h.lt
 have nF:¬F (w.heap.size+1):=fun e=>by have:=ik _ e;omega
 refine hC.mono ?_
 rintro E w' ⟨rfl,k⟩
 refine⟨y,0,rfl,fun⟨o,ho⟩=>(k.blk ho nF).trans ho.symm,fun V hV gV=>⟨rfl,bM.res hb k (Below.refl _ _) gV (by omega) hV nF h.gG.pos⟩⟩
theorem dL.page (h:PS p q F w s):Pm.Ok s.p∧1≤s.p.e∧0≤s.p.p∧s.p.p≤4:=by
 obtain⟨F1,G,h1,⟨pw,pr,ps,Gw,Gr,Gs,lw,bw,br,V,rfl⟩,hd,hm,rfl⟩:=h
 have:=V.ok
 refine⟨this,?_⟩
 obtain⟨h1,h2⟩:=this
 omega
theorem ai0 (h:PS p q F w s)(hc:dL n s ss)(hn:n≤500)(h0:s.p.p=0)(hi:gQ w m)(hf:dC m)(hk:Mm.Ck m.m c):
  Calls Tryz.prog 11 #[.pointer (some ⟨p,0,none⟩),mv m] w fun E w'=>E=.returned (.tuple #[vp Pm.no,.int .i64 2])∧Below w.heap.size w w':=by
 obtain⟨_,k1,k2⟩:=dL.page h
 exact lN p q F w s h (hc.wC hn) k1 k2 m c hi hf hk _ (fun _ W hW=>⟨rfl,hW⟩) (fun e=>by omega) (fun e=>by omega)
theorem aiz (h:PS p q F w s)(hc:dL n s ss)(hn:n≤500)(h1:s.p.p=1)(hi:gQ w m)(hf:dC m)(hk:Mm.Ck m.m c)(hft:xN s.p m c=false):
  Calls Tryz.prog 11 #[.pointer (some ⟨p,0,none⟩),mv m] w fun E w'=>E=.returned (.tuple #[vp Pm.no,.int .i64 4])∧Below w.heap.size w w':=by
 obtain⟨_,k1,k2⟩:=dL.page h
 exact lN p q F w s h (hc.wC hn) k1 k2 m c hi hf hk _ (fun e=>by omega) (fun _ _ W hW=>⟨rfl,hW⟩) (fun _ e=>by rw[hft]at e;exact absurd (e h1) (by simp))
theorem aca {e k f b:Int}(h1:1≤e)(h2:e≤1048576)(h3:2≤k)(h4:k≤4)(h5:0≤f)(h6:f≤1048576)(h7:0≤b)(h8:b≤1073741824):Pm.chk ⟨e,3,0,k,f,b⟩=0:=
 Pm.gy.2 ⟨⟨h1,h2,by simp,by simp,h5,h6,h7,h8⟩,.inr (.inr (.inr ⟨rfl,rfl,h3,h4⟩))⟩
theorem arX {e:Int}(h1:1≤e)(h2:e≤1048576):Pm.chk ⟨e,2,0,0,0,0⟩=0:=
 Pm.gy.2 ⟨⟨h1,h2,by simp,by simp,by simp,by simp,by simp,by simp⟩,.inr (.inl ⟨rfl,rfl,rfl,rfl,rfl⟩)⟩
theorem xW {e k f b base:Int}{l:List Cm.Cv}(h1:Cm.lastE 0 l<e)(h2:2≤k)(h3:0≤f)(h4:f≤l.length)(h5:k=4→f=l.length)(h6:b≤base):Rst.snd ⟨e,3,0,k,f,b⟩ l 0 base=true:=
 Rst.nC.2 ⟨⟨by omega,by show Cm.lastE 0 l≤e;omega,fun _=>by show Cm.lastE 0 l≠e;omega,by show(0:Int)≤l.length;omega⟩,fun _=>⟨h3,h4,h5,h6⟩⟩
theorem arB {e base:Int}{l:List Cm.Cv}(h1:Cm.lastE 0 l≤e):Rst.snd ⟨e,2,0,0,0,0⟩ l 0 base=true:=
 Rst.wK (by omega) h1 (by show(2:Int)≠3;decide) (by show(0:Int)≤l.length;omega) rfl
theorem dL.dep (h:PS p q F w s)(hc:dL n s ss){e k f b:Int}(hp:s.p=⟨e,3,0,k,f,b⟩):1≤e∧e≤1048576∧Cm.lastE 0 s.l<e∧(s.l.length:Int)≤1048576∧Cm.Good 0 0 s.l∧o9 s=o9 s∧(2≤k→0≤f∧f≤s.l.length∧b≤(Orp.secs ss).length∧0≤b):=by
 obtain⟨hok,_⟩:=dL.page h
 obtain⟨z,ps,hin⟩:=hc.inn
 have hsd:=Rst.nC.1 hin.sd
 have hen:=Pm.kG hok
 rw[hp]at hsd hen
 obtain⟨⟨_,a2,a3,_⟩,a5⟩:=hsd
 have a2:Cm.lastE 0 s.l≤e:=a2
 have a3:Cm.lastE 0 s.l≠e:=a3 rfl
 obtain⟨b1,b2,_,_,_,_,b7,b8,b9,b10,b11,b12⟩:=hen
 have b8:k≤4:=b8
 refine⟨b1,b2,by omega,by have:=eG hin.gl;omega,hin.gl,rfl,fun hk=>?_⟩
 obtain⟨_,c2,_,c4⟩:=a5 (by show k=2∨k=3∨k=4;omega)
 exact⟨b9,c2,c4,b11⟩
theorem aiD (h:PS p q F w s)(h0:¬F 0)(hc:dL n s ss)(hn:n≤400)(e:Int)(hp:s.p=⟨e,3,0,1,0,0⟩)(hi:gQ w m)(hf:dC m)(hk:Mm.Ck m.m c)(hft:xN s.p m c=true)(nf:Nat)(hfr:Fr (Sm.told 0 s.l) s.l.length m.ss m.n nf)(hnf:nf≤s.l.length)(hb:(Orp.secs ss).length≤1000000):
  ∃s2,dL (n+1) s2 ss∧s2.p=⟨e,3,0,2,nf,(Orp.secs ss).length⟩∧s2.l=s.l∧Calls Tryz.prog 11 #[.pointer (some ⟨p,0,none⟩),mv m] w (Stp p q F w ⟨e,3,0,2,nf,(Orp.secs ss).length⟩ s2):=by
 obtain⟨hok,k1,k2⟩:=dL.page h
 obtain⟨d1,d2,d3,d4,d5,_⟩:=dL.dep h hc hp
 have hxk:Pm.chk s.p=0:=Pm.gy.2 hok
 obtain⟨y,hy⟩:∃y:Pm.Pg,y=⟨e,3,0,2,nf,(Orp.secs ss).length⟩:=⟨_,rfl⟩
 have hyk:Pm.chk y=0:=by rw[hy];exact aca d1 d2 (by omega) (by omega) (by omega) (by omega) (by omega) (by omega)
 have zn:eT y:=oD (Pm.gy.1 hyk)
 have hsn:Rst.snd y s.l 0 (Orp.secs ss).length=true:=by rw[hy];exact xW d3 (by omega) (by omega) (by omega) (fun e=>by omega) (Int.le_refl _)
 obtain⟨g1,g2,g3,g4⟩:=hc.set hyk hsn
 have hR:=hc.wC (n:=n) (by omega)
 have hb3:((Rst.hf 3 s.d).length:Int)=((Orp.secs ss).length:Int):=by rw[hc.lY.1]
 have efk:Rol.mP s.p nf (Orp.secs ss).length=0:=by
  unfold Rol.mP
  rw[if_pos hxk,if_neg (by omega),if_pos (by rw[hp])]
 have ayO:Rol.fk s.p nf (Orp.secs ss).length=y:=by
  unfold Rol.fk
  rw[if_pos efk,hp,hy]
 refine⟨(Rst.dh s y).2,g2,by rw[g3,hy],g4,?_⟩
 rw[←hy]
 refine lN p q F w s h hR k1 k2 m c hi hf hk _ (fun e=>by rw[hp]at e;simp at e) (fun _ e=>by rw[hft]at e;cases e) fun _ _ W g gd gs hW q1 q2 q3 q4 q5=>aaI h hW ?_
 have hd1:dK s.p.p g=.func (.func 88) #[] #[.pointer (some ⟨g,0,none⟩),.pointer (some ⟨g+1,0,none⟩)]:=by rw[hp];rfl
 rw[hd1]at q1
 have ik:=h.lt
 refine tV gd gs p q F W s s s.p y _ _ (enters_of Tryz.func88 (by kernel_rfl) rfl) (h.below hW) h0 (ai q1 0 rfl) (ai q2 0 rfl) (ax q1) (ax q2) (fun e=>by have:=ik _ e;omega) hR hc.t3 zn g1 fun W2 hW2=>?_
 have b2:=hW.trans (hW2.mono hW.size)
 have c1:=ai ((hW2.block _ (ax q3)).trans q3) 0 rfl
 have m1:fP W2 (g+1) m:=(hW2.block _ (ax q4)).trans q4
 refine aph g (g+1) p q F W2 s s s.p y m 0 (h.below b2) c1 (by have:=hW2.size;have:=ax q3;omega) m1 (ax m1) fun W3 hW3=>?_
 have b3:=b2.trans (hW3.mono b2.size)
 refine(amb p q F W3 s (h.below b3) hR hc.ask d5 s.p h.fit m (hi.below b3) hf nf hfr (by unfold I64;omega)).mono ?_
 rintro E w' ⟨rfl,bb⟩
 rw[hb3,efk,ayO]
 exact⟨rfl,bM.same (h.below b3) bb⟩
theorem ai7 {l:List Cm.Cv}(h:Cm.Good 0 0 l)(k:Nat):Cm.lastE 0 (l.take k)≤Cm.lastE 0 l:=by
 have e:Cm.lastE 0 l=Cm.lastE (Cm.lastE 0 (l.take k)) (l.drop k):=by rw[←Rst.an5,List.take_append_drop]
 rw[←List.take_append_drop k l]at h
 rw[e]
 exact Sto.zP ((Cm.dX _ _ _ _).1 h).2
theorem alc {l:List Cm.Cv}{k:Nat}(hk:k<l.length)(a b:Int):Cm.lastE a (l.drop k)=Cm.lastE b l:=by
 rw[qZ _ a (by rw[List.length_drop];omega),qZ _ b (by omega)]
 congr 1
 rw[List.getElem_drop]
 congr 1
 rw[List.length_drop]
 omega
def pg (e:Int) (f:Nat) (l:List Cm.Cv):Orp.Se:=⟨e,f,l.drop f⟩
theorem agW {e:Int}{f:Nat}{l:List Cm.Cv}(h1:1≤e)(h2:e≤1048576)(hg:Cm.Good 0 0 l)(hl:Cm.lastE 0 l<e)(hf:f<l.length):Orp.chk (pg e f l)=0:=by
 refine Orp.ib ?_ ?_ ?_
 ·show ¬(e<1∨1048576<e∨(f:Int)<0∨(l.drop f).length=0)
  rw[List.length_drop]
  omega
 ·have:=Sto.wE (Rst.yx hg) f (by omega)
  rw[Int.zero_add]at this
  exact(Cm.eY _ _ _ 0).2 this
 ·show ¬e≤Cm.lastE 1 (l.drop f)
  rw[alc hf 1 0]
  omega
theorem ai9 (h:PS p q F w s)(h0:¬F 0)(hc:dL n s [])(hn:n≤400)(hl:s.l.length≤100)(e:Int)(fk:Nat)(hp:s.p=⟨e,3,0,2,fk,0⟩)(hi:gQ w m)(hf:dC m)(hk:Mm.Ck m.m c):
  ∃s2,dL (n+2) s2 (if fk<s.l.length then [pg e fk s.l]else [])∧s2.p=⟨e,3,0,3,fk,0⟩∧s2.l=s.l∧Calls Tryz.prog 11 #[.pointer (some ⟨p,0,none⟩),mv m] w (Stp p q F w ⟨e,3,0,3,fk,0⟩ s2):=by
 obtain⟨hok,k1,k2⟩:=dL.page h
 obtain⟨d1,d2,d3,d4,d5,_,d6⟩:=dL.dep h hc hp
 obtain⟨d6,d7,_⟩:=d6 (by omega)
 have hxk:Pm.chk s.p=0:=Pm.gy.2 hok
 have hR:=hc.wC (n:=n) (by omega)
 obtain⟨y,hy⟩:∃y:Pm.Pg,y=⟨e,3,0,3,fk,0⟩:=⟨_,rfl⟩
 have hyk:Pm.chk y=0:=by rw[hy];exact aca d1 d2 (by omega) (by omega) (by omega) (by omega) (by omega) (by omega)
 have zn:eT y:=oD (Pm.gy.1 hyk)
 have e1:Rol.gP s.p 2=0:=by
  unfold Rol.gP
  rw[if_pos hxk,if_pos (by rw[hp])]
 have e2:Rol.nx s.p 2 3=y:=by
  unfold Rol.nx
  rw[if_pos e1,hp,hy]
 have h3:Rst.hf 3 s.d=[]:=hc.lY.1
 obtain⟨s1,hs1⟩:∃s1:Rst.St,s1=if s.p.f<s.l.length then⟨(Orp.dM s.d 0 ⟨s.p.e,s.p.f,s.l.drop s.p.f.toNat⟩).2,s.p,s.l,s.r,s.off⟩else s:=⟨_,rfl⟩
 have hse:(⟨s.p.e,s.p.f,s.l.drop s.p.f.toNat⟩:Orp.Se)=pg e fk s.l:=by
  rw[hp]
  show(⟨e,(fk:Int),s.l.drop ((fk:Int)).toNat⟩:Orp.Se)=_
  rw[show((fk:Int)).toNat=fk by omega]
  rfl
 have key:dL (n+1) s1 (if fk<s.l.length then [pg e fk s.l]else [])∧s1.p=s.p∧s1.l=s.l∧(s.p.f<s.l.length→Orp.chk ⟨s.p.e,s.p.f,s.l.drop s.p.f.toNat⟩=0∧(Orp.dM s.d 0 ⟨s.p.e,s.p.f,s.l.drop s.p.f.toNat⟩).1=0):=by
  have hpf:s.p.f=fk:=by rw[hp]
  rw[hse]at hs1⊢
  by_cases hlt:fk<s.l.length
  ·have hck:=agW d1 d2 d5 d3 hlt
   obtain⟨o1,o2,o3,o4,o5⟩:=hc.ayF (x:=pg e fk s.l) (b:=0) rfl hck (.inl rfl) (by rw[hp];exact Int.le_refl _) (by show(s.l.drop fk).length≤100;rw[List.length_drop];omega)
   rw[o5]at o1 o2 o3 o4
   have o1:(Orp.dM s.d 0 (pg e fk s.l)).1=0:=o1
   rw[if_pos (by rw[hpf];omega)]at hs1
   rw[if_pos hlt,hs1]
   have hoo:(s.off||decide ((Orp.dM s.d 0 (pg e fk s.l)).1=6))=s.off:=by rw[o1];simp
   rw[hoo]at o2
   exact⟨o2,rfl,rfl,fun _=>⟨hck,o1⟩⟩
  ·rw[if_neg (by rw[hpf];omega)]at hs1
   rw[if_neg hlt,hs1]
   exact⟨hc.mono (by omega),rfl,rfl,fun e=>absurd e (by rw[hpf];omega)⟩
 obtain⟨hc1,hp1,hl1,hck⟩:=key
 have hsn:Rst.snd y s1.l 0 (Orp.secs (if fk<s.l.length then [pg e fk s.l]else [])).length=true:=by rw[hy,hl1];exact xW d3 (by omega) (by omega) (by omega) (fun e=>by omega) (by omega)
 obtain⟨g1,g2,g3,g4⟩:=hc1.set hyk hsn
 refine⟨(Rst.dh s1 y).2,g2,by rw[g3,hy],g4.trans hl1,?_⟩
 rw[←hy]
 refine lN p q F w s h hR k1 k2 m c hi hf hk _ (fun e=>by rw[hp]at e;simp at e) (fun e=>by rw[hp]at e;simp at e) fun _ _ W g gd gs hW q1 q2 q3 q4 q5=>aaI h hW ?_
 have hd1:dK s.p.p g=.func (.func 90) #[] #[.pointer (some ⟨g,0,none⟩)]:=by rw[hp];rfl
 rw[hd1]at q1
 have ik:=h.lt
 refine tV gd gs p q F W s s1 s.p y _ _ (enters_of Tryz.func90 (by kernel_rfl) rfl) (h.below hW) h0 (ai q1 0 rfl) (ai q2 0 rfl) (ax q1) (ax q2) (fun e=>by have:=ik _ e;omega) (hc1.wC (by omega)) hc1.t3 zn g1 fun W2 hW2=>?_
 have b2:=hW.trans (hW2.mono hW.size)
 have c1:=ai ((hW2.block _ (ax q3)).trans q3) 0 rfl
 refine anQ g p q F W2 s s1 s.p y 0 (h.below b2) c1 (by have:=hW2.size;have:=ax q3;omega) fun W3 hW3=>?_
 have b3:=b2.trans (hW3.mono b2.size)
 refine(al4 p q F W3 s (h.below b3) hR h0 hc.ask d5 (by omega) h3 (by rw[hp];exact Int.le_refl _) s.p h.fit hxk (by rw[hp]) (by rw[hp]) k1 (by rw[hp];exact d6) (by rw[hp];exact d7) hck).mono ?_
 rintro E w' ⟨rfl,bb⟩
 rw[e1,e2]
 rw[←hs1]at bb
 exact⟨rfl,bb⟩
theorem akC (h:PS p q F w s)(h0:¬F 0)(hc:dL n s ss)(hn:n≤400)(e:Int)(fk:Nat)(b:Int)(hp:s.p=⟨e,3,0,3,fk,b⟩)(hi:gQ w m)(hf:dC m)(hk:Mm.Ck m.m c):
  ∃s2,dL (n+2) s2 ss∧s2.p=⟨e,3,0,4,fk,b⟩∧s2.l=s.l.take fk∧Calls Tryz.prog 11 #[.pointer (some ⟨p,0,none⟩),mv m] w (Stp p q F w ⟨e,3,0,4,fk,b⟩ s2):=by
 obtain⟨hok,k1,k2⟩:=dL.page h
 obtain⟨d1,d2,d3,d4,d5,_,d6⟩:=dL.dep h hc hp
 obtain⟨d6,d7,d8,d9⟩:=d6 (by omega)
 have hxk:Pm.chk s.p=0:=Pm.gy.2 hok
 have ao9:b≤1073741824:=by have:=(Pm.kG hok).2.2.2.2.2.2.2.2.2.2.2;rw[hp]at this;exact this
 have hR:=hc.wC (n:=n) (by omega)
 obtain⟨y,hy⟩:∃y:Pm.Pg,y=⟨e,3,0,4,fk,b⟩:=⟨_,rfl⟩
 have hyk:Pm.chk y=0:=by rw[hy];exact aca d1 d2 (by omega) (by omega) (by omega) (by omega) d9 ao9
 have zn:eT y:=oD (Pm.gy.1 hyk)
 have e1:Rol.gP s.p 3=0:=by
  unfold Rol.gP
  rw[if_pos hxk,if_pos (by rw[hp])]
 have e2:Rol.nx s.p 3 4=y:=by
  unfold Rol.nx
  rw[if_pos e1,hp,hy]
 have htl:((s.l.take fk).length:Int)=fk:=by rw[List.length_take];omega
 have hlt:=ai7 d5 fk
 obtain⟨o1,o2,o3,o4,o5,o6⟩:=hc.short (tt:=fk) (by omega) (by rw[hp];exact xW (by omega) (by omega) (by omega) (by omega) (fun e=>by omega) d8)
 obtain⟨s1,hs1⟩:∃s1,(Rst.cZ s fk).2=s1:=⟨_,rfl⟩
 rw[hs1]at o2 o3 o4
 have ax6:(⟨(Rst.cut s fk).2,s.p,s.l.take fk,s.r,s.off⟩:Rst.St)=s1:=by rw[←hs1,o6]
 have hsn:Rst.snd y s1.l 0 (Orp.secs ss).length=true:=by rw[hy,o4];exact xW (by omega) (by omega) (by omega) (by omega) (fun _=>htl.symm) d8
 obtain⟨g1,g2,g3,g4⟩:=o2.set hyk hsn
 refine⟨(Rst.dh s1 y).2,g2,by rw[g3,hy],g4.trans o4,?_⟩
 rw[←hy]
 refine lN p q F w s h hR k1 k2 m c hi hf hk _ (fun e=>by rw[hp]at e;simp at e) (fun e=>by rw[hp]at e;simp at e) fun _ _ W g gd gs hW q1 q2 q3 q4 q5=>aaI h hW ?_
 have hd1:dK s.p.p g=.func (.func 92) #[] #[.pointer (some ⟨g,0,none⟩)]:=by rw[hp];rfl
 rw[hd1]at q1
 have ik:=h.lt
 refine tV gd gs p q F W s s1 s.p y _ _ (enters_of Tryz.func92 (by kernel_rfl) rfl) (h.below hW) h0 (ai q1 0 rfl) (ai q2 0 rfl) (ax q1) (ax q2) (fun e=>by have:=ik _ e;omega) (o2.wC (by omega)) o2.t3 zn g1 fun W2 hW2=>?_
 have b2:=hW.trans (hW2.mono hW.size)
 have c1:=ai ((hW2.block _ (ax q3)).trans q3) 0 rfl
 refine ao8 g p q F W2 s s1 s.p y 0 (h.below b2) c1 (by have:=hW2.size;have:=ax q3;omega) fun W3 hW3=>?_
 have b3:=b2.trans (hW3.mono b2.size)
 refine(aor p q F W3 s (h.below b3) hR ⟨hc.t3,h0⟩ hc.ask hc.run (by rw[hc.log.1];exact Nat.le_refl _) s.p h.fit fk (by rw[hp]) (by omega) o5 (by
  rw[hp,hc.lY.1]
  unfold ql
  rw[if_neg (by simp),if_pos (by simp)]
  simp only[Bool.and_eq_true,decide_eq_true_eq]
  omega)).mono ?_
 rintro E w' ⟨rfl,bb⟩
 rw[e1,e2]
 rw[ax6]at bb
 exact⟨rfl,bb⟩
theorem ajh (h:PS p q F w s)(h0:¬F 0)(hc:dL n s ss)(hn:n≤400)(e f b:Int)(hp:s.p=⟨e,3,0,4,f,b⟩)(hi:gQ w m)(hf:dC m)(hk:Mm.Ck m.m c):
  ∃s2,dL (n+1) s2 ss∧s2.p=⟨e,2,0,0,0,0⟩∧s2.l=s.l∧Calls Tryz.prog 11 #[.pointer (some ⟨p,0,none⟩),mv m] w (Stp p q F w ⟨e,2,0,0,0,0⟩ s2):=by
 obtain⟨hok,k1,k2⟩:=dL.page h
 obtain⟨d1,d2,d3,d4,d5,_⟩:=dL.dep h hc hp
 have hxk:Pm.chk s.p=0:=Pm.gy.2 hok
 have hR:=hc.wC (n:=n) (by omega)
 obtain⟨y,hy⟩:∃y:Pm.Pg,y=⟨e,2,0,0,0,0⟩:=⟨_,rfl⟩
 have hyk:Pm.chk y=0:=by rw[hy];exact arX d1 d2
 have zn:eT y:=oD (Pm.gy.1 hyk)
 have e1:Rol.gP s.p 4=0:=by
  unfold Rol.gP
  rw[if_pos hxk,if_pos (by rw[hp])]
 have e2:Rol.rj s.p=y:=by
  unfold Rol.rj
  rw[if_pos e1,hp,hy]
 have hsn:Rst.snd y s.l 0 (Orp.secs ss).length=true:=by rw[hy];exact arB (by omega)
 obtain⟨g1,g2,g3,g4⟩:=hc.set hyk hsn
 refine⟨(Rst.dh s y).2,g2,by rw[g3,hy],g4,?_⟩
 rw[←hy]
 refine lN p q F w s h hR k1 k2 m c hi hf hk _ (fun e=>by rw[hp]at e;simp at e) (fun e=>by rw[hp]at e;simp at e) fun _ _ W g gd gs hW q1 q2 q3 q4 q5=>aaI h hW ?_
 have hd1:dK s.p.p g=.func (.func 94) #[] #[]:=by rw[hp];rfl
 rw[hd1]at q1
 have ik:=h.lt
 refine tV gd gs p q F W s s s.p y _ _ (enters_of Tryz.func94 (by kernel_rfl) rfl) (h.below hW) h0 (ai q1 0 rfl) (ai q2 0 rfl) (ax q1) (ax q2) (fun e=>by have:=ik _ e;omega) hR hc.t3 zn g1 fun W2 hW2=>?_
 have b2:=hW.trans (hW2.mono hW.size)
 refine(agx s.p W2 h.fit (h.below b2).gG).mono ?_
 rintro E w' ⟨rfl,bb⟩
 rw[e1,e2]
 exact⟨rfl,bM.same (h.below b2) bb⟩
end
structure tN (q:Nat) (F:Nat→Prop) (w w5 W:World) (n0 P:Nat) (Fk:Nat→Prop) (d:Dm.Ds):Prop where
 qy:Pk q Fk W d
 out:Out F w W
 far:∀g,Fk g→F g∨w.heap.size≤g
 gG:fQ W
 nb:∀g,g=n0∨g=P∨g=P+1∨g=P+2→¬Fk g∧g<W.heap.size
 keep:∀g,g=n0∨g=P+1∨g=P+2→W.heap[g]? =w5.heap[g]?
section
variable {q n0 P:Nat} {F Fk F':Nat→Prop} {w w5 W W':World} {d d':Dm.Ds}
theorem tN.step (h:tN q F w w5 W n0 P Fk d)(h0:¬F 0)(hp:0<w.heap.size)(hP:w.heap.size≤P)(hn:n0<P)(k1:Pk q F' W' d')(k2:Out (fun g=>Fk g∨g=P) W W')(k3:∀g,F' g→Fk g∨W.heap.size≤g):tN q F w w5 W' n0 P F' d':=by
 have hs:=h.out.size
 have hz:=k2.size
 refine⟨k1,h.out.trans k2 fun g hg=>?_,fun g hg=>?_,gI h.gG k2 fun e=>?_,fun g hg=>⟨fun e=>?_,?_⟩,fun g hg=>(k2.block g (h.nb g ?_).2 fun e=>?_).trans (h.keep g hg)⟩
 ·rcases hg with e|e
  ·exact h.far g e
  ·exact .inr (by omega)
 ·rcases k3 g hg with e|e
  ·exact h.far g e
  ·exact .inr (by omega)
 ·rcases e with e|e
  ·rcases h.far 0 e with e|e
   ·exact h0 e
   ·omega
  ·omega
 ·rcases k3 g e with e|e
  ·exact(h.nb g hg).1 e
  ·have:=(h.nb g hg).2;omega
 ·have:=(h.nb g hg).2;omega
 ·rcases hg with e|e|e
  ·exact .inl e
  ·exact .inr (.inr (.inl e))
  ·exact .inr (.inr (.inr e))
 ·rcases e with e|e
  ·exact(h.nb g (by rcases hg with e|e|e;exact .inl e;exact .inr (.inr (.inl e));exact .inr (.inr (.inr e)))).1 e
  ·rcases hg with k|k|k<;>omega
theorem tN.below (h:tN q F w w5 W n0 P Fk d)(h0:¬F 0)(hp:0<w.heap.size)(hP:w.heap.size≤P)(hn:n0<P)(hb:Below W.heap.size W W'):tN q F w w5 W' n0 P Fk d:=
 h.step h0 hp hP hn (h.qy.below hb) (Out.of_below hb) fun g hg=>.inl hg
end
theorem awF (p q:Nat)(F:Nat→Prop)(w:World)(st:Dm.Ds)(ss:List Orp.Se)(h:Pk q F w st)(hs:Big 90000000 700000 st)(hp:w.cell? ⟨p,0,none⟩=some (.pointer (some ⟨q,0,none⟩)))(hpl:p<w.heap.size)(ho:st.on=true)(h3:Rst.hf 3 st=Orp.secs ss)(hr:Orp.Ris 0 ss):∀W,Below w.heap.size w W→
  Calls Tryz.prog 85 #[.pointer (some ⟨p,0,none⟩)] W fun E w'=>E=.returned (.int .i64 (Orp.secs ss).length)∧Below W.heap.size W w':=by
 intro W hW
 have e:W.cell? ⟨p,0,none⟩=w.cell? ⟨p,0,none⟩:=by have:=hW.block p hpl;simp[World.cell?,this]
 refine(af1 p q F W st (h.below hW) hs (e.trans hp) ho).mono ?_
 rintro E w' ⟨s2,rfl,k,b⟩
 have k:=k.out
 rw[h3]at k
 rw[Orp.wu k (Orp.tL hr)]
 exact⟨rfl,b⟩
theorem ahZ (st:Dm.Ds):∃e,Dm.write st 0 []=(e,st)∧(e==1)=false:=by
 unfold Dm.write
 split
 ·exact⟨6,rfl,rfl⟩
 ·rw[if_neg (by decide)]
  exact⟨0,rfl,rfl⟩
theorem ao3 (q:Nat)(F:Nat→Prop)(w:World)(st:Dm.Ds)(node:Int)(h:Pk q F w st)(hm:fQ w)(h0:¬F 0)(hB:Big 50000000 500000 st)(X:Nat→Int→World→Prop)
  (hrun:∀F2 w5 n0 P,n0=w.heap.size→tN q F w w5 w5 n0 P F2 st→w.heap.size≤P→n0<P→w5.heap[n0]? =some (.cells #[.int .i64 node] 3 (0,0))→w5.heap[P+1]? =some (.cells #[.pointer (some ⟨P,0,none⟩)] 22 (0,0))→w5.heap[P]? =some (.cells (eD q false Pm.no (.pointer none) 0 (.pointer none) (.pointer none)) 56 (0,0))→Run (P+2) (fun e W=>W.heap[P+1]? =w5.heap[P+1]?∧X P e W) [.func (.func 31) #[] #[.pointer (some ⟨n0,0,none⟩)],.func (.func 33) #[.pointer (some ⟨P,0,none⟩)] #[],.func (.func 34) #[] #[.pointer (some ⟨P+1,0,none⟩),.pointer (some ⟨n0,0,none⟩)],.func (.func 36) #[.pointer (some ⟨P,0,none⟩)] #[],.func (.func 37) #[.pointer (some ⟨P,0,none⟩)] #[],.func (.func 38) #[] #[.pointer (some ⟨P+1,0,none⟩)],.func (.func 41) #[.pointer (some ⟨P,0,none⟩)] #[]] w5):
  Calls Tryz.prog 9 #[.pointer (some ⟨q,0,none⟩),.int .i64 node] w fun E w'=>∃P e,Hid (X P e w')∧(e≠0∧E=.returned (.tuple #[.pointer none,.int .i64 e])∨e=0∧E=.returned (.tuple #[.pointer (some ⟨P,0,none⟩),.int .i64 0])):=by
 have qP:∀(fn:Fn) (first cap:Array Value) (w:World),(Instr.makeFunc fn first cap).run Tryz.prog w=.ok (.func fn first cap) w:=fun _ _ _ _=>rfl
 have hp:=hm.pos
 obtain⟨w1,hw1,s1,b1,P1⟩:=ak w #[.int .i64 node] 3
 obtain⟨e0,hwe,he0⟩:=ahZ st
 have WR:Hid (Calls Tryz.prog 29 #[.pointer (some ⟨q,0,none⟩),.int .i64 0,.slice none 0 0] w1 fun E w'=>E=.returned (.int .i64 e0)∧aY q F w1 w' st):=hide (by
  have:=oF q F w1 st 0 (.slice none 0 0) [] (h.below b1) (Is.nil _ _) (fun k=>by simp at k) (by simp) (by have:=hB.1.2.1;simp[cnt];omega) hB.2 (by have:=hB.1.2.2;simp[cnt];omega)
  rw[hwe]at this
  exact this)
 have HH:=hide (And.intro h (And.intro hm (And.intro b1 P1)))
 have HR:=hide hrun
 clear h hm hB b1 P1 hwe hrun
 go_enter Tryz.func9,Tryz.ntmps9
 go_wp2_with fail
 refine WR.out.mono ?_
 rintro E w2 ⟨rfl,F2,k1,k2,k3⟩
 clear WR
 obtain⟨h,hm,b1,P1⟩:=HH.out
 have hF:=h.lt
 have z2:=k2.size
 obtain⟨P,hP⟩:∃P,w2.heap.size=P:=⟨_,rfl⟩
 obtain⟨w3,hw3,s3,b3,P3⟩:=ak w2 (eD q false Pm.no (.pointer none) 0 (.pointer none) (.pointer none)) 56
 obtain⟨w4,hw4,ayx,s4,b4,P4⟩:=ag9 w3 22 (.pointer none) (.pointer (some ⟨P,0,none⟩))
 obtain⟨n0,hn0⟩:∃n,w.heap.size=n:=⟨_,rfl⟩
 obtain⟨w5,sS,s5,b5,P5⟩:=ak w4 #[.func (.func 31) #[] #[.pointer (some ⟨n0,0,none⟩)],.func (.func 33) #[.pointer (some ⟨P,0,none⟩)] #[],.func (.func 34) #[] #[.pointer (some ⟨P+1,0,none⟩),.pointer (some ⟨n0,0,none⟩)],.func (.func 36) #[.pointer (some ⟨P,0,none⟩)] #[],.func (.func 37) #[.pointer (some ⟨P,0,none⟩)] #[],.func (.func 38) #[] #[.pointer (some ⟨P+1,0,none⟩)],.func (.func 41) #[.pointer (some ⟨P,0,none⟩)] #[]] 132
 have z3:w3.heap.size=P+1:=by omega
 have z4:w4.heap.size=P+2:=by omega
 have z5:w5.heap.size=P+3:=by omega
 rw[hP]at P3
 rw[z3]at P4
 rw[z4]at P5
 have qY:Below w2.heap.size w2 w5:=(b3.trans (b4.mono (by omega))).trans (b5.mono (by omega))
 have n1:w1.heap.size=n0+1:=by omega
 have nF2:¬F2 n0:=fun e=>by
  rcases k3 n0 e with e|e
  ·have:=hF n0 e;omega
  ·omega
 have lF2:=k1.lt
 have c1:w2.heap[n0]? =some (.cells #[.int .i64 node] 3 (0,0)):=(k2.block n0 (by omega) fun e=>by have:=hF n0 e;omega).trans (by rw[←hn0];exact P1)
 have I5:tN q F w w5 w5 n0 P F2 st:=by
  refine⟨k1.below qY,((Out.of_below b1).trans k2 fun g hg=>.inl hg).trans (Out.of_below (F:=fun _=>False) qY) fun g hg=>hg.elim,fun g hg=>(k3 g hg).imp id fun e=>by omega,(gI (hm.below b1) k2 h0).below qY,?_,fun g hg=>rfl⟩
  rintro g (rfl|rfl|rfl|rfl)
  ·exact⟨nF2,by omega⟩
  ·exact⟨fun e=>by have:=lF2 _ e;omega,by omega⟩
  ·exact⟨fun e=>by have:=lF2 _ e;omega,by omega⟩
  ·exact⟨fun e=>by have:=lF2 _ e;omega,by omega⟩
 have q1:=(b5.block (P+1) (by omega)).trans P4
 have RUN:=HR.out F2 w5 n0 P hn0.symm I5 (by omega) (by omega) ((qY.block n0 (by omega)).trans c1) q1 ((b5.block P (by omega)).trans ((b4.block P (by omega)).trans P3))
 have Ioq:=hide (rQ (P+2) 7 _ w5 _ rfl (by omega) P5 RUN)
 have Q1:=hide q1
 have c4:w4.cell? ⟨P+1,0,none⟩=some (.pointer (some ⟨P,0,none⟩)):=ai P4 0 rfl
 unfold eD Pm.no at hw3
 simp only at hw3
 rw[hn0]
 clear HR HH RUN I5 q1 P1 P3 P4 P5 b1 b3 b4 b5 qY k1 k2 k3 nF2 lF2 c1 h hm hF n1 z5 s3 s4 s5 z2 hp h0
 go_wp2_with fail
 refine Ioq.out.mono ?_
 rintro E W ⟨e,rfl,hk,hX⟩
 have cW:W.cell? ⟨P+1,0,none⟩=some (.pointer (some ⟨P,0,none⟩)):=ai (hk.trans Q1.out) 0 rfl
 have HX:=hide hX
 clear Ioq Q1 hk hX
 by_cases he:e=0
 ·subst he
  go_wp2
  go_ret2
  exact⟨P,0,HX,.inr ⟨rfl,rfl⟩⟩
 ·have he':(e==0)=false:=by simpa using he
  go_wp2
  go_ret2
  exact⟨P,e,HX,.inl ⟨he,rfl⟩⟩
structure Lv (w0 w:World) (p q:Nat) (F:Nat→Prop) (s:Rst.St):Prop where
 st:PS p q F w s
 new:∀g,F g→w0.heap.size≤g∧0<g
 aG:Below w0.heap.size w0 w
section
variable {w0 w w':World} {p q:Nat} {F:Nat→Prop} {s s':Rst.St} {z:Pm.Pg} {ps:List Pm.Pg} {ss:List Orp.Se} {n:Nat}
end
def exP:Bm.Ov:=⟨true,⟨#[97]⟩,⟨#[49]⟩⟩
def z0:Pm.Pg:=⟨1,1,0,0,0,0⟩
def c11:Cm.Cv:=⟨1,1,[exP]⟩
def z1:Pm.Pg:=⟨1,1,1,0,0,0⟩
def kv:Bm.Ov:=⟨true,⟨#[107]⟩,⟨#[118]⟩⟩
def l3:List Cm.Cv:=[⟨1,1,[kv]⟩,⟨1,2,[kv]⟩,⟨1,3,[kv]⟩]
theorem uS:Bm.dY [kv]=0:=by decide
theorem p8:Cm.Good 0 0 l3:=⟨by rw[Cm.mD (by decide)];exact uS,by decide,by decide,by rw[Cm.mD (by decide)];exact uS,by decide,by decide,by rw[Cm.mD (by decide)];exact uS,by decide,by decide,trivial⟩
def Cms (b:Nat) (w:World) (v:Value) (l:List Cm.Cv):Prop:=∃rs,bD 65 b w v rs∧dZ b w rs∧az rs=l
theorem wT {w:World}{v:Value}{rs:List Cw}{b:Nat}(h1:bD 65 b w v rs)(h2:dZ b w rs)(hg:∀c∈az rs,Cm.chk c.e c.n c.l=0):dJ w v rs∧dV rs:=by
 have hk:∀c∈rs,Cm.chk c.e c.n c.l=0:=fun c hc=>hg c.c (by unfold az;exact List.mem_map.2 ⟨c,hc,rfl⟩)
 refine⟨⟨h1.row,fun c hc=>⟨(h2 c hc).is,by have:=Cm.aQ (hk c hc);unfold In64;omega⟩⟩,fun c hc=>?_⟩
 obtain⟨_,_,_,_,h5⟩:=Cm.aQ (hk c hc)
 have:=(Bm.dI h5).2.1
 exact⟨(mZ h5).fit,by omega⟩
theorem aah (g:Nat)(w:World)(hg:w.heap[g]? =some (.cells #[.int .i64 1,.int .i64 1,.int .i64 1] 3 (0,0))):
  Calls Tryz.prog 8 #[.slice (some ⟨g,0,none⟩) 3 3] w fun E w'=>∃a k,E=.returned (.slice a 3 k)∧Hid (Cms w.heap.size w' (.slice a 3 k) l3)∧Below w.heap.size w w':=by
 have hgl:=ax hg
 have HC:Hid (∀W,Below w.heap.size w W→∀k:Nat,k<3→W.cell? ⟨g,k,none⟩=some (.int .i64 1)):=hide fun W hW k hk=>by
  have:=(hW.block g hgl).trans hg
  obtain rfl|rfl|rfl:k=0∨k=1∨k=2:=by omega
  ·exact ai this 0 rfl
  ·exact ai this 1 rfl
  ·exact ai this 2 rfl
 have HL:Hid (∀k:Nat,k<3→l3.take (k+1)=l3.take k++[⟨1,(k:Int)+1,[kv]⟩]):=hide fun k hk=>by
  obtain rfl|rfl|rfl:k=0∨k=1∨k=2:=by omega
  ·rfl
  ·rfl
  ·rfl
 clear hg hgl
 go_enter Tryz.func8,Tryz.ntmps8
 go_wp2
 go_loopw [3,4] (fun ov iv wr=>∃(k:Nat) (rs:List Cw),k≤3∧iv=.int .i64 k∧rs.length=k∧Hid (bD 65 w.heap.size wr ov rs∧az rs=l3.take k∧dZ w.heap.size wr rs)∧Hid (Below w.heap.size w wr)) (fun _ iv _=>3-(intOf iv).toNat)
 case atStart=>exact⟨0,[],by omega,rfl,rfl,hide ⟨bD.nil _ _ _,rfl,fun c hc=>by simp at hc⟩,hide (Below.refl _ _)⟩
 case round=>
  obtain⟨k,rs,hk,rfl,hrl,HT,HB⟩:=hrel
  by_cases hlt:k<3
  ·have aG:=HB.out
   have sz:=aG.size
   have d0:=HC.out wr aG k hlt
   obtain⟨hO,hE,hP⟩:=HT.out
   obtain⟨w2,hw2,di,au,aT⟩:=zF 92 wr #[.bool true,.string ⟨#[107]⟩,.string ⟨#[118]⟩] 1 [kv] rfl rfl (by simp[maxLen])
   obtain⟨w3,hw3,bP,aF,bI⟩:=kC 65 w2 #[.int .i64 1,.int .i64 ((k:Int)+1),.slice (some ⟨wr.heap.size,0,none⟩) 1 1] 1 [⟨1,(k:Int)+1,.slice (some ⟨wr.heap.size,0,none⟩) 1 1,[kv]⟩] rfl rfl (by simp[maxLen])
   have jR:Below wr.heap.size wr w3:=au.trans (aF.mono (by omega))
   rw[di]at bI
   have hO3:=hO.below jR
   have HP:=hide (hP.below jR)
   have aat:=hide ((aT.below aF).bB (base':=w.heap.size) (by omega))
   have hlk:(rs.length+[(⟨1,(k:Int)+1,.slice (some ⟨wr.heap.size,0,none⟩) 1 1,[kv]⟩:Cw)].length)*40≤140737488355328:=by rw[List.length_singleton];omega
   have HE:=hide hE
   have bg:=hide (aG.trans (jR.mono (by omega)))
   have hlt':(k:Int)<3:=by omega
   have hwr:IntKind.i64.wrap ((k:Int)+1)=(k:Int)+1:=aX _ (by omega) (by omega)
   have hb3:w.heap.size≤w3.heap.size:=by omega
   clear HT hO hP hE au aF jR aT aG HB
   go_wp2_with (at_builtin;refine kr rfl (.tmp 11) (.tmp 21) 26 rfl 65 w.heap.size Tryz.underlying26 Tryz.nO _ rs rfl hO3 _ _ rfl bI.row (by intro c hc;rw[List.mem_singleton.1 hc];rfl) hlk hb3 ?_)
   intro v4 w4 bf aM qW
   have HT2:Hid (bD 65 w.heap.size w4 v4 (rs++[⟨1,(k:Int)+1,.slice (some ⟨wr.heap.size,0,none⟩) 1 1,[kv]⟩])∧az (rs++[⟨1,(k:Int)+1,.slice (some ⟨wr.heap.size,0,none⟩) 1 1,[kv]⟩])=l3.take (k+1)∧dZ w.heap.size w4 (rs++[⟨1,(k:Int)+1,.slice (some ⟨wr.heap.size,0,none⟩) 1 1,[kv]⟩])):=
    hide ⟨bf,by rw[HL.out k hlt,←HE.out];unfold az;rw[List.map_append];rfl,(HP.out.iN qW).snoc (aat.out.iN qW (by decide))⟩
   have dQ:=hide (bg.out.trans aM)
   clear bf qW aat bI hO3 HE HP bg aM hlk
   go_wp2
   go_roundw
   case rel=>exact⟨k+1,_,by omega,by go_num,by rw[List.length_append,hrl];rfl,HT2,dQ⟩
   case measure=>simp[intOf];omega
  ·obtain rfl:k=3:=by omega
   obtain⟨ao,co,hov,_,_⟩:=HT.out.1.row.shape
   rw[hrl]at hov
   subst hov
   have X:Hid (Cms w.heap.size wr (.slice ao 3 co) l3):=hide ⟨rs,HT.out.1,HT.out.2.2,HT.out.2.1⟩
   clear HT
   go_wp2
   go_ret
   exact⟨ao,co,rfl,X,HB.out⟩
def hel (g:Nat):Mw:=⟨1,2,1,4,.slice (some ⟨g,0,none⟩) 2 2,[(1,1),(2,3)],0,0,.slice none 0 0,[]⟩
theorem agJ (g:Nat):dC (hel g):=⟨by simp[hel,In64],by simp[hel,In64],by simp[hel],by simp[hel],by simp[hel,In64],by simp[hel,In64],by simp[hel,In64],by simp[hel],fun c hc=>by simp[hel]at hc,by simp[hel]⟩
theorem ams (g:Nat):Mm.Ck (hel g).m 0:=.inl ⟨rfl,by show(1:Int)≤2;decide,by show(2:Int)≤1048576;decide,.inl ⟨rfl,by show(1:Int)≤1;decide,by show(1:Int)≤3;decide,Sm.yl.1 (by show Sm.okb [(1,1),(2,3)] 4=true;decide),by show Sm.ay [(1,1),(2,3)]≤2;decide,rfl,rfl,rfl⟩⟩
theorem uq (w:World):Calls Tryz.prog 12 #[] w fun E w'=>∃g,E=.returned (mv (hel g))∧gQ w' (hel g)∧Below w.heap.size w w':=by
 obtain⟨w1,hw1,s1,b1,P1⟩:=ak w #[.int .i64 0,.int .i64 0,.int .u8 0,.int .i64 0,.slice none 0 0,.int .i64 0,.int .i64 0,.slice none 0 0] 40
 obtain⟨w2,hw2,s2,b2,o2⟩:=afJ w1 #[.int .i64 1,.int .i64 1,.int .i64 2,.int .i64 3] 2 [(1,1),(2,3)] rfl rfl (by simp[maxLen])
 have P2:=(b2.block _ (by omega)).trans P1
 have b02:Below w.heap.size w w2:=b1.trans (b2.mono (by omega))
 rw[s1]at o2
 obtain⟨Z,hZ,bZ,gZ,⟨a0,a1,a2,a3,a4,a5,a6,a7⟩,fr,⟨z0,z1,z2,z3,z4,z5,z6,z7⟩⟩:=ayH P2 (.int .i64 1) (.int .i64 2) (.int .u8 1) (.int .i64 4) (.slice (some ⟨w.heap.size+1,0,none⟩) 2 2) (.int .i64 0) (.int .i64 0) (.slice none 0 0)
 have f0:=fr 0;have f1:=fr 1;have f2:=fr 2;have f3:=fr 3;have f4:=fr 4;have f5:=fr 5;have f6:=fr 6;have f7:=fr 7
 have X:Hid (gQ Z (hel (w.heap.size+1))∧Below w.heap.size w Z):=hide ⟨⟨by
  have oz:mK (w.heap.size+1) Z (.slice (some ⟨w.heap.size+1,0,none⟩) 2 2) [(1,1),(2,3)]:=o2.agree fun b hb=>gZ.block b (o2.lt b hb).2 (fun e=>by
   have:=(o2.lt b hb).1
   have e:=Option.some.inj e
   omega)
  exact oz.row,dJ.nil _⟩,aD b02 gZ (Nat.le_refl _) (by omega)⟩
 clear b1 b2 b02 P1 P2 o2 bZ gZ fr
 go_enter Tryz.func12,Tryz.ntmps12
 go_wp2
 refine bodyPost_ret (v:=mv (hel (w.heap.size+1))) (by simp[results,Tryz.results12,go_sem,z0,z1,z2,z3,z4,z5,z6,z7,mv,hel]) rfl ?_
 exact⟨_,rfl,X.out⟩
theorem abw {r:List Int}{n:Nat}{e:Int}(h:Fm.Rd [] r n e):e=5∧r=[]∧n=0:=by
 rcases h with⟨_,_,_,h⟩|⟨h1,h2,h3,_⟩
 ·have h1:=(Fm.abO h).2.2
  have h2:=Vm.sW r.length
  simp at h1
  omega
 ·exact⟨h1,h2,h3⟩
theorem ahM (vb:Value)(w:World)(hb:Is .u8 w vb []):
  Calls Tryz.prog 121 #[vb] w fun E w'=>E=.returned (.agg #[.slice none 0 0,.slice none 0 0])∧Below w.heap.size w w':=by
 obtain⟨w1,hw1,aW,aj,hR⟩:=ak w #[.slice none 0 0,.slice none 0 0] 155
 obtain⟨w2,hw2,di,au,hL⟩:=ak w1 #[.slice none 0 0,.slice none 0 0] 155
 have b02:=aj.trans (au.mono (by omega))
 have hR2:=(au.block _ (by omega)).trans hR
 rw[aW]at hL
 have HF:=hide (oC vb [] w2 (hb.below b02) (by simp))
 have HH:=hide (And.intro b02 (And.intro hR2 hL))
 obtain⟨ba,bc,hvb,_,_⟩:=hb.shape
 clear hb aj au hR hL hR2 b02
 subst hvb
 go_enter Tryz.func121,Tryz.ntmps121
 go_wp2
 go_loopw [0] (fun fv wr=>fv=.slice ba ([]:List Int).length bc∧wr=w2) (fun _ _=>0)
 case atStart=>exact⟨rfl,rfl⟩
 case round=>
  obtain⟨rfl,hwr⟩:=hrel
  subst hwr
  go_wp2_with fail
  refine HF.out.mono ?_
  rintro E wa ⟨v1,z,n,e,rfl,aZ,aj,R⟩
  obtain⟨rfl,rfl,rfl⟩:=abw R.out
  obtain⟨b02,hR,hL⟩:=HH.out
  have BA:=hide (b02.trans (aj.mono b02.size))
  have jE:=(aj.block _ (by omega)).trans hR
  have hL1:=(aj.block _ (by omega)).trans hL
  have c0:wa.cell? ⟨w.heap.size+1,0,none⟩=some (.slice none 0 0):=ai hL1 0 rfl
  have c1:wa.cell? ⟨w.heap.size+1,1,none⟩=some (.slice none 0 0):=ai hL1 1 rfl
  have a0:wa.cell? ⟨w.heap.size,0,none⟩=some (.slice none 0 0):=ai jE 0 rfl
  have a1:wa.cell? ⟨w.heap.size,1,none⟩=some (.slice none 0 0):=ai jE 1 rfl
  have f0:=aC jE 0
  have f1:=aC jE 1
  have s0:wa.setCell ⟨w.heap.size,0,none⟩ (.slice none 0 0)=wa:=aL jE (j:=0) rfl
  have s1:wa.setCell ⟨w.heap.size,1,none⟩ (.slice none 0 0)=wa:=aL jE (j:=1) rfl
  obtain⟨o1,k1,hv1,_,_⟩:=aZ.is.shape
  subst hv1
  clear aZ aj R b02 hR hL jE hL1 HH HF
  go_wp2
  try rw[Exit.noGoto_ret]
  refine bodyPost_ret (v:=.agg #[.slice none 0 0,.slice none 0 0]) (by simp[results,Tryz.results121,go_sem,a0,a1]) rfl ?_
  exact⟨rfl,BA.out⟩
theorem aiH (vb:Value)(bs:List Int)(w:World)(hb:Is .u8 w vb bs)(h0:bs=[]):
  Calls Tryz.prog 128 #[vb] w fun E w'=>E=.returned (.tuple #[.slice none 0 0,.int .i64 0])∧Below w.heap.size w w':=by
 obtain⟨n,hn⟩:∃n:Nat,n=0:=⟨0,rfl⟩
 have hl:bs.length≤1000:=by simp[h0]
 have hle:n≤bs.length:=by omega
 have H0:=hide h0
 have HN:=hide hn
 obtain⟨vs,hsl,eH⟩:=hb.gu Tryz.avJ Tryz.asU n hle
 have HF:=hide (oC vs _ w eH (by rw[List.length_drop];omega))
 obtain⟨ba,bc,hvb,_,_⟩:=hb.shape
 clear hb eH hn h0
 subst hvb
 go_enter Tryz.func128,Tryz.ntmps128
 go_wp2
 go_loopw [2,3] (fun lv gv wr=>lv=.slice none 0 0∧gv=.int .i64 n∧wr=w) (fun _ _ _=>0)
 case atStart=>exact⟨rfl,by rw[HN.out];rfl,rfl⟩
 case round=>
  obtain⟨rfl,rfl,hwr⟩:=hrel
  subst hwr
  go_wp2_with fail
  refine HF.out.mono ?_
  rintro E wa ⟨v1,z,k,e,rfl,aZ,aj,R⟩
  have R':=R.out
  rw[H0.out,List.drop_nil]at R'
  obtain⟨rfl,rfl,rfl⟩:=abw R'
  have BA:=hide aj
  obtain⟨o1,k1,hv1,_,_⟩:=aZ.is.shape
  subst hv1
  clear aZ aj R R' HF hsl
  go_wp2
  go_ret2
  exact⟨by rw[HN.out];rfl,BA.out⟩
theorem aji (vb:Value)(w:World)(hb:Is .u8 w vb []):
  Calls Tryz.prog 125 #[vb] w fun E w'=>∃(y:Pm.Pg) (m:Nat),E=.returned (.tuple #[.agg #[.int .i64 y.e,.int .u8 y.r,.int .i64 y.a,.int .u8 y.p,.int .i64 y.f,.int .i64 y.b],.int .i64 m,.int .i64 5])∧Below w.heap.size w w':=by
 obtain⟨w1,hw1,aW,aj,jE⟩:=ak w #[.int .i64 0,.int .u8 0,.int .i64 0,.int .u8 0,.int .i64 0,.int .i64 0] 35
 have hb1:=hb.below aj
 have HB:=hide jE
 obtain⟨ao,cap,rfl,_,_⟩:=hb.shape
 clear jE hb
 go_enter Tryz.func125,Tryz.ntmps125
 go_wp2_with fail
 refine(oC _ [] _ hb1 (by simp)).mono ?_
 rintro E w2 ⟨v2,r,n,e,rfl,aT,au,R2⟩
 have B2:=(au.block _ (ax HB.out)).trans HB.out
 have aO:=hide (aj.trans (au.mono (by omega)))
 obtain⟨rfl,rfl,rfl⟩:=abw R2.out
 obtain⟨z0,z1,z2,z3,z4,z5⟩:=aN B2
 have s0:w2.setCell ⟨w.heap.size,0,none⟩ (.int .i64 0)=w2:=aL B2 (j:=0) rfl
 have s1:w2.setCell ⟨w.heap.size,1,none⟩ (.int .u8 0)=w2:=aL B2 (j:=1) rfl
 have s2:w2.setCell ⟨w.heap.size,2,none⟩ (.int .i64 0)=w2:=aL B2 (j:=2) rfl
 have s3:w2.setCell ⟨w.heap.size,3,none⟩ (.int .u8 0)=w2:=aL B2 (j:=3) rfl
 have s4:w2.setCell ⟨w.heap.size,4,none⟩ (.int .i64 0)=w2:=aL B2 (j:=4) rfl
 have s5:w2.setCell ⟨w.heap.size,5,none⟩ (.int .i64 0)=w2:=aL B2 (j:=5) rfl
 have f0:=aC B2 0;have f1:=aC B2 1;have f2:=aC B2 2;have f3:=aC B2 3;have f4:=aC B2 4;have f5:=aC B2 5
 clear B2 R2 HB aj au hb1 aT
 go_wp2
 refine bodyPost_ret (v:=.tuple #[.agg #[.int .i64 0,.int .u8 0,.int .i64 0,.int .u8 0,.int .i64 0,.int .i64 0],.int .i64 0,.int .i64 5]) (by simp[results,Tryz.results125,go_sem,z0,z1,z2,z3,z4,z5]) rfl ?_
 exact⟨Pm.no,0,rfl,aO.out⟩
theorem amo (vb:Value)(bs:List Int)(node:Int)(w:World)(hb:Is .u8 w vb bs)(h0:bs=[])(hn:fse node=0):
  Calls Tryz.prog 81 #[vb,.int .i64 node] w fun E w'=>E=.returned (.tuple #[vp (fst node),.int .i64 0,.int .i64 0])∧Below w.heap.size w w':=by
 unfold vp
 obtain⟨w1,hw1,aW,aj,jE⟩:=ak w #[.int .i64 0,.int .u8 0,.int .i64 0,.int .u8 0,.int .i64 0,.int .i64 0] 35
 obtain⟨n,hn0⟩:∃n:Nat,n=0:=⟨0,rfl⟩
 have hl:bs.length≤1000:=by simp[h0]
 have hle:n≤bs.length:=by omega
 have H0:=hide h0
 have HN:=hide hn0
 have HBS:=hide hb
 have HB:=hide jE
 have FI:=hide (adf node w1)
 rw[hn]at FI
 unfold vp at FI
 obtain⟨ao,cap,rfl,_,_⟩:=hb.shape
 clear jE hb hn h0 hn0
 go_enter Tryz.func81,Tryz.ntmps81
 go_wp2_with fail
 refine FI.out.mono ?_
 rintro E w2 ⟨rfl,au⟩
 have di:=au.size
 have HB2:=hide ((au.block _ (ax HB.out)).trans HB.out)
 have aO:=aj.trans (au.mono (by omega))
 obtain⟨x,hx⟩:∃p,fst node=p:=⟨_,rfl⟩
 rw[hx]
 have HX:=hide hx
 clear hx
 obtain⟨w3,anU,hw3,bP,aF,hP,e0,e1,e2,e3,e4,e5⟩:=xA w2 35 (.int .i64 0) (.int .u8 0) (.int .i64 0) (.int .u8 0) (.int .i64 0) (.int .i64 0) (.int .i64 x.e) (.int .u8 x.r) (.int .i64 x.a) (.int .u8 x.p) (.int .i64 x.f) (.int .i64 x.b)
 have B3:=(aF.block _ (ax HB2.out)).trans HB2.out
 have bg:=aO.trans (aF.mono (by omega))
 have hlt:=ax HB2.out
 have hlp:=ax hP
 obtain⟨vs,hsl,eH⟩:=(HBS.out.below bg).gu Tryz.uY Tryz.xV n hle
 have PR:=hide (aji vs w3 (by have:=eH;rw[H0.out,List.drop_nil]at this;exact this))
 have HH:=hide (And.intro B3 (And.intro hP bg))
 clear HB HB2 aj au aO aF B3 hP bg HBS FI eH
 go_wp2
 go_loopw [9] (fun ee wr=>ee=.int .i64 n∧wr=w3) (fun _ _=>0)
 case atStart=>exact⟨by rw[HN.out];rfl,rfl⟩
 case round=>
  obtain⟨rfl,hwr⟩:=hrel
  subst hwr
  go_wp2_with fail
  refine PR.out.mono ?_
  rintro E w4 ⟨y,m,rfl,aM⟩
  obtain⟨B3,hP,bg⟩:=HH.out
  have R4:=(aM.block _ (by omega)).trans B3
  have L4:=(aM.block _ hlp).trans hP
  have dQ:=bg.trans (aM.mono bg.size)
  obtain⟨w5,axQ,sS,sH,bn,hP5,p0,p1,p2,p3,p4,p5⟩:=xA w4 35 (.int .i64 0) (.int .u8 0) (.int .i64 0) (.int .u8 0) (.int .i64 0) (.int .i64 0) (.int .i64 y.e) (.int .u8 y.r) (.int .i64 y.a) (.int .u8 y.p) (.int .i64 y.f) (.int .i64 y.b)
  have s4:=aM.size
  have R5:=(bn.block _ (by omega)).trans R4
  have L5:=(bn.block _ (by omega)).trans L4
  have adQ:=dQ.trans (bn.mono (by omega))
  obtain⟨V,hV,bV,gV,⟨a0,a1,a2,a3,a4,a5⟩,fr,⟨z0,z1,z2,z3,z4,z5⟩⟩:=dU R5 (.int .i64 x.e) (.int .u8 x.r) (.int .i64 x.a) (.int .u8 x.p) (.int .i64 x.f) (.int .i64 x.b)
  have f0:=fr 0;have f1:=fr 1;have f2:=fr 2;have f3:=fr 3;have f4:=fr 4;have f5:=fr 5
  obtain⟨l0,l1,l2,l3,l4,l5⟩:=aN L5
  have bu:=hide (aD adQ gV (by omega) (by omega))
  clear B3 hP bg R4 L4 aM dQ bn hP5 R5 L5 adQ bV gV fr HH PR hsl e0 e1 e2 e3 e4 e5 hw3 anU
  go_wp2
  refine bodyPost_ret (v:=.tuple #[.agg #[.int .i64 x.e,.int .u8 x.r,.int .i64 x.a,.int .u8 x.p,.int .i64 x.f,.int .i64 x.b],.int .i64 n,.int .i64 0]) (by simp[results,Tryz.results81,go_sem,z0,z1,z2,z3,z4,z5]) rfl ?_
  exact⟨by rw[HN.out,HX.out];rfl,bu.out⟩
end Go.Proofs.YtjemlgdkjilnoaaGreatDoor
