/- Texts of one layer, one behind the other. -/
import Derived.Test.YtlmkaljjocflmaaGreatDoorAH2
import Derived.Test.YtlmkaljjocflmaaGreatDoorAH29
import Derived.Test.YtlmkaljjocflmaaGreatDoorAH26
import Derived.Test.YtlmkaljjocflmaaGreatDoorAH12
import Derived.Test.YtlmkaljjocflmaaGreatDoorAZRqe
import Derived.Test.YtlmkaljjocflmaaGreatDoorAH6
import Derived.Test.YtlmkaljjocflmaaGreatDoorAM3
import Derived.Test.YtlmkaljjocflmaaGreatDoorAH20
import Derived.Test.YtlmkaljjocflmaaGreatDoorAH28
import Derived.Test.YtlmkaljjocflmaaGreatDoorAH38
import Derived.Test.YtlmkaljjocflmaaGreatDoorAH23
import Derived.Test.YtlmkaljjocflmaaGreatDoorAH36
set_option maxRecDepth 100000
set_option maxHeartbeats 8000000
namespace Go.Proofs.YtlmkaljjocflmaaGreatDoor
open Go.RowKit
set_option linter.unusedVariables false
theorem yo (p q pw pr:Nat)(F F':Nat→Prop)(w:World)(off:Bool)(x:Pm.Pg)(en:Int)(vs:Value)(sw:Wl.Ws)(sr:Rl.Rs)(hb:w.heap[p]? =some (.cells (dQ q off x (.pointer (some ⟨pw,0,none⟩)) en (.pointer (some ⟨pr,0,none⟩)) vs) 137 (0,0)))(h1:WW pw q F w sw)(h2:RW pr q F' w sr):
  Calls Tryz.prog 106 #[.pointer (some ⟨p,0,none⟩)] w fun E w'=>E=.returned (.agg (iW x (Cm.lastE 0 sw.l) en (Cm.lastN 0 sr.l) p))∧Below w.heap.size w w':=by
 have kW:∀(fn:Fn) (first cap:Array Value) (w:World),(Instr.makeFunc fn first cap).run Tryz.prog w=.ok (.func fn first cap) w:=fun _ _ _ _=>rfl
 have hsf:∀(a:Addr) (fn:Fn) (first cap:Array Value) (w:World),(store a (.func fn first cap)).run Tryz.prog w=stored Tryz.prog w a (.func fn first cap) .plain:=fun a fn first cap w=>run_store _ w a _ _ rfl
 have hpl:=aA hb
 obtain⟨w1,hw1,s1,b1,P1⟩:=au w #[.int .i64 0,.int .u8 0,.int .i64 0,.int .u8 0,.int .i64 0,.int .i64 0,.int .i64 0,.int .i64 0,.int .i64 0,.nilFunc] 178
 obtain⟨K,hK⟩:∃K:World→Prop,K=fun W=>Hid (W.heap[p]? =w.heap[p]?∧W.heap[w.heap.size]? =some (.cells #[.int .i64 0,.int .u8 0,.int .i64 0,.int .u8 0,.int .i64 0,.int .i64 0,.int .i64 0,.int .i64 0,.int .i64 0,.nilFunc] 178 (0,0))∧Below w.heap.size w W):=⟨_,rfl⟩
 have HE:Hid (∀W,K W→Calls Tryz.prog 112 #[.pointer (some ⟨pw,0,none⟩)] W fun E w'=>E=.returned (.int .i64 (Cm.lastE 0 sw.l))∧K w'):=hide fun W k=>by
  subst hK
  refine(aaN pw q F W sw (h1.below k.out.2.2)).mono ?_
  rintro E w' ⟨rfl,m,rfl⟩
  exact⟨rfl,hide ⟨k.out.1,k.out.2.1,below_drewN k.out.2.2 m⟩⟩
 have HR:Hid (∀W,K W→Calls Tryz.prog 179 #[.pointer (some ⟨pr,0,none⟩)] W fun E w'=>E=.returned (.int .i64 (Cm.lastN 0 sr.l))∧K w'):=hide fun W k=>by
  subst hK
  refine(mY pr q F' W sr (h2.below k.out.2.2)).mono ?_
  rintro E w' ⟨rfl,rfl⟩
  exact⟨rfl,k⟩
 generalize Cm.lastE 0 sw.l=ep at*
 generalize Cm.lastN 0 sr.l=rn at*
 obtain⟨SS,hSS⟩:∃SS:World→Prop,SS=(fun W=>W.cell? ⟨p,2,none⟩=some (.int .i64 x.e)∧W.cell? ⟨p,3,none⟩=some (.int .u8 x.r)∧W.cell? ⟨p,4,none⟩=some (.int .i64 x.a)∧W.cell? ⟨p,5,none⟩=some (.int .u8 x.p)∧W.cell? ⟨p,6,none⟩=some (.int .i64 x.f)∧W.cell? ⟨p,7,none⟩=some (.int .i64 x.b)∧W.cell? ⟨p,8,none⟩=some (.pointer (some ⟨pw,0,none⟩))∧W.cell? ⟨p,9,none⟩=some (.int .i64 en)∧W.cell? ⟨p,11,none⟩=some (.pointer (some ⟨pr,0,none⟩))):=⟨_,rfl⟩
 have sB:∀W,W.heap[p]? =w.heap[p]?→SS W:=fun W k=>by
  subst hSS
  obtain⟨c0,_,c2,c3,c4,c5,c6,c7,c8,c9,_,c11,_⟩:=mM (k.trans hb)
  exact⟨c2,c3,c4,c5,c6,c7,c8,c9,c11⟩
 have KS:Hid (∀W,K W→SS W):=hide fun W k=>by
  subst hK
  exact sB W k.out.1
 have PUT:Hid (∀W V,W.heap[w.heap.size]? =some (.cells #[.int .i64 0,.int .u8 0,.int .i64 0,.int .u8 0,.int .i64 0,.int .i64 0,.int .i64 0,.int .i64 0,.int .i64 0,.nilFunc] 178 (0,0))→Below w.heap.size w W→W.grownBy V (some w.heap.size)→SS V∧Below w.heap.size w V):=hide fun W V k1 k2 k3=>by
  have hs:=k2.size
  have b:=aF k2 k3 (Nat.le_refl _) (by omega)
  exact⟨sB V (b.block p hpl),b⟩
 obtain⟨W0,hW0⟩:∃W,w1.drew=W:=⟨_,rfl⟩
 have K0:K W0:=by
  subst hK
  rw[←hW0]
  exact hide ⟨b1.block p hpl,P1,b1.drew⟩
 subst hK hSS
 clear h1 h2 hb P1 b1 s1 sB
 go_enter Tryz.func106,Tryz.ntmps106
 go_wp2_with fail
 refine lS (ops:=(ay 1 Tryz.f106)) (S:=fun W=>W.cell? ⟨p,2,none⟩=some (.int .i64 x.e)∧W.cell? ⟨p,3,none⟩=some (.int .u8 x.r)∧W.cell? ⟨p,4,none⟩=some (.int .i64 x.a)∧W.cell? ⟨p,5,none⟩=some (.int .u8 x.p)∧W.cell? ⟨p,6,none⟩=some (.int .i64 x.f)∧W.cell? ⟨p,7,none⟩=some (.int .i64 x.b)∧W.cell? ⟨p,8,none⟩=some (.pointer (some ⟨pw,0,none⟩))∧W.cell? ⟨p,9,none⟩=some (.int .i64 en)∧W.cell? ⟨p,11,none⟩=some (.pointer (some ⟨pr,0,none⟩))) (by kernel_rfl) al0 ?_
 rw[art,hW0]
 refine aD (v:=?_) amA (by kernel_rfl) (fun _ _ _ _ _ h=>h) (KS.out _ K0) rfl rfl (by rfl) ?_ ?_
 rotate_left 1
 ·intro w hS
  (try dsimp only at hS)
  go_simp
  all_goals with_reducible rfl
 simp only[Act.put,List.setIfInBounds_toArray,List.set_cons_zero,List.set_cons_succ]
 refine aD (v:=?_) aoa (by kernel_rfl) (fun _ _ _ _ _ h=>h) (KS.out _ K0) rfl rfl (by rfl) ?_ ?_
 rotate_left 1
 ·intro w hS
  (try dsimp only at hS)
  go_simp
  all_goals with_reducible rfl
 simp only[Act.put,List.setIfInBounds_toArray,List.set_cons_zero,List.set_cons_succ]
 refine aD (v:=?_) anV (by kernel_rfl) (fun _ _ _ _ _ h=>h) (KS.out _ K0) rfl rfl (by rfl) ?_ ?_
 rotate_left 1
 ·intro w hS
  (try dsimp only at hS)
  go_simp
  all_goals with_reducible rfl
 simp only[Act.put,List.setIfInBounds_toArray,List.set_cons_zero,List.set_cons_succ]
 refine aD (v:=?_) aod (by kernel_rfl) (fun _ _ _ _ _ h=>h) (KS.out _ K0) rfl rfl (by rfl) ?_ ?_
 rotate_left 1
 ·intro w hS
  (try dsimp only at hS)
  go_simp
  all_goals with_reducible rfl
 simp only[Act.put,List.setIfInBounds_toArray,List.set_cons_zero,List.set_cons_succ]
 refine aD (v:=?_) aj6 (by kernel_rfl) (fun _ _ _ _ _ h=>h) (KS.out _ K0) rfl rfl (by rfl) ?_ ?_
 rotate_left 1
 ·intro w hS
  (try dsimp only at hS)
  go_simp
  all_goals with_reducible rfl
 simp only[Act.put,List.setIfInBounds_toArray,List.set_cons_zero,List.set_cons_succ]
 refine aD (v:=?_) alL (by kernel_rfl) (fun _ _ _ _ _ h=>h) (KS.out _ K0) rfl rfl (by rfl) ?_ ?_
 rotate_left 1
 ·intro w hS
  (try dsimp only at hS)
  go_simp
  all_goals with_reducible rfl
 simp only[Act.put,List.setIfInBounds_toArray,List.set_cons_zero,List.set_cons_succ]
 refine aD (v:=?_) ajX (by kernel_rfl) (fun _ _ _ _ _ h=>h) (KS.out _ K0) rfl rfl (by rfl) ?_ ?_
 rotate_left 1
 ·intro w hS
  (try dsimp only at hS)
  go_simp
  all_goals with_reducible rfl
 simp only[Act.put,List.setIfInBounds_toArray,List.set_cons_zero,List.set_cons_succ]
 refine aD (v:=?_) ahq (by kernel_rfl) (fun _ _ _ _ _ h=>h) (KS.out _ K0) rfl rfl (by rfl) ?_ ?_
 rotate_left 1
 ·intro w hS
  (try dsimp only at hS)
  go_simp
  all_goals with_reducible rfl
 simp only[Act.put,List.setIfInBounds_toArray,List.set_cons_zero,List.set_cons_succ]
 refine aD (v:=?_) aic (by kernel_rfl) (fun _ _ _ _ _ h=>h) (KS.out _ K0) rfl rfl (by rfl) ?_ ?_
 rotate_left 1
 ·intro w hS
  (try dsimp only at hS)
  go_simp
  all_goals with_reducible rfl
 simp only[Act.put,List.setIfInBounds_toArray,List.set_cons_zero,List.set_cons_succ]
 refine aD (v:=?_) ah5 (by kernel_rfl) (fun _ _ _ _ _ h=>h) (KS.out _ K0) rfl rfl (by rfl) ?_ ?_
 rotate_left 1
 ·intro w hS
  (try dsimp only at hS)
  go_simp
  all_goals with_reducible rfl
 simp only[Act.put,List.setIfInBounds_toArray,List.set_cons_zero,List.set_cons_succ]
 refine aD (v:=?_) aen (by kernel_rfl) (fun _ _ _ _ _ h=>h) (KS.out _ K0) rfl rfl (by rfl) ?_ ?_
 rotate_left 1
 ·intro w hS
  (try dsimp only at hS)
  go_simp
  all_goals with_reducible rfl
 simp only[Act.put,List.setIfInBounds_toArray,List.set_cons_zero,List.set_cons_succ]
 refine aD (v:=?_) adP (by kernel_rfl) (fun _ _ _ _ _ h=>h) (KS.out _ K0) rfl rfl (by rfl) ?_ ?_
 rotate_left 1
 ·intro w hS
  (try dsimp only at hS)
  go_simp
  all_goals with_reducible rfl
 simp only[Act.put,List.setIfInBounds_toArray,List.set_cons_zero,List.set_cons_succ]
 refine aD (v:=?_) aei (by kernel_rfl) (fun _ _ _ _ _ h=>h) (KS.out _ K0) rfl rfl (by rfl) ?_ ?_
 rotate_left 1
 ·intro w hS
  (try dsimp only at hS)
  go_simp
  all_goals with_reducible rfl
 simp only[Act.put,List.setIfInBounds_toArray,List.set_cons_zero,List.set_cons_succ]
 refine aD (v:=?_) adb (by kernel_rfl) (fun _ _ _ _ _ h=>h) (KS.out _ K0) rfl rfl (by rfl) ?_ ?_
 rotate_left 1
 ·intro w hS
  (try dsimp only at hS)
  go_simp
  all_goals with_reducible rfl
 simp only[Act.put,List.setIfInBounds_toArray,List.set_cons_zero,List.set_cons_succ]
 refine aD (v:=?_) ac4 (by kernel_rfl) (fun _ _ _ _ _ h=>h) (KS.out _ K0) rfl rfl (by rfl) ?_ ?_
 rotate_left 1
 ·intro w hS
  (try dsimp only at hS)
  go_simp
  all_goals with_reducible rfl
 simp only[Act.put,List.setIfInBounds_toArray,List.set_cons_zero,List.set_cons_succ]
 refine aD (v:=?_) ac7 (by kernel_rfl) (fun _ _ _ _ _ h=>h) (KS.out _ K0) rfl rfl (by rfl) ?_ ?_
 rotate_left 1
 ·intro w hS
  (try dsimp only at hS)
  go_simp
  all_goals with_reducible rfl
 simp only[Act.put,List.setIfInBounds_toArray,List.set_cons_zero,List.set_cons_succ]
 refine aD (v:=?_) abH (by kernel_rfl) (fun _ _ _ _ _ h=>h) (KS.out _ K0) rfl rfl (by rfl) ?_ ?_
 rotate_left 1
 ·intro w hS
  (try dsimp only at hS)
  go_simp
  all_goals with_reducible rfl
 simp only[Act.put,List.setIfInBounds_toArray,List.set_cons_zero,List.set_cons_succ]
 refine aD (v:=?_) abB (by kernel_rfl) (fun _ _ _ _ _ h=>h) (KS.out _ K0) rfl rfl (by rfl) ?_ ?_
 rotate_left 1
 ·intro w hS
  (try dsimp only at hS)
  go_simp
  all_goals with_reducible rfl
 simp only[Act.put,List.setIfInBounds_toArray,List.set_cons_zero,List.set_cons_succ]
 refine aD (v:=?_) abJ (by kernel_rfl) (fun _ _ _ _ _ h=>h) (KS.out _ K0) rfl rfl (by rfl) ?_ ?_
 rotate_left 1
 ·intro w hS
  (try dsimp only at hS)
  go_simp
  all_goals with_reducible rfl
 simp only[Act.put,List.setIfInBounds_toArray,List.set_cons_zero,List.set_cons_succ]
 refine aD (v:=?_) aaK (by kernel_rfl) (fun _ _ _ _ _ h=>h) (KS.out _ K0) rfl rfl (by rfl) ?_ ?_
 rotate_left 1
 ·intro w hS
  (try dsimp only at hS)
  go_simp
  all_goals with_reducible rfl
 simp only[Act.put,List.setIfInBounds_toArray,List.set_cons_zero,List.set_cons_succ]
 refine aD (v:=?_) aaA (by kernel_rfl) (fun _ _ _ _ _ h=>h) (KS.out _ K0) rfl rfl (by rfl) ?_ ?_
 rotate_left 1
 ·intro w hS
  (try dsimp only at hS)
  go_simp
  all_goals with_reducible rfl
 simp only[Act.put,List.setIfInBounds_toArray,List.set_cons_zero,List.set_cons_succ]
 refine aD (v:=?_) aaE (by kernel_rfl) (fun _ _ _ _ _ h=>h) (KS.out _ K0) rfl rfl (by rfl) ?_ ?_
 rotate_left 1
 ·intro w hS
  (try dsimp only at hS)
  go_simp
  all_goals with_reducible rfl
 simp only[Act.put,List.setIfInBounds_toArray,List.set_cons_zero,List.set_cons_succ]
 refine aD (v:=?_) yX (by kernel_rfl) (fun _ _ _ _ _ h=>h) (KS.out _ K0) rfl rfl (by rfl) ?_ ?_
 rotate_left 1
 ·intro w hS
  (try dsimp only at hS)
  go_simp
  all_goals with_reducible rfl
 simp only[Act.put,List.setIfInBounds_toArray,List.set_cons_zero,List.set_cons_succ]
 refine eX ade ?_ ?_
 ·refine aJ rfl (by rfl) (fun K hK=>?_)
  go_simp
  refine(HE.out _ K0).mono ?_
  rintro E U1 ⟨rfl,k1⟩
  go_wp2_with fail
  refine hK.out _ _ (KS.out _ k1) ?_
  clear hK K
  try simp only[Act.put,List.setIfInBounds_toArray,List.set_cons_zero,List.set_cons_succ]
  refine eX acX ?_ ?_
  ·refine aJ rfl (by rfl) (fun K hK=>?_)
   go_simp
   refine(HR.out _ k1).mono ?_
   rintro E U2 ⟨rfl,k2⟩
   go_wp2_with fail
   refine hK.out _ _ (KS.out _ k2) ?_
   clear hK K
   try simp only[Act.put,List.setIfInBounds_toArray,List.set_cons_zero,List.set_cons_succ]
   refine aN acZ ?_
   refine aJ rfl (by rfl) (fun K hK=>?_)
   go_simp
   go_wp2_with fail
   refine hK.out _ _ (KS.out _ k2) ?_
   clear hK K
   try simp only[Act.put,List.setIfInBounds_toArray,List.set_cons_zero,List.set_cons_succ]
   refine aD (v:=?_) kJ (by kernel_rfl) (fun _ _ _ _ _ h=>h) (KS.out _ k2) rfl rfl (by rfl) ?_ ?_
   rotate_left 1
   ·intro w hS
    (try dsimp only at hS)
    go_simp
    all_goals with_reducible rfl
   simp only[Act.put,List.setIfInBounds_toArray,List.set_cons_zero,List.set_cons_succ]
   refine aN lX ?_
   obtain⟨pb,bb⟩:=k2.out.2
   obtain⟨V,hV,bV,gV,⟨a0,a1,a2,a3,a4,a5,a6,a7,a8,a9⟩,fr,⟨z0,z1,z2,z3,z4,z5,z6,z7,z8,z9⟩⟩:=adB pb (.int .i64 x.e) (.int .u8 x.r) (.int .i64 x.a) (.int .u8 x.p) (.int .i64 x.f) (.int .i64 x.b) (.int .i64 ep) (.int .i64 en) (.int .i64 rn) (.func (.func 180) #[.pointer (some ⟨p,0,none⟩)] #[])
   have f0:=fr 0;have f1:=fr 1;have f2:=fr 2;have f3:=fr 3;have f4:=fr 4;have f5:=fr 5;have f6:=fr 6;have f7:=fr 7;have f8:=fr 8;have f9:=fr 9
   have SV:=hide (PUT.out _ _ pb bb gV)
   clear bV gV fr pb bb
   refine aJ rfl (by rfl) (fun K hK=>?_)
   go_simp
   go_wp2_with fail
   refine hK.out _ _ SV.out.1 ?_
   clear hK K
   try simp only[Act.put,List.setIfInBounds_toArray,List.set_cons_zero,List.set_cons_succ]
   refine bO abd ?_
   clear HE HR KS PUT
   go_wp2
   refine bodyPost_ret (v:=.agg (iW x ep en rn p)) (by simp[results,Tryz.results106,go_sem,z0,z1,z2,z3,z4,z5,z6,z7,z8,z9,iW]) rfl ?_
   exact⟨rfl,SV.out.2⟩
  ·refine aJ rfl (by rfl) (fun K hK=>?_)
   go_simp
   go_wp2_with fail
   refine hK.out _ _ (KS.out _ k1) ?_
   clear hK K
   try simp only[Act.put,List.setIfInBounds_toArray,List.set_cons_zero,List.set_cons_succ]
   refine aN uA ?_
   refine aJ rfl (by rfl) (fun K hK=>?_)
   go_simp
   refine(HR.out _ k1).mono ?_
   rintro E U6 ⟨rfl,k6⟩
   go_wp2_with fail
   refine hK.out _ _ (KS.out _ k6) ?_
   clear hK K
   try simp only[Act.put,List.setIfInBounds_toArray,List.set_cons_zero,List.set_cons_succ]
   refine aD (v:=?_) kJ (by kernel_rfl) (fun _ _ _ _ _ h=>h) (KS.out _ k6) rfl rfl (by rfl) ?_ ?_
   rotate_left 1
   ·intro w hS
    (try dsimp only at hS)
    go_simp
    all_goals with_reducible rfl
   simp only[Act.put,List.setIfInBounds_toArray,List.set_cons_zero,List.set_cons_succ]
   refine aN lX ?_
   obtain⟨pb,bb⟩:=k6.out.2
   obtain⟨V,hV,bV,gV,⟨a0,a1,a2,a3,a4,a5,a6,a7,a8,a9⟩,fr,⟨z0,z1,z2,z3,z4,z5,z6,z7,z8,z9⟩⟩:=adB pb (.int .i64 x.e) (.int .u8 x.r) (.int .i64 x.a) (.int .u8 x.p) (.int .i64 x.f) (.int .i64 x.b) (.int .i64 ep) (.int .i64 en) (.int .i64 rn) (.func (.func 180) #[.pointer (some ⟨p,0,none⟩)] #[])
   have f0:=fr 0;have f1:=fr 1;have f2:=fr 2;have f3:=fr 3;have f4:=fr 4;have f5:=fr 5;have f6:=fr 6;have f7:=fr 7;have f8:=fr 8;have f9:=fr 9
   have SV:=hide (PUT.out _ _ pb bb gV)
   clear bV gV fr pb bb
   refine aJ rfl (by rfl) (fun K hK=>?_)
   go_simp
   go_wp2_with fail
   refine hK.out _ _ SV.out.1 ?_
   clear hK K
   try simp only[Act.put,List.setIfInBounds_toArray,List.set_cons_zero,List.set_cons_succ]
   refine bO abd ?_
   clear HE HR KS PUT
   go_wp2
   refine bodyPost_ret (v:=.agg (iW x ep en rn p)) (by simp[results,Tryz.results106,go_sem,z0,z1,z2,z3,z4,z5,z6,z7,z8,z9,iW]) rfl ?_
   exact⟨rfl,SV.out.2⟩
 ·refine aJ rfl (by rfl) (fun K hK=>?_)
  go_simp
  go_wp2_with fail
  refine hK.out _ _ (KS.out _ K0) ?_
  clear hK K
  try simp only[Act.put,List.setIfInBounds_toArray,List.set_cons_zero,List.set_cons_succ]
  refine aN acW ?_
  refine aJ rfl (by rfl) (fun K hK=>?_)
  go_simp
  refine(HE.out _ K0).mono ?_
  rintro E U9 ⟨rfl,k9⟩
  go_wp2_with fail
  refine hK.out _ _ (KS.out _ k9) ?_
  clear hK K
  try simp only[Act.put,List.setIfInBounds_toArray,List.set_cons_zero,List.set_cons_succ]
  refine aN uA ?_
  refine aJ rfl (by rfl) (fun K hK=>?_)
  go_simp
  refine(HR.out _ k9).mono ?_
  rintro E U10 ⟨rfl,k10⟩
  go_wp2_with fail
  refine hK.out _ _ (KS.out _ k10) ?_
  clear hK K
  try simp only[Act.put,List.setIfInBounds_toArray,List.set_cons_zero,List.set_cons_succ]
  refine aD (v:=?_) kJ (by kernel_rfl) (fun _ _ _ _ _ h=>h) (KS.out _ k10) rfl rfl (by rfl) ?_ ?_
  rotate_left 1
  ·intro w hS
   (try dsimp only at hS)
   go_simp
   all_goals with_reducible rfl
  simp only[Act.put,List.setIfInBounds_toArray,List.set_cons_zero,List.set_cons_succ]
  refine aN lX ?_
  obtain⟨pb,bb⟩:=k10.out.2
  obtain⟨V,hV,bV,gV,⟨a0,a1,a2,a3,a4,a5,a6,a7,a8,a9⟩,fr,⟨z0,z1,z2,z3,z4,z5,z6,z7,z8,z9⟩⟩:=adB pb (.int .i64 x.e) (.int .u8 x.r) (.int .i64 x.a) (.int .u8 x.p) (.int .i64 x.f) (.int .i64 x.b) (.int .i64 ep) (.int .i64 en) (.int .i64 rn) (.func (.func 180) #[.pointer (some ⟨p,0,none⟩)] #[])
  have f0:=fr 0;have f1:=fr 1;have f2:=fr 2;have f3:=fr 3;have f4:=fr 4;have f5:=fr 5;have f6:=fr 6;have f7:=fr 7;have f8:=fr 8;have f9:=fr 9
  have SV:=hide (PUT.out _ _ pb bb gV)
  clear bV gV fr pb bb
  refine aJ rfl (by rfl) (fun K hK=>?_)
  go_simp
  go_wp2_with fail
  refine hK.out _ _ SV.out.1 ?_
  clear hK K
  try simp only[Act.put,List.setIfInBounds_toArray,List.set_cons_zero,List.set_cons_succ]
  refine bO abd ?_
  clear HE HR KS PUT
  go_wp2
  refine bodyPost_ret (v:=.agg (iW x ep en rn p)) (by simp[results,Tryz.results106,go_sem,z0,z1,z2,z3,z4,z5,z6,z7,z8,z9,iW]) rfl ?_
  exact⟨rfl,SV.out.2⟩
def Chg (w:World) (p:Nat) (f:FuncId) (cap:Array Value) (x:Pm.Pg) (ep en rn:Int) (x':Pm.Pg) (ep' en' rn':Int):Prop:=
 ∀W g,Below w.heap.size w W→w.heap.size≤g→W.heap[g]? =some (.cells (iW x ep en rn p) 178 (0,0))→Calls Tryz.prog f (#[.pointer (some ⟨g,0,none⟩)]++cap) W fun E w'=>E=.returned (.tuple #[])∧w'.heap[g]? =some (.cells (iW x' ep' en' rn' p) 178 (0,0))∧Out (fun i=>i=g) W w'
theorem aca (p q pw pr:Nat)(F F':Nat→Prop)(w:World)(off:Bool)(x:Pm.Pg)(en:Int)(vs:Value)(sw:Wl.Ws)(sr:Rl.Rs)(hb:w.heap[p]? =some (.cells (dQ q off x (.pointer (some ⟨pw,0,none⟩)) en (.pointer (some ⟨pr,0,none⟩)) vs) 137 (0,0)))(h1:WW pw q F w sw)(h2:RW pr q F' w sr)
  (f:FuncId) (cap:Array Value) (eg:∀args w,(callFunc f args).run Tryz.prog w=.ok (.enter f args) w) (x':Pm.Pg) (ep' en' rn' b:Int) (hch:Chg w p f cap x (Cm.lastE 0 sw.l) en (Cm.lastN 0 sr.l) x' ep' en' rn')
  (hS:(x'.p=2∨x'.p=3∨x'.p=4)→∀W,Below w.heap.size w W→Calls Tryz.prog 180 #[.pointer (some ⟨p,0,none⟩)] W fun E w'=>E=.returned (.int .i64 b)∧Below W.heap.size W w'):
  Calls Tryz.prog 114 #[.pointer (some ⟨p,0,none⟩),.func (.func f) #[] cap] w fun E w'=>E=.returned (.int .i64 (if uw x' ep' en' rn' b=true then 0 else 5))∧Below w.heap.size w w':=by
 have hsf:∀(a:Addr) (fn:Fn) (first cap:Array Value) (w:World),(store a (.func fn first cap)).run Tryz.prog w=stored Tryz.prog w a (.func fn first cap) .plain:=fun a fn first cap w=>run_store _ w a _ _ rfl
 have OL:=hide (yo p q pw pr F F' w off x en vs sw sr hb h1 h2)
 have CH:=hide hch
 have HS:=hide hS
 generalize Cm.lastE 0 sw.l=ep at*
 generalize Cm.lastN 0 sr.l=rn at*
 obtain⟨r,hr⟩:∃r,(if uw x' ep' en' rn' b=true then(0:Int)else 5)=r:=⟨_,rfl⟩
 rw[hr]
 have HR:=hide hr
 clear h1 h2 hb hch hS hr
 go_enter Tryz.func114,Tryz.ntmps114
 go_wp2_with fail
 refine OL.out.mono ?_
 rintro E w1 ⟨rfl,b1⟩
 unfold iW
 obtain⟨w2,hw2,s2,b2,P2⟩:=au w1 #[.int .i64 0,.int .u8 0,.int .i64 0,.int .u8 0,.int .i64 0,.int .i64 0,.int .i64 0,.int .i64 0,.int .i64 0,.nilFunc] 178
 obtain⟨V,hV,bV,gV,⟨a0,a1,a2,a3,a4,a5,a6,a7,a8,a9⟩,fr,⟨z0,z1,z2,z3,z4,z5,z6,z7,z8,z9⟩⟩:=adB P2 (.int .i64 x.e) (.int .u8 x.r) (.int .i64 x.a) (.int .u8 x.p) (.int .i64 x.f) (.int .i64 x.b) (.int .i64 ep) (.int .i64 en) (.int .i64 rn) (.func (.func 180) #[.pointer (some ⟨p,0,none⟩)] #[])
 have f0:=fr 0;have f1:=fr 1;have f2:=fr 2;have f3:=fr 3;have f4:=fr 4;have f5:=fr 5;have f6:=fr 6;have f7:=fr 7;have f8:=fr 8;have f9:=fr 9
 have hs1:=b1.size
 have b12:=b1.trans (b2.mono hs1)
 have bvv:=aF b12 gV hs1 (by omega)
 have hlV:w1.heap.size<V.heap.size:=aA bV
 have C2:=hide (CH.out V w1.heap.size bvv hs1 bV)
 have BV:=hide (And.intro bvv (And.intro hs1 hlV))
 clear OL CH b1 b2 b12 bvv hs1 hlV bV gV fr P2 s2
 go_wp2_with fail
 refine C2.out.mono ?_
 rintro E w3 ⟨rfl,P3,o3⟩
 unfold iW at P3
 obtain⟨y0,y1,y2,y3,y4,y5,y6,y7,y8,y9⟩:=ng P3
 have b3:Below w.heap.size w w3:=BV.out.1.trans (o3.below (fun g hg=>by rw[hg];exact BV.out.2.1) BV.out.1.size)
 have C3:=hide (zV p x' ep' en' rn' b w3 fun k W hW=>HS.out k W (b3.trans (hW.mono b3.size)))
 rw[HR.out]at C3
 unfold iW at C3
 have B3:=hide b3
 clear C2 b3 o3 P3 HR HS z0 z1 z2 z3 z4 z5 z6 z7 z8 z9 a0 a1 a2 a3 a4 a5 a6 a7 a8 a9 f0 f1 f2 f3 f4 f5 f6 f7 f8 f9
 go_wp2_with fail
 refine C3.out.mono ?_
 rintro E w4 ⟨rfl,b4⟩
 have B4:=hide (B3.out.trans (b4.mono B3.out.size))
 clear C3 b4 B3
 go_wp2
 go_ret
 exact⟨rfl,B4.out⟩
theorem aqP (w:World)(p g3:Nat)(x y:Pm.Pg)(ep en rn:Int)(h3:w.heap[g3]? =some (.cells (cp y) 46 (0,0))):Chg w p 123 #[.pointer (some ⟨g3,0,none⟩)] x ep en rn y ep en rn:=by
 intro W g hW hg hP
 show Calls _ _ #[.pointer (some ⟨g,0,none⟩),.pointer (some ⟨g3,0,none⟩)] _ _
 unfold cp at h3
 obtain⟨d0,d1,d2,d3,d4,d5⟩:=aR ((hW.block g3 (aA h3)).trans h3)
 unfold iW at hP⊢
 obtain⟨c0,c1,c2,c3,c4,c5,_⟩:=ng hP
 have fr:=aB hP
 have f0:=fr 0;have f1:=fr 1;have f2:=fr 2;have f3:=fr 3;have f4:=fr 4;have f5:=fr 5
 have q0:=aG hP 0 (.int .i64 y.e)
 have q1:=aG q0 1 (.int .u8 y.r)
 have q2:=aG q1 2 (.int .i64 y.a)
 have q3:=aG q2 3 (.int .u8 y.p)
 have q4:=aG q3 4 (.int .i64 y.f)
 have q5:=aG q4 5 (.int .i64 y.b)
 have gr:=aI (aI (aI (aI (aI (ax W ⟨g,0,none⟩ (.int .i64 y.e)) (ax _ ⟨g,1,none⟩ (.int .u8 y.r))) (ax _ ⟨g,2,none⟩ (.int .i64 y.a))) (ax _ ⟨g,3,none⟩ (.int .u8 y.p))) (ax _ ⟨g,4,none⟩ (.int .i64 y.f))) (ax _ ⟨g,5,none⟩ (.int .i64 y.b))
 obtain⟨V,hV⟩:∃V,(((((W.setCell ⟨g,0,none⟩ (.int .i64 y.e)).setCell ⟨g,1,none⟩ (.int .u8 y.r)).setCell ⟨g,2,none⟩ (.int .i64 y.a)).setCell ⟨g,3,none⟩ (.int .u8 y.p)).setCell ⟨g,4,none⟩ (.int .i64 y.f)).setCell ⟨g,5,none⟩ (.int .i64 y.b)=V:=⟨_,rfl⟩
 rw[hV]at q5 gr
 have R:Hid (V.heap[g]? =some (.cells #[.int .i64 y.e,.int .u8 y.r,.int .i64 y.a,.int .u8 y.p,.int .i64 y.f,.int .i64 y.b,.int .i64 ep,.int .i64 en,.int .i64 rn,.func (.func 180) #[.pointer (some ⟨p,0,none⟩)] #[]] 178 (0,0))∧Out (fun i=>i=g) W V):=hide ⟨q5,Out.aP gr fun i hi=>by simpa using hi.symm⟩
 clear q0 q1 q2 q3 q4 q5 gr h3 hP fr
 go_enter Tryz.func123,Tryz.ntmps123
 go_wp2
 go_end0
 exact⟨rfl,R.out⟩
theorem ajL {W:World}{g p:Nat}{x:Pm.Pg}{ep en rn:Int}(hP:W.heap[g]? =some (.cells (iW x ep en rn p) 178 (0,0)))(u:Int):
  (∃V,W.setCell ⟨g,6,none⟩ (.int .i64 u)=V∧V.heap[g]? =some (.cells (iW x u en rn p) 178 (0,0))∧Out (fun i=>i=g) W V)∧(∃V,W.setCell ⟨g,7,none⟩ (.int .i64 u)=V∧V.heap[g]? =some (.cells (iW x ep u rn p) 178 (0,0))∧Out (fun i=>i=g) W V):=by
 unfold iW at*
 exact⟨⟨_,rfl,aG hP 6 _,Out.aP (ax W ⟨g,6,none⟩ _) fun i hi=>by simpa using hi.symm⟩,⟨_,rfl,aG hP 7 _,Out.aP (ax W ⟨g,7,none⟩ _) fun i hi=>by simpa using hi.symm⟩⟩
theorem acj:∀(l:List Cm.Cv) (ep:Int) (h:0<l.length),Cm.lastE ep l=(l[l.length-1]).e
 |[c],_,_=>rfl
 |c::d::r,ep,_=>by
  have:=acj (d::r) c.e (by simp)
  show Cm.lastE c.e (d::r)=_
  rw[this]
  simp
theorem aof (g p:Nat)(x:Pm.Pg)(ep en rn:Int)(W:World)(v:Value)(rs:List Cw)(hP:W.heap[g]? =some (.cells (iW x ep en rn p) 178 (0,0)))(hc:∀V,Out (fun i=>i=g) W V→iy V v rs)(h0:0≤en∧en≤1000000)(hl:rs.length≤100):
  Calls Tryz.prog 116 #[.pointer (some ⟨g,0,none⟩),v] W fun E w'=>E=.returned (.tuple #[])∧w'.heap[g]? =some (.cells (iW x (Cm.lastE ep (aH rs)) (en+rs.length) rn p) 178 (0,0))∧Out (fun i=>i=g) W w':=by
 obtain⟨V,hV,PV,oV⟩:=(ajL hP (en+rs.length)).2
 obtain⟨Z,hZ,PZ,oZ⟩:=(ajL PV (Cm.lastE ep (aH rs))).1
 have hI:=hc V oV
 unfold iW at hP PV
 obtain⟨c0,c1,c2,c3,c4,c5,c6,c7,c8,c9⟩:=ng hP
 obtain⟨d0,d1,d2,d3,d4,d5,d6,d7,d8,d9⟩:=ng PV
 have f7:=aB hP 7
 have f6:=aB PV 6
 by_cases hn:rs.length=0
 ·obtain rfl:rs=[]:=List.eq_nil_of_length_eq_zero hn
  obtain⟨ao,cap,rfl⟩:∃a k,v=.slice a 0 k:=by
   rcases hI.1 with⟨h,_⟩|⟨a,c,h,_⟩
   ·exact⟨_,_,h⟩
   ·exact⟨_,_,h⟩
  have R:Hid (V.heap[g]? =some (.cells (iW x (Cm.lastE ep (aH [])) (en+([]:List Cw).length) rn p) 178 (0,0))∧Out (fun i=>i=g) W V):=hide ⟨PV,oV⟩
  simp only[List.length_nil,Int.ofNat_zero,Int.add_zero]at hV R⊢
  clear hP PV oV PZ oZ hZ hI hc d0 d1 d2 d3 d4 d5 d6 d7 d8 d9
  go_enter Tryz.func116,Tryz.ntmps116
  go_wp2
  go_end0
  exact⟨rfl,R.out⟩
 ·have hp:0<rs.length:=by omega
  obtain⟨b1,o1,k1,rfl,_,hcell⟩:=ja hI hp
  have hlast:=(hcell (rs.length-1) (rs[rs.length-1]) (by simp)).1
  have he:Cm.lastE ep (aH rs)=(rs[rs.length-1]).e:=by
   rw[acj (aH rs) ep (by unfold aH;simpa using hp)]
   unfold aH
   simp[Cw.c]
  rw[he]at hZ PZ⊢
  generalize (rs[rs.length-1]).e=le at*
  have R:Hid (Z.heap[g]? =some (.cells (iW x le (en+rs.length) rn p) 178 (0,0))∧Out (fun i=>i=g) W Z):=hide ⟨PZ,oV.trans oZ fun i hi=>.inl hi⟩
  clear hI hc hcell hP PV oV PZ oZ he
  obtain⟨m,hm⟩:∃m,rs.length=m+1:=⟨rs.length-1,by omega⟩
  rw[hm]at hlast R hV hl d7⊢
  have hlast:V.cell? ⟨b1,o1+m*3,none⟩=some (.int .i64 le):=hlast
  clear hp hn hm
  have hcs:((m+1:Nat):Int)=(m:Int)+1:=by omega
  rw[hcs]at hV R d7⊢
  clear hcs
  have hm2:IntKind.i64.wrap (en+((m:Int)+1))=en+((m:Int)+1):=aS _ (by omega) (by omega)
  go_enter Tryz.func116,Tryz.ntmps116
  go_wp2
  go_end0
  exact⟨rfl,R.out⟩
theorem aq6 (w:World)(p g3:Nat)(x:Pm.Pg)(ep en rn:Int)(v:Value)(rs:List Cw)(h3:w.heap[g3]? =some (.cells #[v] 22 (0,0)))(hc:∀V,Below w.heap.size w V→iy V v rs)(h0:0≤en∧en≤1000000)(hl:rs.length≤100):Chg w p 115 #[.pointer (some ⟨g3,0,none⟩)] x ep en rn x (Cm.lastE ep (aH rs)) (en+rs.length) rn:=by
 intro W g hW hg hP
 show Calls _ _ #[.pointer (some ⟨g,0,none⟩),.pointer (some ⟨g3,0,none⟩)] _ _
 have d0:=ai ((hW.block g3 (aA h3)).trans h3) 0 rfl
 have GR:=hide (aof g p x ep en rn W v rs hP (fun V hV=>hc V (hW.trans (hV.below (fun i hi=>by rw[hi];exact hg) hW.size))) h0 hl)
 obtain⟨ao,m,k,rfl⟩:∃a n k,v=.slice a n k:=by
  rcases(hc w (Below.refl _ _)).1 with⟨h,_⟩|⟨a,c,h,_⟩
  ·exact⟨_,_,_,h⟩
  ·exact⟨_,_,_,h⟩
 clear hc h3 hP
 go_enter Tryz.func115,Tryz.ntmps115
 go_wp2_with fail
 refine GR.out.mono ?_
 rintro E w' ⟨rfl,X⟩
 have X:=hide X
 clear GR
 go_wp2
 go_end0
 exact⟨rfl,X.out⟩
theorem abn {x:Pm.Pg}(h:Pm.Ok x)(l:List Cm.Cv)(rn b:Int):uw x (Cm.lastE 0 l) l.length rn b=Rst.snd x l rn b:=by
 obtain⟨_,h⟩:=h
 rw[Bool.eq_iff_iff,Rst.xG]
 generalize Cm.lastE 0 l=ep
 generalize (l.length:Int)=en
 unfold uw
 by_cases h4:x.p=4
 ·rw[if_pos h4]
  simp only[Bool.and_eq_true,decide_eq_true_eq]
  omega
 ·rw[if_neg h4]
  by_cases h3:x.p=3∨x.p=2
  ·rw[if_pos h3]
   simp only[Bool.and_eq_true,decide_eq_true_eq]
   omega
  ·rw[if_neg h3]
   by_cases h1:x.p=1
   ·rw[if_pos h1]
    simp only[Bool.and_eq_true,decide_eq_true_eq]
    omega
   ·rw[if_neg h1]
    simp only[Bool.and_eq_true,decide_eq_true_eq]
    omega
theorem akb (f:Nat):∀(n:Nat) (st:Dm.Ds) (bs:List Int),(Dm.wrt f n st bs).1=0∨(Dm.wrt f n st bs).1=6
 |0,_,_=>.inl rfl
 |n+1,st,bs=>by
  unfold Dm.wrt
  split
  ·exact .inl rfl
  split
  ·exact .inr rfl
  ·exact akb f n _ _
theorem anL {st:Dm.Ds}(f:Nat)(hf:f<4)(bs:List Int):(Dm.write st f bs).1=0∨(Dm.write st f bs).1=6:=by
 unfold Dm.write
 split
 ·exact .inr rfl
 rw[if_neg (by unfold Dm.jR;simp;omega)]
 exact akb _ _ _ _
theorem ajj (g0 g1 p q:Nat)(F:Nat→Prop)(w:World)(st:Dm.Ds)(vb:Value)(bs:List Int)(h0:w.cell? ⟨g0,0,none⟩=some (.pointer (some ⟨p,0,none⟩)))(h1:w.cell? ⟨g1,0,none⟩=some vb)(hp:w.cell? ⟨p,0,none⟩=some (.pointer (some ⟨q,0,none⟩)))(h:Pk q F w st)(hs:Big 90000000 700000 st)(hb:Is .u8 w vb bs)(hbF:∀b,vb.ownBlock=some b→¬F b)(hl:bs.length≤1000)(hn:∀g,g=g0∨g=g1∨g=p→g<w.heap.size∧¬F g):
  Calls Tryz.prog 188 #[.pointer (some ⟨g0,0,none⟩),.pointer (some ⟨g1,0,none⟩)] w fun E w'=>E=.returned (.int .i64 (Dm.write st 1 bs).1)∧bT q F w w' (Dm.write st 1 bs).2:=by
 have HC:Hid (Calls Tryz.prog 70 #[.pointer (some ⟨q,0,none⟩),.int .i64 1,vb] w.drew fun E w'=>E=.returned (.int .i64 (Dm.write st 1 bs).1)∧bT q F w w' (Dm.write st 1 bs).2):=hide (by
  have hd:Below w.heap.size w w.drew:=(Below.refl _ _).drew
  have hc:cnt bs.length≤17:=by unfold cnt;omega
  refine(qL q F w.drew st 1 vb bs (h.below hd) (hb.below hd) (fun _=>hbF) (by omega) (by have:=hs.1.2.1;omega) hs.2 (by have:=hs.1.2.2;omega)).mono ?_
  rintro E w' ⟨rfl,k⟩
  exact⟨rfl,bT.pre hd k⟩)
 have HK:Hid (∀w',bT q F w w' (Dm.write st 1 bs).2→w'.cell? ⟨g0,0,none⟩=some (.pointer (some ⟨p,0,none⟩))∧w'.cell? ⟨g1,0,none⟩=some vb∧w'.cell? ⟨p,0,none⟩=some (.pointer (some ⟨q,0,none⟩))):=hide (by
  rintro w' ⟨_,_,k,_⟩
  have e:∀g,g=g0∨g=g1∨g=p→w'.cell? ⟨g,0,none⟩=w.cell? ⟨g,0,none⟩:=fun g hg=>by have:=k.block g (hn g hg).1 (hn g hg).2;simp[World.cell?,this]
  exact⟨(e g0 (by simp)).trans h0,(e g1 (by simp)).trans h1,(e p (by simp)).trans hp⟩)
 clear h hs hn hb hbF hl
 go_enter Tryz.func188,Tryz.ntmps188
 go_wp2_with fail
 go_region_held3 (fun w'=>w'.cell? ⟨g0,0,none⟩=some (.pointer (some ⟨p,0,none⟩))∧w'.cell? ⟨g1,0,none⟩=some vb∧w'.cell? ⟨p,0,none⟩=some (.pointer (some ⟨q,0,none⟩))) (first|exact⟨h0,h1,hp⟩|exact⟨i0,i1,ip⟩|go_keep)
  (first
  |(go_at_call 70;refine HC.out.mono ?_;rintro E w' ⟨rfl,k⟩;obtain⟨i0,i1,ip⟩:=HK.out _ k;have K:=hide k;clear k))
 go_wp2
 go_ret
 exact⟨rfl,K.out⟩
theorem agN (w:World)(t:TypeId)(x a:Value):∃V,(w.alloc (.cells #[x] t)).setCell ⟨w.heap.size,0,none⟩ a=V∧w.alloc (.cells #[a] t)=V∧V.heap.size=w.heap.size+1∧Below w.heap.size w V∧V.heap[w.heap.size]? =some (.cells #[a] t (0,0)):=by
 obtain⟨V,h1,h2,h3,h4⟩:=au w #[a] t
 refine⟨V,?_,h1,h2,h3,h4⟩
 rw[←h1]
 simp[go_sem]
theorem aoA (p q:Nat)(F:Nat→Prop)(w:World)(st:Dm.Ds)(off:Bool)(y x:Pm.Pg)(vw vr vs:Value)(en:Int)(h:Pk q F w st)(hs:Big 50000000 500000 st)(hb:w.heap[p]? =some (.cells (dQ q off y vw en vr vs) 137 (0,0)))(hpF:¬F p)(hx:Pm.Ok x)(hm:fC w):
  Calls Tryz.prog 125 #[.pointer (some ⟨p,0,none⟩),vp x] w fun E w'=>E=.returned (.int .i64 (Rst.ext st 1 (Fm.dB (Pm.enc x))).1)∧∃F',Pk q F' w' (Rst.ext st 1 (Fm.dB (Pm.enc x))).2∧w'.heap[p]? =some (.cells (dQ q off (if (Rst.ext st 1 (Fm.dB (Pm.enc x))).1=0 then x else y) vw en vr vs) 137 (0,0))∧Out (fun g=>F g∨g=p) w w'∧∀g,F' g→F g∨w.heap.size≤g:=by
 have kW:∀(fn:Fn) (first cap:Array Value) (w:World),(Instr.makeFunc fn first cap).run Tryz.prog w=.ok (.func fn first cap) w:=fun _ _ _ _=>rfl
 have hpl:=aA hb
 have hF:∀g,F g→g<w.heap.size:=h.lt
 obtain⟨bs,hbs⟩:∃bs,Fm.dB (Pm.enc x)=bs:=⟨_,rfl⟩
 rw[hbs]
 have qp:=hide hbs
 clear hbs
 obtain⟨⟨ee,d'⟩,hex⟩:∃ex,Rst.ext st 1 bs=ex:=⟨_,rfl⟩
 rw[hex]
 simp only
 have HEX:=hide hex
 clear hex
 obtain⟨w1,hw1,s1,b1,P1⟩:=au w #[.pointer (some ⟨p,0,none⟩)] 41
 obtain⟨w2,hw2,s2,b2,P2⟩:=au w1 (cp x) 46
 have z2:w2.heap.size=w.heap.size+2:=by omega
 rw[s1]at P2
 have b02:Below w.heap.size w w2:=b1.trans (b2.mono (by omega))
 have P12:=(b2.block w.heap.size (by omega)).trans P1
 unfold cp at hw2 P2
 obtain⟨c0,c1,c2,c3,c4,c5⟩:=aR P2
 have EN:=hide (aiD x w2 (aaO hx) (hm.below b02))
 unfold vp at EN⊢
 rw[Pm.iR hx,jS hx]at EN
 have hel:=Pm.abx hx
 have X0:=hide (And.intro P12 (And.intro P2 b02))
 have HH:=hide (And.intro h (And.intro hs (And.intro hb hm)))
 clear h hs hb hm b1 b2 P1 P2 P12 s2 b02
 go_enter Tryz.func125,Tryz.ntmps125
 go_wp2_with fail
 refine EN.out.mono ?_
 rintro E w3 ⟨vb,rfl,o3,b3⟩
 have FA:=hide (yO (.slice none 0 0) vb [] (Pm.enc x) w3 (Is.nil _ _) o3.is (by simp) (by omega))
 have auw:zy (Pm.enc x)=0:=by unfold zy;rw[if_pos (by omega)]
 have aue:apd [] (Pm.enc x)=bs:=by unfold apd;rw[if_pos (by omega)];exact qp.out
 rw[auw,aue]at FA
 have B3:=hide b3
 clear EN o3 b3 auw aue
 go_wp2_with fail
 refine FA.out.mono ?_
 rintro E w4 ⟨v4,rfl,o4,b4⟩
 obtain⟨ao,ln,lc,hv⟩:=o4.is.form
 subst hv
 clear FA
 obtain⟨p1,p2,b02⟩:=X0.out
 obtain⟨h,hs,hb,hm⟩:=HH.out
 have b3:=B3.out
 have z3:=b3.size
 have z4:=b4.size
 have b24:Below w2.heap.size w2 w4:=b3.trans (b4.mono (by omega))
 obtain⟨w5,gM,awW,s5,b5,P5⟩:=agN w4 61 (.slice none 0 0) (.slice ao ln lc)
 obtain⟨w6,kD,s6,b6,P6⟩:=au w5 #[.func (.func 188) #[] #[.pointer (some ⟨w.heap.size,0,none⟩),.pointer (some ⟨w4.heap.size,0,none⟩)],.func (.func 189) #[.pointer (some ⟨q,0,none⟩)] #[]] 228
 rw[s5]at P6
 have b26:Below w2.heap.size w2 w6:=b24.trans ((b5.mono (by omega)).trans (b6.mono (by omega)))
 have oM:Below w.heap.size w w6:=b02.trans (b26.mono (by omega))
 have o6:Own .u8 5 w3.heap.size w6 (.slice ao ln lc) bs:=(o4.below b5).below b6
 have hfl:bs.length≤1000:=by
  rw[←qp.out]
  have h2:Vm.sz (Pm.enc x).length≤1:=Vm.pX 0 _ (by omega)
  rw[Fm.lh]
  omega
 have hs2:=qH hs 1 bs
 have hcn:cnt bs.length≤17:=by unfold cnt;omega
 have e1:(Dm.write st 1 bs).1=0∨(Dm.write st 1 bs).1=6:=anL (st:=st) 1 (by omega) bs
 have e2:=aap (Dm.write st 1 bs).2
 have C1:=ajj w.heap.size w4.heap.size p q F w6 st (.slice ao ln lc) bs (ai ((b26.block _ (by omega)).trans p1) 0 rfl) (ai ((b6.block _ (by omega)).trans P5) 0 rfl) (ai ((oM.block p hpl).trans hb) 0 rfl) (h.below oM) (hs.mono (by decide) (by decide)) o6.is (fun b e k=>by have:=(o6.2.lt b e).1;have:=hF b k;omega) hfl (by
  rintro g (rfl|rfl|rfl)
  ·exact⟨by omega,fun e=>by have:=hF _ e;omega⟩
  ·exact⟨by omega,fun e=>by have:=hF _ e;omega⟩
  ·exact⟨by omega,hpF⟩)
 have C2:∀W G,Pk q G W (Dm.write st 1 bs).2→Calls Tryz.prog 189 #[.pointer (some ⟨q,0,none⟩)] W fun E w'=>E=.returned (.int .i64 (Dm.sync (Dm.write st 1 bs).2).1)∧bT q G W w' (Dm.sync (Dm.write st 1 bs).2).2:=fun W G k=>
  adX q G W _ k (fun f=>Nat.le_trans (hs2.1.1 f) (by omega)) (Nat.le_trans hs2.1.2.1 (by omega)) hs2.2 (Nat.lt_of_le_of_lt hs2.1.2.2 (by omega))
 have RUN:Run (w4.heap.size+1) (fun e W=>e=(Rst.ext st 1 bs).1∧bT q F w6 W (Rst.ext st 1 bs).2) [.func (.func 188) #[] #[.pointer (some ⟨w.heap.size,0,none⟩),.pointer (some ⟨w4.heap.size,0,none⟩)],.func (.func 189) #[.pointer (some ⟨q,0,none⟩)] #[]] w6:=by
  unfold Rst.ext
  refine Run.cons (enters_of Tryz.func188 (by kernel_rfl) rfl) (by simp) (C1.mono ?_)
  rintro E W ⟨rfl,F1,k1,k2,k3⟩
  refine⟨_,rfl,k2.block _ (by omega) fun e=>by have:=hF _ e;omega,?_⟩
  show(_∧_=(if (Dm.write st 1 bs).1≠0 then _ else _:Int×Dm.Ds).1∧bT q F w6 W (if (Dm.write st 1 bs).1≠0 then _ else _:Int×Dm.Ds).2)∨_
  rcases e1 with e1|e1
  ·refine .inr ⟨e1,Run.cons (enters_of Tryz.func189 (by kernel_rfl) rfl) (by simp) ((C2 W F1 k1).mono ?_)⟩
   rintro E W2 ⟨rfl,k⟩
   have hne:¬F1 (w4.heap.size+1):=fun e=>by
    rcases k3 _ e with e|e
    ·have:=hF _ e;omega
    ·omega
   have J:bT q F w6 W2 (Dm.sync (Dm.write st 1 bs).2).2:=bT.trans k2 k3 k
   have hsz:=k2.size
   refine⟨_,rfl,?_,?_⟩
   ·obtain⟨_,_,k,_⟩:=k
    exact k.block _ (by omega) hne
   show(_∧_=(if (Dm.write st 1 bs).1≠0 then _ else _:Int×Dm.Ds).1∧bT q F w6 W2 (if (Dm.write st 1 bs).1≠0 then _ else _:Int×Dm.Ds).2)∨(_∧_=(if (Dm.write st 1 bs).1≠0 then _ else _:Int×Dm.Ds).1∧bT q F w6 W2 (if (Dm.write st 1 bs).1≠0 then _ else _:Int×Dm.Ds).2)
   rw[if_neg (by simp[e1])]
   rcases e2 with e2|e2
   ·rw[if_neg (by simp[e2])]
    exact .inr ⟨e2,rfl,J⟩
   ·rw[if_pos (by simp[e2])]
    exact .inl ⟨by rw[e2];decide,e2,J⟩
  ·rw[if_pos (by simp[e1])]
   exact .inl ⟨by rw[e1];decide,e1,⟨F1,k1,k2,k3⟩⟩
 rw[HEX.out]at RUN
 simp only at RUN
 have HO:=hide (qP (w4.heap.size+1) 2 _ w6 _ rfl (by omega) P6 RUN)
 have e5p:w5.cell? ⟨p,0,none⟩=some (.pointer (some ⟨q,0,none⟩)):=ai ((b5.block p (by omega)).trans ((b24.block p (by omega)).trans ((b02.block p hpl).trans hb))) 0 rfl
 have e5s:w5.cell? ⟨w.heap.size,0,none⟩=some (.pointer (some ⟨p,0,none⟩)):=ai ((b5.block _ (by omega)).trans ((b24.block _ (by omega)).trans p1)) 0 rfl
 have y6:=(oM.block p hpl).trans hb
 have t6:=(b26.block _ (by omega)).trans p1
 have u6:=(b26.block _ (by omega)).trans p2
 have FX:Hid ((p<w6.heap.size∧w.heap.size+1<w6.heap.size)∧(w6.heap[p]? =some (.cells (dQ q off y vw en vr vs) 137 (0,0))∧w6.heap[w.heap.size]? =some (.cells #[.pointer (some ⟨p,0,none⟩)] 41 (0,0))∧w6.heap[w.heap.size+1]? =some (.cells #[.int .i64 x.e,.int .u8 x.r,.int .i64 x.a,.int .u8 x.p,.int .i64 x.f,.int .i64 x.b] 46 (0,0)))∧Below w.heap.size w w6):=hide ⟨⟨by omega,by omega⟩,⟨y6,t6,u6⟩,oM⟩
 clear RUN C1 C2 e1 e2 hs2 hcn hfl o6 o4 P5 P6 p1 p2 b02 b3 b4 b24 b26 oM y6 t6 u6 hb hm h hs X0 B3 s6
 go_wp2_with fail
 refine HO.out.mono ?_
 rintro E W ⟨e,rfl,rfl,F1,k1,k2,k3⟩
 obtain⟨⟨l1,l2⟩,⟨y6,t6,u6⟩,oM⟩:=FX.out
 have y7:=(k2.block p l1 hpF).trans y6
 have t7:=(k2.block w.heap.size (by omega) fun e=>by have:=hF _ e;omega).trans t6
 have u7:=(k2.block (w.heap.size+1) l2 fun e=>by have:=hF _ e;omega).trans u6
 have hz:=oM.size
 have o7:Out F w W:=(Out.of_below oM).trans k2 fun g hg=>.inl hg
 have n7:∀g,F1 g→F g∨w.heap.size≤g:=fun g hg=>(k3 g hg).imp id fun e=>by omega
 by_cases he:e=0
 ·subst he
  obtain⟨Z,hZ,PZ,gZ,fr⟩:=ae4 y7 x
  obtain⟨_,_,q2,q3,q4,q5,q6,q7,_⟩:=mM y7
  have f2:=fr 2;have f3:=fr 3;have f4:=fr 4;have f5:=fr 5;have f6:=fr 6;have f7:=fr 7
  have s7:=ai t7 0 rfl
  obtain⟨r0,r1,r2,r3,r4,r5⟩:=aR u7
  have hFp:¬F1 p:=fun e=>by
   rcases n7 p e with e|e
   ·exact hpF e
   ·omega
  have oZ:Out (fun g=>g=p) W Z:=Out.aP gZ fun i hi=>by simpa using hi.symm
  have R:Hid (∃F',Pk q F' Z d'∧Z.heap[p]? =some (.cells (dQ q off x vw en vr vs) 137 (0,0))∧Out (fun g=>F g∨g=p) w Z∧∀g,F' g→F g∨w.heap.size≤g):=hide ⟨F1,k1.agree fun g hg=>oZ.block g (k1.lt g hg) fun e=>hFp (e▸hg),PZ,(Out.mono (G:=fun g=>F g∨g=p) o7 fun g hg=>Or.inl (Or.inl hg)).trans oZ fun g hg=>Or.inl (Or.inr hg),n7⟩
  clear k1 k2 k3 y6 t6 u6 y7 t7 u7 oM o7 n7 gZ PZ fr oZ hFp HO FX HH hF hpF
  go_wp2
  go_ret
  exact⟨rfl,R.out⟩
 ·have he':(e==0)=false:=by simpa using he
  have R:Hid (∃F',Pk q F' W d'∧W.heap[p]? =some (.cells (dQ q off y vw en vr vs) 137 (0,0))∧Out (fun g=>F g∨g=p) w W∧∀g,F' g→F g∨w.heap.size≤g):=hide ⟨F1,k1,y7,Out.mono (G:=fun g=>F g∨g=p) o7 fun g hg=>Or.inl (Or.inl hg),n7⟩
  clear k1 k2 k3 y6 t6 u6 y7 t7 u7 oM o7 n7 HO FX HH hF hpF
  go_wp2
  go_ret
  exact⟨rfl,R.out⟩
theorem ajD (n p q:Nat)(F:Nat→Prop)(w:World)(x:Ns)(h:Nd n p q F w x)(hR:iV x.s)(m:Mw)(c:Int)(hi:iY w m)(hf:bQ m)(hc:Mm.Ck m.m c)(he:In64 x.s.p.e)(hk:In64 x.k)(hr:x.s.p.r=1)(hm:m.k=3):
  Calls Tryz.prog 159 #[.pointer (some ⟨n,0,none⟩),mv m] w fun E w'=>E=.returned (.tuple #[.slice none 0 0,.int .i64 0])∧dA n p q F w w' (x.kE c m.m):=by
 obtain⟨w1,hw1,s1,b1,P1⟩:=au w (mc m) 26
 have h1:=h.below b1
 have c3:=h1.cs.c3
 obtain⟨y,hy⟩:∃y,x.s.p=y:=⟨_,rfl⟩
 have PG:Hid (Calls Tryz.prog 16 #[.pointer (some ⟨p,0,none⟩)] w1 fun E w'=>E=.returned (.agg #[.int .i64 y.e,.int .u8 1,.int .i64 y.a,.int .u8 y.p,.int .i64 y.f,.int .i64 y.b])∧Below w1.heap.size w1 w'):=hide (by
  have:=iZ p q F w1 x.s h1.st hR
  rw[hy,show vp y=.agg #[.int .i64 y.e,.int .u8 1,.int .i64 y.a,.int .u8 y.p,.int .i64 y.f,.int .i64 y.b]by rw[←hr,hy];rfl]at this
  exact this)
 have LN:Hid (∀W,Below w.heap.size w W→Calls Tryz.prog 212 #[.pointer (some ⟨n,0,none⟩),mv m] W fun E w'=>E=.returned (.tuple #[])∧Hid (dA n p q F w w' (x.kE c m.m))):=hide fun W hW=>by
  refine(ah2 n p q F W x (h.below hW) hR m c (hi.below hW) hf hc he hk).mono ?_
  rintro E w' ⟨rfl,k⟩
  exact⟨rfl,hide (k.ahead hW)⟩
 generalize x.kE c m.m=lx at*
 obtain⟨sa,so,hvs,_,_⟩:=hi.s.shape
 obtain⟨ca,co,dD,_,_⟩:=hi.c.1.shape
 obtain⟨mk,me,mr,mn,mvs,mss,mf,mp,mvc,mcs⟩:=m
 dsimp only at hvs dD hm
 subst hvs dD hm
 unfold mv at LN⊢
 unfold mc at P1 hw1
 dsimp only at LN P1 hw1⊢
 have PP:=hide (And.intro P1 b1)
 clear h h1 hR hi hf hc he hk hr hy P1 b1
 go_enter Tryz.func159,Tryz.ntmps159
 go_wp2_with fail
 refine PG.out.mono ?_
 rintro E w2 ⟨rfl,b2⟩
 obtain⟨P1,b1⟩:=PP.out
 have z2:=b2.size
 have P2:=(b2.block w.heap.size (by omega)).trans P1
 obtain⟨w3,hw3,at7,s3,b3,P3,⟨g0,g1,g2,g3,g4,g5⟩⟩:=wo w2 46 (.int .i64 0) (.int .u8 0) (.int .i64 0) (.int .u8 0) (.int .i64 0) (.int .i64 0) (.int .i64 y.e) (.int .u8 1) (.int .i64 y.a) (.int .u8 y.p) (.int .i64 y.f) (.int .i64 y.b)
 obtain⟨m0,m1,m2,m3,m4,m5,m6,m7⟩:=df ((b3.block w.heap.size (by omega)).trans P2)
 have L3:=hide (LN.out w3 ((b1.trans (b2.mono (by omega))).trans (b3.mono (by omega))))
 clear PG PP LN P1 b1 b2 z2 P2 b3 P3 s3 s1
 go_wp2_with fail
 refine L3.out.mono ?_
 rintro E w4 ⟨rfl,RR⟩
 clear L3
 go_wp2
 go_ret2
 exact⟨rfl,RR.out⟩
theorem adO (n p q:Nat)(F:Nat→Prop)(w:World)(x:Ns)(h:Nd n p q F w x)(hR:iV x.s)(vb:Value)(mm:Mm.Msg)(hb:Is .u8 w vb (Mm.enc mm))(hok:Mm.Ok mm)(hl:(Mm.enc mm).length≤100000000000000)(he:In64 x.s.p.e)(hk:In64 x.k)(hr:x.s.p.r=1)(hm:mm.k=3)(hme:mm.e=x.s.p.e)(hhe:Rol.uC x.s.p x.s.p.e=0):
  Calls Tryz.prog 77 #[.pointer (some ⟨n,0,none⟩),vb] w fun E w'=>E=.returned (.tuple #[.slice none 0 0,.int .i64 0])∧dA n p q F w w' (x.kE 0 mm):=by
 have DC:=hide (afT vb (Mm.enc mm) w hb hl mm 0 (Mm.afC hok))
 obtain⟨xo,xc,hvb,_,_⟩:=hb.shape
 subst hvb
 obtain⟨y,hy⟩:∃y,x.s.p=y:=⟨_,rfl⟩
 have uM:gF y:=by rw[←hy];exact h.st.fit
 have HV:vp y=.agg #[.int .i64 y.e,.int .u8 y.r,.int .i64 y.a,.int .u8 y.p,.int .i64 y.f,.int .i64 y.b]:=rfl
 rw[hy]at hme hhe
 have PG:Hid (∀W,Below w.heap.size w W→Calls Tryz.prog 16 #[.pointer (some ⟨p,0,none⟩)] W fun E w'=>E=.returned (vp y)∧Below W.heap.size W w'):=hide fun W hW=>by
  rw[←hy]
  exact iZ p q F W x.s (h.below hW).st hR
 have hh:Rol.vU y y.e=false∧Rol.he y y.e=y:=by
  unfold Rol.vU Rol.he
  rw[hhe]
  simp
 have HE:Hid (∀W,Below w.heap.size w W→Calls Tryz.prog 158 #[vp y,.int .i64 y.e] W fun E w'=>E=.returned (.tuple #[vp y,.bool false,.int .i64 0])∧Below W.heap.size W w'):=hide fun W hW=>by
  have:=ajs y y.e W uM (h.below hW).st.gu (by rw[←hy];exact⟨he.1,by have:=he.2;omega⟩)
  rw[hhe,hh.1,hh.2]at this
  exact this
 rw[HV]at PG HE
 have C3:Hid (∀W,Below w.heap.size w W→W.cell? ⟨n,3,none⟩=some (.pointer (some ⟨p,0,none⟩))):=hide fun W hW=>(h.below hW).cs.c3
 have HD:Hid (∀W (m:Mw),Below w.heap.size w W→iY W m→bQ m→m.m=mm→Calls Tryz.prog 159 #[.pointer (some ⟨n,0,none⟩),mv m] W fun E w'=>E=.returned (.tuple #[.slice none 0 0,.int .i64 0])∧Hid (dA n p q F w w' (x.kE 0 mm))):=hide fun W m hW i1 i2 i3=>by
  have ck:Mm.Ck m.m 0:=by rw[i3];exact .inl ⟨rfl,hok⟩
  have mk3:m.k=3:=by have:=congrArg Mm.Msg.k i3;exact this.trans hm
  refine(ajD n p q F W x (h.below hW) hR m 0 i1 i2 ck he hk hr mk3).mono ?_
  rw[i3]
  rintro E w' ⟨rfl,k⟩
  exact⟨rfl,hide (k.ahead hW)⟩
 generalize x.kE 0 mm=lx at*
 have HME:=hide hme
 clear h hR hb hok hl he hk hr hm hme hhe hy uM HV hh
 go_enter Tryz.func77,Tryz.ntmps77
 go_wp2_with fail
 refine DC.out.mono ?_
 rintro E w1 ⟨m,rfl,H⟩
 obtain⟨hmm,ho,hf,b1⟩:=H.out
 have hme:m.e=y.e:=by rw[←HME.out,←hmm];rfl
 have HI:=hide (And.intro ho.is (And.intro hf hmm))
 obtain⟨sa,so,hvs,_,_⟩:=ho.is.s.shape
 obtain⟨ca,co,dD,_,_⟩:=ho.is.c.1.shape
 clear H ho hf hmm DC HME
 obtain⟨mk,me,mr,mn,mvs,mss,mf,mp,mvc,mcs⟩:=m
 dsimp only at hvs dD hme
 subst hvs dD hme
 unfold mv
 dsimp only
 obtain⟨w2,hw2,abl,s2,b2,P2,⟨m0,m1,m2,m3,m4,m5,m6,m7⟩⟩:=an0 w1 26 (.int .i64 0) (.int .i64 0) (.int .u8 0) (.int .i64 0) (.slice none 0 0) (.int .i64 0) (.int .i64 0) (.slice none 0 0) (.int .i64 mk) (.int .i64 y.e) (.int .u8 mr) (.int .i64 mn) (.slice sa mss.length so) (.int .i64 mf) (.int .i64 mp) (.slice ca mcs.length co)
 have z1:=b1.size
 have b02:Below w.heap.size w w2:=b1.trans (b2.mono (by omega))
 have c3:=C3.out w2 b02
 have P2':=hide (PG.out w2 b02)
 have B2:=hide (And.intro b02 (And.intro P2 b2))
 clear b1 b2 P2 b02 s2 z1
 go_wp2_with fail
 refine P2'.out.mono ?_
 rintro E w3 ⟨rfl,b3⟩
 obtain⟨b02,P2,b2⟩:=B2.out
 have z2:=b02.size
 have l2:=aA P2
 have P3:=(b3.block _ l2).trans P2
 obtain⟨w4,hw4,asv,s4,b4,Q4,⟨g0,g1,g2,g3,g4,g5⟩⟩:=wo w3 46 (.int .i64 0) (.int .u8 0) (.int .i64 0) (.int .u8 0) (.int .i64 0) (.int .i64 0) (.int .i64 y.e) (.int .u8 y.r) (.int .i64 y.a) (.int .u8 y.p) (.int .i64 y.f) (.int .i64 y.b)
 have P4:=(b4.block _ (aA P3)).trans P3
 have kZ:Below w.heap.size w w4:=(b02.trans (b3.mono z2)).trans (b4.mono (by have:=b3.size;omega))
 obtain⟨k0,k1,k2,k3,k4,k5,k6,k7⟩:=df P4
 have H4:=hide (HE.out w4 kZ)
 have B4:=hide (And.intro kZ (And.intro P4 (And.intro (b2.trans ((b3.mono (by have:=b2.size;omega)).trans (b4.mono (by have:=b2.size;have:=b3.size;omega)))) Q4)))
 have hlt:¬y.e<y.e:=by omega
 clear P2' B2 b02 P2 b2 z2 l2 P3 P4 b3 b4 kZ Q4 s4 PG HE c3 m0 m1 m2 m3 m4 m5 m6 m7
 go_wp2_with fail
 refine H4.out.mono ?_
 rintro E w5 ⟨rfl,b5⟩
 obtain⟨kZ,P4,bI,Q4⟩:=B4.out
 have P5:=(b5.block _ (aA P4)).trans P4
 obtain⟨w6,kD,hw6',s6,b6,Q6,gg⟩:=wo w5 46 (.int .i64 0) (.int .u8 0) (.int .i64 0) (.int .u8 0) (.int .i64 0) (.int .i64 0) (.int .i64 y.e) (.int .u8 y.r) (.int .i64 y.a) (.int .u8 y.p) (.int .i64 y.f) (.int .i64 y.b)
 have P6:=(b6.block _ (aA P5)).trans P5
 obtain⟨j0,j1,j2,j3,j4,j5,j6,j7⟩:=df P6
 have z4:=kZ.size
 have z5:=b5.size
 have z1:=bI.size
 have oM:Below w.heap.size w w6:=(kZ.trans (b5.mono (by omega))).trans (b6.mono (by omega))
 have bI6:Below w1.heap.size w1 w6:=(bI.trans (b5.mono (by omega))).trans (b6.mono (by omega))
 have D6:=HD.out w6 _ oM (HI.out.1.below bI6) HI.out.2.1 HI.out.2.2
 unfold mv at D6
 dsimp only at D6
 have D6:=hide D6
 clear H4 B4 kZ P4 bI Q4 P5 P6 b5 b6 oM bI6 z4 z5 z1 s6 Q6 gg HI HD g0 g1 g2 g3 g4 g5 k0 k1 k2 k3 k4 k5 k6 k7
 go_wp2_with fail
 refine D6.out.mono ?_
 rintro E w7 ⟨rfl,RR⟩
 clear D6
 go_wp2
 go_ret2
 exact⟨rfl,RR.out⟩
end Go.Proofs.YtlmkaljjocflmaaGreatDoor
