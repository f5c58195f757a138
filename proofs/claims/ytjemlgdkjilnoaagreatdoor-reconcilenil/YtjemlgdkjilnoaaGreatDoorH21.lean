/- Texts of one layer, one behind the other. -/
import Derived.Test.YtjemlgdkjilnoaaGreatDoorH19
import Derived.Test.YtjemlgdkjilnoaaGreatDoorH20
import Derived.Test.YtjemlgdkjilnoaaGreatDoorH16
import Derived.Test.YtjemlgdkjilnoaaGreatDoorZRqe
import Derived.Test.YtjemlgdkjilnoaaGreatDoorH3
import Derived.Test.YtjemlgdkjilnoaaGreatDoorM3
import Derived.Test.YtjemlgdkjilnoaaGreatDoorH22
set_option maxRecDepth 100000
set_option maxHeartbeats 8000000
namespace Go.Proofs.YtjemlgdkjilnoaaGreatDoor
open Go.RowKit
set_option linter.unusedVariables false
theorem zb (p q pw pr:Nat)(F F':Nat→Prop)(w:World)(off:Bool)(x:Pm.Pg)(en:Int)(vs:Value)(sw:Wl.Ws)(sr:Rl.Rs)(hb:w.heap[p]? =some (.cells (eD q off x (.pointer (some ⟨pw,0,none⟩)) en (.pointer (some ⟨pr,0,none⟩)) vs) 56 (0,0)))(h1:WW pw q F w sw)(h2:RW pr q F' w sr):
  Calls Tryz.prog 39 #[.pointer (some ⟨p,0,none⟩)] w fun E w'=>E=.returned (.agg (jm x (Cm.lastE 0 sw.l) en (Cm.lastN 0 sr.l) p))∧Below w.heap.size w w':=by
 have qP:∀(fn:Fn) (first cap:Array Value) (w:World),(Instr.makeFunc fn first cap).run Tryz.prog w=.ok (.func fn first cap) w:=fun _ _ _ _=>rfl
 have hsf:∀(a:Addr) (fn:Fn) (first cap:Array Value) (w:World),(store a (.func fn first cap)).run Tryz.prog w=stored Tryz.prog w a (.func fn first cap) .plain:=fun a fn first cap w=>run_store _ w a _ _ rfl
 have hpl:=ax hb
 obtain⟨w1,hw1,s1,b1,P1⟩:=ak w #[.int .i64 0,.int .u8 0,.int .i64 0,.int .u8 0,.int .i64 0,.int .i64 0,.int .i64 0,.int .i64 0,.int .i64 0,.nilFunc] 98
 obtain⟨K,hK⟩:∃K:World→Prop,K=fun W=>Hid (W.heap[p]? =w.heap[p]?∧W.heap[w.heap.size]? =some (.cells #[.int .i64 0,.int .u8 0,.int .i64 0,.int .u8 0,.int .i64 0,.int .i64 0,.int .i64 0,.int .i64 0,.int .i64 0,.nilFunc] 98 (0,0))∧Below w.heap.size w W):=⟨_,rfl⟩
 have HE:Hid (∀W,K W→Calls Tryz.prog 60 #[.pointer (some ⟨pw,0,none⟩)] W fun E w'=>E=.returned (.int .i64 (Cm.lastE 0 sw.l))∧K w'):=hide fun W k=>by
  subst hK
  refine(aaC pw q F W sw (h1.below k.out.2.2)).mono ?_
  rintro E w' ⟨rfl,m,rfl⟩
  exact⟨rfl,hide ⟨k.out.1,k.out.2.1,below_drewN k.out.2.2 m⟩⟩
 have HR:Hid (∀W,K W→Calls Tryz.prog 84 #[.pointer (some ⟨pr,0,none⟩)] W fun E w'=>E=.returned (.int .i64 (Cm.lastN 0 sr.l))∧K w'):=hide fun W k=>by
  subst hK
  refine(l8 pr q F' W sr (h2.below k.out.2.2)).mono ?_
  rintro E w' ⟨rfl,rfl⟩
  exact⟨rfl,k⟩
 generalize Cm.lastE 0 sw.l=ep at*
 generalize Cm.lastN 0 sr.l=rn at*
 obtain⟨SS,hSS⟩:∃SS:World→Prop,SS=(fun W=>W.cell? ⟨p,2,none⟩=some (.int .i64 x.e)∧W.cell? ⟨p,3,none⟩=some (.int .u8 x.r)∧W.cell? ⟨p,4,none⟩=some (.int .i64 x.a)∧W.cell? ⟨p,5,none⟩=some (.int .u8 x.p)∧W.cell? ⟨p,6,none⟩=some (.int .i64 x.f)∧W.cell? ⟨p,7,none⟩=some (.int .i64 x.b)∧W.cell? ⟨p,8,none⟩=some (.pointer (some ⟨pw,0,none⟩))∧W.cell? ⟨p,9,none⟩=some (.int .i64 en)∧W.cell? ⟨p,11,none⟩=some (.pointer (some ⟨pr,0,none⟩))):=⟨_,rfl⟩
 have sB:∀W,W.heap[p]? =w.heap[p]?→SS W:=fun W k=>by
  subst hSS
  obtain⟨c0,_,c2,c3,c4,c5,c6,c7,c8,c9,_,c11,_⟩:=l9 (k.trans hb)
  exact⟨c2,c3,c4,c5,c6,c7,c8,c9,c11⟩
 have KS:Hid (∀W,K W→SS W):=hide fun W k=>by
  subst hK
  exact sB W k.out.1
 have PUT:Hid (∀W V,W.heap[w.heap.size]? =some (.cells #[.int .i64 0,.int .u8 0,.int .i64 0,.int .u8 0,.int .i64 0,.int .i64 0,.int .i64 0,.int .i64 0,.int .i64 0,.nilFunc] 98 (0,0))→Below w.heap.size w W→W.grownBy V (some w.heap.size)→SS V∧Below w.heap.size w V):=hide fun W V k1 k2 k3=>by
  have hs:=k2.size
  have b:=aD k2 k3 (Nat.le_refl _) (by omega)
  exact⟨sB V (b.block p hpl),b⟩
 obtain⟨W0,hW0⟩:∃W,w1.drew=W:=⟨_,rfl⟩
 have K0:K W0:=by
  subst hK
  rw[←hW0]
  exact hide ⟨b1.block p hpl,P1,b1.drew⟩
 subst hK hSS
 clear h1 h2 hb P1 b1 s1 sB
 go_enter Tryz.func39,Tryz.ntmps39
 go_wp2_with fail
 refine mH (ops:=(aA 1 Tryz.f39)) (S:=fun W=>W.cell? ⟨p,2,none⟩=some (.int .i64 x.e)∧W.cell? ⟨p,3,none⟩=some (.int .u8 x.r)∧W.cell? ⟨p,4,none⟩=some (.int .i64 x.a)∧W.cell? ⟨p,5,none⟩=some (.int .u8 x.p)∧W.cell? ⟨p,6,none⟩=some (.int .i64 x.f)∧W.cell? ⟨p,7,none⟩=some (.int .i64 x.b)∧W.cell? ⟨p,8,none⟩=some (.pointer (some ⟨pw,0,none⟩))∧W.cell? ⟨p,9,none⟩=some (.int .i64 en)∧W.cell? ⟨p,11,none⟩=some (.pointer (some ⟨pr,0,none⟩))) (by kernel_rfl) am9 ?_
 rw[arO,hW0]
 refine aJ (v:=?_) anx (by kernel_rfl) (fun _ _ _ _ _ h=>h) (KS.out _ K0) rfl rfl (by rfl) ?_ ?_
 rotate_left 1
 ·intro w hS
  (try dsimp only at hS)
  go_simp
  all_goals with_reducible rfl
 simp only[Act.put,List.setIfInBounds_toArray,List.set_cons_zero,List.set_cons_succ]
 refine aJ (v:=?_) aoI (by kernel_rfl) (fun _ _ _ _ _ h=>h) (KS.out _ K0) rfl rfl (by rfl) ?_ ?_
 rotate_left 1
 ·intro w hS
  (try dsimp only at hS)
  go_simp
  all_goals with_reducible rfl
 simp only[Act.put,List.setIfInBounds_toArray,List.set_cons_zero,List.set_cons_succ]
 refine aJ (v:=?_) aoF (by kernel_rfl) (fun _ _ _ _ _ h=>h) (KS.out _ K0) rfl rfl (by rfl) ?_ ?_
 rotate_left 1
 ·intro w hS
  (try dsimp only at hS)
  go_simp
  all_goals with_reducible rfl
 simp only[Act.put,List.setIfInBounds_toArray,List.set_cons_zero,List.set_cons_succ]
 refine aJ (v:=?_) amU (by kernel_rfl) (fun _ _ _ _ _ h=>h) (KS.out _ K0) rfl rfl (by rfl) ?_ ?_
 rotate_left 1
 ·intro w hS
  (try dsimp only at hS)
  go_simp
  all_goals with_reducible rfl
 simp only[Act.put,List.setIfInBounds_toArray,List.set_cons_zero,List.set_cons_succ]
 refine aJ (v:=?_) ajv (by kernel_rfl) (fun _ _ _ _ _ h=>h) (KS.out _ K0) rfl rfl (by rfl) ?_ ?_
 rotate_left 1
 ·intro w hS
  (try dsimp only at hS)
  go_simp
  all_goals with_reducible rfl
 simp only[Act.put,List.setIfInBounds_toArray,List.set_cons_zero,List.set_cons_succ]
 refine aJ (v:=?_) al2 (by kernel_rfl) (fun _ _ _ _ _ h=>h) (KS.out _ K0) rfl rfl (by rfl) ?_ ?_
 rotate_left 1
 ·intro w hS
  (try dsimp only at hS)
  go_simp
  all_goals with_reducible rfl
 simp only[Act.put,List.setIfInBounds_toArray,List.set_cons_zero,List.set_cons_succ]
 refine aJ (v:=?_) ajQ (by kernel_rfl) (fun _ _ _ _ _ h=>h) (KS.out _ K0) rfl rfl (by rfl) ?_ ?_
 rotate_left 1
 ·intro w hS
  (try dsimp only at hS)
  go_simp
  all_goals with_reducible rfl
 simp only[Act.put,List.setIfInBounds_toArray,List.set_cons_zero,List.set_cons_succ]
 refine aJ (v:=?_) ai1 (by kernel_rfl) (fun _ _ _ _ _ h=>h) (KS.out _ K0) rfl rfl (by rfl) ?_ ?_
 rotate_left 1
 ·intro w hS
  (try dsimp only at hS)
  go_simp
  all_goals with_reducible rfl
 simp only[Act.put,List.setIfInBounds_toArray,List.set_cons_zero,List.set_cons_succ]
 refine aJ (v:=?_) aif (by kernel_rfl) (fun _ _ _ _ _ h=>h) (KS.out _ K0) rfl rfl (by rfl) ?_ ?_
 rotate_left 1
 ·intro w hS
  (try dsimp only at hS)
  go_simp
  all_goals with_reducible rfl
 simp only[Act.put,List.setIfInBounds_toArray,List.set_cons_zero,List.set_cons_succ]
 refine aJ (v:=?_) ahU (by kernel_rfl) (fun _ _ _ _ _ h=>h) (KS.out _ K0) rfl rfl (by rfl) ?_ ?_
 rotate_left 1
 ·intro w hS
  (try dsimp only at hS)
  go_simp
  all_goals with_reducible rfl
 simp only[Act.put,List.setIfInBounds_toArray,List.set_cons_zero,List.set_cons_succ]
 refine aJ (v:=?_) aeR (by kernel_rfl) (fun _ _ _ _ _ h=>h) (KS.out _ K0) rfl rfl (by rfl) ?_ ?_
 rotate_left 1
 ·intro w hS
  (try dsimp only at hS)
  go_simp
  all_goals with_reducible rfl
 simp only[Act.put,List.setIfInBounds_toArray,List.set_cons_zero,List.set_cons_succ]
 refine aJ (v:=?_) aeZ (by kernel_rfl) (fun _ _ _ _ _ h=>h) (KS.out _ K0) rfl rfl (by rfl) ?_ ?_
 rotate_left 1
 ·intro w hS
  (try dsimp only at hS)
  go_simp
  all_goals with_reducible rfl
 simp only[Act.put,List.setIfInBounds_toArray,List.set_cons_zero,List.set_cons_succ]
 refine aJ (v:=?_) aeU (by kernel_rfl) (fun _ _ _ _ _ h=>h) (KS.out _ K0) rfl rfl (by rfl) ?_ ?_
 rotate_left 1
 ·intro w hS
  (try dsimp only at hS)
  go_simp
  all_goals with_reducible rfl
 simp only[Act.put,List.setIfInBounds_toArray,List.set_cons_zero,List.set_cons_succ]
 refine aJ (v:=?_) adx (by kernel_rfl) (fun _ _ _ _ _ h=>h) (KS.out _ K0) rfl rfl (by rfl) ?_ ?_
 rotate_left 1
 ·intro w hS
  (try dsimp only at hS)
  go_simp
  all_goals with_reducible rfl
 simp only[Act.put,List.setIfInBounds_toArray,List.set_cons_zero,List.set_cons_succ]
 refine aJ (v:=?_) adr (by kernel_rfl) (fun _ _ _ _ _ h=>h) (KS.out _ K0) rfl rfl (by rfl) ?_ ?_
 rotate_left 1
 ·intro w hS
  (try dsimp only at hS)
  go_simp
  all_goals with_reducible rfl
 simp only[Act.put,List.setIfInBounds_toArray,List.set_cons_zero,List.set_cons_succ]
 refine aJ (v:=?_) adw (by kernel_rfl) (fun _ _ _ _ _ h=>h) (KS.out _ K0) rfl rfl (by rfl) ?_ ?_
 rotate_left 1
 ·intro w hS
  (try dsimp only at hS)
  go_simp
  all_goals with_reducible rfl
 simp only[Act.put,List.setIfInBounds_toArray,List.set_cons_zero,List.set_cons_succ]
 refine aJ (v:=?_) abT (by kernel_rfl) (fun _ _ _ _ _ h=>h) (KS.out _ K0) rfl rfl (by rfl) ?_ ?_
 rotate_left 1
 ·intro w hS
  (try dsimp only at hS)
  go_simp
  all_goals with_reducible rfl
 simp only[Act.put,List.setIfInBounds_toArray,List.set_cons_zero,List.set_cons_succ]
 refine aJ (v:=?_) abN (by kernel_rfl) (fun _ _ _ _ _ h=>h) (KS.out _ K0) rfl rfl (by rfl) ?_ ?_
 rotate_left 1
 ·intro w hS
  (try dsimp only at hS)
  go_simp
  all_goals with_reducible rfl
 simp only[Act.put,List.setIfInBounds_toArray,List.set_cons_zero,List.set_cons_succ]
 refine aJ (v:=?_) abK (by kernel_rfl) (fun _ _ _ _ _ h=>h) (KS.out _ K0) rfl rfl (by rfl) ?_ ?_
 rotate_left 1
 ·intro w hS
  (try dsimp only at hS)
  go_simp
  all_goals with_reducible rfl
 simp only[Act.put,List.setIfInBounds_toArray,List.set_cons_zero,List.set_cons_succ]
 refine aJ (v:=?_) aaM (by kernel_rfl) (fun _ _ _ _ _ h=>h) (KS.out _ K0) rfl rfl (by rfl) ?_ ?_
 rotate_left 1
 ·intro w hS
  (try dsimp only at hS)
  go_simp
  all_goals with_reducible rfl
 simp only[Act.put,List.setIfInBounds_toArray,List.set_cons_zero,List.set_cons_succ]
 refine aJ (v:=?_) aaS (by kernel_rfl) (fun _ _ _ _ _ h=>h) (KS.out _ K0) rfl rfl (by rfl) ?_ ?_
 rotate_left 1
 ·intro w hS
  (try dsimp only at hS)
  go_simp
  all_goals with_reducible rfl
 simp only[Act.put,List.setIfInBounds_toArray,List.set_cons_zero,List.set_cons_succ]
 refine aJ (v:=?_) aaF (by kernel_rfl) (fun _ _ _ _ _ h=>h) (KS.out _ K0) rfl rfl (by rfl) ?_ ?_
 rotate_left 1
 ·intro w hS
  (try dsimp only at hS)
  go_simp
  all_goals with_reducible rfl
 simp only[Act.put,List.setIfInBounds_toArray,List.set_cons_zero,List.set_cons_succ]
 refine aJ (v:=?_) zR (by kernel_rfl) (fun _ _ _ _ _ h=>h) (KS.out _ K0) rfl rfl (by rfl) ?_ ?_
 rotate_left 1
 ·intro w hS
  (try dsimp only at hS)
  go_simp
  all_goals with_reducible rfl
 simp only[Act.put,List.setIfInBounds_toArray,List.set_cons_zero,List.set_cons_succ]
 refine iq adA ?_ ?_
 ·refine aK rfl (by rfl) (fun K hK=>?_)
  go_simp
  refine(HE.out _ K0).mono ?_
  rintro E U1 ⟨rfl,k1⟩
  go_wp2_with fail
  refine hK.out _ _ (KS.out _ k1) ?_
  clear hK K
  try simp only[Act.put,List.setIfInBounds_toArray,List.set_cons_zero,List.set_cons_succ]
  refine iq adt ?_ ?_
  ·refine aK rfl (by rfl) (fun K hK=>?_)
   go_simp
   refine(HR.out _ k1).mono ?_
   rintro E U2 ⟨rfl,k2⟩
   go_wp2_with fail
   refine hK.out _ _ (KS.out _ k2) ?_
   clear hK K
   try simp only[Act.put,List.setIfInBounds_toArray,List.set_cons_zero,List.set_cons_succ]
   refine aS adp ?_
   refine aK rfl (by rfl) (fun K hK=>?_)
   go_simp
   go_wp2_with fail
   refine hK.out _ _ (KS.out _ k2) ?_
   clear hK K
   try simp only[Act.put,List.setIfInBounds_toArray,List.set_cons_zero,List.set_cons_succ]
   refine aJ (v:=?_) lu (by kernel_rfl) (fun _ _ _ _ _ h=>h) (KS.out _ k2) rfl rfl (by rfl) ?_ ?_
   rotate_left 1
   ·intro w hS
    (try dsimp only at hS)
    go_simp
    all_goals with_reducible rfl
   simp only[Act.put,List.setIfInBounds_toArray,List.set_cons_zero,List.set_cons_succ]
   refine aS nD ?_
   obtain⟨pb,bb⟩:=k2.out.2
   obtain⟨V,hV,bV,gV,⟨a0,a1,a2,a3,a4,a5,a6,a7,a8,a9⟩,fr,⟨z0,z1,z2,z3,z4,z5,z6,z7,z8,z9⟩⟩:=adO pb (.int .i64 x.e) (.int .u8 x.r) (.int .i64 x.a) (.int .u8 x.p) (.int .i64 x.f) (.int .i64 x.b) (.int .i64 ep) (.int .i64 en) (.int .i64 rn) (.func (.func 85) #[.pointer (some ⟨p,0,none⟩)] #[])
   have f0:=fr 0;have f1:=fr 1;have f2:=fr 2;have f3:=fr 3;have f4:=fr 4;have f5:=fr 5;have f6:=fr 6;have f7:=fr 7;have f8:=fr 8;have f9:=fr 9
   have SV:=hide (PUT.out _ _ pb bb gV)
   clear bV gV fr pb bb
   refine aK rfl (by rfl) (fun K hK=>?_)
   go_simp
   go_wp2_with fail
   refine hK.out _ _ SV.out.1 ?_
   clear hK K
   try simp only[Act.put,List.setIfInBounds_toArray,List.set_cons_zero,List.set_cons_succ]
   refine dz abZ ?_
   clear HE HR KS PUT
   go_wp2
   refine bodyPost_ret (v:=.agg (jm x ep en rn p)) (by simp[results,Tryz.results39,go_sem,z0,z1,z2,z3,z4,z5,z6,z7,z8,z9,jm]) rfl ?_
   exact⟨rfl,SV.out.2⟩
  ·refine aK rfl (by rfl) (fun K hK=>?_)
   go_simp
   go_wp2_with fail
   refine hK.out _ _ (KS.out _ k1) ?_
   clear hK K
   try simp only[Act.put,List.setIfInBounds_toArray,List.set_cons_zero,List.set_cons_succ]
   refine aS vM ?_
   refine aK rfl (by rfl) (fun K hK=>?_)
   go_simp
   refine(HR.out _ k1).mono ?_
   rintro E U6 ⟨rfl,k6⟩
   go_wp2_with fail
   refine hK.out _ _ (KS.out _ k6) ?_
   clear hK K
   try simp only[Act.put,List.setIfInBounds_toArray,List.set_cons_zero,List.set_cons_succ]
   refine aJ (v:=?_) lu (by kernel_rfl) (fun _ _ _ _ _ h=>h) (KS.out _ k6) rfl rfl (by rfl) ?_ ?_
   rotate_left 1
   ·intro w hS
    (try dsimp only at hS)
    go_simp
    all_goals with_reducible rfl
   simp only[Act.put,List.setIfInBounds_toArray,List.set_cons_zero,List.set_cons_succ]
   refine aS nD ?_
   obtain⟨pb,bb⟩:=k6.out.2
   obtain⟨V,hV,bV,gV,⟨a0,a1,a2,a3,a4,a5,a6,a7,a8,a9⟩,fr,⟨z0,z1,z2,z3,z4,z5,z6,z7,z8,z9⟩⟩:=adO pb (.int .i64 x.e) (.int .u8 x.r) (.int .i64 x.a) (.int .u8 x.p) (.int .i64 x.f) (.int .i64 x.b) (.int .i64 ep) (.int .i64 en) (.int .i64 rn) (.func (.func 85) #[.pointer (some ⟨p,0,none⟩)] #[])
   have f0:=fr 0;have f1:=fr 1;have f2:=fr 2;have f3:=fr 3;have f4:=fr 4;have f5:=fr 5;have f6:=fr 6;have f7:=fr 7;have f8:=fr 8;have f9:=fr 9
   have SV:=hide (PUT.out _ _ pb bb gV)
   clear bV gV fr pb bb
   refine aK rfl (by rfl) (fun K hK=>?_)
   go_simp
   go_wp2_with fail
   refine hK.out _ _ SV.out.1 ?_
   clear hK K
   try simp only[Act.put,List.setIfInBounds_toArray,List.set_cons_zero,List.set_cons_succ]
   refine dz abZ ?_
   clear HE HR KS PUT
   go_wp2
   refine bodyPost_ret (v:=.agg (jm x ep en rn p)) (by simp[results,Tryz.results39,go_sem,z0,z1,z2,z3,z4,z5,z6,z7,z8,z9,jm]) rfl ?_
   exact⟨rfl,SV.out.2⟩
 ·refine aK rfl (by rfl) (fun K hK=>?_)
  go_simp
  go_wp2_with fail
  refine hK.out _ _ (KS.out _ K0) ?_
  clear hK K
  try simp only[Act.put,List.setIfInBounds_toArray,List.set_cons_zero,List.set_cons_succ]
  refine aS ads ?_
  refine aK rfl (by rfl) (fun K hK=>?_)
  go_simp
  refine(HE.out _ K0).mono ?_
  rintro E U9 ⟨rfl,k9⟩
  go_wp2_with fail
  refine hK.out _ _ (KS.out _ k9) ?_
  clear hK K
  try simp only[Act.put,List.setIfInBounds_toArray,List.set_cons_zero,List.set_cons_succ]
  refine aS vM ?_
  refine aK rfl (by rfl) (fun K hK=>?_)
  go_simp
  refine(HR.out _ k9).mono ?_
  rintro E U10 ⟨rfl,k10⟩
  go_wp2_with fail
  refine hK.out _ _ (KS.out _ k10) ?_
  clear hK K
  try simp only[Act.put,List.setIfInBounds_toArray,List.set_cons_zero,List.set_cons_succ]
  refine aJ (v:=?_) lu (by kernel_rfl) (fun _ _ _ _ _ h=>h) (KS.out _ k10) rfl rfl (by rfl) ?_ ?_
  rotate_left 1
  ·intro w hS
   (try dsimp only at hS)
   go_simp
   all_goals with_reducible rfl
  simp only[Act.put,List.setIfInBounds_toArray,List.set_cons_zero,List.set_cons_succ]
  refine aS nD ?_
  obtain⟨pb,bb⟩:=k10.out.2
  obtain⟨V,hV,bV,gV,⟨a0,a1,a2,a3,a4,a5,a6,a7,a8,a9⟩,fr,⟨z0,z1,z2,z3,z4,z5,z6,z7,z8,z9⟩⟩:=adO pb (.int .i64 x.e) (.int .u8 x.r) (.int .i64 x.a) (.int .u8 x.p) (.int .i64 x.f) (.int .i64 x.b) (.int .i64 ep) (.int .i64 en) (.int .i64 rn) (.func (.func 85) #[.pointer (some ⟨p,0,none⟩)] #[])
  have f0:=fr 0;have f1:=fr 1;have f2:=fr 2;have f3:=fr 3;have f4:=fr 4;have f5:=fr 5;have f6:=fr 6;have f7:=fr 7;have f8:=fr 8;have f9:=fr 9
  have SV:=hide (PUT.out _ _ pb bb gV)
  clear bV gV fr pb bb
  refine aK rfl (by rfl) (fun K hK=>?_)
  go_simp
  go_wp2_with fail
  refine hK.out _ _ SV.out.1 ?_
  clear hK K
  try simp only[Act.put,List.setIfInBounds_toArray,List.set_cons_zero,List.set_cons_succ]
  refine dz abZ ?_
  clear HE HR KS PUT
  go_wp2
  refine bodyPost_ret (v:=.agg (jm x ep en rn p)) (by simp[results,Tryz.results39,go_sem,z0,z1,z2,z3,z4,z5,z6,z7,z8,z9,jm]) rfl ?_
  exact⟨rfl,SV.out.2⟩
def Chg (w:World) (p:Nat) (f:FuncId) (cap:Array Value) (x:Pm.Pg) (ep en rn:Int) (x':Pm.Pg) (ep' en' rn':Int):Prop:=
 ∀W g,Below w.heap.size w W→w.heap.size≤g→W.heap[g]? =some (.cells (jm x ep en rn p) 98 (0,0))→Calls Tryz.prog f (#[.pointer (some ⟨g,0,none⟩)]++cap) W fun E w'=>E=.returned (.tuple #[])∧w'.heap[g]? =some (.cells (jm x' ep' en' rn' p) 98 (0,0))∧Out (fun i=>i=g) W w'
theorem wI (p q pw pr:Nat)(F F':Nat→Prop)(w:World)(off:Bool)(x:Pm.Pg)(en:Int)(vs:Value)(sw:Wl.Ws)(sr:Rl.Rs)(hb:w.heap[p]? =some (.cells (eD q off x (.pointer (some ⟨pw,0,none⟩)) en (.pointer (some ⟨pr,0,none⟩)) vs) 56 (0,0)))(h1:WW pw q F w sw)(h2:RW pr q F' w sr)
  (f:FuncId) (cap:Array Value) (eg:∀args w,(callFunc f args).run Tryz.prog w=.ok (.enter f args) w) (x':Pm.Pg) (ep' en' rn' b:Int) (hch:Chg w p f cap x (Cm.lastE 0 sw.l) en (Cm.lastN 0 sr.l) x' ep' en' rn')
  (hS:(x'.p=2∨x'.p=3∨x'.p=4)→∀W,Below w.heap.size w W→Calls Tryz.prog 85 #[.pointer (some ⟨p,0,none⟩)] W fun E w'=>E=.returned (.int .i64 b)∧Below W.heap.size W w'):
  Calls Tryz.prog 62 #[.pointer (some ⟨p,0,none⟩),.func (.func f) #[] cap] w fun E w'=>E=.returned (.int .i64 (if ql x' ep' en' rn' b=true then 0 else 5))∧Below w.heap.size w w':=by
 have hsf:∀(a:Addr) (fn:Fn) (first cap:Array Value) (w:World),(store a (.func fn first cap)).run Tryz.prog w=stored Tryz.prog w a (.func fn first cap) .plain:=fun a fn first cap w=>run_store _ w a _ _ rfl
 have OL:=hide (zb p q pw pr F F' w off x en vs sw sr hb h1 h2)
 have CH:=hide hch
 have HS:=hide hS
 generalize Cm.lastE 0 sw.l=ep at*
 generalize Cm.lastN 0 sr.l=rn at*
 obtain⟨r,hr⟩:∃r,(if ql x' ep' en' rn' b=true then(0:Int)else 5)=r:=⟨_,rfl⟩
 rw[hr]
 have HR:=hide hr
 clear h1 h2 hb hch hS hr
 go_enter Tryz.func62,Tryz.ntmps62
 go_wp2_with fail
 refine OL.out.mono ?_
 rintro E w1 ⟨rfl,b1⟩
 unfold jm
 obtain⟨w2,hw2,s2,b2,P2⟩:=ak w1 #[.int .i64 0,.int .u8 0,.int .i64 0,.int .u8 0,.int .i64 0,.int .i64 0,.int .i64 0,.int .i64 0,.int .i64 0,.nilFunc] 98
 obtain⟨V,hV,bV,gV,⟨a0,a1,a2,a3,a4,a5,a6,a7,a8,a9⟩,fr,⟨z0,z1,z2,z3,z4,z5,z6,z7,z8,z9⟩⟩:=adO P2 (.int .i64 x.e) (.int .u8 x.r) (.int .i64 x.a) (.int .u8 x.p) (.int .i64 x.f) (.int .i64 x.b) (.int .i64 ep) (.int .i64 en) (.int .i64 rn) (.func (.func 85) #[.pointer (some ⟨p,0,none⟩)] #[])
 have f0:=fr 0;have f1:=fr 1;have f2:=fr 2;have f3:=fr 3;have f4:=fr 4;have f5:=fr 5;have f6:=fr 6;have f7:=fr 7;have f8:=fr 8;have f9:=fr 9
 have hs1:=b1.size
 have b12:=b1.trans (b2.mono hs1)
 have bvv:=aD b12 gV hs1 (by omega)
 have hlV:w1.heap.size<V.heap.size:=ax bV
 have C2:=hide (CH.out V w1.heap.size bvv hs1 bV)
 have BV:=hide (And.intro bvv (And.intro hs1 hlV))
 clear OL CH b1 b2 b12 bvv hs1 hlV bV gV fr P2 s2
 go_wp2_with fail
 refine C2.out.mono ?_
 rintro E w3 ⟨rfl,P3,o3⟩
 unfold jm at P3
 obtain⟨y0,y1,y2,y3,y4,y5,y6,y7,y8,y9⟩:=mi P3
 have b3:Below w.heap.size w w3:=BV.out.1.trans (o3.below (fun g hg=>by rw[hg];exact BV.out.2.1) BV.out.1.size)
 have C3:=hide (abq p x' ep' en' rn' b w3 fun k W hW=>HS.out k W (b3.trans (hW.mono b3.size)))
 rw[HR.out]at C3
 unfold jm at C3
 have B3:=hide b3
 clear C2 b3 o3 P3 HR HS z0 z1 z2 z3 z4 z5 z6 z7 z8 z9 a0 a1 a2 a3 a4 a5 a6 a7 a8 a9 f0 f1 f2 f3 f4 f5 f6 f7 f8 f9
 go_wp2_with fail
 refine C3.out.mono ?_
 rintro E w4 ⟨rfl,b4⟩
 have B4:=hide (B3.out.trans (b4.mono B3.out.size))
 clear C3 b4 B3
 go_wp2
 go_ret
 exact⟨rfl,B4.out⟩
theorem asf (w:World)(p g3:Nat)(x y:Pm.Pg)(ep en rn:Int)(h3:w.heap[g3]? =some (.cells (cp y) 35 (0,0))):Chg w p 71 #[.pointer (some ⟨g3,0,none⟩)] x ep en rn y ep en rn:=by
 intro W g hW hg hP
 show Calls _ _ #[.pointer (some ⟨g,0,none⟩),.pointer (some ⟨g3,0,none⟩)] _ _
 unfold cp at h3
 obtain⟨d0,d1,d2,d3,d4,d5⟩:=aN ((hW.block g3 (ax h3)).trans h3)
 unfold jm at hP⊢
 obtain⟨c0,c1,c2,c3,c4,c5,_⟩:=mi hP
 have fr:=aC hP
 have f0:=fr 0;have f1:=fr 1;have f2:=fr 2;have f3:=fr 3;have f4:=fr 4;have f5:=fr 5
 have q0:=aI hP 0 (.int .i64 y.e)
 have q1:=aI q0 1 (.int .u8 y.r)
 have q2:=aI q1 2 (.int .i64 y.a)
 have q3:=aI q2 3 (.int .u8 y.p)
 have q4:=aI q3 4 (.int .i64 y.f)
 have q5:=aI q4 5 (.int .i64 y.b)
 have gr:=aH (aH (aH (aH (aH (aB W ⟨g,0,none⟩ (.int .i64 y.e)) (aB _ ⟨g,1,none⟩ (.int .u8 y.r))) (aB _ ⟨g,2,none⟩ (.int .i64 y.a))) (aB _ ⟨g,3,none⟩ (.int .u8 y.p))) (aB _ ⟨g,4,none⟩ (.int .i64 y.f))) (aB _ ⟨g,5,none⟩ (.int .i64 y.b))
 obtain⟨V,hV⟩:∃V,(((((W.setCell ⟨g,0,none⟩ (.int .i64 y.e)).setCell ⟨g,1,none⟩ (.int .u8 y.r)).setCell ⟨g,2,none⟩ (.int .i64 y.a)).setCell ⟨g,3,none⟩ (.int .u8 y.p)).setCell ⟨g,4,none⟩ (.int .i64 y.f)).setCell ⟨g,5,none⟩ (.int .i64 y.b)=V:=⟨_,rfl⟩
 rw[hV]at q5 gr
 have R:Hid (V.heap[g]? =some (.cells #[.int .i64 y.e,.int .u8 y.r,.int .i64 y.a,.int .u8 y.p,.int .i64 y.f,.int .i64 y.b,.int .i64 ep,.int .i64 en,.int .i64 rn,.func (.func 85) #[.pointer (some ⟨p,0,none⟩)] #[]] 98 (0,0))∧Out (fun i=>i=g) W V):=hide ⟨q5,Out.aV gr fun i hi=>by simpa using hi.symm⟩
 clear q0 q1 q2 q3 q4 q5 gr h3 hP fr
 go_enter Tryz.func71,Tryz.ntmps71
 go_wp2
 go_end0
 exact⟨rfl,R.out⟩
theorem ajM {W:World}{g p:Nat}{x:Pm.Pg}{ep en rn:Int}(hP:W.heap[g]? =some (.cells (jm x ep en rn p) 98 (0,0)))(u:Int):
  (∃V,W.setCell ⟨g,6,none⟩ (.int .i64 u)=V∧V.heap[g]? =some (.cells (jm x u en rn p) 98 (0,0))∧Out (fun i=>i=g) W V)∧(∃V,W.setCell ⟨g,7,none⟩ (.int .i64 u)=V∧V.heap[g]? =some (.cells (jm x ep u rn p) 98 (0,0))∧Out (fun i=>i=g) W V):=by
 unfold jm at*
 exact⟨⟨_,rfl,aI hP 6 _,Out.aV (aB W ⟨g,6,none⟩ _) fun i hi=>by simpa using hi.symm⟩,⟨_,rfl,aI hP 7 _,Out.aV (aB W ⟨g,7,none⟩ _) fun i hi=>by simpa using hi.symm⟩⟩
theorem qZ:∀(l:List Cm.Cv) (ep:Int) (h:0<l.length),Cm.lastE ep l=(l[l.length-1]).e
 |[c],_,_=>rfl
 |c::d::r,ep,_=>by
  have:=qZ (d::r) c.e (by simp)
  show Cm.lastE c.e (d::r)=_
  rw[this]
  simp
theorem amH (g p:Nat)(x:Pm.Pg)(ep en rn:Int)(W:World)(v:Value)(rs:List Cw)(hP:W.heap[g]? =some (.cells (jm x ep en rn p) 98 (0,0)))(hc:∀V,Out (fun i=>i=g) W V→dJ V v rs)(h0:0≤en∧en≤1000000)(hl:rs.length≤100):
  Calls Tryz.prog 64 #[.pointer (some ⟨g,0,none⟩),v] W fun E w'=>E=.returned (.tuple #[])∧w'.heap[g]? =some (.cells (jm x (Cm.lastE ep (az rs)) (en+rs.length) rn p) 98 (0,0))∧Out (fun i=>i=g) W w':=by
 obtain⟨V,hV,PV,oV⟩:=(ajM hP (en+rs.length)).2
 obtain⟨Z,hZ,PZ,oZ⟩:=(ajM PV (Cm.lastE ep (az rs))).1
 have hI:=hc V oV
 unfold jm at hP PV
 obtain⟨c0,c1,c2,c3,c4,c5,c6,c7,c8,c9⟩:=mi hP
 obtain⟨d0,d1,d2,d3,d4,d5,d6,d7,d8,d9⟩:=mi PV
 have f7:=aC hP 7
 have f6:=aC PV 6
 by_cases hn:rs.length=0
 ·obtain rfl:rs=[]:=List.eq_nil_of_length_eq_zero hn
  obtain⟨ao,cap,rfl⟩:∃a k,v=.slice a 0 k:=by
   rcases hI.1 with⟨h,_⟩|⟨a,c,h,_⟩
   ·exact⟨_,_,h⟩
   ·exact⟨_,_,h⟩
  have R:Hid (V.heap[g]? =some (.cells (jm x (Cm.lastE ep (az [])) (en+([]:List Cw).length) rn p) 98 (0,0))∧Out (fun i=>i=g) W V):=hide ⟨PV,oV⟩
  simp only[List.length_nil,Int.ofNat_zero,Int.add_zero]at hV R⊢
  clear hP PV oV PZ oZ hZ hI hc d0 d1 d2 d3 d4 d5 d6 d7 d8 d9
  go_enter Tryz.func64,Tryz.ntmps64
  go_wp2
  go_end0
  exact⟨rfl,R.out⟩
 ·have hp:0<rs.length:=by omega
  obtain⟨b1,o1,k1,rfl,_,hcell⟩:=iW hI hp
  have hlast:=(hcell (rs.length-1) (rs[rs.length-1]) (by simp)).1
  have he:Cm.lastE ep (az rs)=(rs[rs.length-1]).e:=by
   rw[qZ (az rs) ep (by unfold az;simpa using hp)]
   unfold az
   simp[Cw.c]
  rw[he]at hZ PZ⊢
  generalize (rs[rs.length-1]).e=le at*
  have R:Hid (Z.heap[g]? =some (.cells (jm x le (en+rs.length) rn p) 98 (0,0))∧Out (fun i=>i=g) W Z):=hide ⟨PZ,oV.trans oZ fun i hi=>.inl hi⟩
  clear hI hc hcell hP PV oV PZ oZ he
  obtain⟨m,hm⟩:∃m,rs.length=m+1:=⟨rs.length-1,by omega⟩
  rw[hm]at hlast R hV hl d7⊢
  have hlast:V.cell? ⟨b1,o1+m*3,none⟩=some (.int .i64 le):=hlast
  clear hp hn hm
  have hcs:((m+1:Nat):Int)=(m:Int)+1:=by omega
  rw[hcs]at hV R d7⊢
  clear hcs
  have hm2:IntKind.i64.wrap (en+((m:Int)+1))=en+((m:Int)+1):=aX _ (by omega) (by omega)
  go_enter Tryz.func64,Tryz.ntmps64
  go_wp2
  go_end0
  exact⟨rfl,R.out⟩
theorem aso (w:World)(p g3:Nat)(x:Pm.Pg)(ep en rn:Int)(v:Value)(rs:List Cw)(h3:w.heap[g3]? =some (.cells #[v] 26 (0,0)))(hc:∀V,Below w.heap.size w V→dJ V v rs)(h0:0≤en∧en≤1000000)(hl:rs.length≤100):Chg w p 63 #[.pointer (some ⟨g3,0,none⟩)] x ep en rn x (Cm.lastE ep (az rs)) (en+rs.length) rn:=by
 intro W g hW hg hP
 show Calls _ _ #[.pointer (some ⟨g,0,none⟩),.pointer (some ⟨g3,0,none⟩)] _ _
 have d0:=ai ((hW.block g3 (ax h3)).trans h3) 0 rfl
 have GR:=hide (amH g p x ep en rn W v rs hP (fun V hV=>hc V (hW.trans (hV.below (fun i hi=>by rw[hi];exact hg) hW.size))) h0 hl)
 obtain⟨ao,m,k,rfl⟩:∃a n k,v=.slice a n k:=by
  rcases(hc w (Below.refl _ _)).1 with⟨h,_⟩|⟨a,c,h,_⟩
  ·exact⟨_,_,_,h⟩
  ·exact⟨_,_,_,h⟩
 clear hc h3 hP
 go_enter Tryz.func63,Tryz.ntmps63
 go_wp2_with fail
 refine GR.out.mono ?_
 rintro E w' ⟨rfl,X⟩
 have X:=hide X
 clear GR
 go_wp2
 go_end0
 exact⟨rfl,X.out⟩
theorem abx {x:Pm.Pg}(h:Pm.Ok x)(l:List Cm.Cv)(rn b:Int):ql x (Cm.lastE 0 l) l.length rn b=Rst.snd x l rn b:=by
 obtain⟨_,h⟩:=h
 rw[Bool.eq_iff_iff,Rst.nC]
 generalize Cm.lastE 0 l=ep
 generalize (l.length:Int)=en
 unfold ql
 by_cases h4:x.p=4
 ·rw[if_pos h4]
  simp only[Bool.and_eq_true,decide_eq_true_eq]
  omega
 ·rw[if_neg h4]
  by_cases h3:x.p=3∨x.p=2
  ·rw[if_pos h3]
   simp only[Bool.and_eq_true,decide_eq_true_eq]
   omega
  ·rw[if_neg h3]
   by_cases h1:x.p=1
   ·rw[if_pos h1]
    simp only[Bool.and_eq_true,decide_eq_true_eq]
    omega
   ·rw[if_neg h1]
    simp only[Bool.and_eq_true,decide_eq_true_eq]
    omega
theorem ajt (f:Nat):∀(n:Nat) (st:Dm.Ds) (bs:List Int),(Dm.wrt f n st bs).1=0∨(Dm.wrt f n st bs).1=6
 |0,_,_=>.inl rfl
 |n+1,st,bs=>by
  unfold Dm.wrt
  split
  ·exact .inl rfl
  split
  ·exact .inr rfl
  ·exact ajt f n _ _
theorem aoj {st:Dm.Ds}(f:Nat)(hf:f<4)(bs:List Int):(Dm.write st f bs).1=0∨(Dm.write st f bs).1=6:=by
 unfold Dm.write
 split
 ·exact .inr rfl
 rw[if_neg (by unfold Dm.iU;simp;omega)]
 exact ajt _ _ _ _
theorem ak5 (g0 g1 p q:Nat)(F:Nat→Prop)(w:World)(st:Dm.Ds)(vb:Value)(bs:List Int)(h0:w.cell? ⟨g0,0,none⟩=some (.pointer (some ⟨p,0,none⟩)))(h1:w.cell? ⟨g1,0,none⟩=some vb)(hp:w.cell? ⟨p,0,none⟩=some (.pointer (some ⟨q,0,none⟩)))(h:Pk q F w st)(hs:Big 90000000 700000 st)(hb:Is .u8 w vb bs)(hbF:∀b,vb.ownBlock=some b→¬F b)(hl:bs.length≤1000)(hn:∀g,g=g0∨g=g1∨g=p→g<w.heap.size∧¬F g):
  Calls Tryz.prog 117 #[.pointer (some ⟨g0,0,none⟩),.pointer (some ⟨g1,0,none⟩)] w fun E w'=>E=.returned (.int .i64 (Dm.write st 1 bs).1)∧aY q F w w' (Dm.write st 1 bs).2:=by
 have HC:Hid (Calls Tryz.prog 29 #[.pointer (some ⟨q,0,none⟩),.int .i64 1,vb] w.drew fun E w'=>E=.returned (.int .i64 (Dm.write st 1 bs).1)∧aY q F w w' (Dm.write st 1 bs).2):=hide (by
  have hd:Below w.heap.size w w.drew:=(Below.refl _ _).drew
  have hc:cnt bs.length≤17:=by unfold cnt;omega
  refine(oF q F w.drew st 1 vb bs (h.below hd) (hb.below hd) (fun _=>hbF) (by omega) (by have:=hs.1.2.1;omega) hs.2 (by have:=hs.1.2.2;omega)).mono ?_
  rintro E w' ⟨rfl,k⟩
  exact⟨rfl,aY.pre hd k⟩)
 have HK:Hid (∀w',aY q F w w' (Dm.write st 1 bs).2→w'.cell? ⟨g0,0,none⟩=some (.pointer (some ⟨p,0,none⟩))∧w'.cell? ⟨g1,0,none⟩=some vb∧w'.cell? ⟨p,0,none⟩=some (.pointer (some ⟨q,0,none⟩))):=hide (by
  rintro w' ⟨_,_,k,_⟩
  have e:∀g,g=g0∨g=g1∨g=p→w'.cell? ⟨g,0,none⟩=w.cell? ⟨g,0,none⟩:=fun g hg=>by have:=k.block g (hn g hg).1 (hn g hg).2;simp[World.cell?,this]
  exact⟨(e g0 (by simp)).trans h0,(e g1 (by simp)).trans h1,(e p (by simp)).trans hp⟩)
 clear h hs hn hb hbF hl
 go_enter Tryz.func117,Tryz.ntmps117
 go_wp2_with fail
 go_region_held3 (fun w'=>w'.cell? ⟨g0,0,none⟩=some (.pointer (some ⟨p,0,none⟩))∧w'.cell? ⟨g1,0,none⟩=some vb∧w'.cell? ⟨p,0,none⟩=some (.pointer (some ⟨q,0,none⟩))) (first|exact⟨h0,h1,hp⟩|exact⟨i0,i1,ip⟩|go_keep)
  (first
  |(go_at_call 29;refine HC.out.mono ?_;rintro E w' ⟨rfl,k⟩;obtain⟨i0,i1,ip⟩:=HK.out _ k;have K:=hide k;clear k))
 go_wp2
 go_ret
 exact⟨rfl,K.out⟩
theorem ag9 (w:World)(t:TypeId)(x a:Value):∃V,(w.alloc (.cells #[x] t)).setCell ⟨w.heap.size,0,none⟩ a=V∧w.alloc (.cells #[a] t)=V∧V.heap.size=w.heap.size+1∧Below w.heap.size w V∧V.heap[w.heap.size]? =some (.cells #[a] t (0,0)):=by
 obtain⟨V,h1,h2,h3,h4⟩:=ak w #[a] t
 refine⟨V,?_,h1,h2,h3,h4⟩
 rw[←h1]
 simp[go_sem]
theorem am3 (p q:Nat)(F:Nat→Prop)(w:World)(st:Dm.Ds)(off:Bool)(y x:Pm.Pg)(vw vr vs:Value)(en:Int)(h:Pk q F w st)(hs:Big 50000000 500000 st)(hb:w.heap[p]? =some (.cells (eD q off y vw en vr vs) 56 (0,0)))(hpF:¬F p)(hx:Pm.Ok x)(hm:fQ w):
  Calls Tryz.prog 73 #[.pointer (some ⟨p,0,none⟩),vp x] w fun E w'=>E=.returned (.int .i64 (Rst.ext st 1 (Fm.cB (Pm.enc x))).1)∧∃F',Pk q F' w' (Rst.ext st 1 (Fm.cB (Pm.enc x))).2∧w'.heap[p]? =some (.cells (eD q off (if (Rst.ext st 1 (Fm.cB (Pm.enc x))).1=0 then x else y) vw en vr vs) 56 (0,0))∧Out (fun g=>F g∨g=p) w w'∧∀g,F' g→F g∨w.heap.size≤g:=by
 have qP:∀(fn:Fn) (first cap:Array Value) (w:World),(Instr.makeFunc fn first cap).run Tryz.prog w=.ok (.func fn first cap) w:=fun _ _ _ _=>rfl
 have hpl:=ax hb
 have hF:∀g,F g→g<w.heap.size:=h.lt
 obtain⟨bs,hbs⟩:∃bs,Fm.cB (Pm.enc x)=bs:=⟨_,rfl⟩
 rw[hbs]
 have HBS:=hide hbs
 clear hbs
 obtain⟨⟨ee,d'⟩,hex⟩:∃ex,Rst.ext st 1 bs=ex:=⟨_,rfl⟩
 rw[hex]
 simp only
 have HEX:=hide hex
 clear hex
 obtain⟨w1,hw1,s1,b1,P1⟩:=ak w #[.pointer (some ⟨p,0,none⟩)] 22
 obtain⟨w2,hw2,s2,b2,P2⟩:=ak w1 (cp x) 35
 have z2:w2.heap.size=w.heap.size+2:=by omega
 rw[s1]at P2
 have b02:Below w.heap.size w w2:=b1.trans (b2.mono (by omega))
 have fD:=(b2.block w.heap.size (by omega)).trans P1
 unfold cp at hw2 P2
 obtain⟨c0,c1,c2,c3,c4,c5⟩:=aN P2
 have EN:=hide (aim x w2 (oD hx) (hm.below b02))
 unfold vp at EN⊢
 rw[Pm.ib hx,jh hx]at EN
 have hel:=Pm.abC hx
 have X0:=hide (And.intro fD (And.intro P2 b02))
 have HH:=hide (And.intro h (And.intro hs (And.intro hb hm)))
 clear h hs hb hm b1 b2 P1 P2 fD s2 b02
 go_enter Tryz.func73,Tryz.ntmps73
 go_wp2_with fail
 refine EN.out.mono ?_
 rintro E w3 ⟨vb,rfl,o3,b3⟩
 have FA:=hide (uy (.slice none 0 0) vb [] (Pm.enc x) w3 (Is.nil _ _) o3.is (by simp) (by omega))
 have avG:xz (Pm.enc x)=0:=by unfold xz;rw[if_pos (by omega)]
 have atM:wW [] (Pm.enc x)=bs:=by unfold wW;rw[if_pos (by omega)];exact HBS.out
 rw[avG,atM]at FA
 have B3:=hide b3
 clear EN o3 b3 avG atM
 go_wp2_with fail
 refine FA.out.mono ?_
 rintro E w4 ⟨v4,rfl,o4,b4⟩
 obtain⟨ao,ln,lc,hv⟩:=o4.is.form
 subst hv
 clear FA
 obtain⟨p1,p2,b02⟩:=X0.out
 obtain⟨h,hs,hb,hm⟩:=HH.out
 have b3:=B3.out
 have z3:=b3.size
 have z4:=b4.size
 have mR:Below w2.heap.size w2 w4:=b3.trans (b4.mono (by omega))
 obtain⟨w5,sS,axQ,s5,b5,P5⟩:=ag9 w4 79 (.slice none 0 0) (.slice ao ln lc)
 obtain⟨w6,tO,s6,b6,P6⟩:=ak w5 #[.func (.func 117) #[] #[.pointer (some ⟨w.heap.size,0,none⟩),.pointer (some ⟨w4.heap.size,0,none⟩)],.func (.func 118) #[.pointer (some ⟨q,0,none⟩)] #[]] 132
 rw[s5]at P6
 have b26:Below w2.heap.size w2 w6:=mR.trans ((b5.mono (by omega)).trans (b6.mono (by omega)))
 have tu:Below w.heap.size w w6:=b02.trans (b26.mono (by omega))
 have o6:Own .u8 5 w3.heap.size w6 (.slice ao ln lc) bs:=(o4.below b5).below b6
 have hfl:bs.length≤1000:=by
  rw[←HBS.out]
  have h2:Vm.sz (Pm.enc x).length≤1:=Vm.nK 0 _ (by omega)
  rw[Fm.jF]
  omega
 have hs2:=jZ hs 1 bs
 have hcn:cnt bs.length≤17:=by unfold cnt;omega
 have e1:(Dm.write st 1 bs).1=0∨(Dm.write st 1 bs).1=6:=aoj (st:=st) 1 (by omega) bs
 have e2:=aay (Dm.write st 1 bs).2
 have C1:=ak5 w.heap.size w4.heap.size p q F w6 st (.slice ao ln lc) bs (ai ((b26.block _ (by omega)).trans p1) 0 rfl) (ai ((b6.block _ (by omega)).trans P5) 0 rfl) (ai ((tu.block p hpl).trans hb) 0 rfl) (h.below tu) (hs.mono (by decide) (by decide)) o6.is (fun b e k=>by have:=(o6.2.lt b e).1;have:=hF b k;omega) hfl (by
  rintro g (rfl|rfl|rfl)
  ·exact⟨by omega,fun e=>by have:=hF _ e;omega⟩
  ·exact⟨by omega,fun e=>by have:=hF _ e;omega⟩
  ·exact⟨by omega,hpF⟩)
 have C2:∀W G,Pk q G W (Dm.write st 1 bs).2→Calls Tryz.prog 118 #[.pointer (some ⟨q,0,none⟩)] W fun E w'=>E=.returned (.int .i64 (Dm.sync (Dm.write st 1 bs).2).1)∧aY q G W w' (Dm.sync (Dm.write st 1 bs).2).2:=fun W G k=>
  tY q G W _ k (fun f=>Nat.le_trans (hs2.1.1 f) (by omega)) (Nat.le_trans hs2.1.2.1 (by omega)) hs2.2 (Nat.lt_of_le_of_lt hs2.1.2.2 (by omega))
 have RUN:Run (w4.heap.size+1) (fun e W=>e=(Rst.ext st 1 bs).1∧aY q F w6 W (Rst.ext st 1 bs).2) [.func (.func 117) #[] #[.pointer (some ⟨w.heap.size,0,none⟩),.pointer (some ⟨w4.heap.size,0,none⟩)],.func (.func 118) #[.pointer (some ⟨q,0,none⟩)] #[]] w6:=by
  unfold Rst.ext
  refine Run.cons (enters_of Tryz.func117 (by kernel_rfl) rfl) (by simp) (C1.mono ?_)
  rintro E W ⟨rfl,F1,k1,k2,k3⟩
  refine⟨_,rfl,k2.block _ (by omega) fun e=>by have:=hF _ e;omega,?_⟩
  show(_∧_=(if (Dm.write st 1 bs).1≠0 then _ else _:Int×Dm.Ds).1∧aY q F w6 W (if (Dm.write st 1 bs).1≠0 then _ else _:Int×Dm.Ds).2)∨_
  rcases e1 with e1|e1
  ·refine .inr ⟨e1,Run.cons (enters_of Tryz.func118 (by kernel_rfl) rfl) (by simp) ((C2 W F1 k1).mono ?_)⟩
   rintro E W2 ⟨rfl,k⟩
   have hne:¬F1 (w4.heap.size+1):=fun e=>by
    rcases k3 _ e with e|e
    ·have:=hF _ e;omega
    ·omega
   have J:aY q F w6 W2 (Dm.sync (Dm.write st 1 bs).2).2:=aY.trans k2 k3 k
   have hsz:=k2.size
   refine⟨_,rfl,?_,?_⟩
   ·obtain⟨_,_,k,_⟩:=k
    exact k.block _ (by omega) hne
   show(_∧_=(if (Dm.write st 1 bs).1≠0 then _ else _:Int×Dm.Ds).1∧aY q F w6 W2 (if (Dm.write st 1 bs).1≠0 then _ else _:Int×Dm.Ds).2)∨(_∧_=(if (Dm.write st 1 bs).1≠0 then _ else _:Int×Dm.Ds).1∧aY q F w6 W2 (if (Dm.write st 1 bs).1≠0 then _ else _:Int×Dm.Ds).2)
   rw[if_neg (by simp[e1])]
   rcases e2 with e2|e2
   ·rw[if_neg (by simp[e2])]
    exact .inr ⟨e2,rfl,J⟩
   ·rw[if_pos (by simp[e2])]
    exact .inl ⟨by rw[e2];decide,e2,J⟩
  ·rw[if_pos (by simp[e1])]
   exact .inl ⟨by rw[e1];decide,e1,⟨F1,k1,k2,k3⟩⟩
 rw[HEX.out]at RUN
 simp only at RUN
 have HO:=hide (rQ (w4.heap.size+1) 2 _ w6 _ rfl (by omega) P6 RUN)
 have e5p:w5.cell? ⟨p,0,none⟩=some (.pointer (some ⟨q,0,none⟩)):=ai ((b5.block p (by omega)).trans ((mR.block p (by omega)).trans ((b02.block p hpl).trans hb))) 0 rfl
 have e5s:w5.cell? ⟨w.heap.size,0,none⟩=some (.pointer (some ⟨p,0,none⟩)):=ai ((b5.block _ (by omega)).trans ((mR.block _ (by omega)).trans p1)) 0 rfl
 have y6:=(tu.block p hpl).trans hb
 have t6:=(b26.block _ (by omega)).trans p1
 have u6:=(b26.block _ (by omega)).trans p2
 have FX:Hid ((p<w6.heap.size∧w.heap.size+1<w6.heap.size)∧(w6.heap[p]? =some (.cells (eD q off y vw en vr vs) 56 (0,0))∧w6.heap[w.heap.size]? =some (.cells #[.pointer (some ⟨p,0,none⟩)] 22 (0,0))∧w6.heap[w.heap.size+1]? =some (.cells #[.int .i64 x.e,.int .u8 x.r,.int .i64 x.a,.int .u8 x.p,.int .i64 x.f,.int .i64 x.b] 35 (0,0)))∧Below w.heap.size w w6):=hide ⟨⟨by omega,by omega⟩,⟨y6,t6,u6⟩,tu⟩
 clear RUN C1 C2 e1 e2 hs2 hcn hfl o6 o4 P5 P6 p1 p2 b02 b3 b4 mR b26 tu y6 t6 u6 hb hm h hs X0 B3 s6
 go_wp2_with fail
 refine HO.out.mono ?_
 rintro E W ⟨e,rfl,rfl,F1,k1,k2,k3⟩
 obtain⟨⟨l1,l2⟩,⟨y6,t6,u6⟩,tu⟩:=FX.out
 have y7:=(k2.block p l1 hpF).trans y6
 have t7:=(k2.block w.heap.size (by omega) fun e=>by have:=hF _ e;omega).trans t6
 have u7:=(k2.block (w.heap.size+1) l2 fun e=>by have:=hF _ e;omega).trans u6
 have hz:=tu.size
 have o7:Out F w W:=(Out.of_below tu).trans k2 fun g hg=>.inl hg
 have n7:∀g,F1 g→F g∨w.heap.size≤g:=fun g hg=>(k3 g hg).imp id fun e=>by omega
 by_cases he:e=0
 ·subst he
  obtain⟨Z,hZ,PZ,gZ,fr⟩:=afe y7 x
  obtain⟨_,_,q2,q3,q4,q5,q6,q7,_⟩:=l9 y7
  have f2:=fr 2;have f3:=fr 3;have f4:=fr 4;have f5:=fr 5;have f6:=fr 6;have f7:=fr 7
  have s7:=ai t7 0 rfl
  obtain⟨r0,r1,r2,r3,r4,r5⟩:=aN u7
  have hFp:¬F1 p:=fun e=>by
   rcases n7 p e with e|e
   ·exact hpF e
   ·omega
  have oZ:Out (fun g=>g=p) W Z:=Out.aV gZ fun i hi=>by simpa using hi.symm
  have R:Hid (∃F',Pk q F' Z d'∧Z.heap[p]? =some (.cells (eD q off x vw en vr vs) 56 (0,0))∧Out (fun g=>F g∨g=p) w Z∧∀g,F' g→F g∨w.heap.size≤g):=hide ⟨F1,k1.agree fun g hg=>oZ.block g (k1.lt g hg) fun e=>hFp (e▸hg),PZ,(Out.mono (G:=fun g=>F g∨g=p) o7 fun g hg=>Or.inl (Or.inl hg)).trans oZ fun g hg=>Or.inl (Or.inr hg),n7⟩
  clear k1 k2 k3 y6 t6 u6 y7 t7 u7 tu o7 n7 gZ PZ fr oZ hFp HO FX HH hF hpF
  go_wp2
  go_ret
  exact⟨rfl,R.out⟩
 ·have he':(e==0)=false:=by simpa using he
  have R:Hid (∃F',Pk q F' W d'∧W.heap[p]? =some (.cells (eD q off y vw en vr vs) 56 (0,0))∧Out (fun g=>F g∨g=p) w W∧∀g,F' g→F g∨w.heap.size≤g):=hide ⟨F1,k1,y7,Out.mono (G:=fun g=>F g∨g=p) o7 fun g hg=>Or.inl (Or.inl hg),n7⟩
  clear k1 k2 k3 y6 t6 u6 y7 t7 u7 tu o7 n7 HO FX HH hF hpF
  go_wp2
  go_ret
  exact⟨rfl,R.out⟩
end Go.Proofs.YtjemlgdkjilnoaaGreatDoor
