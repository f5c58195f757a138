/- Texts of one layer, one behind the other. -/
import Derived.Test.YtajlhdmnincehaaGreatDoorH2
import Derived.Test.YtajlhdmnincehaaGreatDoorH13
import Derived.Test.YtajlhdmnincehaaGreatDoorH25
import Derived.Test.YtajlhdmnincehaaGreatDoorH10
import Derived.Test.YtajlhdmnincehaaGreatDoorZRqe
import Derived.Test.YtajlhdmnincehaaGreatDoorH6
import Derived.Test.YtajlhdmnincehaaGreatDoorM3
import Derived.Test.YtajlhdmnincehaaGreatDoorH18
import Derived.Test.YtajlhdmnincehaaGreatDoorH22
/- The program's restart (layer 21): the outline of a state. -/
namespace Go.Proofs.YtajlhdmnincehaaGreatDoor
open Go.RowKit
set_option linter.unusedVariables false

set_option maxRecDepth 20000 in
set_option maxHeartbeats 4000000 in
theorem outline_any (p q pw pr : Nat) (F F' : Nat → Prop) (w : World) (off : Bool) (x : Pm.Pg) (en : Int) (vs : Value) (sw : Wl.Ws) (sr : Rl.Rs) (hb : w.heap[p]? = some (.cells (stC q off x (.pointer (some ⟨pw, 0, none⟩)) en (.pointer (some ⟨pr, 0, none⟩)) vs) 107 (0, 0))) (h1 : WW pw q F w sw) (h2 : RW pr q F' w sr) :
    Calls Tryz.prog 76 #[.pointer (some ⟨p, 0, none⟩)] w fun E w' => E = .returned (.agg (olC x (Cm.lastE 0 sw.l) en (Cm.lastN 0 sr.l) p)) ∧ Below w.heap.size w w' := by
  have hmf : ∀ (fn : Fn) (first cap : Array Value) (w : World), (Instr.makeFunc fn first cap).run Tryz.prog w = .ok (.func fn first cap) w := fun _ _ _ _ => rfl
  have hsf : ∀ (a : Addr) (fn : Fn) (first cap : Array Value) (w : World), (store a (.func fn first cap)).run Tryz.prog w = stored Tryz.prog w a (.func fn first cap) .plain := fun a fn first cap w => run_store _ w a _ _ rfl
  have hpl := blk_lt hb
  obtain ⟨w1, hw1, s1, b1, P1⟩ := blk_step w #[.int .i64 0, .int .u8 0, .int .i64 0, .int .u8 0, .int .i64 0, .int .i64 0, .int .i64 0, .int .i64 0, .int .i64 0, .nilFunc] 122
  obtain ⟨K, hK⟩ : ∃ K : World → Prop, K = fun W => Hid (W.heap[p]? = w.heap[p]? ∧ W.heap[w.heap.size]? = some (.cells #[.int .i64 0, .int .u8 0, .int .i64 0, .int .u8 0, .int .i64 0, .int .i64 0, .int .i64 0, .int .i64 0, .int .i64 0, .nilFunc] 122 (0, 0)) ∧ Below w.heap.size w W) := ⟨_, rfl⟩
  have HE : Hid (∀ W, K W → Calls Tryz.prog 96 #[.pointer (some ⟨pw, 0, none⟩)] W fun E w' => E = .returned (.int .i64 (Cm.lastE 0 sw.l)) ∧ K w') := hide fun W k => by
    subst hK
    refine (wepoch_any pw q F W sw (h1.below k.out.2.2)).mono ?_
    rintro E w' ⟨rfl, m, rfl⟩
    exact ⟨rfl, hide ⟨k.out.1, k.out.2.1, below_drewN k.out.2.2 m⟩⟩
  have HR : Hid (∀ W, K W → Calls Tryz.prog 137 #[.pointer (some ⟨pr, 0, none⟩)] W fun E w' => E = .returned (.int .i64 (Cm.lastN 0 sr.l)) ∧ K w') := hide fun W k => by
    subst hK
    refine (hrend_any pr q F' W sr (h2.below k.out.2.2)).mono ?_
    rintro E w' ⟨rfl, rfl⟩
    exact ⟨rfl, k⟩
  generalize Cm.lastE 0 sw.l = ep at *
  generalize Cm.lastN 0 sr.l = rn at *
  obtain ⟨SS, hSS⟩ : ∃ SS : World → Prop, SS = (fun W => W.cell? ⟨p, 2, none⟩ = some (.int .i64 x.e) ∧ W.cell? ⟨p, 3, none⟩ = some (.int .u8 x.r) ∧ W.cell? ⟨p, 4, none⟩ = some (.int .i64 x.a) ∧ W.cell? ⟨p, 5, none⟩ = some (.int .u8 x.p) ∧ W.cell? ⟨p, 6, none⟩ = some (.int .i64 x.f) ∧ W.cell? ⟨p, 7, none⟩ = some (.int .i64 x.b) ∧ W.cell? ⟨p, 8, none⟩ = some (.pointer (some ⟨pw, 0, none⟩)) ∧ W.cell? ⟨p, 9, none⟩ = some (.int .i64 en) ∧ W.cell? ⟨p, 11, none⟩ = some (.pointer (some ⟨pr, 0, none⟩))) := ⟨_, rfl⟩
  have sB : ∀ W, W.heap[p]? = w.heap[p]? → SS W := fun W k => by
    subst hSS
    obtain ⟨c0, _, c2, c3, c4, c5, c6, c7, c8, c9, _, c11, _⟩ := sta_of (k.trans hb)
    exact ⟨c2, c3, c4, c5, c6, c7, c8, c9, c11⟩
  have KS : Hid (∀ W, K W → SS W) := hide fun W k => by
    subst hK
    exact sB W k.out.1
  have PUT : Hid (∀ W V, W.heap[w.heap.size]? = some (.cells #[.int .i64 0, .int .u8 0, .int .i64 0, .int .u8 0, .int .i64 0, .int .i64 0, .int .i64 0, .int .i64 0, .int .i64 0, .nilFunc] 122 (0, 0)) → Below w.heap.size w W → W.grownBy V (some w.heap.size) → SS V ∧ Below w.heap.size w V) := hide fun W V k1 k2 k3 => by
    have hs := k2.size
    have b := below_put k2 k3 (Nat.le_refl _) (by omega)
    exact ⟨sB V (b.block p hpl), b⟩
  obtain ⟨W0, hW0⟩ : ∃ W, w1.drew = W := ⟨_, rfl⟩
  have K0 : K W0 := by
    subst hK
    rw [← hW0]
    exact hide ⟨b1.block p hpl, P1, b1.drew⟩
  subst hK hSS
  clear h1 h2 hb P1 b1 s1 sB
  go_enter Tryz.func76, Tryz.ntmps76
  go_wp2_with fail
  refine region_any (ops := (regOf 1 Tryz.f76)) (S := fun W => W.cell? ⟨p, 2, none⟩ = some (.int .i64 x.e) ∧ W.cell? ⟨p, 3, none⟩ = some (.int .u8 x.r) ∧ W.cell? ⟨p, 4, none⟩ = some (.int .i64 x.a) ∧ W.cell? ⟨p, 5, none⟩ = some (.int .u8 x.p) ∧ W.cell? ⟨p, 6, none⟩ = some (.int .i64 x.f) ∧ W.cell? ⟨p, 7, none⟩ = some (.int .i64 x.b) ∧ W.cell? ⟨p, 8, none⟩ = some (.pointer (some ⟨pw, 0, none⟩)) ∧ W.cell? ⟨p, 9, none⟩ = some (.int .i64 en) ∧ W.cell? ⟨p, 11, none⟩ = some (.pointer (some ⟨pr, 0, none⟩))) (by kernel_rfl) wqa_size ?_
  rw [wqa_new, hW0]
  refine any_take (v := ?_) wqa_t0_0 (by kernel_rfl) (fun _ _ _ _ _ h => h) (KS.out _ K0) rfl rfl (by rfl) ?_ ?_
  rotate_left 1
  · intro w hS
    (try dsimp only at hS)
    go_simp
    all_goals with_reducible rfl
  simp only [Act.put, List.setIfInBounds_toArray, List.set_cons_zero, List.set_cons_succ]
  refine any_take (v := ?_) wqa_t1_1 (by kernel_rfl) (fun _ _ _ _ _ h => h) (KS.out _ K0) rfl rfl (by rfl) ?_ ?_
  rotate_left 1
  · intro w hS
    (try dsimp only at hS)
    go_simp
    all_goals with_reducible rfl
  simp only [Act.put, List.setIfInBounds_toArray, List.set_cons_zero, List.set_cons_succ]
  refine any_take (v := ?_) wqa_t3_2 (by kernel_rfl) (fun _ _ _ _ _ h => h) (KS.out _ K0) rfl rfl (by rfl) ?_ ?_
  rotate_left 1
  · intro w hS
    (try dsimp only at hS)
    go_simp
    all_goals with_reducible rfl
  simp only [Act.put, List.setIfInBounds_toArray, List.set_cons_zero, List.set_cons_succ]
  refine any_take (v := ?_) wqa_t7_3 (by kernel_rfl) (fun _ _ _ _ _ h => h) (KS.out _ K0) rfl rfl (by rfl) ?_ ?_
  rotate_left 1
  · intro w hS
    (try dsimp only at hS)
    go_simp
    all_goals with_reducible rfl
  simp only [Act.put, List.setIfInBounds_toArray, List.set_cons_zero, List.set_cons_succ]
  refine any_take (v := ?_) wqa_t15_4 (by kernel_rfl) (fun _ _ _ _ _ h => h) (KS.out _ K0) rfl rfl (by rfl) ?_ ?_
  rotate_left 1
  · intro w hS
    (try dsimp only at hS)
    go_simp
    all_goals with_reducible rfl
  simp only [Act.put, List.setIfInBounds_toArray, List.set_cons_zero, List.set_cons_succ]
  refine any_take (v := ?_) wqa_t31_5 (by kernel_rfl) (fun _ _ _ _ _ h => h) (KS.out _ K0) rfl rfl (by rfl) ?_ ?_
  rotate_left 1
  · intro w hS
    (try dsimp only at hS)
    go_simp
    all_goals with_reducible rfl
  simp only [Act.put, List.setIfInBounds_toArray, List.set_cons_zero, List.set_cons_succ]
  refine any_take (v := ?_) wqa_t63_6 (by kernel_rfl) (fun _ _ _ _ _ h => h) (KS.out _ K0) rfl rfl (by rfl) ?_ ?_
  rotate_left 1
  · intro w hS
    (try dsimp only at hS)
    go_simp
    all_goals with_reducible rfl
  simp only [Act.put, List.setIfInBounds_toArray, List.set_cons_zero, List.set_cons_succ]
  refine any_take (v := ?_) wqa_t127_7 (by kernel_rfl) (fun _ _ _ _ _ h => h) (KS.out _ K0) rfl rfl (by rfl) ?_ ?_
  rotate_left 1
  · intro w hS
    (try dsimp only at hS)
    go_simp
    all_goals with_reducible rfl
  simp only [Act.put, List.setIfInBounds_toArray, List.set_cons_zero, List.set_cons_succ]
  refine any_take (v := ?_) wqa_t255_8 (by kernel_rfl) (fun _ _ _ _ _ h => h) (KS.out _ K0) rfl rfl (by rfl) ?_ ?_
  rotate_left 1
  · intro w hS
    (try dsimp only at hS)
    go_simp
    all_goals with_reducible rfl
  simp only [Act.put, List.setIfInBounds_toArray, List.set_cons_zero, List.set_cons_succ]
  refine any_take (v := ?_) wqa_t511_9 (by kernel_rfl) (fun _ _ _ _ _ h => h) (KS.out _ K0) rfl rfl (by rfl) ?_ ?_
  rotate_left 1
  · intro w hS
    (try dsimp only at hS)
    go_simp
    all_goals with_reducible rfl
  simp only [Act.put, List.setIfInBounds_toArray, List.set_cons_zero, List.set_cons_succ]
  refine any_take (v := ?_) wqa_t1023_11 (by kernel_rfl) (fun _ _ _ _ _ h => h) (KS.out _ K0) rfl rfl (by rfl) ?_ ?_
  rotate_left 1
  · intro w hS
    (try dsimp only at hS)
    go_simp
    all_goals with_reducible rfl
  simp only [Act.put, List.setIfInBounds_toArray, List.set_cons_zero, List.set_cons_succ]
  refine any_take (v := ?_) wqa_t3071_12 (by kernel_rfl) (fun _ _ _ _ _ h => h) (KS.out _ K0) rfl rfl (by rfl) ?_ ?_
  rotate_left 1
  · intro w hS
    (try dsimp only at hS)
    go_simp
    all_goals with_reducible rfl
  simp only [Act.put, List.setIfInBounds_toArray, List.set_cons_zero, List.set_cons_succ]
  refine any_take (v := ?_) wqa_t7167_13 (by kernel_rfl) (fun _ _ _ _ _ h => h) (KS.out _ K0) rfl rfl (by rfl) ?_ ?_
  rotate_left 1
  · intro w hS
    (try dsimp only at hS)
    go_simp
    all_goals with_reducible rfl
  simp only [Act.put, List.setIfInBounds_toArray, List.set_cons_zero, List.set_cons_succ]
  refine any_take (v := ?_) wqa_t15359_14 (by kernel_rfl) (fun _ _ _ _ _ h => h) (KS.out _ K0) rfl rfl (by rfl) ?_ ?_
  rotate_left 1
  · intro w hS
    (try dsimp only at hS)
    go_simp
    all_goals with_reducible rfl
  simp only [Act.put, List.setIfInBounds_toArray, List.set_cons_zero, List.set_cons_succ]
  refine any_take (v := ?_) wqa_t31743_15 (by kernel_rfl) (fun _ _ _ _ _ h => h) (KS.out _ K0) rfl rfl (by rfl) ?_ ?_
  rotate_left 1
  · intro w hS
    (try dsimp only at hS)
    go_simp
    all_goals with_reducible rfl
  simp only [Act.put, List.setIfInBounds_toArray, List.set_cons_zero, List.set_cons_succ]
  refine any_take (v := ?_) wqa_t64511_16 (by kernel_rfl) (fun _ _ _ _ _ h => h) (KS.out _ K0) rfl rfl (by rfl) ?_ ?_
  rotate_left 1
  · intro w hS
    (try dsimp only at hS)
    go_simp
    all_goals with_reducible rfl
  simp only [Act.put, List.setIfInBounds_toArray, List.set_cons_zero, List.set_cons_succ]
  refine any_take (v := ?_) wqa_t130047_17 (by kernel_rfl) (fun _ _ _ _ _ h => h) (KS.out _ K0) rfl rfl (by rfl) ?_ ?_
  rotate_left 1
  · intro w hS
    (try dsimp only at hS)
    go_simp
    all_goals with_reducible rfl
  simp only [Act.put, List.setIfInBounds_toArray, List.set_cons_zero, List.set_cons_succ]
  refine any_take (v := ?_) wqa_t261119_18 (by kernel_rfl) (fun _ _ _ _ _ h => h) (KS.out _ K0) rfl rfl (by rfl) ?_ ?_
  rotate_left 1
  · intro w hS
    (try dsimp only at hS)
    go_simp
    all_goals with_reducible rfl
  simp only [Act.put, List.setIfInBounds_toArray, List.set_cons_zero, List.set_cons_succ]
  refine any_take (v := ?_) wqa_t523263_19 (by kernel_rfl) (fun _ _ _ _ _ h => h) (KS.out _ K0) rfl rfl (by rfl) ?_ ?_
  rotate_left 1
  · intro w hS
    (try dsimp only at hS)
    go_simp
    all_goals with_reducible rfl
  simp only [Act.put, List.setIfInBounds_toArray, List.set_cons_zero, List.set_cons_succ]
  refine any_take (v := ?_) wqa_t1047551_20 (by kernel_rfl) (fun _ _ _ _ _ h => h) (KS.out _ K0) rfl rfl (by rfl) ?_ ?_
  rotate_left 1
  · intro w hS
    (try dsimp only at hS)
    go_simp
    all_goals with_reducible rfl
  simp only [Act.put, List.setIfInBounds_toArray, List.set_cons_zero, List.set_cons_succ]
  refine any_take (v := ?_) wqa_t2096127_22 (by kernel_rfl) (fun _ _ _ _ _ h => h) (KS.out _ K0) rfl rfl (by rfl) ?_ ?_
  rotate_left 1
  · intro w hS
    (try dsimp only at hS)
    go_simp
    all_goals with_reducible rfl
  simp only [Act.put, List.setIfInBounds_toArray, List.set_cons_zero, List.set_cons_succ]
  refine any_take (v := ?_) wqa_t6290431_23 (by kernel_rfl) (fun _ _ _ _ _ h => h) (KS.out _ K0) rfl rfl (by rfl) ?_ ?_
  rotate_left 1
  · intro w hS
    (try dsimp only at hS)
    go_simp
    all_goals with_reducible rfl
  simp only [Act.put, List.setIfInBounds_toArray, List.set_cons_zero, List.set_cons_succ]
  refine any_take (v := ?_) wqa_t14679039_24 (by kernel_rfl) (fun _ _ _ _ _ h => h) (KS.out _ K0) rfl rfl (by rfl) ?_ ?_
  rotate_left 1
  · intro w hS
    (try dsimp only at hS)
    go_simp
    all_goals with_reducible rfl
  simp only [Act.put, List.setIfInBounds_toArray, List.set_cons_zero, List.set_cons_succ]
  refine any_two wqa_r31456255 ?_ ?_
  · refine any_op rfl (by rfl) (fun K hK => ?_)
    go_simp
    refine (HE.out _ K0).mono ?_
    rintro E U1 ⟨rfl, k1⟩
    go_wp2_with fail
    refine hK.out _ _ (KS.out _ k1) ?_
    clear hK K
    try simp only [Act.put, List.setIfInBounds_toArray, List.set_cons_zero, List.set_cons_succ]
    refine any_two wqa_r31457279 ?_ ?_
    · refine any_op rfl (by rfl) (fun K hK => ?_)
      go_simp
      refine (HR.out _ k1).mono ?_
      rintro E U2 ⟨rfl, k2⟩
      go_wp2_with fail
      refine hK.out _ _ (KS.out _ k2) ?_
      clear hK K
      try simp only [Act.put, List.setIfInBounds_toArray, List.set_cons_zero, List.set_cons_succ]
      refine any_one wqa_r33554431 ?_
      refine any_op rfl (by rfl) (fun K hK => ?_)
      go_simp
      go_wp2_with fail
      refine hK.out _ _ (KS.out _ k2) ?_
      clear hK K
      try simp only [Act.put, List.setIfInBounds_toArray, List.set_cons_zero, List.set_cons_succ]
      refine any_take (v := ?_) wqa_t67108863_26 (by kernel_rfl) (fun _ _ _ _ _ h => h) (KS.out _ k2) rfl rfl (by rfl) ?_ ?_
      rotate_left 1
      · intro w hS
        (try dsimp only at hS)
        go_simp
        all_goals with_reducible rfl
      simp only [Act.put, List.setIfInBounds_toArray, List.set_cons_zero, List.set_cons_succ]
      refine any_one wqa_r134217727 ?_
      obtain ⟨pb, bb⟩ := k2.out.2
      obtain ⟨V, hV, bV, gV, ⟨a0, a1, a2, a3, a4, a5, a6, a7, a8, a9⟩, fr, ⟨z0, z1, z2, z3, z4, z5, z6, z7, z8, z9⟩⟩ := put10 pb (.int .i64 x.e) (.int .u8 x.r) (.int .i64 x.a) (.int .u8 x.p) (.int .i64 x.f) (.int .i64 x.b) (.int .i64 ep) (.int .i64 en) (.int .i64 rn) (.func (.func 138) #[.pointer (some ⟨p, 0, none⟩)] #[])
      have f0 := fr 0; have f1 := fr 1; have f2 := fr 2; have f3 := fr 3; have f4 := fr 4; have f5 := fr 5; have f6 := fr 6; have f7 := fr 7; have f8 := fr 8; have f9 := fr 9
      have SV := hide (PUT.out _ _ pb bb gV)
      clear bV gV fr pb bb
      refine any_op rfl (by rfl) (fun K hK => ?_)
      go_simp
      go_wp2_with fail
      refine hK.out _ _ SV.out.1 ?_
      clear hK K
      try simp only [Act.put, List.setIfInBounds_toArray, List.set_cons_zero, List.set_cons_succ]
      refine any_done wqa_end ?_
      clear HE HR KS PUT
      go_wp2
      refine bodyPost_ret (v := .agg (olC x ep en rn p)) (by simp [results, Tryz.results76, go_sem, z0, z1, z2, z3, z4, z5, z6, z7, z8, z9, olC]) rfl ?_
      exact ⟨rfl, SV.out.2⟩
    · refine any_op rfl (by rfl) (fun K hK => ?_)
      go_simp
      go_wp2_with fail
      refine hK.out _ _ (KS.out _ k1) ?_
      clear hK K
      try simp only [Act.put, List.setIfInBounds_toArray, List.set_cons_zero, List.set_cons_succ]
      refine any_one wqa_r65011711 ?_
      refine any_op rfl (by rfl) (fun K hK => ?_)
      go_simp
      refine (HR.out _ k1).mono ?_
      rintro E U6 ⟨rfl, k6⟩
      go_wp2_with fail
      refine hK.out _ _ (KS.out _ k6) ?_
      clear hK K
      try simp only [Act.put, List.setIfInBounds_toArray, List.set_cons_zero, List.set_cons_succ]
      refine any_take (v := ?_) wqa_t67108863_26 (by kernel_rfl) (fun _ _ _ _ _ h => h) (KS.out _ k6) rfl rfl (by rfl) ?_ ?_
      rotate_left 1
      · intro w hS
        (try dsimp only at hS)
        go_simp
        all_goals with_reducible rfl
      simp only [Act.put, List.setIfInBounds_toArray, List.set_cons_zero, List.set_cons_succ]
      refine any_one wqa_r134217727 ?_
      obtain ⟨pb, bb⟩ := k6.out.2
      obtain ⟨V, hV, bV, gV, ⟨a0, a1, a2, a3, a4, a5, a6, a7, a8, a9⟩, fr, ⟨z0, z1, z2, z3, z4, z5, z6, z7, z8, z9⟩⟩ := put10 pb (.int .i64 x.e) (.int .u8 x.r) (.int .i64 x.a) (.int .u8 x.p) (.int .i64 x.f) (.int .i64 x.b) (.int .i64 ep) (.int .i64 en) (.int .i64 rn) (.func (.func 138) #[.pointer (some ⟨p, 0, none⟩)] #[])
      have f0 := fr 0; have f1 := fr 1; have f2 := fr 2; have f3 := fr 3; have f4 := fr 4; have f5 := fr 5; have f6 := fr 6; have f7 := fr 7; have f8 := fr 8; have f9 := fr 9
      have SV := hide (PUT.out _ _ pb bb gV)
      clear bV gV fr pb bb
      refine any_op rfl (by rfl) (fun K hK => ?_)
      go_simp
      go_wp2_with fail
      refine hK.out _ _ SV.out.1 ?_
      clear hK K
      try simp only [Act.put, List.setIfInBounds_toArray, List.set_cons_zero, List.set_cons_succ]
      refine any_done wqa_end ?_
      clear HE HR KS PUT
      go_wp2
      refine bodyPost_ret (v := .agg (olC x ep en rn p)) (by simp [results, Tryz.results76, go_sem, z0, z1, z2, z3, z4, z5, z6, z7, z8, z9, olC]) rfl ?_
      exact ⟨rfl, SV.out.2⟩
  · refine any_op rfl (by rfl) (fun K hK => ?_)
    go_simp
    go_wp2_with fail
    refine hK.out _ _ (KS.out _ K0) ?_
    clear hK K
    try simp only [Act.put, List.setIfInBounds_toArray, List.set_cons_zero, List.set_cons_succ]
    refine any_one wqa_r65010687 ?_
    refine any_op rfl (by rfl) (fun K hK => ?_)
    go_simp
    refine (HE.out _ K0).mono ?_
    rintro E U9 ⟨rfl, k9⟩
    go_wp2_with fail
    refine hK.out _ _ (KS.out _ k9) ?_
    clear hK K
    try simp only [Act.put, List.setIfInBounds_toArray, List.set_cons_zero, List.set_cons_succ]
    refine any_one wqa_r65011711 ?_
    refine any_op rfl (by rfl) (fun K hK => ?_)
    go_simp
    refine (HR.out _ k9).mono ?_
    rintro E U10 ⟨rfl, k10⟩
    go_wp2_with fail
    refine hK.out _ _ (KS.out _ k10) ?_
    clear hK K
    try simp only [Act.put, List.setIfInBounds_toArray, List.set_cons_zero, List.set_cons_succ]
    refine any_take (v := ?_) wqa_t67108863_26 (by kernel_rfl) (fun _ _ _ _ _ h => h) (KS.out _ k10) rfl rfl (by rfl) ?_ ?_
    rotate_left 1
    · intro w hS
      (try dsimp only at hS)
      go_simp
      all_goals with_reducible rfl
    simp only [Act.put, List.setIfInBounds_toArray, List.set_cons_zero, List.set_cons_succ]
    refine any_one wqa_r134217727 ?_
    obtain ⟨pb, bb⟩ := k10.out.2
    obtain ⟨V, hV, bV, gV, ⟨a0, a1, a2, a3, a4, a5, a6, a7, a8, a9⟩, fr, ⟨z0, z1, z2, z3, z4, z5, z6, z7, z8, z9⟩⟩ := put10 pb (.int .i64 x.e) (.int .u8 x.r) (.int .i64 x.a) (.int .u8 x.p) (.int .i64 x.f) (.int .i64 x.b) (.int .i64 ep) (.int .i64 en) (.int .i64 rn) (.func (.func 138) #[.pointer (some ⟨p, 0, none⟩)] #[])
    have f0 := fr 0; have f1 := fr 1; have f2 := fr 2; have f3 := fr 3; have f4 := fr 4; have f5 := fr 5; have f6 := fr 6; have f7 := fr 7; have f8 := fr 8; have f9 := fr 9
    have SV := hide (PUT.out _ _ pb bb gV)
    clear bV gV fr pb bb
    refine any_op rfl (by rfl) (fun K hK => ?_)
    go_simp
    go_wp2_with fail
    refine hK.out _ _ SV.out.1 ?_
    clear hK K
    try simp only [Act.put, List.setIfInBounds_toArray, List.set_cons_zero, List.set_cons_succ]
    refine any_done wqa_end ?_
    clear HE HR KS PUT
    go_wp2
    refine bodyPost_ret (v := .agg (olC x ep en rn p)) (by simp [results, Tryz.results76, go_sem, z0, z1, z2, z3, z4, z5, z6, z7, z8, z9, olC]) rfl ?_
    exact ⟨rfl, SV.out.2⟩

end Go.Proofs.YtajlhdmnincehaaGreatDoor

/- The program's restart (layer 21): would a disk be sound behind a change; the changes. -/
namespace Go.Proofs.YtajlhdmnincehaaGreatDoor
open Go.RowKit
set_option linter.unusedVariables false

/-- A change of an outline: what a function value does to it. -/
def Chg (w : World) (p : Nat) (f : FuncId) (cap : Array Value) (x : Pm.Pg) (ep en rn : Int) (x' : Pm.Pg) (ep' en' rn' : Int) : Prop :=
  ∀ W g, Below w.heap.size w W → w.heap.size ≤ g → W.heap[g]? = some (.cells (olC x ep en rn p) 122 (0, 0)) → Calls Tryz.prog f (#[.pointer (some ⟨g, 0, none⟩)] ++ cap) W fun E w' => E = .returned (.tuple #[]) ∧ w'.heap[g]? = some (.cells (olC x' ep' en' rn' p) 122 (0, 0)) ∧ Out (fun i => i = g) W w'

set_option maxRecDepth 20000 in
set_option maxHeartbeats 4000000 in
theorem sound_any (p q pw pr : Nat) (F F' : Nat → Prop) (w : World) (off : Bool) (x : Pm.Pg) (en : Int) (vs : Value) (sw : Wl.Ws) (sr : Rl.Rs) (hb : w.heap[p]? = some (.cells (stC q off x (.pointer (some ⟨pw, 0, none⟩)) en (.pointer (some ⟨pr, 0, none⟩)) vs) 107 (0, 0))) (h1 : WW pw q F w sw) (h2 : RW pr q F' w sr)
    (f : FuncId) (cap : Array Value) (eg : ∀ args w, (callFunc f args).run Tryz.prog w = .ok (.enter f args) w) (x' : Pm.Pg) (ep' en' rn' b : Int) (hch : Chg w p f cap x (Cm.lastE 0 sw.l) en (Cm.lastN 0 sr.l) x' ep' en' rn')
    (hS : (x'.p = 2 ∨ x'.p = 3 ∨ x'.p = 4) → ∀ W, Below w.heap.size w W → Calls Tryz.prog 138 #[.pointer (some ⟨p, 0, none⟩)] W fun E w' => E = .returned (.int .i64 b) ∧ Below W.heap.size W w') :
    Calls Tryz.prog 98 #[.pointer (some ⟨p, 0, none⟩), .func (.func f) #[] cap] w fun E w' => E = .returned (.int .i64 (if chO x' ep' en' rn' b = true then 0 else 5)) ∧ Below w.heap.size w w' := by
  have hsf : ∀ (a : Addr) (fn : Fn) (first cap : Array Value) (w : World), (store a (.func fn first cap)).run Tryz.prog w = stored Tryz.prog w a (.func fn first cap) .plain := fun a fn first cap w => run_store _ w a _ _ rfl
  have OL := hide (outline_any p q pw pr F F' w off x en vs sw sr hb h1 h2)
  have CH := hide hch
  have HS := hide hS
  generalize Cm.lastE 0 sw.l = ep at *
  generalize Cm.lastN 0 sr.l = rn at *
  obtain ⟨r, hr⟩ : ∃ r, (if chO x' ep' en' rn' b = true then (0 : Int) else 5) = r := ⟨_, rfl⟩
  rw [hr]
  have HR := hide hr
  clear h1 h2 hb hch hS hr
  go_enter Tryz.func98, Tryz.ntmps98
  go_wp2_with fail
  refine OL.out.mono ?_
  rintro E w1 ⟨rfl, b1⟩
  unfold olC
  obtain ⟨w2, hw2, s2, b2, P2⟩ := blk_step w1 #[.int .i64 0, .int .u8 0, .int .i64 0, .int .u8 0, .int .i64 0, .int .i64 0, .int .i64 0, .int .i64 0, .int .i64 0, .nilFunc] 122
  obtain ⟨V, hV, bV, gV, ⟨a0, a1, a2, a3, a4, a5, a6, a7, a8, a9⟩, fr, ⟨z0, z1, z2, z3, z4, z5, z6, z7, z8, z9⟩⟩ := put10 P2 (.int .i64 x.e) (.int .u8 x.r) (.int .i64 x.a) (.int .u8 x.p) (.int .i64 x.f) (.int .i64 x.b) (.int .i64 ep) (.int .i64 en) (.int .i64 rn) (.func (.func 138) #[.pointer (some ⟨p, 0, none⟩)] #[])
  have f0 := fr 0; have f1 := fr 1; have f2 := fr 2; have f3 := fr 3; have f4 := fr 4; have f5 := fr 5; have f6 := fr 6; have f7 := fr 7; have f8 := fr 8; have f9 := fr 9
  have hs1 := b1.size
  have b12 := b1.trans (b2.mono hs1)
  have bvv := below_put b12 gV hs1 (by omega)
  have hlV : w1.heap.size < V.heap.size := blk_lt bV
  have C2 := hide (CH.out V w1.heap.size bvv hs1 bV)
  have BV := hide (And.intro bvv (And.intro hs1 hlV))
  clear OL CH b1 b2 b12 bvv hs1 hlV bV gV fr P2 s2
  go_wp2_with fail
  refine C2.out.mono ?_
  rintro E w3 ⟨rfl, P3, o3⟩
  unfold olC at P3
  obtain ⟨y0, y1, y2, y3, y4, y5, y6, y7, y8, y9⟩ := ten_of P3
  have b3 : Below w.heap.size w w3 := BV.out.1.trans (o3.below (fun g hg => by rw [hg]; exact BV.out.2.1) BV.out.1.size)
  have C3 := hide (rcheck_any p x' ep' en' rn' b w3 fun k W hW => HS.out k W (b3.trans (hW.mono b3.size)))
  rw [HR.out] at C3
  unfold olC at C3
  have B3 := hide b3
  clear C2 b3 o3 P3 HR HS z0 z1 z2 z3 z4 z5 z6 z7 z8 z9 a0 a1 a2 a3 a4 a5 a6 a7 a8 a9 f0 f1 f2 f3 f4 f5 f6 f7 f8 f9
  go_wp2_with fail
  refine C3.out.mono ?_
  rintro E w4 ⟨rfl, b4⟩
  have B4 := hide (B3.out.trans (b4.mono B3.out.size))
  clear C3 b4 B3
  go_wp2
  go_ret
  exact ⟨rfl, B4.out⟩



/-- One cell of an outline is written. -/
theorem ol_put {W : World} {g p : Nat} {x : Pm.Pg} {ep en rn : Int} (hP : W.heap[g]? = some (.cells (olC x ep en rn p) 122 (0, 0))) (u : Int) :
    (∃ V, W.setCell ⟨g, 6, none⟩ (.int .i64 u) = V ∧ V.heap[g]? = some (.cells (olC x u en rn p) 122 (0, 0)) ∧ Out (fun i => i = g) W V) ∧ (∃ V, W.setCell ⟨g, 7, none⟩ (.int .i64 u) = V ∧ V.heap[g]? = some (.cells (olC x ep u rn p) 122 (0, 0)) ∧ Out (fun i => i = g) W V) := by
  unfold olC at *
  exact ⟨⟨_, rfl, set_cells hP 6 _, Out.of_grown (grown_setCell W ⟨g, 6, none⟩ _) fun i hi => by simpa using hi.symm⟩, ⟨_, rfl, set_cells hP 7 _, Out.of_grown (grown_setCell W ⟨g, 7, none⟩ _) fun i hi => by simpa using hi.symm⟩⟩

theorem lastE_get : ∀ (l : List Cm.Cv) (ep : Int) (h : 0 < l.length), Cm.lastE ep l = (l[l.length - 1]).e
  | [c], _, _ => rfl
  | c :: d :: r, ep, _ => by
    have := lastE_get (d :: r) c.e (by simp)
    show Cm.lastE c.e (d :: r) = _
    rw [this]
    simp

set_option maxHeartbeats 1000000 in
theorem grow_any (g p : Nat) (x : Pm.Pg) (ep en rn : Int) (W : World) (v : Value) (rs : List Cw) (hP : W.heap[g]? = some (.cells (olC x ep en rn p) 122 (0, 0))) (hc : ∀ V, Out (fun i => i = g) W V → IsC V v rs) (h0 : 0 ≤ en ∧ en ≤ 1000000) (hl : rs.length ≤ 100) :
    Calls Tryz.prog 100 #[.pointer (some ⟨g, 0, none⟩), v] W fun E w' => E = .returned (.tuple #[]) ∧ w'.heap[g]? = some (.cells (olC x (Cm.lastE ep (cvs rs)) (en + rs.length) rn p) 122 (0, 0)) ∧ Out (fun i => i = g) W w' := by
  obtain ⟨V, hV, PV, oV⟩ := (ol_put hP (en + rs.length)).2
  obtain ⟨Z, hZ, PZ, oZ⟩ := (ol_put PV (Cm.lastE ep (cvs rs))).1
  have hI := hc V oV
  unfold olC at hP PV
  obtain ⟨c0, c1, c2, c3, c4, c5, c6, c7, c8, c9⟩ := ten_of hP
  obtain ⟨d0, d1, d2, d3, d4, d5, d6, d7, d8, d9⟩ := ten_of PV
  have f7 := blk_froz hP 7
  have f6 := blk_froz PV 6
  by_cases hn : rs.length = 0
  · obtain rfl : rs = [] := List.eq_nil_of_length_eq_zero hn
    obtain ⟨ao, cap, rfl⟩ : ∃ a k, v = .slice a 0 k := by
      rcases hI.1 with ⟨h, _⟩ | ⟨a, c, h, _⟩
      · exact ⟨_, _, h⟩
      · exact ⟨_, _, h⟩
    have R : Hid (V.heap[g]? = some (.cells (olC x (Cm.lastE ep (cvs [])) (en + ([] : List Cw).length) rn p) 122 (0, 0)) ∧ Out (fun i => i = g) W V) := hide ⟨PV, oV⟩
    simp only [List.length_nil, Int.ofNat_zero, Int.add_zero] at hV R ⊢
    clear hP PV oV PZ oZ hZ hI hc d0 d1 d2 d3 d4 d5 d6 d7 d8 d9
    go_enter Tryz.func100, Tryz.ntmps100
    go_wp2
    go_end0
    exact ⟨rfl, R.out⟩
  · have hp : 0 < rs.length := by omega
    obtain ⟨b1, o1, k1, rfl, _, hcell⟩ := isC_cells hI hp
    have hlast := (hcell (rs.length - 1) (rs[rs.length - 1]) (by simp)).1
    have he : Cm.lastE ep (cvs rs) = (rs[rs.length - 1]).e := by
      rw [lastE_get (cvs rs) ep (by unfold cvs; simpa using hp)]
      unfold cvs
      simp [Cw.c]
    rw [he] at hZ PZ ⊢
    generalize (rs[rs.length - 1]).e = le at *
    have R : Hid (Z.heap[g]? = some (.cells (olC x le (en + rs.length) rn p) 122 (0, 0)) ∧ Out (fun i => i = g) W Z) := hide ⟨PZ, oV.trans oZ fun i hi => .inl hi⟩
    clear hI hc hcell hP PV oV PZ oZ he
    obtain ⟨m, hm⟩ : ∃ m, rs.length = m + 1 := ⟨rs.length - 1, by omega⟩
    rw [hm] at hlast R hV hl d7 ⊢
    have hlast : V.cell? ⟨b1, o1 + m * 3, none⟩ = some (.int .i64 le) := hlast
    clear hp hn hm
    have hcs : ((m + 1 : Nat) : Int) = (m : Int) + 1 := by omega
    rw [hcs] at hV R d7 ⊢
    clear hcs
    have hm2 : IntKind.i64.wrap (en + ((m : Int) + 1)) = en + ((m : Int) + 1) := wrap_i64_small _ (by omega) (by omega)
    go_enter Tryz.func100, Tryz.ntmps100
    go_wp2
    go_end0
    exact ⟨rfl, R.out⟩

/-- Commits are added. -/
theorem chg_add (w : World) (p g3 : Nat) (x : Pm.Pg) (ep en rn : Int) (v : Value) (rs : List Cw) (h3 : w.heap[g3]? = some (.cells #[v] 25 (0, 0))) (hc : ∀ V, Below w.heap.size w V → IsC V v rs) (h0 : 0 ≤ en ∧ en ≤ 1000000) (hl : rs.length ≤ 100) : Chg w p 99 #[.pointer (some ⟨g3, 0, none⟩)] x ep en rn x (Cm.lastE ep (cvs rs)) (en + rs.length) rn := by
  intro W g hW hg hP
  show Calls _ _ #[.pointer (some ⟨g, 0, none⟩), .pointer (some ⟨g3, 0, none⟩)] _ _
  have d0 := blk_cell ((hW.block g3 (blk_lt h3)).trans h3) 0 rfl
  have GR := hide (grow_any g p x ep en rn W v rs hP (fun V hV => hc V (hW.trans (hV.below (fun i hi => by rw [hi]; exact hg) hW.size))) h0 hl)
  obtain ⟨ao, m, k, rfl⟩ : ∃ a n k, v = .slice a n k := by
    rcases (hc w (Below.refl _ _)).1 with ⟨h, _⟩ | ⟨a, c, h, _⟩
    · exact ⟨_, _, _, h⟩
    · exact ⟨_, _, _, h⟩
  clear hc h3 hP
  go_enter Tryz.func99, Tryz.ntmps99
  go_wp2_with fail
  refine GR.out.mono ?_
  rintro E w' ⟨rfl, X⟩
  have X := hide X
  clear GR
  go_wp2
  go_end0
  exact ⟨rfl, X.out⟩

end Go.Proofs.YtajlhdmnincehaaGreatDoor

/- The program's restart (layer 21): a page is written behind the pages; Set's steps. -/
namespace Go.Proofs.YtajlhdmnincehaaGreatDoor
open Go.RowKit
set_option linter.unusedVariables false

/-- Of a page that may be: the program's test is the document's. -/
theorem cho_snd {x : Pm.Pg} (h : Pm.Ok x) (l : List Cm.Cv) (rn b : Int) : chO x (Cm.lastE 0 l) l.length rn b = Rst.snd x l rn b := by
  obtain ⟨_, h⟩ := h
  rw [Bool.eq_iff_iff, Rst.snd_iff]
  generalize Cm.lastE 0 l = ep
  generalize (l.length : Int) = en
  unfold chO
  by_cases h4 : x.p = 4
  · rw [if_pos h4]
    simp only [Bool.and_eq_true, decide_eq_true_eq]
    omega
  · rw [if_neg h4]
    by_cases h3 : x.p = 3 ∨ x.p = 2
    · rw [if_pos h3]
      simp only [Bool.and_eq_true, decide_eq_true_eq]
      omega
    · rw [if_neg h3]
      by_cases h1 : x.p = 1
      · rw [if_pos h1]
        simp only [Bool.and_eq_true, decide_eq_true_eq]
        omega
      · rw [if_neg h1]
        simp only [Bool.and_eq_true, decide_eq_true_eq]
        omega



/-- One cell, made and written. -/
theorem box_one (w : World) (t : TypeId) (x a : Value) : ∃ V, (w.alloc (.cells #[x] t)).setCell ⟨w.heap.size, 0, none⟩ a = V ∧ w.alloc (.cells #[a] t) = V ∧ V.heap.size = w.heap.size + 1 ∧ Below w.heap.size w V ∧ V.heap[w.heap.size]? = some (.cells #[a] t (0, 0)) := by
  obtain ⟨V, h1, h2, h3, h4⟩ := blk_step w #[a] t
  refine ⟨V, ?_, h1, h2, h3, h4⟩
  rw [← h1]
  simp [go_sem]


end Go.Proofs.YtajlhdmnincehaaGreatDoor
