/- Texts of one layer, one behind the other. -/
import Derived.Test.YtofbnkeglhhnlaaGJ
import Derived.Test.YtofbnkeglhhnlaaG5
import Derived.Test.YtofbnkeglhhnlaaGK
import Derived.Test.YtofbnkeglhhnlaaRows
import Derived.ProofKit
import Derived.OpenShut
import Derived.ShutString
import Derived.ChangeOld
import Derived.Below
import Derived.SizedLaws
import Derived.Test.YtofbnkeglhhnlaaGI
/- TxnUndone: the walk. -/
namespace Go.Proofs.Ytofbnkeglhhnlaa
open Go.RowKit
open Bm (Ov)
set_option linter.unusedVariables false

theorem IsT.lt1 {w w1 : World} {b o n c : Nat} {l : List Tc} (h : IsT w (.slice (some ⟨b, o, none⟩) n c) l) (hb : Below w.heap.size w w1) {j : Nat} (hj : j < l.length) : b < w1.heap.size := by
  obtain ⟨b', o', c', hv, _, _, hlt, _⟩ := h.full (by omega)
  simp only [Value.slice.injEq, Option.some.injEq, Addr.mk.injEq] at hv
  obtain ⟨⟨rfl, _⟩, _⟩ := hv
  exact Nat.lt_of_lt_of_le hlt hb.size

set_option maxRecDepth 20000 in
set_option maxHeartbeats 16000000 in
theorem txnUndone_walk (v1 : Value) (l1 : List Tc) (v2 : Value) (l2 : List Tc) (v3 : Value) (l3 : List Tc) (w : World) (h1 : IsT w v1 l1) (hf1 : FitT l1) (hl1 : l1.length * 48 ≤ 140737488351232) (h2 : IsT w v2 l2) (hf2 : FitT l2) (hl2 : l2.length * 48 ≤ 140737488351232) (h3 : IsT w v3 l3) (hf3 : FitT l3) (hl3 : l3.length * 48 ≤ 140737488351232) :
    Calls Try.prog 7 #[v1, v2, v3] w fun e w' => e = .returned (.bool true) ∧ Below w.heap.size w w' := by
  have HQ1 := hide h1
  have HQ2 := hide h2
  have HQ3 := hide h3
  have HFQ1 := hide hf1
  have HFQ2 := hide hf2
  have HFQ3 := hide hf3
  obtain ⟨qa1, qc1, hv1, _, _⟩ := h1.1.shape
  obtain ⟨qa2, qc2, hv2, _, _⟩ := h2.1.shape
  obtain ⟨qa3, qc3, hv3, _, _⟩ := h3.1.shape
  subst hv1 hv2 hv3
  clear h1 h2 h3 hf1 hf2 hf3
  go_enter Try.func7, Try.ntmps7
  go_wp2_with fail
  refine (tlives_any w).mono ?_
  rintro E w1 ⟨rfl, b1⟩
  have B1 := hide b1
  clear b1
  by_cases k1 : 60 < l1.length
  · have k1' : (60 : Int) < l1.length := by omega
    go_wp2
    go_ret
    exact ⟨rfl, B1.out⟩
  have k1' : ¬ (60 : Int) < l1.length := by omega
  by_cases k2 : 60 < l2.length
  · have k2' : (60 : Int) < l2.length := by omega
    go_wp2
    go_ret
    exact ⟨rfl, B1.out⟩
  have k2' : ¬ (60 : Int) < l2.length := by omega
  by_cases k3 : 60 < l3.length
  · have k3' : (60 : Int) < l3.length := by omega
    go_wp2
    go_ret
    exact ⟨rfl, B1.out⟩
  have k3' : ¬ (60 : Int) < l3.length := by omega
  go_wp2_with fail
  refine (zbegin_any w1).mono ?_
  rintro E w2 ⟨p, F, rfl, h2, fb2, b2⟩
  have H2 := hide h2
  have FB2 := hide fb2
  have B2 := hide b2
  clear h2 fb2 b2
  go_wp2_with fail
  refine (zbegin_any w2).mono ?_
  rintro E w3 ⟨x, G, rfl, h3, gb3, b3⟩
  have T0 : Hid (DN w1 p x w3) := hide ⟨Tx.new, F, G, ⟨H2.out.below b3, h3, fun g hg e => by
    have m1 := H2.out.lt g hg
    have m2 := gb3 g e
    omega, FB2.out, fun g hg => Nat.le_trans B2.out.size (gb3 g hg), B2.out.trans (b3.mono B2.out.size)⟩, rfl⟩
  clear H2 FB2 B2 h3 gb3 b3
  go_wp2
  go_loopw [9] (fun iv wr => ∃ j : Nat, iv = .int .i64 j ∧ j ≤ l1.length ∧ Hid (DN w1 p x wr)) (fun iv _ => l1.length - (intOf iv).toNat)
  case atStart => exact ⟨0, rfl, by omega, T0⟩
  case round =>
    obtain ⟨j, rfl, hj, HP⟩ := hrel
    clear T0
    by_cases hlt : j < l1.length
    · obtain ⟨s, F1, G1, hT, hov⟩ := HP.out
      obtain ⟨qb, qo, qk, hvx, _, _, hqb, hcell⟩ := ((HQ1.out.below B1.out).below hT.bel).full (by omega)
      simp only [Value.slice.injEq, true_and] at hvx
      obtain ⟨rfl, rfl⟩ := hvx
      obtain ⟨a, ha⟩ : ∃ a, l1[j]? = some a := ⟨l1[j], by rw [List.getElem?_eq_getElem]⟩
      obtain ⟨d0, d1, d2, d3⟩ := hcell j a ha
      obtain ⟨hfk, hfv⟩ := HFQ1.out a (List.mem_of_getElem? ha)
      have hlt' : (j : Int) < l1.length := by omega
      have hj0 : (0 : Int) ≤ (j : Int) := by omega
      have hq1 : qb < w1.heap.size := HQ1.out.lt1 B1.out hlt
      have SX : Hid (∀ W, Below wr.heap.size wr W → (W.cell? ⟨qb, qo + j * 4 + 1, none⟩ = some (.string a.key) ∧ W.cell? ⟨qb, qo + j * 4 + 2, none⟩ = some (.string a.val))) := hide fun W hW => ⟨(hW.cell (p := ⟨qb, qo + j * 4 + 1, none⟩) hqb).trans d1, (hW.cell (p := ⟨qb, qo + j * 4 + 2, none⟩) hqb).trans d2⟩
      have SY : Hid (∀ W, Below w1.heap.size w1 W → (W.cell? ⟨qb, qo + j * 4 + 1, none⟩ = some (.string a.key) ∧ W.cell? ⟨qb, qo + j * 4 + 2, none⟩ = some (.string a.val))) := hide fun W hW => by
        have hb : W.heap[qb]? = wr.heap[qb]? := (hW.block qb hq1).trans (hT.bel.block qb hq1).symm
        exact ⟨(World.cell?_of_block hb).trans d1, (World.cell?_of_block hb).trans d2⟩
      have HF1 : Hid (∀ W, Below wr.heap.size wr W → Calls Try.prog 10 #[.pointer (some ⟨p, 0, none⟩), .string a.key, .string a.val] W fun E w' => E = .returned (.int .i64 (Tx.addE s ⟨true, a.key, a.val⟩)) ∧ ∃ F', PD w1 w' (Tx.add s ⟨true, a.key, a.val⟩) s p x F' G1 ∧ ((w'.cell? ⟨qb, qo + j * 4 + 1, none⟩ = some (.string a.key) ∧ w'.cell? ⟨qb, qo + j * 4 + 2, none⟩ = some (.string a.val)))) := hide fun W hW => by
        have hW' := hT.below hW
        refine (zput_any p F1 W s a.key a.val hW'.ps hfk hfv).mono ?_
        rintro E w' ⟨rfl, hS⟩
        obtain ⟨F', k1, o1⟩ := hW'.stepP hS
        exact ⟨rfl, F', k1, SY.out w' k1.bel⟩
      have HF2 : Hid (∀ W F', PD w1 W (Tx.add s ⟨true, a.key, a.val⟩) s p x F' G1 → Calls Try.prog 10 #[.pointer (some ⟨x, 0, none⟩), .string a.key, .string a.val] W fun E w' => E = .returned (.int .i64 (Tx.addE s ⟨true, a.key, a.val⟩)) ∧ DN w1 p x w' ∧ ((w'.cell? ⟨qb, qo + j * 4 + 1, none⟩ = some (.string a.key) ∧ w'.cell? ⟨qb, qo + j * 4 + 2, none⟩ = some (.string a.val)))) := hide fun W F' hW' => by
        refine (zput_any x G1 W s a.key a.val hW'.qs hfk hfv).mono ?_
        rintro E w' ⟨rfl, hS⟩
        obtain ⟨G', k1, o1⟩ := hW'.stepQ hS
        exact ⟨rfl, ⟨_, F', G', k1, Tx.add_ov hov _⟩, SY.out w' k1.bel⟩
      generalize Tx.addE s ⟨true, a.key, a.val⟩ = z at *
      generalize Tx.add s ⟨true, a.key, a.val⟩ = s2 at *
      have hzz : (z != z) = false := by simp
      obtain ⟨W0, hW0⟩ : ∃ y, wr.drew = y := ⟨_, rfl⟩
      have bel0 : Below wr.heap.size wr W0 := by rw [← hW0]; exact (Below.refl _ _).drew
      clear hT hov HP hcell ha hqb hq1 d0 d1 d2 d3 hfk hfv SY
      go_wp2_with fail
      refine region_any (ops := (regOf 9 Try.f7)) (S := fun W => W.cell? ⟨qb, qo + j * 4 + 1, none⟩ = some (.string a.key) ∧ W.cell? ⟨qb, qo + j * 4 + 2, none⟩ = some (.string a.val)) (by kernel_rfl) wze16_size ?_
      rw [wze16_new, hW0]
      refine any_take (v := ?_) wze16_t0_0 (by kernel_rfl) (fun _ _ _ _ _ h => h) (SX.out _ bel0) rfl rfl (by rfl) ?_ ?_
      rotate_left 1
      · intro w hS
        (try dsimp only at hS)
        go_simp
        all_goals with_reducible rfl
      simp only [Act.put, List.setIfInBounds_toArray, List.set_cons_zero, List.set_cons_succ]
      refine any_take (v := ?_) wze16_t1_1 (by kernel_rfl) (fun _ _ _ _ _ h => h) (SX.out _ bel0) rfl rfl (by rfl) ?_ ?_
      rotate_left 1
      · intro w hS
        (try dsimp only at hS)
        go_simp
        all_goals with_reducible rfl
      simp only [Act.put, List.setIfInBounds_toArray, List.set_cons_zero, List.set_cons_succ]
      refine any_take (v := ?_) wze16_t3_2 (by kernel_rfl) (fun _ _ _ _ _ h => h) (SX.out _ bel0) rfl rfl (by rfl) ?_ ?_
      rotate_left 1
      · intro w hS
        (try dsimp only at hS)
        go_simp
        all_goals with_reducible rfl
      simp only [Act.put, List.setIfInBounds_toArray, List.set_cons_zero, List.set_cons_succ]
      refine any_take (v := ?_) wze16_t7_3 (by kernel_rfl) (fun _ _ _ _ _ h => h) (SX.out _ bel0) rfl rfl (by rfl) ?_ ?_
      rotate_left 1
      · intro w hS
        (try dsimp only at hS)
        go_simp
        all_goals with_reducible rfl
      simp only [Act.put, List.setIfInBounds_toArray, List.set_cons_zero, List.set_cons_succ]
      refine any_take (v := ?_) wze16_t15_4 (by kernel_rfl) (fun _ _ _ _ _ h => h) (SX.out _ bel0) rfl rfl (by rfl) ?_ ?_
      rotate_left 1
      · intro w hS
        (try dsimp only at hS)
        go_simp
        all_goals with_reducible rfl
      simp only [Act.put, List.setIfInBounds_toArray, List.set_cons_zero, List.set_cons_succ]
      refine any_take (v := ?_) wze16_t31_5 (by kernel_rfl) (fun _ _ _ _ _ h => h) (SX.out _ bel0) rfl rfl (by rfl) ?_ ?_
      rotate_left 1
      · intro w hS
        (try dsimp only at hS)
        go_simp
        all_goals with_reducible rfl
      simp only [Act.put, List.setIfInBounds_toArray, List.set_cons_zero, List.set_cons_succ]
      refine any_take (v := ?_) wze16_t63_6 (by kernel_rfl) (fun _ _ _ _ _ h => h) (SX.out _ bel0) rfl rfl (by rfl) ?_ ?_
      rotate_left 1
      · intro w hS
        (try dsimp only at hS)
        go_simp
        all_goals with_reducible rfl
      simp only [Act.put, List.setIfInBounds_toArray, List.set_cons_zero, List.set_cons_succ]
      refine any_take (v := ?_) wze16_t127_7 (by kernel_rfl) (fun _ _ _ _ _ h => h) (SX.out _ bel0) rfl rfl (by rfl) ?_ ?_
      rotate_left 1
      · intro w hS
        (try dsimp only at hS)
        go_simp
        all_goals with_reducible rfl
      simp only [Act.put, List.setIfInBounds_toArray, List.set_cons_zero, List.set_cons_succ]
      refine any_take (v := ?_) wze16_t255_8 (by kernel_rfl) (fun _ _ _ _ _ h => h) (SX.out _ bel0) rfl rfl (by rfl) ?_ ?_
      rotate_left 1
      · intro w hS
        (try dsimp only at hS)
        go_simp
        all_goals with_reducible rfl
      simp only [Act.put, List.setIfInBounds_toArray, List.set_cons_zero, List.set_cons_succ]
      refine any_take (v := ?_) wze16_t511_9 (by kernel_rfl) (fun _ _ _ _ _ h => h) (SX.out _ bel0) rfl rfl (by rfl) ?_ ?_
      rotate_left 1
      · intro w hS
        (try dsimp only at hS)
        go_simp
        all_goals with_reducible rfl
      simp only [Act.put, List.setIfInBounds_toArray, List.set_cons_zero, List.set_cons_succ]
      refine any_take (v := ?_) wze16_t1023_10 (by kernel_rfl) (fun _ _ _ _ _ h => h) (SX.out _ bel0) rfl rfl (by rfl) ?_ ?_
      rotate_left 1
      · intro w hS
        (try dsimp only at hS)
        go_simp
        all_goals with_reducible rfl
      simp only [Act.put, List.setIfInBounds_toArray, List.set_cons_zero, List.set_cons_succ]
      refine any_take (v := ?_) wze16_t2047_12 (by kernel_rfl) (fun _ _ _ _ _ h => h) (SX.out _ bel0) rfl rfl (by rfl) ?_ ?_
      rotate_left 1
      · intro w hS
        (try dsimp only at hS)
        go_simp
        all_goals with_reducible rfl
      simp only [Act.put, List.setIfInBounds_toArray, List.set_cons_zero, List.set_cons_succ]
      refine any_take (v := ?_) wze16_t6143_13 (by kernel_rfl) (fun _ _ _ _ _ h => h) (SX.out _ bel0) rfl rfl (by rfl) ?_ ?_
      rotate_left 1
      · intro w hS
        (try dsimp only at hS)
        go_simp
        all_goals with_reducible rfl
      simp only [Act.put, List.setIfInBounds_toArray, List.set_cons_zero, List.set_cons_succ]
      refine any_take (v := ?_) wze16_t14335_14 (by kernel_rfl) (fun _ _ _ _ _ h => h) (SX.out _ bel0) rfl rfl (by rfl) ?_ ?_
      rotate_left 1
      · intro w hS
        (try dsimp only at hS)
        go_simp
        all_goals with_reducible rfl
      simp only [Act.put, List.setIfInBounds_toArray, List.set_cons_zero, List.set_cons_succ]
      refine any_take (v := ?_) wze16_t30719_15 (by kernel_rfl) (fun _ _ _ _ _ h => h) (SX.out _ bel0) rfl rfl (by rfl) ?_ ?_
      rotate_left 1
      · intro w hS
        (try dsimp only at hS)
        go_simp
        all_goals with_reducible rfl
      simp only [Act.put, List.setIfInBounds_toArray, List.set_cons_zero, List.set_cons_succ]
      refine any_take (v := ?_) wze16_t63487_16 (by kernel_rfl) (fun _ _ _ _ _ h => h) (SX.out _ bel0) rfl rfl (by rfl) ?_ ?_
      rotate_left 1
      · intro w hS
        (try dsimp only at hS)
        go_simp
        all_goals with_reducible rfl
      simp only [Act.put, List.setIfInBounds_toArray, List.set_cons_zero, List.set_cons_succ]
      refine any_take (v := ?_) wze16_t129023_17 (by kernel_rfl) (fun _ _ _ _ _ h => h) (SX.out _ bel0) rfl rfl (by rfl) ?_ ?_
      rotate_left 1
      · intro w hS
        (try dsimp only at hS)
        go_simp
        all_goals with_reducible rfl
      simp only [Act.put, List.setIfInBounds_toArray, List.set_cons_zero, List.set_cons_succ]
      refine any_take (v := ?_) wze16_t260095_18 (by kernel_rfl) (fun _ _ _ _ _ h => h) (SX.out _ bel0) rfl rfl (by rfl) ?_ ?_
      rotate_left 1
      · intro w hS
        (try dsimp only at hS)
        go_simp
        all_goals with_reducible rfl
      simp only [Act.put, List.setIfInBounds_toArray, List.set_cons_zero, List.set_cons_succ]
      refine any_take (v := ?_) wze16_t522239_19 (by kernel_rfl) (fun _ _ _ _ _ h => h) (SX.out _ bel0) rfl rfl (by rfl) ?_ ?_
      rotate_left 1
      · intro w hS
        (try dsimp only at hS)
        go_simp
        all_goals with_reducible rfl
      simp only [Act.put, List.setIfInBounds_toArray, List.set_cons_zero, List.set_cons_succ]
      refine any_take (v := ?_) wze16_t1046527_20 (by kernel_rfl) (fun _ _ _ _ _ h => h) (SX.out _ bel0) rfl rfl (by rfl) ?_ ?_
      rotate_left 1
      · intro w hS
        (try dsimp only at hS)
        go_simp
        all_goals with_reducible rfl
      simp only [Act.put, List.setIfInBounds_toArray, List.set_cons_zero, List.set_cons_succ]
      refine any_take (v := ?_) wze16_t2095103_21 (by kernel_rfl) (fun _ _ _ _ _ h => h) (SX.out _ bel0) rfl rfl (by rfl) ?_ ?_
      rotate_left 1
      · intro w hS
        (try dsimp only at hS)
        go_simp
        all_goals with_reducible rfl
      simp only [Act.put, List.setIfInBounds_toArray, List.set_cons_zero, List.set_cons_succ]
      refine any_take (v := ?_) wze16_t4192255_22 (by kernel_rfl) (fun _ _ _ _ _ h => h) (SX.out _ bel0) rfl rfl (by rfl) ?_ ?_
      rotate_left 1
      · intro w hS
        (try dsimp only at hS)
        go_simp
        all_goals with_reducible rfl
      simp only [Act.put, List.setIfInBounds_toArray, List.set_cons_zero, List.set_cons_succ]
      refine any_one wze16_r8386559 ?_
      refine any_op rfl (by rfl) (fun K hK => ?_)
      go_simp
      refine (HF1.out _ bel0).mono ?_
      rintro E W1 ⟨rfl, F1, T1, B1⟩
      go_wp2_with fail
      refine hK.out _ _ B1 ?_
      clear hK K
      try simp only [Act.put, List.setIfInBounds_toArray, List.set_cons_zero, List.set_cons_succ]
      refine any_one wze16_r8388607 ?_
      refine any_op rfl (by rfl) (fun K hK => ?_)
      go_simp
      refine (HF2.out _ _ T1).mono ?_
      rintro E W2 ⟨rfl, J, B2⟩
      go_wp2_with fail
      refine hK.out _ _ B2 ?_
      clear hK K
      try simp only [Act.put, List.setIfInBounds_toArray, List.set_cons_zero, List.set_cons_succ]
      refine any_take (v := ?_) wze16_t16777215_24 (by kernel_rfl) (fun _ _ _ _ _ h => h) B2 rfl rfl (by rfl) ?_ ?_
      rotate_left 1
      · intro w hS
        (try dsimp only at hS)
        go_simp
        all_goals with_reducible rfl
      simp only [Act.put, List.setIfInBounds_toArray, List.set_cons_zero, List.set_cons_succ]
      refine any_done wze16_end ?_
      have J := hide J
      clear hW0 SX HF1 HF2 bel0
      go_wp2
      go_roundw
      case rel => exact ⟨j + 1, by go_num, by omega, J⟩
      case measure => simp [intOf]; omega
    have hlt' : ¬ (j : Int) < l1.length := by omega
    obtain ⟨t, F1, G1, hT, hov⟩ := HP.out
    have LN := hide (zlen_any p F1 wr t hT.ps)
    rw [show Tx.len t = t.l.length by unfold Tx.len; rw [if_neg (by rw [hov]; decide)]] at LN
    have T1 : Hid (DM w1 p x t wr) := hide ⟨t, F1, G1, hT, hov, List.prefix_refl _⟩
    have HOV := hide hov
    clear hT hov HP
    go_wp2_with fail
    refine LN.out.mono ?_
    rintro E w4 ⟨rfl, rfl⟩
    clear LN
    obtain ⟨nt, hnt⟩ : ∃ nt, t.l.length = nt := ⟨_, rfl⟩
    rw [hnt]
    go_wp2
    go_loopw [11] (fun iv wr => ∃ j : Nat, iv = .int .i64 j ∧ j ≤ l2.length ∧ Hid (DM w1 p x t wr)) (fun iv _ => l2.length - (intOf iv).toNat)
    case atStart => exact ⟨0, rfl, by omega, T1⟩
    case round =>
      obtain ⟨j, rfl, hj, HP⟩ := hrel
      clear T1 hlt' hlt
      by_cases hlt : j < l2.length
      · obtain ⟨s, F1, G1, hT, hov, hpre⟩ := HP.out
        obtain ⟨qb, qo, qk, hvx, _, _, hqb, hcell⟩ := ((HQ2.out.below B1.out).below hT.bel).full (by omega)
        simp only [Value.slice.injEq, true_and] at hvx
        obtain ⟨rfl, rfl⟩ := hvx
        obtain ⟨a, ha⟩ : ∃ a, l2[j]? = some a := ⟨l2[j], by rw [List.getElem?_eq_getElem]⟩
        obtain ⟨d0, d1, d2, d3⟩ := hcell j a ha
        obtain ⟨hfk, hfv⟩ := HFQ2.out a (List.mem_of_getElem? ha)
        have hlt' : (j : Int) < l2.length := by omega
        have hj0 : (0 : Int) ≤ (j : Int) := by omega
        have hq1 : qb < w1.heap.size := HQ2.out.lt1 B1.out hlt
        have SY : Hid (∀ W, Below w1.heap.size w1 W → (W.cell? ⟨qb, qo + j * 4 + 1, none⟩ = some (.string a.key) ∧ W.cell? ⟨qb, qo + j * 4 + 2, none⟩ = some (.string a.val))) := hide fun W hW => by
          have hb : W.heap[qb]? = wr.heap[qb]? := (hW.block qb hq1).trans (hT.bel.block qb hq1).symm
          exact ⟨(World.cell?_of_block hb).trans d1, (World.cell?_of_block hb).trans d2⟩
        have X1 := hide (zdel_any p F1 wr s a.key hT.ps hfk)
        have HT := hide hT
        clear hcell ha hqb hq1 hT HP
        go_wp2_with fail
        refine X1.out.mono ?_
        rintro E w5 ⟨rfl, hS⟩
        obtain ⟨F5, k5, _⟩ := HT.out.stepP hS
        have hov5 := Tx.add_ov hov ⟨false, a.key, ⟨#[]⟩⟩
        have hpre5 := Tx.add_pre hpre ⟨false, a.key, ⟨#[]⟩⟩
        generalize Tx.add s ⟨false, a.key, ⟨#[]⟩⟩ = s5 at *
        generalize Tx.addE s ⟨false, a.key, ⟨#[]⟩⟩ = z5 at *
        have SX : Hid (∀ W, Below w5.heap.size w5 W → (W.cell? ⟨qb, qo + j * 4 + 1, none⟩ = some (.string a.key) ∧ W.cell? ⟨qb, qo + j * 4 + 2, none⟩ = some (.string a.val))) := hide fun W hW => SY.out W (k5.bel.trans (hW.mono k5.bel.size))
        have HF1 : Hid (∀ W, Below w5.heap.size w5 W → Calls Try.prog 10 #[.pointer (some ⟨p, 0, none⟩), .string a.key, .string a.val] W fun E w' => E = .returned (.int .i64 (Tx.addE s5 ⟨true, a.key, a.val⟩)) ∧ DM w1 p x t w' ∧ (w'.cell? ⟨qb, qo + j * 4 + 1, none⟩ = some (.string a.key) ∧ w'.cell? ⟨qb, qo + j * 4 + 2, none⟩ = some (.string a.val))) := hide fun W hW => by
          have hW' := k5.below hW
          refine (zput_any p F5 W s5 a.key a.val hW'.ps hfk hfv).mono ?_
          rintro E w' ⟨rfl, hS⟩
          obtain ⟨F', k1, o1⟩ := hW'.stepP hS
          exact ⟨rfl, ⟨_, F', G1, k1, Tx.add_ov hov5 _, Tx.add_pre hpre5 _⟩, SY.out w' k1.bel⟩
        generalize Tx.addE s5 ⟨true, a.key, a.val⟩ = z6 at *
        obtain ⟨W0, hW0⟩ : ∃ y, w5.drew = y := ⟨_, rfl⟩
        have bel0 : Below w5.heap.size w5 W0 := by rw [← hW0]; exact (Below.refl _ _).drew
        clear k5 hS X1 HT hov5 hpre5 hov hpre d0 d1 d2 d3 hfk hfv SY
        go_wp2_with fail
        refine region_any (ops := (regOf 16 Try.f7)) (S := fun W => W.cell? ⟨qb, qo + j * 4 + 1, none⟩ = some (.string a.key) ∧ W.cell? ⟨qb, qo + j * 4 + 2, none⟩ = some (.string a.val)) (by kernel_rfl) wzf16_size ?_
        rw [wzf16_new, hW0]
        refine any_take (v := ?_) wzf16_t0_0 (by kernel_rfl) (fun _ _ _ _ _ h => h) (SX.out _ bel0) rfl rfl (by rfl) ?_ ?_
        rotate_left 1
        · intro w hS
          (try dsimp only at hS)
          go_simp
          all_goals with_reducible rfl
        simp only [Act.put, List.setIfInBounds_toArray, List.set_cons_zero, List.set_cons_succ]
        refine any_take (v := ?_) wzf16_t1_1 (by kernel_rfl) (fun _ _ _ _ _ h => h) (SX.out _ bel0) rfl rfl (by rfl) ?_ ?_
        rotate_left 1
        · intro w hS
          (try dsimp only at hS)
          go_simp
          all_goals with_reducible rfl
        simp only [Act.put, List.setIfInBounds_toArray, List.set_cons_zero, List.set_cons_succ]
        refine any_take (v := ?_) wzf16_t3_2 (by kernel_rfl) (fun _ _ _ _ _ h => h) (SX.out _ bel0) rfl rfl (by rfl) ?_ ?_
        rotate_left 1
        · intro w hS
          (try dsimp only at hS)
          go_simp
          all_goals with_reducible rfl
        simp only [Act.put, List.setIfInBounds_toArray, List.set_cons_zero, List.set_cons_succ]
        refine any_take (v := ?_) wzf16_t7_3 (by kernel_rfl) (fun _ _ _ _ _ h => h) (SX.out _ bel0) rfl rfl (by rfl) ?_ ?_
        rotate_left 1
        · intro w hS
          (try dsimp only at hS)
          go_simp
          all_goals with_reducible rfl
        simp only [Act.put, List.setIfInBounds_toArray, List.set_cons_zero, List.set_cons_succ]
        refine any_take (v := ?_) wzf16_t15_4 (by kernel_rfl) (fun _ _ _ _ _ h => h) (SX.out _ bel0) rfl rfl (by rfl) ?_ ?_
        rotate_left 1
        · intro w hS
          (try dsimp only at hS)
          go_simp
          all_goals with_reducible rfl
        simp only [Act.put, List.setIfInBounds_toArray, List.set_cons_zero, List.set_cons_succ]
        refine any_take (v := ?_) wzf16_t31_5 (by kernel_rfl) (fun _ _ _ _ _ h => h) (SX.out _ bel0) rfl rfl (by rfl) ?_ ?_
        rotate_left 1
        · intro w hS
          (try dsimp only at hS)
          go_simp
          all_goals with_reducible rfl
        simp only [Act.put, List.setIfInBounds_toArray, List.set_cons_zero, List.set_cons_succ]
        refine any_take (v := ?_) wzf16_t63_6 (by kernel_rfl) (fun _ _ _ _ _ h => h) (SX.out _ bel0) rfl rfl (by rfl) ?_ ?_
        rotate_left 1
        · intro w hS
          (try dsimp only at hS)
          go_simp
          all_goals with_reducible rfl
        simp only [Act.put, List.setIfInBounds_toArray, List.set_cons_zero, List.set_cons_succ]
        refine any_take (v := ?_) wzf16_t127_7 (by kernel_rfl) (fun _ _ _ _ _ h => h) (SX.out _ bel0) rfl rfl (by rfl) ?_ ?_
        rotate_left 1
        · intro w hS
          (try dsimp only at hS)
          go_simp
          all_goals with_reducible rfl
        simp only [Act.put, List.setIfInBounds_toArray, List.set_cons_zero, List.set_cons_succ]
        refine any_take (v := ?_) wzf16_t255_8 (by kernel_rfl) (fun _ _ _ _ _ h => h) (SX.out _ bel0) rfl rfl (by rfl) ?_ ?_
        rotate_left 1
        · intro w hS
          (try dsimp only at hS)
          go_simp
          all_goals with_reducible rfl
        simp only [Act.put, List.setIfInBounds_toArray, List.set_cons_zero, List.set_cons_succ]
        refine any_take (v := ?_) wzf16_t511_9 (by kernel_rfl) (fun _ _ _ _ _ h => h) (SX.out _ bel0) rfl rfl (by rfl) ?_ ?_
        rotate_left 1
        · intro w hS
          (try dsimp only at hS)
          go_simp
          all_goals with_reducible rfl
        simp only [Act.put, List.setIfInBounds_toArray, List.set_cons_zero, List.set_cons_succ]
        refine any_take (v := ?_) wzf16_t1023_10 (by kernel_rfl) (fun _ _ _ _ _ h => h) (SX.out _ bel0) rfl rfl (by rfl) ?_ ?_
        rotate_left 1
        · intro w hS
          (try dsimp only at hS)
          go_simp
          all_goals with_reducible rfl
        simp only [Act.put, List.setIfInBounds_toArray, List.set_cons_zero, List.set_cons_succ]
        refine any_one wzf16_r2047 ?_
        refine any_op rfl (by rfl) (fun K hK => ?_)
        go_simp
        refine (HF1.out _ bel0).mono ?_
        rintro E W1 ⟨rfl, J, B1⟩
        go_wp2_with fail
        refine hK.out _ _ B1 ?_
        clear hK K
        try simp only [Act.put, List.setIfInBounds_toArray, List.set_cons_zero, List.set_cons_succ]
        refine any_done wzf16_end ?_
        have J := hide J
        clear hW0 SX HF1 bel0
        go_wp2
        go_roundw
        case rel => exact ⟨j + 1, by go_num, by omega, J⟩
        case measure => simp [intOf]; omega
      have hlt' : ¬ (j : Int) < l2.length := by omega
      obtain ⟨s, F2, G2, hT, hov, hpre⟩ := HP.out
      have h8 := hT.ps.ok.1
      have hle := hpre.length_le
      obtain ⟨u1, u2⟩ := Tx.und_pre hpre hov HOV.out
      rw [hnt] at hle u1 u2
      have LN := hide (zlen_any p F2 wr s hT.ps)
      rw [show Tx.len s = s.l.length by unfold Tx.len; rw [if_neg (by rw [hov]; decide)]] at LN
      have UN := hide (zundo_any p F2 wr s nt hT.ps)
      rw [u1, u2] at UN
      have HT := hide hT
      obtain ⟨ns, hns⟩ : ∃ ns, s.l.length = ns := ⟨_, rfl⟩
      rw [hns] at LN h8 hle
      have g1 : ¬ (8 : Int) < ns := by omega
      have g2 : ¬ (ns : Int) < nt := by omega
      have g3 : decide ((8 : Int) < (ns : Int)) = false := decide_eq_false g1
      have g4 : decide (ns < nt) = false := decide_eq_false (by omega)
      have g5 : decide ((ns : Int) < (nt : Int)) = false := decide_eq_false g2
      clear u1 u2 hT hpre hns HP
      go_wp2_with fail
      refine LN.out.mono ?_
      rintro E w5 ⟨rfl, rfl⟩
      go_wp2_with fail
      refine LN.out.mono ?_
      rintro E w5 ⟨rfl, rfl⟩
      go_wp2_with fail
      refine UN.out.mono ?_
      rintro E w5 ⟨rfl, hS⟩
      obtain ⟨F5, k5, _⟩ := HT.out.stepP hS
      have T2 : Hid (DN w1 p x w5) := hide ⟨t, F5, G2, k5, HOV.out⟩
      clear LN UN hS k5 HT hov
      go_wp2
      go_loopw [12] (fun iv wr => ∃ j : Nat, iv = .int .i64 j ∧ j ≤ l3.length ∧ Hid (DN w1 p x wr)) (fun iv _ => l3.length - (intOf iv).toNat)
      case atStart => exact ⟨0, rfl, by omega, T2⟩
      case round =>
        obtain ⟨j, rfl, hj, HP⟩ := hrel
        clear T2 hlt' hlt
        by_cases hlt : j < l3.length
        · obtain ⟨s, F1, G1, hT, hov⟩ := HP.out
          obtain ⟨qb, qo, qk, hvx, _, _, hqb, hcell⟩ := ((HQ3.out.below B1.out).below hT.bel).full (by omega)
          simp only [Value.slice.injEq, true_and] at hvx
          obtain ⟨rfl, rfl⟩ := hvx
          obtain ⟨a, ha⟩ : ∃ a, l3[j]? = some a := ⟨l3[j], by rw [List.getElem?_eq_getElem]⟩
          obtain ⟨d0, d1, d2, d3⟩ := hcell j a ha
          obtain ⟨hfk, hfv⟩ := HFQ3.out a (List.mem_of_getElem? ha)
          have hlt' : (j : Int) < l3.length := by omega
          have hj0 : (0 : Int) ≤ (j : Int) := by omega
          have hq1 : qb < w1.heap.size := HQ3.out.lt1 B1.out hlt
          have SX : Hid (∀ W, Below wr.heap.size wr W → (W.cell? ⟨qb, qo + j * 4 + 1, none⟩ = some (.string a.key))) := hide fun W hW => (hW.cell (p := ⟨qb, qo + j * 4 + 1, none⟩) hqb).trans d1
          have SY : Hid (∀ W, Below w1.heap.size w1 W → (W.cell? ⟨qb, qo + j * 4 + 1, none⟩ = some (.string a.key))) := hide fun W hW => by
            have hb : W.heap[qb]? = wr.heap[qb]? := (hW.block qb hq1).trans (hT.bel.block qb hq1).symm
            exact (World.cell?_of_block hb).trans d1
          have HF1 : Hid (∀ W, Below wr.heap.size wr W → Calls Try.prog 11 #[.pointer (some ⟨p, 0, none⟩), .string a.key] W fun E w' => E = .returned (.int .i64 (Tx.addE s ⟨false, a.key, ⟨#[]⟩⟩)) ∧ ∃ F', PD w1 w' (Tx.add s ⟨false, a.key, ⟨#[]⟩⟩) s p x F' G1 ∧ ((w'.cell? ⟨qb, qo + j * 4 + 1, none⟩ = some (.string a.key)))) := hide fun W hW => by
            have hW' := hT.below hW
            refine (zdel_any p F1 W s a.key hW'.ps hfk).mono ?_
            rintro E w' ⟨rfl, hS⟩
            obtain ⟨F', k1, o1⟩ := hW'.stepP hS
            exact ⟨rfl, F', k1, SY.out w' k1.bel⟩
          have HF2 : Hid (∀ W F', PD w1 W (Tx.add s ⟨false, a.key, ⟨#[]⟩⟩) s p x F' G1 → Calls Try.prog 11 #[.pointer (some ⟨x, 0, none⟩), .string a.key] W fun E w' => E = .returned (.int .i64 (Tx.addE s ⟨false, a.key, ⟨#[]⟩⟩)) ∧ DN w1 p x w' ∧ ((w'.cell? ⟨qb, qo + j * 4 + 1, none⟩ = some (.string a.key)))) := hide fun W F' hW' => by
            refine (zdel_any x G1 W s a.key hW'.qs hfk).mono ?_
            rintro E w' ⟨rfl, hS⟩
            obtain ⟨G', k1, o1⟩ := hW'.stepQ hS
            exact ⟨rfl, ⟨_, F', G', k1, Tx.add_ov hov _⟩, SY.out w' k1.bel⟩
          generalize Tx.addE s ⟨false, a.key, ⟨#[]⟩⟩ = z at *
          generalize Tx.add s ⟨false, a.key, ⟨#[]⟩⟩ = s2 at *
          have hzz : (z != z) = false := by simp
          obtain ⟨W0, hW0⟩ : ∃ y, wr.drew = y := ⟨_, rfl⟩
          have bel0 : Below wr.heap.size wr W0 := by rw [← hW0]; exact (Below.refl _ _).drew
          clear hT hov HP hcell ha hqb hq1 d0 d1 d2 d3 hfk hfv SY
          go_wp2_with fail
          refine region_any (ops := (regOf 22 Try.f7)) (S := fun W => W.cell? ⟨qb, qo + j * 4 + 1, none⟩ = some (.string a.key)) (by kernel_rfl) wzg16_size ?_
          rw [wzg16_new, hW0]
          refine any_take (v := ?_) wzg16_t0_0 (by kernel_rfl) (fun _ _ _ _ _ h => h) (SX.out _ bel0) rfl rfl (by rfl) ?_ ?_
          rotate_left 1
          · intro w hS
            (try dsimp only at hS)
            go_simp
            all_goals with_reducible rfl
          simp only [Act.put, List.setIfInBounds_toArray, List.set_cons_zero, List.set_cons_succ]
          refine any_take (v := ?_) wzg16_t1_1 (by kernel_rfl) (fun _ _ _ _ _ h => h) (SX.out _ bel0) rfl rfl (by rfl) ?_ ?_
          rotate_left 1
          · intro w hS
            (try dsimp only at hS)
            go_simp
            all_goals with_reducible rfl
          simp only [Act.put, List.setIfInBounds_toArray, List.set_cons_zero, List.set_cons_succ]
          refine any_take (v := ?_) wzg16_t3_2 (by kernel_rfl) (fun _ _ _ _ _ h => h) (SX.out _ bel0) rfl rfl (by rfl) ?_ ?_
          rotate_left 1
          · intro w hS
            (try dsimp only at hS)
            go_simp
            all_goals with_reducible rfl
          simp only [Act.put, List.setIfInBounds_toArray, List.set_cons_zero, List.set_cons_succ]
          refine any_take (v := ?_) wzg16_t7_3 (by kernel_rfl) (fun _ _ _ _ _ h => h) (SX.out _ bel0) rfl rfl (by rfl) ?_ ?_
          rotate_left 1
          · intro w hS
            (try dsimp only at hS)
            go_simp
            all_goals with_reducible rfl
          simp only [Act.put, List.setIfInBounds_toArray, List.set_cons_zero, List.set_cons_succ]
          refine any_take (v := ?_) wzg16_t15_4 (by kernel_rfl) (fun _ _ _ _ _ h => h) (SX.out _ bel0) rfl rfl (by rfl) ?_ ?_
          rotate_left 1
          · intro w hS
            (try dsimp only at hS)
            go_simp
            all_goals with_reducible rfl
          simp only [Act.put, List.setIfInBounds_toArray, List.set_cons_zero, List.set_cons_succ]
          refine any_take (v := ?_) wzg16_t31_5 (by kernel_rfl) (fun _ _ _ _ _ h => h) (SX.out _ bel0) rfl rfl (by rfl) ?_ ?_
          rotate_left 1
          · intro w hS
            (try dsimp only at hS)
            go_simp
            all_goals with_reducible rfl
          simp only [Act.put, List.setIfInBounds_toArray, List.set_cons_zero, List.set_cons_succ]
          refine any_take (v := ?_) wzg16_t63_7 (by kernel_rfl) (fun _ _ _ _ _ h => h) (SX.out _ bel0) rfl rfl (by rfl) ?_ ?_
          rotate_left 1
          · intro w hS
            (try dsimp only at hS)
            go_simp
            all_goals with_reducible rfl
          simp only [Act.put, List.setIfInBounds_toArray, List.set_cons_zero, List.set_cons_succ]
          refine any_take (v := ?_) wzg16_t191_8 (by kernel_rfl) (fun _ _ _ _ _ h => h) (SX.out _ bel0) rfl rfl (by rfl) ?_ ?_
          rotate_left 1
          · intro w hS
            (try dsimp only at hS)
            go_simp
            all_goals with_reducible rfl
          simp only [Act.put, List.setIfInBounds_toArray, List.set_cons_zero, List.set_cons_succ]
          refine any_take (v := ?_) wzg16_t447_9 (by kernel_rfl) (fun _ _ _ _ _ h => h) (SX.out _ bel0) rfl rfl (by rfl) ?_ ?_
          rotate_left 1
          · intro w hS
            (try dsimp only at hS)
            go_simp
            all_goals with_reducible rfl
          simp only [Act.put, List.setIfInBounds_toArray, List.set_cons_zero, List.set_cons_succ]
          refine any_take (v := ?_) wzg16_t959_10 (by kernel_rfl) (fun _ _ _ _ _ h => h) (SX.out _ bel0) rfl rfl (by rfl) ?_ ?_
          rotate_left 1
          · intro w hS
            (try dsimp only at hS)
            go_simp
            all_goals with_reducible rfl
          simp only [Act.put, List.setIfInBounds_toArray, List.set_cons_zero, List.set_cons_succ]
          refine any_take (v := ?_) wzg16_t1983_11 (by kernel_rfl) (fun _ _ _ _ _ h => h) (SX.out _ bel0) rfl rfl (by rfl) ?_ ?_
          rotate_left 1
          · intro w hS
            (try dsimp only at hS)
            go_simp
            all_goals with_reducible rfl
          simp only [Act.put, List.setIfInBounds_toArray, List.set_cons_zero, List.set_cons_succ]
          refine any_take (v := ?_) wzg16_t4031_12 (by kernel_rfl) (fun _ _ _ _ _ h => h) (SX.out _ bel0) rfl rfl (by rfl) ?_ ?_
          rotate_left 1
          · intro w hS
            (try dsimp only at hS)
            go_simp
            all_goals with_reducible rfl
          simp only [Act.put, List.setIfInBounds_toArray, List.set_cons_zero, List.set_cons_succ]
          refine any_one wzg16_r8127 ?_
          refine any_op rfl (by rfl) (fun K hK => ?_)
          go_simp
          refine (HF1.out _ bel0).mono ?_
          rintro E W1 ⟨rfl, F1, T1, B1⟩
          go_wp2_with fail
          refine hK.out _ _ B1 ?_
          clear hK K
          try simp only [Act.put, List.setIfInBounds_toArray, List.set_cons_zero, List.set_cons_succ]
          refine any_one wzg16_r8191 ?_
          refine any_op rfl (by rfl) (fun K hK => ?_)
          go_simp
          refine (HF2.out _ _ T1).mono ?_
          rintro E W2 ⟨rfl, J, B2⟩
          go_wp2_with fail
          refine hK.out _ _ B2 ?_
          clear hK K
          try simp only [Act.put, List.setIfInBounds_toArray, List.set_cons_zero, List.set_cons_succ]
          refine any_take (v := ?_) wzg16_t16383_14 (by kernel_rfl) (fun _ _ _ _ _ h => h) B2 rfl rfl (by rfl) ?_ ?_
          rotate_left 1
          · intro w hS
            (try dsimp only at hS)
            go_simp
            all_goals with_reducible rfl
          simp only [Act.put, List.setIfInBounds_toArray, List.set_cons_zero, List.set_cons_succ]
          refine any_done wzg16_end ?_
          have J := hide J
          clear hW0 SX HF1 HF2 bel0
          go_wp2
          go_roundw
          case rel => exact ⟨j + 1, by go_num, by omega, J⟩
          case measure => simp [intOf]; omega
        have hlt' : ¬ (j : Int) < l3.length := by omega
        obtain ⟨s, F6, G6, hT, hov⟩ := HP.out
        have D1 := hide (zdone_any p F6 wr s hT.ps)
        have HT := hide hT
        obtain ⟨z, hz⟩ : ∃ z, Tx.donE s = z := ⟨_, rfl⟩
        have h8 : (Tx.donL s).length ≤ 8 := by
          unfold Tx.donL
          split
          · exact hT.ps.ok.1
          · simp
        have hft : FitO (Tx.donL s) := by
          unfold Tx.donL
          split
          · exact Tx.fits hT.ps.ok
          · intro o ho
            simp at ho
        rw [hz] at D1
        have HZ := hide hz
        have HFT := hide hft
        obtain ⟨dl, hdl⟩ : ∃ dl, Tx.donL s = dl := ⟨_, rfl⟩
        rw [hdl] at D1 h8 HFT
        have HDL := hide hdl
        clear hT hov HP hz hft hdl
        go_wp2_with fail
        refine D1.out.mono ?_
        rintro E w7 ⟨v7, rfl, o7, hS⟩
        obtain ⟨F7, k7, u7⟩ := HT.out.stepP (PzS.of_done hS)
        obtain ⟨a7, c7, hv7, _, _⟩ := o7.is.shape
        have D2 := hide (zdone_any x G6 w7 s k7.qs)
        rw [HZ.out, HDL.out] at D2
        have O7 := hide o7
        have K7 := hide k7
        have sz7 := u7.size
        rw [hv7] at O7
        subst hv7
        clear hS o7 k7 u7 D1
        go_wp2_with fail
        refine D2.out.mono ?_
        rintro E w8 ⟨v8, rfl, o8, hS⟩
        obtain ⟨G8, k8, u8⟩ := K7.out.stepQ (PzS.of_done hS)
        obtain ⟨a8, c8, hv8, _, _⟩ := o8.is.shape
        have O8 : Hid (OwnO 36 wr.heap.size w8 (.slice a7 dl.length c7) dl) := hide (row_agree O7.out fun g hg => u8.block g (O7.out.block g hg).2 fun e => by
          have m1 := (O7.out.block g hg).1
          have m2 := HT.out.qs.lt g e
          omega)
        have Y8 := hide o8
        have K8 := hide k8
        have LB : Hid (∀ b, (Value.slice a7 dl.length c7).ownBlock = some b → b < w7.heap.size) := hide fun b hb => (O7.out.block b hb).2
        rw [hv8] at Y8
        subst hv8
        have sz8 := u8.size
        have SM := hide (sameO_any _ _ dl dl w8 O8.out.is Y8.out.is (by omega) (by omega))
        rw [Bm.sameL_self] at SM
        have hzz : (z == z) = true := by simp
        have h8' : (dl.length : Int) ≤ 8 := by omega
        clear hS o8 k8 u8 D2 O7 K7
        go_wp2_with fail
        refine SM.out.mono ?_
        rintro E w9 ⟨rfl, b9⟩
        have sz9 := b9.size
        have LO := hide (listsO_two (base := wr.heap.size) (s1 := w7.heap.size) (Y8.out.below b9) (O8.out.below b9) LB.out (by omega) (by omega) (by omega) HFT.out HFT.out)
        have K9 := hide (K8.out.below b9)
        have WR := hide HT.out.bel
        clear SM b9 Y8 O8 LB K8 HT
        go_wp2_with fail
        refine (apartO_yes 2 _ 2 wr.heap.size _ _ _ (by omega) (by omega) (by simp; omega) LO.out (by omega)).mono ?_
        rintro E w10 ⟨rfl, b10⟩
        have B10 : Hid (Below w1.heap.size w1 w10) := hide ((K9.out.bel.alloc K9.out.bel.size _).trans (b10.mono WR.out.size))
        clear b10 LO
        go_wp2
        go_ret
        exact ⟨rfl, B1.out.trans (B10.out.mono B1.out.size)⟩

end Go.Proofs.Ytofbnkeglhhnlaa

/- Proved: TxnUndone -/
namespace Go.Proofs.Ytofbnkeglhhnlaa
open Go.ChangeShapes Go.WideShapes Go.ChangeAt Go.RowKit
open Go.ChangeMaps (open_string shut_string)
set_option linter.unusedVariables false

namespace txnUndoneFrame
theorem own : ownKnob Try.prog.godebug = none := by kernel_rfl
theorem laidOut : laidOutB Try.prog = true := by kernel_rfl
theorem cells43 : Try.prog.cellsOf 43 = 4 := by kernel_rfl
theorem bytes43 : Try.prog.bytesOf 43 = 48 := by kernel_rfl

set_option maxRecDepth 100000 in
theorem lifted (os : Os) (started : os.Started) (H : Type) (enc : TypeId × Value → H) :
    ReturnsInHanded {} Try.checked os 7 .any (Rows.txnUndoneSpec.pre6 enc Try.prog Try.f7 Rows.txnUndoneRow.domain false) (Rows.txnUndoneSpec.post enc Try.prog Try.f7 false true false false) := by
  refine returnsInHanded_of_change_sized (C := Try.checked) own started (by kernel_rfl) Try.func7
    (ChangeSpec.witness6 (enc := enc) (C := Try.checked) false ⟨#[], #[.slice none 0 0, .slice none 0 0, .slice none 0 0], []⟩ 8 (by kernel_rfl) (by kernel_rfl) (by kernel_rfl) (by kernel_rfl)) ?_
  intro W base args ds gs before hval0 hW hcnd hsz0 _
  have hsz : (DataW.weightsEach Try.prog (Try.f7.params.toList ++ Rows.txnUndoneSpec.plain.varTypes Try.prog) (ds ++ gs)).all (· ≤ reachBytes) = true := hsz0
  clear hsz0
  have hval : ∀ (j : Nat) t v, Try.f7.params[j]? = some t → args[j]? = some v → Value.okWide Try.prog W .any base t v := hval0
  have hW' := hW
  obtain ⟨p, q, hA0, hV, rfl, hfz, hnd⟩ := hW
  have hA : DataW.TrodAll enc Try.prog W 0 (fun _ => true) true Try.f7.params.toList args.toList ds p := hA0
  rw [Try.params7] at hA hval hsz
  obtain ⟨v0, vs0, d0, ds0, p0, q0, hargs, rfl, rfl, h0, r0⟩ := trodAll_cons hA
  obtain ⟨v1, vs1, d1, ds1, p1, q1, rfl, rfl, rfl, h1, r1⟩ := trodAll_cons r0
  obtain ⟨v2, vs2, d2, ds2, p2, q2, rfl, rfl, rfl, h2, r2⟩ := trodAll_cons r1
  obtain ⟨rfl, rfl, rfl⟩ := trodAll_nil r2
  obtain rfl : args = #[v0, v1, v2] := by cases args; simp_all
  obtain ⟨rfl, rfl⟩ := trodVars_none hV
  obtain ⟨a0, len0, cap0, rfl⟩ := okWide_slice Try.underlying38 (hval 0 38 v0 rfl rfl)
  have k0 := h0
  have lt0 : ∀ x ∈ p0, x.block < W.heap.size := by obtain ⟨m, hm⟩ := k0; exact DataW.trod_lt m _ _ _ hm
  obtain ⟨z0, w0, g0, b0⟩ : ∃ l, IsT W (.slice a0 len0 cap0) l ∧ FitT l ∧ l.length * 48 ≤ 140737488351232 := by
    obtain ⟨fuel, hf⟩ := h0
    have hf' : DataW.trod enc Try.prog W 0 (fun _ => true) true fuel 38 [.slice a0 len0 cap0] = some (d0, p0) := by simpa [Value.cells] using hf
    obtain ⟨l, hl, hd⟩ := open_ts Try.underlying38 Try.underlying43 (by kernel_rfl) cells43 Try.underlying3 Try.underlying9 Try.underlying9 Try.underlying3 hf'
    rcases hd with ⟨_, rfl⟩ | ⟨sp, hd⟩
    · exact ⟨[], hl, fun o ho => by simp at ho, by simp⟩
    · simp only at hd
      rw [hd] at hsz
      obtain ⟨h1, h2⟩ := sized_ts hsz (j := 0) (t := 38) (e := 43) rfl rfl Try.underlying38 Try.underlying43 bytes43
      exact ⟨l, hl, h1, h2⟩
  obtain ⟨a1, len1, cap1, rfl⟩ := okWide_slice Try.underlying38 (hval 1 38 v1 rfl rfl)
  have k1 := h1
  have lt1 : ∀ x ∈ p1, x.block < W.heap.size := by obtain ⟨m, hm⟩ := k1; exact DataW.trod_lt m _ _ _ hm
  obtain ⟨z1, w1, g1, b1⟩ : ∃ l, IsT W (.slice a1 len1 cap1) l ∧ FitT l ∧ l.length * 48 ≤ 140737488351232 := by
    obtain ⟨fuel, hf⟩ := h1
    have hf' : DataW.trod enc Try.prog W 0 (fun _ => true) true fuel 38 [.slice a1 len1 cap1] = some (d1, p1) := by simpa [Value.cells] using hf
    obtain ⟨l, hl, hd⟩ := open_ts Try.underlying38 Try.underlying43 (by kernel_rfl) cells43 Try.underlying3 Try.underlying9 Try.underlying9 Try.underlying3 hf'
    rcases hd with ⟨_, rfl⟩ | ⟨sp, hd⟩
    · exact ⟨[], hl, fun o ho => by simp at ho, by simp⟩
    · simp only at hd
      rw [hd] at hsz
      obtain ⟨h1, h2⟩ := sized_ts hsz (j := 1) (t := 38) (e := 43) rfl rfl Try.underlying38 Try.underlying43 bytes43
      exact ⟨l, hl, h1, h2⟩
  obtain ⟨a2, len2, cap2, rfl⟩ := okWide_slice Try.underlying38 (hval 2 38 v2 rfl rfl)
  have k2 := h2
  have lt2 : ∀ x ∈ p2, x.block < W.heap.size := by obtain ⟨m, hm⟩ := k2; exact DataW.trod_lt m _ _ _ hm
  obtain ⟨z2, w2, g2, b2⟩ : ∃ l, IsT W (.slice a2 len2 cap2) l ∧ FitT l ∧ l.length * 48 ≤ 140737488351232 := by
    obtain ⟨fuel, hf⟩ := h2
    have hf' : DataW.trod enc Try.prog W 0 (fun _ => true) true fuel 38 [.slice a2 len2 cap2] = some (d2, p2) := by simpa [Value.cells] using hf
    obtain ⟨l, hl, hd⟩ := open_ts Try.underlying38 Try.underlying43 (by kernel_rfl) cells43 Try.underlying3 Try.underlying9 Try.underlying9 Try.underlying3 hf'
    rcases hd with ⟨_, rfl⟩ | ⟨sp, hd⟩
    · exact ⟨[], hl, fun o ho => by simp at ho, by simp⟩
    · simp only at hd
      rw [hd] at hsz
      obtain ⟨h1, h2⟩ := sized_ts hsz (j := 2) (t := 38) (e := 43) rfl rfl Try.underlying38 Try.underlying43 bytes43
      exact ⟨l, hl, h1, h2⟩
  clear hA0 hval0
  refine (txnUndone_walk _ z0 _ z1 _ z2 W w0 g0 b0 w1 g1 b1 w2 g2 b2).mono fun e W' ⟨he, bel⟩ => ?_
  subst he
  exact ⟨_, rfl, _, _, _, [], _, [], hW', trodAll_mk1 (shut_bool Try.underlying4 _), (trodAll_cons_mk (Below.trod laidOut (by kernel_rfl) (of_decide_eq_true (by kernel_rfl)) k0 bel lt0) (trodAll_cons_mk (Below.trod laidOut (by kernel_rfl) (of_decide_eq_true (by kernel_rfl)) k1 bel lt1) (trodAll_cons_mk (Below.trod laidOut (by kernel_rfl) (of_decide_eq_true (by kernel_rfl)) k2 bel lt2) trodAll_mk0))), rfl, bel.frame _, fun h => by cases h⟩

theorem over : Rows.txnUndoneRow.holds Try.pinned (OpenSpec.ofChange Rows.txnUndoneSpec) :=
  OpenClaim.holds_of_wide 7 Try.f7 rfl rfl rfl rfl rfl rfl rfl ⟨rfl, rfl, rfl, rfl, rfl⟩ rfl rfl rfl rfl rfl (by kernel_rfl) Try.func7 (by kernel_rfl)
    (of_decide_eq_true (by kernel_rfl)) (by unfold Func.isWrapper; first | (rw [if_pos (by decide +kernel)]; kernel_rfl) | (rw [if_neg (by decide +kernel)]; exact ⟨rfl, rfl⟩))
    (fun os started H enc _ => lifted os started H enc)
end txnUndoneFrame

/-- The statement. -/
theorem txnUndone_holds : Rows.TxnUndoneSaid := txnUndoneFrame.over
#print axioms txnUndone_holds
end Go.Proofs.Ytofbnkeglhhnlaa
