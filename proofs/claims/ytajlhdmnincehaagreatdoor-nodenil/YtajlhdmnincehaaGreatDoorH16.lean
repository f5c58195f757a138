/- Texts of one layer, one behind the other. -/
import Derived.Test.YtajlhdmnincehaaGreatDoorH14
import Derived.Test.YtajlhdmnincehaaGreatDoorH15
import Derived.Test.YtajlhdmnincehaaGreatDoorH11
import Derived.Test.YtajlhdmnincehaaGreatDoorH8
import Derived.Test.YtajlhdmnincehaaGreatDoorH6
import Derived.Test.YtajlhdmnincehaaGreatDoorH13
import Derived.Deep.CutRange
/- Of a store: Apply. -/
namespace Go.Proofs.YtajlhdmnincehaaGreatDoor
open Go.RowKit
open Bm (Ov)
set_option linter.unusedVariables false

set_option maxRecDepth 20000 in
set_option maxHeartbeats 8000000 in
theorem sapply_any (ps p q : Nat) (F : Nat → Prop) (w : World) (s : Sto.Ss) (c : Cw) (h : SW ps p q F w s) (hi : IsO w c.v c.l) (hf : FitO c.l) (h64 : In64 c.e ∧ In64 c.n) (hlo : c.l.length * 40 ≤ 140737488351232) (hcF : 0 < c.l.length → ∀ b, c.v.ownBlock = some b → ¬ F b) (hn : s.l.length ≤ 100000) :
    Calls Tryz.prog 159 #[.pointer (some ⟨ps, 0, none⟩), cmv c.e c.n c.v] w fun E w' => E = .returned (.int .i64 (Sto.apl s c.c).1) ∧ StS ps p q F w w' (Sto.apl s c.c).2 := by
  obtain ⟨w1, hw1, sz1, bel1, hB⟩ := blk_step w #[.int .i64 c.e, .int .i64 c.n, c.v] 93
  have HR := hide (sready_any ps p q F w1 s (h.below bel1))
  obtain ⟨ao, cap, hcv, _, _⟩ := hi.shape
  have HCV := hide hcv
  have HOK := hide h.ok
  have HAP := hide (Sto.apl_ok h.ok c.c)
  obtain ⟨fe, hfe⟩ : ∃ x, (Cm.fol (Cm.lastE 1 s.l) (Sto.fin s) 0 [c.c]).1 = x := ⟨_, rfl⟩
  obtain ⟨fp, hfp⟩ : ∃ x, (Cm.fol (Cm.lastE 1 s.l) (Sto.fin s) 0 [c.c]).2 = x := ⟨_, rfl⟩
  have hat := Cm.fol_at [c.c] (Cm.lastE 1 s.l) (Sto.fin s) 0
  have hap : Sto.apl s c.c = if fe ≠ 0 then (fe, s) else (0, ⟨s.r, s.l ++ [c.c]⟩) := by unfold Sto.apl; rw [hfe]
  rw [hfe, hfp] at hat
  have HA1 := hide hap
  have HAT := hide hat
  have HSW := hide h
  have HI := hide (And.intro hi (And.intro hf (And.intro h64 (And.intro hlo (And.intro hcF hn)))))
  have HFE := hide (And.intro hfe hfp)
  have HB := hide hB
  have B1 := hide bel1
  have hsz := hide sz1
  unfold cmv
  rw [hcv] at hw1 ⊢
  clear h hi hf h64 hlo hcF hcv hap hat hfe hfp hB bel1 sz1 hn
  go_enter Tryz.func159, Tryz.ntmps159
  go_wp2_with fail
  refine HR.out.mono ?_
  rintro E w2 ⟨rfl, bel2⟩
  have B02 := hide (B1.out.trans (bel2.mono B1.out.size))
  have hB2 := (bel2.block w.heap.size (by have := hsz.out; omega)).trans HB.out
  have SX : Hid (∀ W, Below w2.heap.size w2 W → W.cell? ⟨w.heap.size, 0, none⟩ = some (.int .i64 c.e) ∧ W.cell? ⟨w.heap.size, 1, none⟩ = some (.int .i64 c.n) ∧ W.cell? ⟨w.heap.size, 2, none⟩ = some (.slice ao c.l.length cap)) := hide fun W hW => by
    have k := (hW.block w.heap.size (blk_lt hB2)).trans hB2
    rw [HCV.out] at k
    exact ⟨blk_cell k 0 rfl, blk_cell k 1 rfl, blk_cell k 2 rfl⟩
  have HEp : Hid (∀ W, Below w2.heap.size w2 W → Calls Tryz.prog 223 #[.pointer (some ⟨ps, 0, none⟩)] W fun E w' => E = .returned (.int .i64 (Cm.lastE 1 s.l)) ∧ Below W.heap.size W w') := hide fun W hW =>
    (sepo_any ps p q F W s ((HSW.out.below B02.out).below hW)).mono fun E w' h => ⟨h.1, by obtain ⟨m, rfl⟩ := h.2; exact below_drewN (Below.refl _ _) m⟩
  have HEn : Hid (∀ W, Below w2.heap.size w2 W → Calls Tryz.prog 209 #[.pointer (some ⟨ps, 0, none⟩)] W fun E w' => E = .returned (.int .i64 (Sto.fin s)) ∧ Below W.heap.size W w') := hide fun W hW =>
    (send_any ps p q F W s ((HSW.out.below B02.out).below hW)).mono fun E w' h => ⟨h.1, by obtain ⟨m, rfl⟩ := h.2; exact below_drewN (Below.refl _ _) m⟩
  have HFo : Hid (∀ W a, Below w2.heap.size w2 W → W.heap[a]? = some (.cells #[.int .i64 c.e, .int .i64 c.n, .slice ao c.l.length cap] 93 (0, 0)) → Calls Tryz.prog 95 #[.int .i64 (Cm.lastE 1 s.l), .int .i64 (Sto.fin s), .slice (some ⟨a, 0, none⟩) 1 1] W fun E w' => E = .returned (.agg #[.int .i64 fe, .int .i64 fp]) ∧ Below W.heap.size W w') := hide fun W a hW ha => by
    have hc := cfol_any (Cm.lastE 1 s.l) (Sto.fin s) _ [⟨c.e, c.n, .slice ao c.l.length cap, c.l⟩] W ⟨one_row ha, fun d hd => by rw [List.mem_singleton.1 hd]; exact ⟨by rw [← HCV.out]; exact (HI.out.1.below B02.out).below hW, HI.out.2.2.1⟩⟩ (FitC.one HI.out.2.1 HI.out.2.2.2.1) (by simp)
    rw [show cvs [(⟨c.e, c.n, .slice ao c.l.length cap, c.l⟩ : Cw)] = [c.c] from rfl] at hc
    unfold flv at hc
    rw [HFE.out.1, HFE.out.2] at hc
    exact hc
  generalize Cm.lastE 1 s.l = le at *
  generalize Sto.fin s = fn at *
  clear HR bel2 hB2
  go_wp2_with fail
  go_cut [5] from 9 to 15 (fun v5 wx => ∃ R, v5 = .pointer (some ⟨R, 0, none⟩) ∧ Hid (wx.heap[R]? = some (.cells #[.int .i64 fe, .int .i64 fp] 136 (0, 0))) ∧ Hid (Below w2.heap.size w2 wx))
  case first =>
    obtain ⟨W0, hW0⟩ : ∃ x, w2.drew = x := ⟨_, rfl⟩
    have bel0 : Below w2.heap.size w2 W0 := by rw [← hW0]; exact (Below.refl _ _).drew
    refine region_any (ops := (regOf 3 Tryz.f159)) (S := fun W => W.cell? ⟨w.heap.size, 0, none⟩ = some (.int .i64 c.e) ∧ W.cell? ⟨w.heap.size, 1, none⟩ = some (.int .i64 c.n) ∧ W.cell? ⟨w.heap.size, 2, none⟩ = some (.slice ao c.l.length cap)) (by kernel_rfl) wza_size ?_
    rw [wza_new, hW0]
    refine any_take (v := ?_) wza_t0_0 (by kernel_rfl) (fun _ _ _ _ _ h => h) (SX.out _ bel0) rfl rfl (by rfl) ?_ ?_
    rotate_left 1
    · intro w hS
      (try dsimp only at hS)
      go_simp
      all_goals with_reducible rfl
    simp only [Act.put, List.setIfInBounds_toArray, List.set_cons_zero, List.set_cons_succ]
    refine any_take (v := ?_) wza_t1_2 (by kernel_rfl) (fun _ _ _ _ _ h => h) (SX.out _ bel0) rfl rfl (by rfl) ?_ ?_
    rotate_left 1
    · intro w hS
      (try dsimp only at hS)
      go_simp
      all_goals with_reducible rfl
    simp only [Act.put, List.setIfInBounds_toArray, List.set_cons_zero, List.set_cons_succ]
    refine any_take (v := ?_) wza_t5_4 (by kernel_rfl) (fun _ _ _ _ _ h => h) (SX.out _ bel0) rfl rfl (by rfl) ?_ ?_
    rotate_left 1
    · intro w hS
      (try dsimp only at hS)
      go_simp
      all_goals with_reducible rfl
    simp only [Act.put, List.setIfInBounds_toArray, List.set_cons_zero, List.set_cons_succ]
    refine any_three wza_r21 ?_ ?_ ?_
    · refine any_op rfl (by rfl) (fun K hK => ?_)
      go_simp
      refine (HEp.out _ bel0).mono ?_
      rintro E W1 ⟨rfl, st1⟩
      have bel1 := bel0.trans (st1.mono bel0.size)
      go_wp2_with fail
      refine hK.out _ _ (SX.out _ bel1) ?_
      clear hK K
      try simp only [Act.put, List.setIfInBounds_toArray, List.set_cons_zero, List.set_cons_succ]
      refine any_three wza_r23 ?_ ?_ ?_
      · refine any_op rfl (by rfl) (fun K hK => ?_)
        go_simp
        refine (HEn.out _ bel1).mono ?_
        rintro E W2 ⟨rfl, st2⟩
        have bel2 := bel1.trans (st2.mono bel1.size)
        go_wp2_with fail
        refine hK.out _ _ (SX.out _ bel2) ?_
        clear hK K
        try simp only [Act.put, List.setIfInBounds_toArray, List.set_cons_zero, List.set_cons_succ]
        refine any_two wza_r31 ?_ ?_
        · obtain ⟨W3, hW3, sz3, st3, ha3⟩ := blk_step W2 #[.int .i64 c.e, .int .i64 c.n, .slice ao c.l.length cap] 93
          clear sz3
          have bel3 := bel2.trans (st3.mono bel2.size)
          refine any_op rfl (by rfl) (fun K hK => ?_)
          go_simp
          go_wp2_with fail
          refine hK.out _ _ (SX.out _ bel3) ?_
          clear hK K
          try simp only [Act.put, List.setIfInBounds_toArray, List.set_cons_zero, List.set_cons_succ]
          refine any_two wza_r63 ?_ ?_
          · refine any_op rfl (by rfl) (fun K hK => ?_)
            go_simp
            refine (HFo.out _ _ bel3 ha3).mono ?_
            rintro E W4 ⟨rfl, st4⟩
            have bel4 := bel3.trans (st4.mono bel3.size)
            have ha4 := (st4.block _ (blk_lt ha3)).trans ha3
            go_wp2_with fail
            refine hK.out _ _ (SX.out _ bel4) ?_
            clear hK K
            try simp only [Act.put, List.setIfInBounds_toArray, List.set_cons_zero, List.set_cons_succ]
            refine any_one wza_r127 ?_
            obtain ⟨W5, hW5, sz5, st5, hb5⟩ := blk_step W4 #[.int .i64 0, .int .i64 0] 136
            clear sz5
            have lb5 := bel4.size
            have bel5 := bel4.trans (st5.mono bel4.size)
            have ha5 := (st5.block _ (blk_lt ha4)).trans ha4
            refine any_op rfl (by rfl) (fun K hK => ?_)
            go_simp
            go_wp2_with fail
            refine hK.out _ _ (SX.out _ bel5) ?_
            clear hK K
            try simp only [Act.put, List.setIfInBounds_toArray, List.set_cons_zero, List.set_cons_succ]
            refine any_one wza_r255 ?_
            obtain ⟨W6, hW6, hb6, g6, ⟨p0, p1⟩, ⟨f0, f1⟩, ⟨l0, l1⟩⟩ := res_two hb5 (.int .i64 fe) (.int .i64 fp)
            have bel6 := below_put bel5 g6 lb5 bel5.size
            refine any_op rfl (by rfl) (fun K hK => ?_)
            go_simp
            go_wp2_with fail
            refine hK.out _ _ (SX.out _ bel6) ?_
            clear hK K
            try simp only [Act.put, List.setIfInBounds_toArray, List.set_cons_zero, List.set_cons_succ]
            refine any_done wza_end ?_
            go_wp2_with fail
            go_meet
            exact ⟨_, rfl, hide hb6, hide bel6⟩
          · obtain ⟨W7, hW7, sz7, st7, hb7⟩ := blk_step W3 #[.int .i64 0, .int .i64 0] 136
            clear sz7
            have lb7 := bel3.size
            have bel7 := bel3.trans (st7.mono bel3.size)
            have ha7 := (st7.block _ (blk_lt ha3)).trans ha3
            refine any_op rfl (by rfl) (fun K hK => ?_)
            go_simp
            go_wp2_with fail
            refine hK.out _ _ (SX.out _ bel7) ?_
            clear hK K
            try simp only [Act.put, List.setIfInBounds_toArray, List.set_cons_zero, List.set_cons_succ]
            refine any_one wza_r191 ?_
            refine any_op rfl (by rfl) (fun K hK => ?_)
            go_simp
            refine (HFo.out _ _ bel7 ha7).mono ?_
            rintro E W8 ⟨rfl, st8⟩
            have bel8 := bel7.trans (st8.mono bel7.size)
            have ha8 := (st8.block _ (blk_lt ha7)).trans ha7
            have hb8 := (st8.block _ (blk_lt hb7)).trans hb7
            go_wp2_with fail
            refine hK.out _ _ (SX.out _ bel8) ?_
            clear hK K
            try simp only [Act.put, List.setIfInBounds_toArray, List.set_cons_zero, List.set_cons_succ]
            refine any_one wza_r255 ?_
            obtain ⟨W9, hW9, hb9, g9, ⟨p0, p1⟩, ⟨f0, f1⟩, ⟨l0, l1⟩⟩ := res_two hb8 (.int .i64 fe) (.int .i64 fp)
            have bel9 := below_put bel8 g9 lb7 bel8.size
            refine any_op rfl (by rfl) (fun K hK => ?_)
            go_simp
            go_wp2_with fail
            refine hK.out _ _ (SX.out _ bel9) ?_
            clear hK K
            try simp only [Act.put, List.setIfInBounds_toArray, List.set_cons_zero, List.set_cons_succ]
            refine any_done wza_end ?_
            go_wp2_with fail
            go_meet
            exact ⟨_, rfl, hide hb9, hide bel9⟩
        · obtain ⟨W10, hW10, sz10, st10, hb10⟩ := blk_step W2 #[.int .i64 0, .int .i64 0] 136
          clear sz10
          have lb10 := bel2.size
          have bel10 := bel2.trans (st10.mono bel2.size)
          refine any_op rfl (by rfl) (fun K hK => ?_)
          go_simp
          go_wp2_with fail
          refine hK.out _ _ (SX.out _ bel10) ?_
          clear hK K
          try simp only [Act.put, List.setIfInBounds_toArray, List.set_cons_zero, List.set_cons_succ]
          refine any_one wza_r159 ?_
          obtain ⟨W11, hW11, sz11, st11, ha11⟩ := blk_step W10 #[.int .i64 c.e, .int .i64 c.n, .slice ao c.l.length cap] 93
          clear sz11
          have bel11 := bel10.trans (st11.mono bel10.size)
          have hb11 := (st11.block _ (blk_lt hb10)).trans hb10
          refine any_op rfl (by rfl) (fun K hK => ?_)
          go_simp
          go_wp2_with fail
          refine hK.out _ _ (SX.out _ bel11) ?_
          clear hK K
          try simp only [Act.put, List.setIfInBounds_toArray, List.set_cons_zero, List.set_cons_succ]
          refine any_one wza_r191 ?_
          refine any_op rfl (by rfl) (fun K hK => ?_)
          go_simp
          refine (HFo.out _ _ bel11 ha11).mono ?_
          rintro E W12 ⟨rfl, st12⟩
          have bel12 := bel11.trans (st12.mono bel11.size)
          have ha12 := (st12.block _ (blk_lt ha11)).trans ha11
          have hb12 := (st12.block _ (blk_lt hb11)).trans hb11
          go_wp2_with fail
          refine hK.out _ _ (SX.out _ bel12) ?_
          clear hK K
          try simp only [Act.put, List.setIfInBounds_toArray, List.set_cons_zero, List.set_cons_succ]
          refine any_one wza_r255 ?_
          obtain ⟨W13, hW13, hb13, g13, ⟨p0, p1⟩, ⟨f0, f1⟩, ⟨l0, l1⟩⟩ := res_two hb12 (.int .i64 fe) (.int .i64 fp)
          have bel13 := below_put bel12 g13 lb10 bel12.size
          refine any_op rfl (by rfl) (fun K hK => ?_)
          go_simp
          go_wp2_with fail
          refine hK.out _ _ (SX.out _ bel13) ?_
          clear hK K
          try simp only [Act.put, List.setIfInBounds_toArray, List.set_cons_zero, List.set_cons_succ]
          refine any_done wza_end ?_
          go_wp2_with fail
          go_meet
          exact ⟨_, rfl, hide hb13, hide bel13⟩
      · obtain ⟨W14, hW14, sz14, st14, ha14⟩ := blk_step W1 #[.int .i64 c.e, .int .i64 c.n, .slice ao c.l.length cap] 93
        clear sz14
        have bel14 := bel1.trans (st14.mono bel1.size)
        refine any_op rfl (by rfl) (fun K hK => ?_)
        go_simp
        go_wp2_with fail
        refine hK.out _ _ (SX.out _ bel14) ?_
        clear hK K
        try simp only [Act.put, List.setIfInBounds_toArray, List.set_cons_zero, List.set_cons_succ]
        refine any_two wza_r55 ?_ ?_
        · refine any_op rfl (by rfl) (fun K hK => ?_)
          go_simp
          refine (HEn.out _ bel14).mono ?_
          rintro E W15 ⟨rfl, st15⟩
          have bel15 := bel14.trans (st15.mono bel14.size)
          have ha15 := (st15.block _ (blk_lt ha14)).trans ha14
          go_wp2_with fail
          refine hK.out _ _ (SX.out _ bel15) ?_
          clear hK K
          try simp only [Act.put, List.setIfInBounds_toArray, List.set_cons_zero, List.set_cons_succ]
          refine any_two wza_r63 ?_ ?_
          · refine any_op rfl (by rfl) (fun K hK => ?_)
            go_simp
            refine (HFo.out _ _ bel15 ha15).mono ?_
            rintro E W16 ⟨rfl, st16⟩
            have bel16 := bel15.trans (st16.mono bel15.size)
            have ha16 := (st16.block _ (blk_lt ha15)).trans ha15
            go_wp2_with fail
            refine hK.out _ _ (SX.out _ bel16) ?_
            clear hK K
            try simp only [Act.put, List.setIfInBounds_toArray, List.set_cons_zero, List.set_cons_succ]
            refine any_one wza_r127 ?_
            obtain ⟨W17, hW17, sz17, st17, hb17⟩ := blk_step W16 #[.int .i64 0, .int .i64 0] 136
            clear sz17
            have lb17 := bel16.size
            have bel17 := bel16.trans (st17.mono bel16.size)
            have ha17 := (st17.block _ (blk_lt ha16)).trans ha16
            refine any_op rfl (by rfl) (fun K hK => ?_)
            go_simp
            go_wp2_with fail
            refine hK.out _ _ (SX.out _ bel17) ?_
            clear hK K
            try simp only [Act.put, List.setIfInBounds_toArray, List.set_cons_zero, List.set_cons_succ]
            refine any_one wza_r255 ?_
            obtain ⟨W18, hW18, hb18, g18, ⟨p0, p1⟩, ⟨f0, f1⟩, ⟨l0, l1⟩⟩ := res_two hb17 (.int .i64 fe) (.int .i64 fp)
            have bel18 := below_put bel17 g18 lb17 bel17.size
            refine any_op rfl (by rfl) (fun K hK => ?_)
            go_simp
            go_wp2_with fail
            refine hK.out _ _ (SX.out _ bel18) ?_
            clear hK K
            try simp only [Act.put, List.setIfInBounds_toArray, List.set_cons_zero, List.set_cons_succ]
            refine any_done wza_end ?_
            go_wp2_with fail
            go_meet
            exact ⟨_, rfl, hide hb18, hide bel18⟩
          · obtain ⟨W19, hW19, sz19, st19, hb19⟩ := blk_step W15 #[.int .i64 0, .int .i64 0] 136
            clear sz19
            have lb19 := bel15.size
            have bel19 := bel15.trans (st19.mono bel15.size)
            have ha19 := (st19.block _ (blk_lt ha15)).trans ha15
            refine any_op rfl (by rfl) (fun K hK => ?_)
            go_simp
            go_wp2_with fail
            refine hK.out _ _ (SX.out _ bel19) ?_
            clear hK K
            try simp only [Act.put, List.setIfInBounds_toArray, List.set_cons_zero, List.set_cons_succ]
            refine any_one wza_r191 ?_
            refine any_op rfl (by rfl) (fun K hK => ?_)
            go_simp
            refine (HFo.out _ _ bel19 ha19).mono ?_
            rintro E W20 ⟨rfl, st20⟩
            have bel20 := bel19.trans (st20.mono bel19.size)
            have ha20 := (st20.block _ (blk_lt ha19)).trans ha19
            have hb20 := (st20.block _ (blk_lt hb19)).trans hb19
            go_wp2_with fail
            refine hK.out _ _ (SX.out _ bel20) ?_
            clear hK K
            try simp only [Act.put, List.setIfInBounds_toArray, List.set_cons_zero, List.set_cons_succ]
            refine any_one wza_r255 ?_
            obtain ⟨W21, hW21, hb21, g21, ⟨p0, p1⟩, ⟨f0, f1⟩, ⟨l0, l1⟩⟩ := res_two hb20 (.int .i64 fe) (.int .i64 fp)
            have bel21 := below_put bel20 g21 lb19 bel20.size
            refine any_op rfl (by rfl) (fun K hK => ?_)
            go_simp
            go_wp2_with fail
            refine hK.out _ _ (SX.out _ bel21) ?_
            clear hK K
            try simp only [Act.put, List.setIfInBounds_toArray, List.set_cons_zero, List.set_cons_succ]
            refine any_done wza_end ?_
            go_wp2_with fail
            go_meet
            exact ⟨_, rfl, hide hb21, hide bel21⟩
        · obtain ⟨W22, hW22, sz22, st22, hb22⟩ := blk_step W14 #[.int .i64 0, .int .i64 0] 136
          clear sz22
          have lb22 := bel14.size
          have bel22 := bel14.trans (st22.mono bel14.size)
          have ha22 := (st22.block _ (blk_lt ha14)).trans ha14
          refine any_op rfl (by rfl) (fun K hK => ?_)
          go_simp
          go_wp2_with fail
          refine hK.out _ _ (SX.out _ bel22) ?_
          clear hK K
          try simp only [Act.put, List.setIfInBounds_toArray, List.set_cons_zero, List.set_cons_succ]
          refine any_one wza_r183 ?_
          refine any_op rfl (by rfl) (fun K hK => ?_)
          go_simp
          refine (HEn.out _ bel22).mono ?_
          rintro E W23 ⟨rfl, st23⟩
          have bel23 := bel22.trans (st23.mono bel22.size)
          have ha23 := (st23.block _ (blk_lt ha22)).trans ha22
          have hb23 := (st23.block _ (blk_lt hb22)).trans hb22
          go_wp2_with fail
          refine hK.out _ _ (SX.out _ bel23) ?_
          clear hK K
          try simp only [Act.put, List.setIfInBounds_toArray, List.set_cons_zero, List.set_cons_succ]
          refine any_one wza_r191 ?_
          refine any_op rfl (by rfl) (fun K hK => ?_)
          go_simp
          refine (HFo.out _ _ bel23 ha23).mono ?_
          rintro E W24 ⟨rfl, st24⟩
          have bel24 := bel23.trans (st24.mono bel23.size)
          have ha24 := (st24.block _ (blk_lt ha23)).trans ha23
          have hb24 := (st24.block _ (blk_lt hb23)).trans hb23
          go_wp2_with fail
          refine hK.out _ _ (SX.out _ bel24) ?_
          clear hK K
          try simp only [Act.put, List.setIfInBounds_toArray, List.set_cons_zero, List.set_cons_succ]
          refine any_one wza_r255 ?_
          obtain ⟨W25, hW25, hb25, g25, ⟨p0, p1⟩, ⟨f0, f1⟩, ⟨l0, l1⟩⟩ := res_two hb24 (.int .i64 fe) (.int .i64 fp)
          have bel25 := below_put bel24 g25 lb22 bel24.size
          refine any_op rfl (by rfl) (fun K hK => ?_)
          go_simp
          go_wp2_with fail
          refine hK.out _ _ (SX.out _ bel25) ?_
          clear hK K
          try simp only [Act.put, List.setIfInBounds_toArray, List.set_cons_zero, List.set_cons_succ]
          refine any_done wza_end ?_
          go_wp2_with fail
          go_meet
          exact ⟨_, rfl, hide hb25, hide bel25⟩
      · obtain ⟨W26, hW26, sz26, st26, hb26⟩ := blk_step W1 #[.int .i64 0, .int .i64 0] 136
        clear sz26
        have lb26 := bel1.size
        have bel26 := bel1.trans (st26.mono bel1.size)
        refine any_op rfl (by rfl) (fun K hK => ?_)
        go_simp
        go_wp2_with fail
        refine hK.out _ _ (SX.out _ bel26) ?_
        clear hK K
        try simp only [Act.put, List.setIfInBounds_toArray, List.set_cons_zero, List.set_cons_succ]
        refine any_two wza_r151 ?_ ?_
        · refine any_op rfl (by rfl) (fun K hK => ?_)
          go_simp
          refine (HEn.out _ bel26).mono ?_
          rintro E W27 ⟨rfl, st27⟩
          have bel27 := bel26.trans (st27.mono bel26.size)
          have hb27 := (st27.block _ (blk_lt hb26)).trans hb26
          go_wp2_with fail
          refine hK.out _ _ (SX.out _ bel27) ?_
          clear hK K
          try simp only [Act.put, List.setIfInBounds_toArray, List.set_cons_zero, List.set_cons_succ]
          refine any_one wza_r159 ?_
          obtain ⟨W28, hW28, sz28, st28, ha28⟩ := blk_step W27 #[.int .i64 c.e, .int .i64 c.n, .slice ao c.l.length cap] 93
          clear sz28
          have bel28 := bel27.trans (st28.mono bel27.size)
          have hb28 := (st28.block _ (blk_lt hb27)).trans hb27
          refine any_op rfl (by rfl) (fun K hK => ?_)
          go_simp
          go_wp2_with fail
          refine hK.out _ _ (SX.out _ bel28) ?_
          clear hK K
          try simp only [Act.put, List.setIfInBounds_toArray, List.set_cons_zero, List.set_cons_succ]
          refine any_one wza_r191 ?_
          refine any_op rfl (by rfl) (fun K hK => ?_)
          go_simp
          refine (HFo.out _ _ bel28 ha28).mono ?_
          rintro E W29 ⟨rfl, st29⟩
          have bel29 := bel28.trans (st29.mono bel28.size)
          have ha29 := (st29.block _ (blk_lt ha28)).trans ha28
          have hb29 := (st29.block _ (blk_lt hb28)).trans hb28
          go_wp2_with fail
          refine hK.out _ _ (SX.out _ bel29) ?_
          clear hK K
          try simp only [Act.put, List.setIfInBounds_toArray, List.set_cons_zero, List.set_cons_succ]
          refine any_one wza_r255 ?_
          obtain ⟨W30, hW30, hb30, g30, ⟨p0, p1⟩, ⟨f0, f1⟩, ⟨l0, l1⟩⟩ := res_two hb29 (.int .i64 fe) (.int .i64 fp)
          have bel30 := below_put bel29 g30 lb26 bel29.size
          refine any_op rfl (by rfl) (fun K hK => ?_)
          go_simp
          go_wp2_with fail
          refine hK.out _ _ (SX.out _ bel30) ?_
          clear hK K
          try simp only [Act.put, List.setIfInBounds_toArray, List.set_cons_zero, List.set_cons_succ]
          refine any_done wza_end ?_
          go_wp2_with fail
          go_meet
          exact ⟨_, rfl, hide hb30, hide bel30⟩
        · obtain ⟨W31, hW31, sz31, st31, ha31⟩ := blk_step W26 #[.int .i64 c.e, .int .i64 c.n, .slice ao c.l.length cap] 93
          clear sz31
          have bel31 := bel26.trans (st31.mono bel26.size)
          have hb31 := (st31.block _ (blk_lt hb26)).trans hb26
          refine any_op rfl (by rfl) (fun K hK => ?_)
          go_simp
          go_wp2_with fail
          refine hK.out _ _ (SX.out _ bel31) ?_
          clear hK K
          try simp only [Act.put, List.setIfInBounds_toArray, List.set_cons_zero, List.set_cons_succ]
          refine any_one wza_r183 ?_
          refine any_op rfl (by rfl) (fun K hK => ?_)
          go_simp
          refine (HEn.out _ bel31).mono ?_
          rintro E W32 ⟨rfl, st32⟩
          have bel32 := bel31.trans (st32.mono bel31.size)
          have ha32 := (st32.block _ (blk_lt ha31)).trans ha31
          have hb32 := (st32.block _ (blk_lt hb31)).trans hb31
          go_wp2_with fail
          refine hK.out _ _ (SX.out _ bel32) ?_
          clear hK K
          try simp only [Act.put, List.setIfInBounds_toArray, List.set_cons_zero, List.set_cons_succ]
          refine any_one wza_r191 ?_
          refine any_op rfl (by rfl) (fun K hK => ?_)
          go_simp
          refine (HFo.out _ _ bel32 ha32).mono ?_
          rintro E W33 ⟨rfl, st33⟩
          have bel33 := bel32.trans (st33.mono bel32.size)
          have ha33 := (st33.block _ (blk_lt ha32)).trans ha32
          have hb33 := (st33.block _ (blk_lt hb32)).trans hb32
          go_wp2_with fail
          refine hK.out _ _ (SX.out _ bel33) ?_
          clear hK K
          try simp only [Act.put, List.setIfInBounds_toArray, List.set_cons_zero, List.set_cons_succ]
          refine any_one wza_r255 ?_
          obtain ⟨W34, hW34, hb34, g34, ⟨p0, p1⟩, ⟨f0, f1⟩, ⟨l0, l1⟩⟩ := res_two hb33 (.int .i64 fe) (.int .i64 fp)
          have bel34 := below_put bel33 g34 lb26 bel33.size
          refine any_op rfl (by rfl) (fun K hK => ?_)
          go_simp
          go_wp2_with fail
          refine hK.out _ _ (SX.out _ bel34) ?_
          clear hK K
          try simp only [Act.put, List.setIfInBounds_toArray, List.set_cons_zero, List.set_cons_succ]
          refine any_done wza_end ?_
          go_wp2_with fail
          go_meet
          exact ⟨_, rfl, hide hb34, hide bel34⟩
    · obtain ⟨W35, hW35, sz35, st35, ha35⟩ := blk_step W0 #[.int .i64 c.e, .int .i64 c.n, .slice ao c.l.length cap] 93
      clear sz35
      have bel35 := bel0.trans (st35.mono bel0.size)
      refine any_op rfl (by rfl) (fun K hK => ?_)
      go_simp
      go_wp2_with fail
      refine hK.out _ _ (SX.out _ bel35) ?_
      clear hK K
      try simp only [Act.put, List.setIfInBounds_toArray, List.set_cons_zero, List.set_cons_succ]
      refine any_two wza_r53 ?_ ?_
      · refine any_op rfl (by rfl) (fun K hK => ?_)
        go_simp
        refine (HEp.out _ bel35).mono ?_
        rintro E W36 ⟨rfl, st36⟩
        have bel36 := bel35.trans (st36.mono bel35.size)
        have ha36 := (st36.block _ (blk_lt ha35)).trans ha35
        go_wp2_with fail
        refine hK.out _ _ (SX.out _ bel36) ?_
        clear hK K
        try simp only [Act.put, List.setIfInBounds_toArray, List.set_cons_zero, List.set_cons_succ]
        refine any_two wza_r55 ?_ ?_
        · refine any_op rfl (by rfl) (fun K hK => ?_)
          go_simp
          refine (HEn.out _ bel36).mono ?_
          rintro E W37 ⟨rfl, st37⟩
          have bel37 := bel36.trans (st37.mono bel36.size)
          have ha37 := (st37.block _ (blk_lt ha36)).trans ha36
          go_wp2_with fail
          refine hK.out _ _ (SX.out _ bel37) ?_
          clear hK K
          try simp only [Act.put, List.setIfInBounds_toArray, List.set_cons_zero, List.set_cons_succ]
          refine any_two wza_r63 ?_ ?_
          · refine any_op rfl (by rfl) (fun K hK => ?_)
            go_simp
            refine (HFo.out _ _ bel37 ha37).mono ?_
            rintro E W38 ⟨rfl, st38⟩
            have bel38 := bel37.trans (st38.mono bel37.size)
            have ha38 := (st38.block _ (blk_lt ha37)).trans ha37
            go_wp2_with fail
            refine hK.out _ _ (SX.out _ bel38) ?_
            clear hK K
            try simp only [Act.put, List.setIfInBounds_toArray, List.set_cons_zero, List.set_cons_succ]
            refine any_one wza_r127 ?_
            obtain ⟨W39, hW39, sz39, st39, hb39⟩ := blk_step W38 #[.int .i64 0, .int .i64 0] 136
            clear sz39
            have lb39 := bel38.size
            have bel39 := bel38.trans (st39.mono bel38.size)
            have ha39 := (st39.block _ (blk_lt ha38)).trans ha38
            refine any_op rfl (by rfl) (fun K hK => ?_)
            go_simp
            go_wp2_with fail
            refine hK.out _ _ (SX.out _ bel39) ?_
            clear hK K
            try simp only [Act.put, List.setIfInBounds_toArray, List.set_cons_zero, List.set_cons_succ]
            refine any_one wza_r255 ?_
            obtain ⟨W40, hW40, hb40, g40, ⟨p0, p1⟩, ⟨f0, f1⟩, ⟨l0, l1⟩⟩ := res_two hb39 (.int .i64 fe) (.int .i64 fp)
            have bel40 := below_put bel39 g40 lb39 bel39.size
            refine any_op rfl (by rfl) (fun K hK => ?_)
            go_simp
            go_wp2_with fail
            refine hK.out _ _ (SX.out _ bel40) ?_
            clear hK K
            try simp only [Act.put, List.setIfInBounds_toArray, List.set_cons_zero, List.set_cons_succ]
            refine any_done wza_end ?_
            go_wp2_with fail
            go_meet
            exact ⟨_, rfl, hide hb40, hide bel40⟩
          · obtain ⟨W41, hW41, sz41, st41, hb41⟩ := blk_step W37 #[.int .i64 0, .int .i64 0] 136
            clear sz41
            have lb41 := bel37.size
            have bel41 := bel37.trans (st41.mono bel37.size)
            have ha41 := (st41.block _ (blk_lt ha37)).trans ha37
            refine any_op rfl (by rfl) (fun K hK => ?_)
            go_simp
            go_wp2_with fail
            refine hK.out _ _ (SX.out _ bel41) ?_
            clear hK K
            try simp only [Act.put, List.setIfInBounds_toArray, List.set_cons_zero, List.set_cons_succ]
            refine any_one wza_r191 ?_
            refine any_op rfl (by rfl) (fun K hK => ?_)
            go_simp
            refine (HFo.out _ _ bel41 ha41).mono ?_
            rintro E W42 ⟨rfl, st42⟩
            have bel42 := bel41.trans (st42.mono bel41.size)
            have ha42 := (st42.block _ (blk_lt ha41)).trans ha41
            have hb42 := (st42.block _ (blk_lt hb41)).trans hb41
            go_wp2_with fail
            refine hK.out _ _ (SX.out _ bel42) ?_
            clear hK K
            try simp only [Act.put, List.setIfInBounds_toArray, List.set_cons_zero, List.set_cons_succ]
            refine any_one wza_r255 ?_
            obtain ⟨W43, hW43, hb43, g43, ⟨p0, p1⟩, ⟨f0, f1⟩, ⟨l0, l1⟩⟩ := res_two hb42 (.int .i64 fe) (.int .i64 fp)
            have bel43 := below_put bel42 g43 lb41 bel42.size
            refine any_op rfl (by rfl) (fun K hK => ?_)
            go_simp
            go_wp2_with fail
            refine hK.out _ _ (SX.out _ bel43) ?_
            clear hK K
            try simp only [Act.put, List.setIfInBounds_toArray, List.set_cons_zero, List.set_cons_succ]
            refine any_done wza_end ?_
            go_wp2_with fail
            go_meet
            exact ⟨_, rfl, hide hb43, hide bel43⟩
        · obtain ⟨W44, hW44, sz44, st44, hb44⟩ := blk_step W36 #[.int .i64 0, .int .i64 0] 136
          clear sz44
          have lb44 := bel36.size
          have bel44 := bel36.trans (st44.mono bel36.size)
          have ha44 := (st44.block _ (blk_lt ha36)).trans ha36
          refine any_op rfl (by rfl) (fun K hK => ?_)
          go_simp
          go_wp2_with fail
          refine hK.out _ _ (SX.out _ bel44) ?_
          clear hK K
          try simp only [Act.put, List.setIfInBounds_toArray, List.set_cons_zero, List.set_cons_succ]
          refine any_one wza_r183 ?_
          refine any_op rfl (by rfl) (fun K hK => ?_)
          go_simp
          refine (HEn.out _ bel44).mono ?_
          rintro E W45 ⟨rfl, st45⟩
          have bel45 := bel44.trans (st45.mono bel44.size)
          have ha45 := (st45.block _ (blk_lt ha44)).trans ha44
          have hb45 := (st45.block _ (blk_lt hb44)).trans hb44
          go_wp2_with fail
          refine hK.out _ _ (SX.out _ bel45) ?_
          clear hK K
          try simp only [Act.put, List.setIfInBounds_toArray, List.set_cons_zero, List.set_cons_succ]
          refine any_one wza_r191 ?_
          refine any_op rfl (by rfl) (fun K hK => ?_)
          go_simp
          refine (HFo.out _ _ bel45 ha45).mono ?_
          rintro E W46 ⟨rfl, st46⟩
          have bel46 := bel45.trans (st46.mono bel45.size)
          have ha46 := (st46.block _ (blk_lt ha45)).trans ha45
          have hb46 := (st46.block _ (blk_lt hb45)).trans hb45
          go_wp2_with fail
          refine hK.out _ _ (SX.out _ bel46) ?_
          clear hK K
          try simp only [Act.put, List.setIfInBounds_toArray, List.set_cons_zero, List.set_cons_succ]
          refine any_one wza_r255 ?_
          obtain ⟨W47, hW47, hb47, g47, ⟨p0, p1⟩, ⟨f0, f1⟩, ⟨l0, l1⟩⟩ := res_two hb46 (.int .i64 fe) (.int .i64 fp)
          have bel47 := below_put bel46 g47 lb44 bel46.size
          refine any_op rfl (by rfl) (fun K hK => ?_)
          go_simp
          go_wp2_with fail
          refine hK.out _ _ (SX.out _ bel47) ?_
          clear hK K
          try simp only [Act.put, List.setIfInBounds_toArray, List.set_cons_zero, List.set_cons_succ]
          refine any_done wza_end ?_
          go_wp2_with fail
          go_meet
          exact ⟨_, rfl, hide hb47, hide bel47⟩
      · obtain ⟨W48, hW48, sz48, st48, hb48⟩ := blk_step W35 #[.int .i64 0, .int .i64 0] 136
        clear sz48
        have lb48 := bel35.size
        have bel48 := bel35.trans (st48.mono bel35.size)
        have ha48 := (st48.block _ (blk_lt ha35)).trans ha35
        refine any_op rfl (by rfl) (fun K hK => ?_)
        go_simp
        go_wp2_with fail
        refine hK.out _ _ (SX.out _ bel48) ?_
        clear hK K
        try simp only [Act.put, List.setIfInBounds_toArray, List.set_cons_zero, List.set_cons_succ]
        refine any_one wza_r181 ?_
        refine any_op rfl (by rfl) (fun K hK => ?_)
        go_simp
        refine (HEp.out _ bel48).mono ?_
        rintro E W49 ⟨rfl, st49⟩
        have bel49 := bel48.trans (st49.mono bel48.size)
        have ha49 := (st49.block _ (blk_lt ha48)).trans ha48
        have hb49 := (st49.block _ (blk_lt hb48)).trans hb48
        go_wp2_with fail
        refine hK.out _ _ (SX.out _ bel49) ?_
        clear hK K
        try simp only [Act.put, List.setIfInBounds_toArray, List.set_cons_zero, List.set_cons_succ]
        refine any_one wza_r183 ?_
        refine any_op rfl (by rfl) (fun K hK => ?_)
        go_simp
        refine (HEn.out _ bel49).mono ?_
        rintro E W50 ⟨rfl, st50⟩
        have bel50 := bel49.trans (st50.mono bel49.size)
        have ha50 := (st50.block _ (blk_lt ha49)).trans ha49
        have hb50 := (st50.block _ (blk_lt hb49)).trans hb49
        go_wp2_with fail
        refine hK.out _ _ (SX.out _ bel50) ?_
        clear hK K
        try simp only [Act.put, List.setIfInBounds_toArray, List.set_cons_zero, List.set_cons_succ]
        refine any_one wza_r191 ?_
        refine any_op rfl (by rfl) (fun K hK => ?_)
        go_simp
        refine (HFo.out _ _ bel50 ha50).mono ?_
        rintro E W51 ⟨rfl, st51⟩
        have bel51 := bel50.trans (st51.mono bel50.size)
        have ha51 := (st51.block _ (blk_lt ha50)).trans ha50
        have hb51 := (st51.block _ (blk_lt hb50)).trans hb50
        go_wp2_with fail
        refine hK.out _ _ (SX.out _ bel51) ?_
        clear hK K
        try simp only [Act.put, List.setIfInBounds_toArray, List.set_cons_zero, List.set_cons_succ]
        refine any_one wza_r255 ?_
        obtain ⟨W52, hW52, hb52, g52, ⟨p0, p1⟩, ⟨f0, f1⟩, ⟨l0, l1⟩⟩ := res_two hb51 (.int .i64 fe) (.int .i64 fp)
        have bel52 := below_put bel51 g52 lb48 bel51.size
        refine any_op rfl (by rfl) (fun K hK => ?_)
        go_simp
        go_wp2_with fail
        refine hK.out _ _ (SX.out _ bel52) ?_
        clear hK K
        try simp only [Act.put, List.setIfInBounds_toArray, List.set_cons_zero, List.set_cons_succ]
        refine any_done wza_end ?_
        go_wp2_with fail
        go_meet
        exact ⟨_, rfl, hide hb52, hide bel52⟩
    · obtain ⟨W53, hW53, sz53, st53, hb53⟩ := blk_step W0 #[.int .i64 0, .int .i64 0] 136
      clear sz53
      have lb53 := bel0.size
      have bel53 := bel0.trans (st53.mono bel0.size)
      refine any_op rfl (by rfl) (fun K hK => ?_)
      go_simp
      go_wp2_with fail
      refine hK.out _ _ (SX.out _ bel53) ?_
      clear hK K
      try simp only [Act.put, List.setIfInBounds_toArray, List.set_cons_zero, List.set_cons_succ]
      refine any_two wza_r149 ?_ ?_
      · refine any_op rfl (by rfl) (fun K hK => ?_)
        go_simp
        refine (HEp.out _ bel53).mono ?_
        rintro E W54 ⟨rfl, st54⟩
        have bel54 := bel53.trans (st54.mono bel53.size)
        have hb54 := (st54.block _ (blk_lt hb53)).trans hb53
        go_wp2_with fail
        refine hK.out _ _ (SX.out _ bel54) ?_
        clear hK K
        try simp only [Act.put, List.setIfInBounds_toArray, List.set_cons_zero, List.set_cons_succ]
        refine any_two wza_r151 ?_ ?_
        · refine any_op rfl (by rfl) (fun K hK => ?_)
          go_simp
          refine (HEn.out _ bel54).mono ?_
          rintro E W55 ⟨rfl, st55⟩
          have bel55 := bel54.trans (st55.mono bel54.size)
          have hb55 := (st55.block _ (blk_lt hb54)).trans hb54
          go_wp2_with fail
          refine hK.out _ _ (SX.out _ bel55) ?_
          clear hK K
          try simp only [Act.put, List.setIfInBounds_toArray, List.set_cons_zero, List.set_cons_succ]
          refine any_one wza_r159 ?_
          obtain ⟨W56, hW56, sz56, st56, ha56⟩ := blk_step W55 #[.int .i64 c.e, .int .i64 c.n, .slice ao c.l.length cap] 93
          clear sz56
          have bel56 := bel55.trans (st56.mono bel55.size)
          have hb56 := (st56.block _ (blk_lt hb55)).trans hb55
          refine any_op rfl (by rfl) (fun K hK => ?_)
          go_simp
          go_wp2_with fail
          refine hK.out _ _ (SX.out _ bel56) ?_
          clear hK K
          try simp only [Act.put, List.setIfInBounds_toArray, List.set_cons_zero, List.set_cons_succ]
          refine any_one wza_r191 ?_
          refine any_op rfl (by rfl) (fun K hK => ?_)
          go_simp
          refine (HFo.out _ _ bel56 ha56).mono ?_
          rintro E W57 ⟨rfl, st57⟩
          have bel57 := bel56.trans (st57.mono bel56.size)
          have ha57 := (st57.block _ (blk_lt ha56)).trans ha56
          have hb57 := (st57.block _ (blk_lt hb56)).trans hb56
          go_wp2_with fail
          refine hK.out _ _ (SX.out _ bel57) ?_
          clear hK K
          try simp only [Act.put, List.setIfInBounds_toArray, List.set_cons_zero, List.set_cons_succ]
          refine any_one wza_r255 ?_
          obtain ⟨W58, hW58, hb58, g58, ⟨p0, p1⟩, ⟨f0, f1⟩, ⟨l0, l1⟩⟩ := res_two hb57 (.int .i64 fe) (.int .i64 fp)
          have bel58 := below_put bel57 g58 lb53 bel57.size
          refine any_op rfl (by rfl) (fun K hK => ?_)
          go_simp
          go_wp2_with fail
          refine hK.out _ _ (SX.out _ bel58) ?_
          clear hK K
          try simp only [Act.put, List.setIfInBounds_toArray, List.set_cons_zero, List.set_cons_succ]
          refine any_done wza_end ?_
          go_wp2_with fail
          go_meet
          exact ⟨_, rfl, hide hb58, hide bel58⟩
        · obtain ⟨W59, hW59, sz59, st59, ha59⟩ := blk_step W54 #[.int .i64 c.e, .int .i64 c.n, .slice ao c.l.length cap] 93
          clear sz59
          have bel59 := bel54.trans (st59.mono bel54.size)
          have hb59 := (st59.block _ (blk_lt hb54)).trans hb54
          refine any_op rfl (by rfl) (fun K hK => ?_)
          go_simp
          go_wp2_with fail
          refine hK.out _ _ (SX.out _ bel59) ?_
          clear hK K
          try simp only [Act.put, List.setIfInBounds_toArray, List.set_cons_zero, List.set_cons_succ]
          refine any_one wza_r183 ?_
          refine any_op rfl (by rfl) (fun K hK => ?_)
          go_simp
          refine (HEn.out _ bel59).mono ?_
          rintro E W60 ⟨rfl, st60⟩
          have bel60 := bel59.trans (st60.mono bel59.size)
          have ha60 := (st60.block _ (blk_lt ha59)).trans ha59
          have hb60 := (st60.block _ (blk_lt hb59)).trans hb59
          go_wp2_with fail
          refine hK.out _ _ (SX.out _ bel60) ?_
          clear hK K
          try simp only [Act.put, List.setIfInBounds_toArray, List.set_cons_zero, List.set_cons_succ]
          refine any_one wza_r191 ?_
          refine any_op rfl (by rfl) (fun K hK => ?_)
          go_simp
          refine (HFo.out _ _ bel60 ha60).mono ?_
          rintro E W61 ⟨rfl, st61⟩
          have bel61 := bel60.trans (st61.mono bel60.size)
          have ha61 := (st61.block _ (blk_lt ha60)).trans ha60
          have hb61 := (st61.block _ (blk_lt hb60)).trans hb60
          go_wp2_with fail
          refine hK.out _ _ (SX.out _ bel61) ?_
          clear hK K
          try simp only [Act.put, List.setIfInBounds_toArray, List.set_cons_zero, List.set_cons_succ]
          refine any_one wza_r255 ?_
          obtain ⟨W62, hW62, hb62, g62, ⟨p0, p1⟩, ⟨f0, f1⟩, ⟨l0, l1⟩⟩ := res_two hb61 (.int .i64 fe) (.int .i64 fp)
          have bel62 := below_put bel61 g62 lb53 bel61.size
          refine any_op rfl (by rfl) (fun K hK => ?_)
          go_simp
          go_wp2_with fail
          refine hK.out _ _ (SX.out _ bel62) ?_
          clear hK K
          try simp only [Act.put, List.setIfInBounds_toArray, List.set_cons_zero, List.set_cons_succ]
          refine any_done wza_end ?_
          go_wp2_with fail
          go_meet
          exact ⟨_, rfl, hide hb62, hide bel62⟩
      · obtain ⟨W63, hW63, sz63, st63, ha63⟩ := blk_step W53 #[.int .i64 c.e, .int .i64 c.n, .slice ao c.l.length cap] 93
        clear sz63
        have bel63 := bel53.trans (st63.mono bel53.size)
        have hb63 := (st63.block _ (blk_lt hb53)).trans hb53
        refine any_op rfl (by rfl) (fun K hK => ?_)
        go_simp
        go_wp2_with fail
        refine hK.out _ _ (SX.out _ bel63) ?_
        clear hK K
        try simp only [Act.put, List.setIfInBounds_toArray, List.set_cons_zero, List.set_cons_succ]
        refine any_one wza_r181 ?_
        refine any_op rfl (by rfl) (fun K hK => ?_)
        go_simp
        refine (HEp.out _ bel63).mono ?_
        rintro E W64 ⟨rfl, st64⟩
        have bel64 := bel63.trans (st64.mono bel63.size)
        have ha64 := (st64.block _ (blk_lt ha63)).trans ha63
        have hb64 := (st64.block _ (blk_lt hb63)).trans hb63
        go_wp2_with fail
        refine hK.out _ _ (SX.out _ bel64) ?_
        clear hK K
        try simp only [Act.put, List.setIfInBounds_toArray, List.set_cons_zero, List.set_cons_succ]
        refine any_one wza_r183 ?_
        refine any_op rfl (by rfl) (fun K hK => ?_)
        go_simp
        refine (HEn.out _ bel64).mono ?_
        rintro E W65 ⟨rfl, st65⟩
        have bel65 := bel64.trans (st65.mono bel64.size)
        have ha65 := (st65.block _ (blk_lt ha64)).trans ha64
        have hb65 := (st65.block _ (blk_lt hb64)).trans hb64
        go_wp2_with fail
        refine hK.out _ _ (SX.out _ bel65) ?_
        clear hK K
        try simp only [Act.put, List.setIfInBounds_toArray, List.set_cons_zero, List.set_cons_succ]
        refine any_one wza_r191 ?_
        refine any_op rfl (by rfl) (fun K hK => ?_)
        go_simp
        refine (HFo.out _ _ bel65 ha65).mono ?_
        rintro E W66 ⟨rfl, st66⟩
        have bel66 := bel65.trans (st66.mono bel65.size)
        have ha66 := (st66.block _ (blk_lt ha65)).trans ha65
        have hb66 := (st66.block _ (blk_lt hb65)).trans hb65
        go_wp2_with fail
        refine hK.out _ _ (SX.out _ bel66) ?_
        clear hK K
        try simp only [Act.put, List.setIfInBounds_toArray, List.set_cons_zero, List.set_cons_succ]
        refine any_one wza_r255 ?_
        obtain ⟨W67, hW67, hb67, g67, ⟨p0, p1⟩, ⟨f0, f1⟩, ⟨l0, l1⟩⟩ := res_two hb66 (.int .i64 fe) (.int .i64 fp)
        have bel67 := below_put bel66 g67 lb53 bel66.size
        refine any_op rfl (by rfl) (fun K hK => ?_)
        go_simp
        go_wp2_with fail
        refine hK.out _ _ (SX.out _ bel67) ?_
        clear hK K
        try simp only [Act.put, List.setIfInBounds_toArray, List.set_cons_zero, List.set_cons_succ]
        refine any_done wza_end ?_
        go_wp2_with fail
        go_meet
        exact ⟨_, rfl, hide hb67, hide bel67⟩
  case rest =>
    obtain ⟨R, rfl, hR, bR⟩ := hcut
    obtain ⟨w6, hw6⟩ : ∃ x, wc = x := ⟨_, rfl⟩
    rw [hw6] at hR bR ⊢
    have r0 := blk_cell hR.out 0 rfl
    have r1 := blk_cell hR.out 1 rfl
    simp only [List.getElem_toArray, List.getElem_cons_zero, List.getElem_cons_succ] at r0 r1
    have q1 := Tryz.neqF fe fp 0 0
    have q2 := Tryz.guardF .neq
    have B06 := hide (B02.out.trans (bR.out.mono B02.out.size))
    obtain ⟨x0, x1, x2⟩ := SX.out _ bR.out
    clear hw6 HEp HEn HFo SX
    by_cases hf0 : fe = 0
    · have hp0 := HAT.out hf0
      subst hf0
      subst hp0
      have e1 : Sto.apl s c.c = (0, ⟨s.r, s.l ++ [c.c]⟩) := by rw [HA1.out, if_neg (by simp)]
      have E1 := hide e1
      rw [e1] at HAP
      have HAD := hide (sadd_any ps p q F w6 s c (HSW.out.below B06.out) (HI.out.1.below B06.out) HAP.out HI.out.2.2.2.2.1 HI.out.2.2.2.2.2)
      unfold cmv at HAD
      rw [HCV.out] at HAD
      clear e1
      go_wp2_with fail
      refine HAD.out.mono ?_
      rintro E w7 ⟨⟨uu, rfl⟩, SS⟩
      have FIN := hide (StS.pre B06.out SS)
      clear SS HAD
      go_wp2
      go_ret
      rw [E1.out]
      exact ⟨rfl, FIN.out⟩
    · have e1 : Sto.apl s c.c = (fe, s) := by rw [HA1.out, if_pos hf0]
      have E1 := hide e1
      have hne : (fe == 0) = false := by simpa using hf0
      clear e1
      go_wp2
      go_ret
      rw [E1.out]
      exact ⟨rfl, StS.same HSW.out B06.out⟩

end Go.Proofs.YtajlhdmnincehaaGreatDoor

/- Open of a store. -/
namespace Go.Proofs.YtajlhdmnincehaaGreatDoor
open Go.RowKit
open Bm (Ov)
set_option linter.unusedVariables false

set_option maxHeartbeats 1000000 in
theorem refuses0_any (p q : Nat) (F1 : Nat → Prop) (w : World) (d : Dm.Ds) (bk : Bool) (v : Value) (hB : w.heap[p]? = some (.cells #[.pointer (some ⟨q, 0, none⟩), .bool bk, v] 196 (0, 0))) (h1 : Pk q F1 w d) :
    Calls Tryz.prog 267 #[.pointer (some ⟨p, 0, none⟩)] w fun E w' => (E = .returned (.int .i64 6) ∧ Out (fun g => g = p) w w') ∨ (E = .returned (.int .i64 0) ∧ w = w') := by
  have HM := hide (hmade_any p q w _ _ hB)
  have HO := hide (on_any q F1 w d h1)
  have c0 := blk_cell hB 0 rfl
  have c1 := blk_cell hB 1 rfl
  have f1 := blk_froz hB 1
  simp only [List.getElem_toArray, List.getElem_cons_zero, List.getElem_cons_succ] at c0 c1
  have OX : Hid (Out (fun g => g = p) w (w.setCell ⟨p, 1, none⟩ (.bool true))) := hide (Out.of_grown (grown_setCell w ⟨p, 1, none⟩ (.bool true)) fun g hg => by simp at hg; exact hg.symm)
  generalize d.on = on at HO
  clear hB h1
  cases bk <;> cases on
  · go_enter Tryz.func267, Tryz.ntmps267
    go_wp2_with fail
    refine HM.out.mono ?_
    rintro E w1 ⟨rfl, rfl⟩
    go_wp2_with fail
    refine HO.out.mono ?_
    rintro E w1 ⟨rfl, rfl⟩
    go_wp2
    go_ret
    exact .inl ⟨rfl, OX.out⟩
  · go_enter Tryz.func267, Tryz.ntmps267
    go_wp2_with fail
    refine HM.out.mono ?_
    rintro E w1 ⟨rfl, rfl⟩
    go_wp2_with fail
    refine HO.out.mono ?_
    rintro E w1 ⟨rfl, rfl⟩
    go_wp2
    go_ret
    exact .inr ⟨rfl, rfl⟩
  · go_enter Tryz.func267, Tryz.ntmps267
    go_wp2_with fail
    refine HM.out.mono ?_
    rintro E w1 ⟨rfl, rfl⟩
    go_wp2
    go_ret
    exact .inl ⟨rfl, OX.out⟩
  · go_enter Tryz.func267, Tryz.ntmps267
    go_wp2_with fail
    refine HM.out.mono ?_
    rintro E w1 ⟨rfl, rfl⟩
    go_wp2
    go_ret
    exact .inl ⟨rfl, OX.out⟩

theorem flush0_any (p q : Nat) (F1 : Nat → Prop) (w : World) (d : Dm.Ds) (bk : Bool) (v : Value) (hB : w.heap[p]? = some (.cells #[.pointer (some ⟨q, 0, none⟩), .bool bk, v] 196 (0, 0))) (h1 : Pk q F1 w d) :
    Calls Tryz.prog 214 #[.pointer (some ⟨p, 0, none⟩), .agg #[.int .i64 0, .int .i64 0, .slice none 0 0]] w fun E w' => (E = .returned (.int .i64 6) ∨ E = .returned (.int .i64 2)) ∧ Out (fun g => g = p) w w' := by
  obtain ⟨w1, hw1, sz1, bel1, hB0⟩ := blk_step w #[.int .i64 0, .int .i64 0, .slice none 0 0] 187
  have c0 : w1.cell? ⟨w.heap.size, 0, none⟩ = some (.int .i64 0) := blk_cell hB0 0 rfl
  have c1 : w1.cell? ⟨w.heap.size, 1, none⟩ = some (.int .i64 0) := blk_cell hB0 1 rfl
  have c2 : w1.cell? ⟨w.heap.size, 2, none⟩ = some (.slice none 0 0) := blk_cell hB0 2 rfl
  have HR := hide (refuses0_any p q F1 w1 d bk v ((bel1.block p (blk_lt hB)).trans hB) (h1.below bel1))
  have HFR := hide (hframed_any 0 0 (.slice none 0 0) [] w1 (IsO.nil _) (fun o ho => by simp at ho) (by simp))
  unfold cmv at HFR
  rw [show Rn.chk 0 0 [] = 2 from rfl] at HFR
  have B1 := hide bel1
  clear hB h1 hB0 bel1 sz1
  go_enter Tryz.func214, Tryz.ntmps214
  go_wp2_with fail
  refine HR.out.mono ?_
  rintro E w2 (⟨rfl, o2⟩ | ⟨rfl, rfl⟩)
  · have O2 := hide ((Out.of_below (F := fun g => g = p) B1.out).trans o2 fun g hg => .inl hg)
    clear o2 HR
    go_wp2
    go_ret
    exact ⟨.inl rfl, O2.out⟩
  · clear HR
    go_wp2_with fail
    refine HFR.out.mono ?_
    rintro E w2 ⟨vb, rfl, own, bel2⟩
    obtain ⟨ab, cb, hvb, _, _⟩ := own.is.shape
    have O2 := hide (Out.of_below (F := fun g => g = p) (B1.out.trans (bel2.mono B1.out.size)))
    subst hvb
    clear own bel2
    go_wp2
    go_ret
    exact ⟨.inr rfl, O2.out⟩

/-- Are runs made? A copy of theirs is asked. -/
theorem aremade_any (p q : Nat) (F : Nat → Prop) (w : World) (s : Rl.Rs) (h : RW p q F w s) :
    Calls Tryz.prog 206 #[.pointer (some ⟨p, 0, none⟩)] w fun E w' => E = .returned (.bool true) ∧ Below w.heap.size w w' := by
  obtain ⟨F1, G1, h1, ⟨v, rs, hv, hG⟩, hF⟩ := h
  have c0 := blk_cell hv.blk 0 rfl
  have c1 := blk_cell hv.blk 1 rfl
  have c2 := blk_cell hv.blk 2 rfl
  simp only [List.getElem_toArray, List.getElem_cons_zero, List.getElem_cons_succ] at c0 c1 c2
  obtain ⟨V, hV1, hV, szV, bV, BV, x0, x1, x2⟩ := new_step w 196 (.pointer none) (.bool false) (.slice none 0 0) (.pointer (some ⟨q, 0, none⟩)) (.bool s.bk) v
  have HFL := hide (flush0_any w.heap.size q F1 V s.d s.bk v BV (h1.below bV))
  obtain ⟨la, ln, lk, hlv⟩ : ∃ a n k, v = .slice a n k := by
    obtain ⟨a1, k1, h1, _⟩ := hv.log.row.row.shape
    exact ⟨a1, _, k1, h1⟩
  have B1 := hide bV
  generalize s.bk = bk at *
  subst hlv
  clear hv h1 hF hG bV BV szV
  go_enter Tryz.func206, Tryz.ntmps206
  go_wp2_with fail
  refine HFL.out.mono ?_
  rintro E w2 ⟨rfl | rfl, o2⟩
  all_goals
    have O2 := hide (B1.out.trans (o2.below (base := w.heap.size) (fun g hg => by omega) B1.out.size))
    clear o2 HFL
    go_wp2
    go_ret
    exact ⟨rfl, O2.out⟩



/-- A new object over runs. -/
theorem sw_new {p q : Nat} {F : Nat → Prop} {w w1 w2 : World} {r : Rl.Rs} (h : RW p q F w r) (hb : Below w.heap.size w w1) (ht : Tb (w.heap.size + 1) w.heap.size w1 []) (hw : w1.alloc (.cells #[.pointer (some ⟨p, 0, none⟩), .slice none 0 0, .pointer (some ⟨w.heap.size + 1, 0, none⟩)] 206) = w2) :
    Sk w1.heap.size p (SB w1.heap.size (w.heap.size + 1) w.heap.size (.slice none 0 0) []) w2 [] ∧ Below w.heap.size w w2 ∧ ∀ g, SB w1.heap.size (w.heap.size + 1) w.heap.size (.slice none 0 0) [] g → w.heap.size ≤ g := by
  obtain ⟨W, hW, sz, bel, hB⟩ := blk_step w1 #[.pointer (some ⟨p, 0, none⟩), .slice none 0 0, .pointer (some ⟨w.heap.size + 1, 0, none⟩)] 206
  rw [hw] at hW
  subst hW
  have hs := hb.size
  have hge : ∀ g, SB w1.heap.size (w.heap.size + 1) w.heap.size (.slice none 0 0) [] g → w.heap.size ≤ g := by
    rintro g (e | e | e | e | ⟨c, hc, _⟩)
    · omega
    · omega
    · omega
    · simp [Value.ownBlock] at e
    · simp at hc
  exact ⟨⟨_, _, _, _, ⟨hB, Rt.nil _ _, ht.below bel⟩, rfl⟩, hb.trans (bel.mono hs), hge⟩

set_option maxRecDepth 20000 in
set_option maxHeartbeats 4000000 in
theorem sopen_any (p q : Nat) (F : Nat → Prop) (w : World) (r : Rl.Rs) (vr : Value) (rs : List Cw) (h : RW p q F w r) (hr : IsC w vr rs) (hf : FitC rs) (hl : rs.length ≤ 100000) :
    Calls Tryz.prog 139 #[.pointer (some ⟨p, 0, none⟩), vr] w fun E w' => ((Cm.fol 1 (Cm.lastN 0 r.l) 0 (cvs rs)).1 ≠ 0 ∧ E = .returned (.tuple #[.pointer none, .int .i64 (Cm.fol 1 (Cm.lastN 0 r.l) 0 (cvs rs)).1]) ∧ Below w.heap.size w w') ∨ ((Cm.fol 1 (Cm.lastN 0 r.l) 0 (cvs rs)).1 = 0 ∧ ∃ ps, E = .returned (.tuple #[.pointer (some ⟨ps, 0, none⟩), .int .i64 0]) ∧ ∃ G, Sk ps p G w' (cvs rs) ∧ (∀ g, G g → w.heap.size ≤ g) ∧ Below w.heap.size w w') := by
  have HM := hide (aremade_any p q F w r h)
  have HW := hide h
  have HI := hide hr
  have HFC := hide hf
  have hgl := Rl.good_len h.good
  obtain ⟨ra, rk, hvr, _, _⟩ := hr.1.shape
  obtain ⟨fe, hfe⟩ : ∃ x, (Cm.fol 1 (Cm.lastN 0 r.l) 0 (cvs rs)).1 = x := ⟨_, rfl⟩
  obtain ⟨fp, hfp⟩ : ∃ x, (Cm.fol 1 (Cm.lastN 0 r.l) 0 (cvs rs)).2 = x := ⟨_, rfl⟩
  have hat := Cm.fol_at (cvs rs) 1 (Cm.lastN 0 r.l) 0
  rw [hfe, hfp] at hat
  rw [hfe]
  have HAT := hide hat
  have HGD : Hid (fe = 0 → Cm.Good 1 (Cm.lastN 0 r.l) (cvs rs)) := hide fun e => (Cm.fol_good _ _ _ 0).1 (by rw [hfe]; exact e)
  have HFE := hide (And.intro hfe hfp)
  obtain ⟨n, hn⟩ : ∃ n, rs.length = n := ⟨_, rfl⟩
  have HN := hide hn
  rw [hn] at hvr hl
  have HVR := hide hvr
  have q1 := Tryz.neqF fe fp 0 0
  have q2 := Tryz.guardF .neq
  clear h hr hf hat hfe hfp hn hgl
  rw [hvr]
  clear hvr
  go_enter Tryz.func139, Tryz.ntmps139
  go_wp2_with fail
  refine HM.out.mono ?_
  rintro E w1 ⟨rfl, bel1⟩
  have W1 := hide (HW.out.below bel1)
  have I1 := hide (show IsC w1 vr rs from ⟨HI.out.1.below bel1, fun c hc => ⟨(HI.out.2 c hc).1.below bel1, (HI.out.2 c hc).2⟩⟩)
  have HE := hide (hrend_any p q F w1 r W1.out)
  have B1 := hide bel1
  clear HM bel1
  go_wp2_with fail
  refine HE.out.mono ?_
  rintro E w2 ⟨rfl, rfl⟩
  have HF := hide (cfol_any 1 (Cm.lastN 0 r.l) vr rs w1 I1.out HFC.out (by have := HN.out; omega))
  unfold flv at HF
  rw [HFE.out.1, HFE.out.2, HVR.out] at HF
  clear HE
  go_wp2_with fail
  refine HF.out.mono ?_
  rintro E w2 ⟨rfl, bel2⟩
  obtain ⟨w3, hw3, hw32, sz3, bel3, hF3, x0, x1⟩ := new_two w2 136 (.int .i64 0) (.int .i64 0) (.int .i64 fe) (.int .i64 fp)
  have b13 := bel2.trans (bel3.mono bel2.size)
  have B3 := hide (B1.out.trans (b13.mono B1.out.size))
  have W3 := hide (W1.out.below b13)
  have I3 := hide (show IsC w3 vr rs from ⟨I1.out.1.below b13, fun c hc => ⟨(I1.out.2 c hc).1.below b13, (I1.out.2 c hc).2⟩⟩)
  have HF3 := hide hF3
  clear HF bel2 bel3 b13 hF3 W1 I1 HW HI B1 sz3
  by_cases hf0 : fe = 0
  · have hp0 := HAT.out hf0
    have gd := HGD.out hf0
    subst hf0
    subst hp0
    have GD := hide gd
    have z0 : w3.setCell ⟨w2.heap.size, 0, none⟩ (.int .i64 0) = w3 := set_same HF3.out (j := 0) rfl
    have z1 : w3.setCell ⟨w2.heap.size, 1, none⟩ (.int .i64 0) = w3 := set_same HF3.out (j := 1) rfl
    have f0 := blk_froz HF3.out 0
    have f1 := blk_froz HF3.out 1
    clear gd HGD HAT HFE HF3
    go_wp2_with fail
    refine (tnew_any w3).mono ?_
    rintro E w4 ⟨rfl, T4, b4⟩
    obtain ⟨w5, hw5⟩ : ∃ x, w4.alloc (.cells #[.pointer (some ⟨p, 0, none⟩), .slice none 0 0, .pointer (some ⟨w3.heap.size + 1, 0, none⟩)] 206) = x := ⟨_, rfl⟩
    obtain ⟨S5, b35, hge⟩ := sw_new W3.out b4 T4 hw5
    have Q0 : Hid (∃ G, Sk w4.heap.size p G w5 (cvs (rs.take 0)) ∧ (∀ g, G g → w3.heap.size ≤ g) ∧ Below w3.heap.size w3 w5) := hide ⟨_, S5, hge, b35⟩
    clear S5 b35 hge T4 b4
    go_wp2
    go_loopw [28] (fun iv wr => ∃ k : Nat, k ≤ n ∧ iv = .int .i64 k ∧ Hid (∃ G, Sk w4.heap.size p G wr (cvs (rs.take k)) ∧ (∀ g, G g → w3.heap.size ≤ g) ∧ Below w3.heap.size w3 wr)) (fun iv _ => n - (intOf iv).toNat)
    case atStart => exact ⟨0, by omega, rfl, Q0⟩
    case round =>
      obtain ⟨k, hk, rfl, HQ⟩ := hrel
      clear Q0
      by_cases hlt : k < n
      · obtain ⟨⟨ce, cn, cv, cl⟩, hc⟩ : ∃ c, rs[k]? = some c := ⟨rs[k]'(by have := HN.out; omega), by rw [List.getElem?_eq_getElem]⟩
        obtain ⟨g, off, cq, hvx, _, _, hgw, hcell⟩ := I3.out.1.full (by have := HN.out; omega)
        rw [HN.out, HVR.out] at hvx
        simp only [Value.slice.injEq, true_and] at hvx
        obtain ⟨rfl, rfl⟩ := hvx
        obtain ⟨c0, c1, c2⟩ := hcell k _ hc
        have hm := List.mem_of_getElem? hc
        obtain ⟨G, ⟨pm, bm, v, rr, hs, rfl⟩, hge, BR⟩ := HQ.out
        have hio := ((I3.out.2 _ hm).1).below BR
        have d0 := (BR.cell (p := ⟨g, off + k * 3, none⟩) hgw).trans c0
        have d1 := (BR.cell (p := ⟨g, off + k * 3 + 1, none⟩) hgw).trans c1
        have d2 := (BR.cell (p := ⟨g, off + k * 3 + 2, none⟩) hgw).trans c2
        obtain ⟨oa, ok, hvo, _, _⟩ := hio.shape
        obtain ⟨wc, hwc, hwc2, szc, belc, bC, y0, y1, y2⟩ := new_step wr 93 (.int .i64 0) (.int .i64 0) (.slice none 0 0) (.int .i64 ce) (.int .i64 cn) cv
        have hnx := cvs_next hc
        have hgk : Cm.Good 1 (Cm.lastN 0 r.l) (cvs (rs.take k)) := by
          rw [cvs_take]
          exact Cm.good_take GD.out _
        have hch : Cm.chk ce cn cl = 0 := (Sto.good_all GD.out _ (List.mem_map.2 ⟨_, hm, rfl⟩)).1
        have HA := hide (sadd_fine w4.heap.size p pm bm wc (cvs (rs.take k)) v rr ⟨ce, cn, cv, cl⟩ (hs.below belc) (hio.below belc) hch (fun hp b hb hf => by
          have h1 := hge b hf
          obtain ⟨g', off', cap', hv', _, _, hg', _⟩ := ((I3.out.2 _ hm).1).full hp
          simp only at hv' hb
          rw [hv'] at hb
          simp [Value.ownBlock] at hb
          omega) (by rw [cvs, List.length_map, List.length_take]; omega) (Sto.tab_len hgk))
        unfold cmv at HA
        simp only at c0 c1 c2 d0 d1 d2 hvo HA
        rw [show cvs (rs.take k) ++ [(⟨ce, cn, cv, cl⟩ : Cw).c] = cvs (rs.take (k + 1)) from hnx.symm] at HA
        subst hvo
        have hlt' : (k : Int) < n := by omega
        have hk0 : (0 : Int) ≤ (k : Int) := by omega
        have HX := hide (And.intro BR (And.intro belc hge))
        clear hcell c0 c1 c2 hc hm hio bC belc hnx hgk hch hs BR hge
        go_wp2_with fail
        refine HA.out.mono ?_
        rintro E w6 ⟨⟨uu, rfl⟩, S6⟩
        have HQ2 : Hid (∃ G, Sk w4.heap.size p G w6 (cvs (rs.take (k + 1))) ∧ (∀ g, G g → w3.heap.size ≤ g) ∧ Below w3.heap.size w3 w6) := hide (by
          obtain ⟨BR, belc, hge⟩ := HX.out
          obtain ⟨G', k1, k2, k3⟩ := S6
          have b1 := BR.trans (belc.mono BR.size)
          have hz := b1.size
          refine ⟨G', k1, fun g hg => ?_, b1.trans (k2.below hge hz)⟩
          rcases k3 g hg with e | e
          · exact hge g e
          · omega)
        clear S6 HA HX
        go_wp2
        go_roundw
        case rel => exact ⟨k + 1, by omega, by go_num, HQ2⟩
        case measure => simp [intOf]; omega
      · have hlt' : ¬ (k : Int) < n := by omega
        obtain rfl : k = n := by omega
        have HQ2 := HQ.out
        rw [List.take_of_length_le (by have := HN.out; omega)] at HQ2
        have FIN : Hid (∃ G, Sk w4.heap.size p G wr (cvs rs) ∧ (∀ g, G g → w.heap.size ≤ g) ∧ Below w.heap.size w wr) := hide (by
          obtain ⟨G, k1, k2, k3⟩ := HQ2
          exact ⟨G, k1, fun g hg => Nat.le_trans B3.out.size (k2 g hg), B3.out.trans (k3.mono B3.out.size)⟩)
        clear HQ2 HQ
        go_wp2
        go_ret2
        first | exact ⟨_, rfl, FIN.out⟩ | exact .inr ⟨rfl, _, rfl, FIN.out⟩
  · have hne : (fe == 0) = false := by simpa using hf0
    go_wp2
    go_quiet (fail)
    go_wp2
    go_ret2
    first | exact ⟨rfl, below_drewN B3.out _⟩ | exact .inl ⟨hf0, rfl, below_drewN B3.out _⟩


end Go.Proofs.YtajlhdmnincehaaGreatDoor
