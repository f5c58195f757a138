/- Texts of one layer, one behind the other. -/
import Derived.Test.YtmmfakpphjjjfaaGreatG28
/- The document's store: Apply. -/
namespace Go.Proofs.YtmmfakpphjjjfaaGreat
open Go.RowKit
open Bm (Ov)
set_option linter.unusedVariables false

set_option maxRecDepth 20000 in
set_option maxHeartbeats 8000000 in
theorem dapply_any (xs x y : Nat) (F : Nat → Prop) (w : World) (s : Sto.Ss) (c : Cw) (h : YW xs x y F w s) (hi : IsO w c.v c.l) (hf : FitO c.l) (h64 : In64 c.e ∧ In64 c.n) (hlo : c.l.length * 40 ≤ 140737488351232) (hn : s.l.length ≤ 100000) :
  Calls Tryz.prog 51 #[.pointer (some ⟨xs, 0, none⟩), cmv c.e c.n c.v] w fun E w' => E = .returned (.int .i64 (Sto.apl s c.c).1) ∧ YwS xs x y F w w' (Sto.apl s c.c).2 := by
 obtain ⟨ao, cap, hcv, _, _⟩ := hi.shape
 obtain ⟨w1, hw1, sz1, bel1, hB⟩ := blk_step w #[.int .i64 c.e, .int .i64 c.n, c.v] 50
 have c0 : w1.cell? ⟨w.heap.size, 0, none⟩ = some (.int .i64 c.e) := blk_cell hB 0 rfl
 have c1 : w1.cell? ⟨w.heap.size, 1, none⟩ = some (.int .i64 c.n) := blk_cell hB 1 rfl
 have c2 : w1.cell? ⟨w.heap.size, 2, none⟩ = some c.v := blk_cell hB 2 rfl
 have hY1 := h.below bel1
 have HY1 := hide hY1
 obtain ⟨b1, b2, b3, b4⟩ := h.ok.bound
 obtain ⟨F1, v, rs, h1, h2, h3, h4, hF⟩ := hY1
 have d0 : w1.cell? ⟨xs, 0, none⟩ = some (.bool true) := blk_cell h2.blk 0 rfl
 have d2 : w1.cell? ⟨xs, 2, none⟩ = some v := blk_cell h2.blk 2 rfl
 have HN := hide (dnone_any xs w1 d0)
 have HCK := hide (ccheckR_any c.e c.n c.v c.l w1 (hi.below bel1) hf (by omega))
 unfold cmv at HCK ⊢
 rw [hcv] at hw1 c2 HCK ⊢
 have ea := apl_is s c.c
 by_cases hk : Cm.chk c.e c.n c.l = 0
 ·rw [if_neg (show ¬ Cm.chk c.c.e c.c.n c.c.l ≠ 0 from fun hx => hx hk)] at ea
  rw [hk] at HCK
  have SX : Hid (∀ W, Below w1.heap.size w1 W → W.cell? ⟨w.heap.size, 0, none⟩ = some (.int .i64 c.e) ∧ W.cell? ⟨w.heap.size, 1, none⟩ = some (.int .i64 c.n) ∧ W.cell? ⟨w.heap.size, 2, none⟩ = some (.slice ao c.l.length cap)) := hide fun W hW => by
   have hb := (hW.block w.heap.size (by omega)).trans hB
   exact ⟨blk_cell hb 0 rfl, blk_cell hb 1 rfl, (blk_cell hb 2 rfl).trans (by rw [← hcv]; rfl)⟩
  have HEN : Hid (∀ W, Below w1.heap.size w1 W → Calls Tryz.prog 49 #[.pointer (some ⟨xs, 0, none⟩)] W fun E w' => E = .returned (.int .i64 (Sto.fin s)) ∧ Below W.heap.size W w') := hide fun W hW => dEnd_any xs x y F W s (HY1.out.below hW)
  have HFO : Hid (∀ W vl, Below w1.heap.size w1 W → RowC W vl [⟨c.e, c.n, .slice ao c.l.length cap, c.l⟩] → Calls Tryz.prog 43 #[.int .i64 (Cm.lastE 1 s.l), .int .i64 (Sto.fin s), vl] W fun E w' => E = .returned (.agg #[.int .i64 (Cm.fol (Cm.lastE 1 s.l) (Sto.fin s) 0 [c.c]).1, .int .i64 (Cm.fol (Cm.lastE 1 s.l) (Sto.fin s) 0 [c.c]).2]) ∧ Below W.heap.size W w') := hide fun W vl hW hr => by
   have := cfolR_any (Cm.lastE 1 s.l) (Sto.fin s) vl [⟨c.e, c.n, .slice ao c.l.length cap, c.l⟩] W ⟨hr, fun d hd => by rw [List.mem_singleton.1 hd]; exact ⟨by rw [← hcv]; exact (hi.below bel1).below hW, h64.1, h64.2⟩⟩ (fun d hd => by rw [List.mem_singleton.1 hd]; exact ⟨hf, hlo⟩) (by simp)
   unfold flv at this
   exact this
  have HOKS := hide h.ok
  have HXW := hide h1
  have HYV := hide h2
  have H3 := hide h3
  have HFF := hide hF
  have EA := hide ea
  have HIO := hide (show IsO w1 (.slice ao c.l.length cap) c.l by rw [← hcv]; exact hi.below bel1)
  have HLO := hide hlo
  have B1 := hide bel1
  have HK := hide hk
  have HOK := hide (Sto.apl_ok h.ok c.c)
  have hnq := Tryz.neqF (Cm.fol (Cm.lastE 1 s.l) (Sto.fin s) 0 [c.c]).1 (Cm.fol (Cm.lastE 1 s.l) (Sto.fin s) 0 [c.c]).2 0 0
  have hgd := Tryz.guardF
  obtain ⟨fa, hfa⟩ : ∃ f, Cm.fol (Cm.lastE 1 s.l) (Sto.fin s) 0 [c.c] = f := ⟨_, rfl⟩
  rw [hfa] at HFO hnq EA
  have HFA := hide hfa
  have HLL := hide h2.rest.len
  obtain ⟨a1, k1, hv, _, _⟩ := h2.rest.row.row.shape
  obtain ⟨ep, hep⟩ : ∃ e, Cm.lastE 1 s.l = e := ⟨_, rfl⟩
  rw [hep] at HFO
  obtain ⟨fi, hfi⟩ : ∃ e, Sto.fin s = e := ⟨_, rfl⟩
  rw [hfi] at HFO HEN
  have CASES : Hid ((rs.length = 0 ∧ ep = 1) ∨ ∃ m lb lo, rs.length = m + 1 ∧ v = .slice (some ⟨lb, lo, none⟩) (m + 1) k1 ∧ ∀ W, Below w1.heap.size w1 W → W.cell? ⟨xs, 2, none⟩ = some (.slice (some ⟨lb, lo, none⟩) (m + 1) k1) ∧ W.cell? ⟨lb, lo + m * 3, none⟩ = some (.int .i64 ep)) := hide (by
   by_cases h0 : rs.length = 0
   ·refine .inl ⟨h0, ?_⟩
    have : s.l = [] := List.eq_nil_of_length_eq_zero (by rw [← h2.rest.len]; exact h0)
    rw [← hep, this]
    rfl
   ·obtain ⟨m, hm⟩ : ∃ m, rs.length = m + 1 := ⟨rs.length - 1, by omega⟩
    obtain ⟨lb, lo, lk, hvx, _, _, hLB, hcl⟩ := h2.rest.row.row.full (by omega)
    obtain ⟨d, hd⟩ : ∃ d, rs[m]? = some d := ⟨rs[m], by rw [List.getElem?_eq_getElem]⟩
    have e1 := (hcl m d hd).1
    have e2 := dlast (h2.rest.at hd) (by rw [← h2.rest.len]; exact hm) 1
    have e3 : d.c.e = ep := by rw [← hep, e2]
    have hvv : v = .slice (some ⟨lb, lo, none⟩) (m + 1) k1 := by
     rw [hv] at hvx ⊢
     simp only [Value.slice.injEq, true_and] at hvx
     rw [hvx.1, hm]
    refine .inr ⟨m, lb, lo, hm, hvv, fun W hW => ⟨?_, ?_⟩⟩
    ·have hb := (hW.block xs (blk_lt h2.blk)).trans h2.blk
     exact (blk_cell hb 2 rfl).trans (by rw [← hvv]; rfl)
    ·rw [← e3]
     exact (hW.cell (p := ⟨lb, lo + m * 3, none⟩) hLB).trans e1)
  have HV := hide hv
  have hrl : rs.length ≤ 100000 := by rw [h2.rest.len]; exact hn
  clear h hi hf h64 hlo h1 h2 h3 h4 hF ea hfa hep hfi hB bel1 hk
  clear HY1
  rcases CASES.out with ⟨h0, rfl⟩ | ⟨m, lb, lo, hm, hvv, hS8⟩
  ·rw [hv, h0] at d2
   clear CASES hv
   by_cases hbad : fa = (0, 0)
   ·have E4 : Hid (Sto.apl s c.c = (0, ⟨s.r, s.l ++ [c.c]⟩)) := hide (by rw [EA.out, if_neg (by simp [hbad])])
    subst hbad
    go_enter Tryz.func51, Tryz.ntmps51
    go_wp2_with fail
    refine HN.out.mono ?_
    rintro E w2 ⟨rfl, rfl⟩
    go_wp2_with fail
    refine HCK.out.mono ?_
    rintro E w2 ⟨rfl, bel2⟩
    have B2 := hide bel2
    have d2' := (bel2.cell (p := ⟨xs, 2, none⟩) (blk_lt HYV.out.blk)).trans d2
    obtain ⟨W0, hW0⟩ : ∃ z, w2.drew = z := ⟨_, rfl⟩
    have bel0 : Below w1.heap.size w1 W0 := by rw [← hW0]; exact bel2.drew
    clear HN HCK d0 d2 c0 c1 c2 bel2
    go_wp2_with fail
    refine region_any (ops := (regOf 9 Tryz.f51)) (S := fun W => W.cell? ⟨w.heap.size, 0, none⟩ = some (.int .i64 c.e) ∧ W.cell? ⟨w.heap.size, 1, none⟩ = some (.int .i64 c.n) ∧ W.cell? ⟨w.heap.size, 2, none⟩ = some (.slice ao c.l.length cap)) (by kernel_rfl) wzo_size ?_
    rw [wzo_new, hW0]
    refine any_take (v := ?_) wzo_t0_0 (by kernel_rfl) (fun _ _ _ _ _ h => h) (SX.out _ bel0) rfl rfl (by rfl) ?_ ?_
    rotate_left 1
    ·intro w hS
     (try dsimp only at hS)
     go_simp
     all_goals with_reducible rfl
    simp only [Act.put, List.setIfInBounds_toArray, List.set_cons_zero, List.set_cons_succ]
    refine any_take (v := ?_) wzo_t1_1 (by kernel_rfl) (fun _ _ _ _ _ h => h) (SX.out _ bel0) rfl rfl (by rfl) ?_ ?_
    rotate_left 1
    ·intro w hS
     (try dsimp only at hS)
     go_simp
     all_goals with_reducible rfl
    simp only [Act.put, List.setIfInBounds_toArray, List.set_cons_zero, List.set_cons_succ]
    refine any_take (v := ?_) wzo_t3_3 (by kernel_rfl) (fun _ _ _ _ _ h => h) (SX.out _ bel0) rfl rfl (by rfl) ?_ ?_
    rotate_left 1
    ·intro w hS
     (try dsimp only at hS)
     go_simp
     all_goals with_reducible rfl
    simp only [Act.put, List.setIfInBounds_toArray, List.set_cons_zero, List.set_cons_succ]
    refine any_take (v := ?_) wzo_t11_6 (by kernel_rfl) (fun _ _ _ _ _ h => h) (SX.out _ bel0) rfl rfl (by rfl) ?_ ?_
    rotate_left 1
    ·intro w hS
     (try dsimp only at hS)
     go_simp
     all_goals with_reducible rfl
    simp only [Act.put, List.setIfInBounds_toArray, List.set_cons_zero, List.set_cons_succ]
    refine any_two wzo_r75 ?_ ?_
    ·refine any_op rfl (by rfl) (fun K hK => ?_)
     go_simp
     refine (HEN.out _ bel0).mono ?_
     rintro E W1 ⟨rfl, st1⟩
     have bel1 := bel0.trans (st1.mono bel0.size)
     go_wp2_with fail
     refine hK.out _ _ (SX.out _ bel1) ?_
     clear hK K
     try simp only [Act.put, List.setIfInBounds_toArray, List.set_cons_zero, List.set_cons_succ]
     refine any_one wzo_r79 ?_
     obtain ⟨W2, hW2, sz2, st2, own2⟩ := coms_step 50 W1 #[.int .i64 c.e, .int .i64 c.n, .slice ao c.l.length cap] 1 [⟨c.e, c.n, .slice ao c.l.length cap, c.l⟩] rfl rfl (by simp [maxLen])
     have bel2 := bel1.trans (st2.mono bel1.size)
     clear sz2
     refine any_op rfl (by rfl) (fun K hK => ?_)
     go_simp
     go_wp2_with fail
     refine hK.out _ _ (SX.out _ bel2) ?_
     clear hK K
     try simp only [Act.put, List.setIfInBounds_toArray, List.set_cons_zero, List.set_cons_succ]
     refine any_one wzo_r95 ?_
     have FO3 := hide (HFO.out _ _ bel2 own2.row)
     refine any_op rfl (by rfl) (fun K hK => ?_)
     go_simp
     refine FO3.out.mono ?_
     rintro E W3 ⟨rfl, st3⟩
     have bel3 := bel2.trans (st3.mono bel2.size)
     clear FO3
     go_wp2_with fail
     refine hK.out _ _ (SX.out _ bel3) ?_
     clear hK K
     try simp only [Act.put, List.setIfInBounds_toArray, List.set_cons_zero, List.set_cons_succ]
     refine any_take (v := ?_) wzo_t127_7 (by kernel_rfl) (fun _ _ _ _ _ h => h) (SX.out _ bel3) rfl rfl (by rfl) ?_ ?_
     rotate_left 1
     ·intro w hS
      (try dsimp only at hS)
      go_simp
      all_goals with_reducible rfl
     simp only [Act.put, List.setIfInBounds_toArray, List.set_cons_zero, List.set_cons_succ]
     refine any_done wzo_end ?_
     have BEL := hide bel3
     obtain ⟨WZ, hWZ⟩ : ∃ z, z = W3 := ⟨_, rfl⟩
     rw [← hWZ] at BEL
     rw [← hWZ]
     clear hWZ
     have hszz := BEL.out.size
     have Y9 := hide (HYV.out.below BEL.out)
     have X9 := hide (HXW.out.below BEL.out)
     have i9 : IsO WZ (.slice ao c.l.length cap) c.l := HIO.out.below BEL.out
     obtain ⟨x0, x1, x2⟩ := SX.out WZ BEL.out
     have y2 : WZ.cell? ⟨xs, 2, none⟩ = some v := blk_cell Y9.out.blk 2 rfl
     obtain ⟨la, ln, lk, hlv⟩ : ∃ a n k, v = .slice a n k := by
      obtain ⟨a1, k1, h1, _⟩ := Y9.out.rest.row.row.shape
      exact ⟨a1, _, k1, h1⟩
     rw [hlv] at y2
     have hp9 : xs < WZ.heap.size := blk_lt Y9.out.blk
     have BB1 := hide (show w.heap.size < WZ.heap.size by have := blk_lt (show WZ.heap[xs]? = _ from Y9.out.blk); omega)
     have X1 : Hid (Calls Tryz.prog 85 #[.agg #[.int .i64 c.e, .int .i64 c.n, .slice ao c.l.length cap]] WZ.drew fun E w7 => ∃ v', E = .returned v' ∧ ∃ (vo : Value) (V : World), v' = .agg #[.int .i64 c.e, .int .i64 c.n, vo] ∧ (∃ a n k, vo = .slice a n k) ∧ w7.cell? ⟨xs, 2, none⟩ = some (.slice la ln lk) ∧ (w7.cell? ⟨w.heap.size, 0, none⟩ = some (.int .i64 c.e) ∧ w7.cell? ⟨w.heap.size, 1, none⟩ = some (.int .i64 c.n) ∧ w7.cell? ⟨w.heap.size, 2, none⟩ = some (.slice ao c.l.length cap)) ∧ w7.alloc (.cells #[.int .i64 c.e, .int .i64 c.n, vo] 50) = V ∧ (V.cell? ⟨xs, 2, none⟩ = some (.slice la ln lk) ∧ (V.cell? ⟨w.heap.size, 0, none⟩ = some (.int .i64 c.e) ∧ V.cell? ⟨w.heap.size, 1, none⟩ = some (.int .i64 c.n) ∧ V.cell? ⟨w.heap.size, 2, none⟩ = some (.slice ao c.l.length cap))) ∧
       Hid (∀ ty, ∃ v2 w2, (Builtin.append_ #[22, 22] ty #[.slice la ln lk, .slice (some ⟨w7.heap.size, 0, none⟩) 1 1]).run Tryz.prog V = .ok v2 w2 ∧ (YwS xs x y F w1 (w2.setCell ⟨xs, 2, none⟩ v2) ⟨s.r, s.l ++ [c.c]⟩ ∧ w2.cell? ⟨xs, 2, none⟩ = some (.slice la ln lk) ∧ w2.frozen? ⟨xs, 2, none⟩ = false ∧ ∃ a n k, v2 = .slice a n k))) := hide (by
      have := copyX_any c.e c.n (.slice ao c.l.length cap) c.l WZ.drew (i9.drewN 1) HLO.out
      unfold cmv at this
      refine this.mono ?_
      rintro E w7 ⟨vo, rfl, own7, bel7⟩
      have b97 : Below WZ.heap.size WZ w7 := (Below.refl WZ.heap.size WZ).drew.trans bel7
      have hgk : Cm.chk c.e c.n c.l = 0 := HK.out
      have hfw : s.l.length + 1 ≤ 1048576 := by have := HLL.out; omega
      obtain ⟨V, hV, V2, _⟩ := y_push (c := ⟨c.e, c.n, vo, c.l⟩) Y9.out b97 own7 hgk hfw 22
      rw [hlv] at V2
      have belV : Below w7.heap.size w7 V := by rw [← hV]; exact (Below.refl _ _).alloc (Nat.le_refl _) _
      have b9V := b97.trans (belV.mono b97.size)
      have b17 := BEL.out.trans (b97.mono hszz)
      have b1V := BEL.out.trans (b9V.mono hszz)
      obtain ⟨a1, k1, h1, _⟩ := own7.is.shape
      refine ⟨_, rfl, vo, V, rfl, ⟨a1, _, k1, h1⟩, (b97.cell (p := ⟨xs, 2, none⟩) hp9).trans y2, SX.out w7 b17, hV, ⟨V2, SX.out V b1V⟩, hide fun ty => ?_⟩
      obtain ⟨V', hV', V2', v2', w2', hr', q1', q2', q3', J1, J2, J3⟩ := y_push (c := ⟨c.e, c.n, vo, c.l⟩) Y9.out b97 own7 hgk hfw ty
      have eV : V' = V := hV'.symm.trans hV
      subst eV
      rw [hlv] at hr' q1'
      refine ⟨v2', w2', hr', ?_, q1', q2', q3'⟩
      rw [HFF.out]
      have hok := HOK.out
      rw [E4.out] at hok
      exact YwS.trans (Out.of_below BEL.out) (fun g hg => .inl hg) (YwS.rest X9.out Y9.out H3.out J1 J2 J3 hok))
     clear Y9 X9 i9 HYV HXW HFO HEN
     go_wp2_with fail
     go_region_law (first
      | (have ow := XX; refine step_append_at rfl (.tmp 45) (.tmp 48) 22 rfl (.slice la ln lk) (.slice (some ⟨w7.heap.size, 0, none⟩) 1 1) (by first | (simp [Act.eval]; done) | (simp [Act.eval, Act.put]; done)) (by first | (simp [Act.eval]; done) | (simp [Act.eval, Act.put]; done)) XX.out ?_; rintro v8 w8 ⟨J, d8, g8, a8, n8, k8, rfl⟩; have J := hide J)
      | (refine call_at rfl 85 #[.tmp 46] #[50] rfl Tryz.enters85 #[.agg #[.int .i64 c.e, .int .i64 c.n, .slice ao c.l.length cap]] (by first | (simp [Act.eval]; done) | (simp [Act.eval, Act.put]; done)) X1.out ?_; rintro v7 w7 ⟨vo, V, rfl, ⟨oa, on, ok, rfl⟩, z2, ⟨b0, b1, b2⟩, hV, ⟨z3, b3, b4, b5⟩, XX⟩))
     all_goals
      have JJ := hide (YwS.pre B1.out J.out)
      clear J
      go_wp2
      go_ret
      exact ⟨by rw [E4.out]; rfl, by rw [E4.out]; exact JJ.out⟩
    ·obtain ⟨W4, hW4, sz4, st4, own4⟩ := coms_step 50 W0 #[.int .i64 c.e, .int .i64 c.n, .slice ao c.l.length cap] 1 [⟨c.e, c.n, .slice ao c.l.length cap, c.l⟩] rfl rfl (by simp [maxLen])
     have bel4 := bel0.trans (st4.mono bel0.size)
     clear sz4
     refine any_op rfl (by rfl) (fun K hK => ?_)
     go_simp
     go_wp2_with fail
     refine hK.out _ _ (SX.out _ bel4) ?_
     clear hK K
     try simp only [Act.put, List.setIfInBounds_toArray, List.set_cons_zero, List.set_cons_succ]
     refine any_one wzo_r91 ?_
     refine any_op rfl (by rfl) (fun K hK => ?_)
     go_simp
     refine (HEN.out _ bel4).mono ?_
     rintro E W5 ⟨rfl, st5⟩
     have bel5 := bel4.trans (st5.mono bel4.size)
     have own5 := OwnR.below own4 st5
     go_wp2_with fail
     refine hK.out _ _ (SX.out _ bel5) ?_
     clear hK K
     try simp only [Act.put, List.setIfInBounds_toArray, List.set_cons_zero, List.set_cons_succ]
     refine any_one wzo_r95 ?_
     have FO6 := hide (HFO.out _ _ bel5 own5.row)
     refine any_op rfl (by rfl) (fun K hK => ?_)
     go_simp
     refine FO6.out.mono ?_
     rintro E W6 ⟨rfl, st6⟩
     have bel6 := bel5.trans (st6.mono bel5.size)
     clear FO6
     go_wp2_with fail
     refine hK.out _ _ (SX.out _ bel6) ?_
     clear hK K
     try simp only [Act.put, List.setIfInBounds_toArray, List.set_cons_zero, List.set_cons_succ]
     refine any_take (v := ?_) wzo_t127_7 (by kernel_rfl) (fun _ _ _ _ _ h => h) (SX.out _ bel6) rfl rfl (by rfl) ?_ ?_
     rotate_left 1
     ·intro w hS
      (try dsimp only at hS)
      go_simp
      all_goals with_reducible rfl
     simp only [Act.put, List.setIfInBounds_toArray, List.set_cons_zero, List.set_cons_succ]
     refine any_done wzo_end ?_
     have BEL := hide bel6
     obtain ⟨WZ, hWZ⟩ : ∃ z, z = W6 := ⟨_, rfl⟩
     rw [← hWZ] at BEL
     rw [← hWZ]
     clear hWZ
     have hszz := BEL.out.size
     have Y9 := hide (HYV.out.below BEL.out)
     have X9 := hide (HXW.out.below BEL.out)
     have i9 : IsO WZ (.slice ao c.l.length cap) c.l := HIO.out.below BEL.out
     obtain ⟨x0, x1, x2⟩ := SX.out WZ BEL.out
     have y2 : WZ.cell? ⟨xs, 2, none⟩ = some v := blk_cell Y9.out.blk 2 rfl
     obtain ⟨la, ln, lk, hlv⟩ : ∃ a n k, v = .slice a n k := by
      obtain ⟨a1, k1, h1, _⟩ := Y9.out.rest.row.row.shape
      exact ⟨a1, _, k1, h1⟩
     rw [hlv] at y2
     have hp9 : xs < WZ.heap.size := blk_lt Y9.out.blk
     have BB1 := hide (show w.heap.size < WZ.heap.size by have := blk_lt (show WZ.heap[xs]? = _ from Y9.out.blk); omega)
     have X1 : Hid (Calls Tryz.prog 85 #[.agg #[.int .i64 c.e, .int .i64 c.n, .slice ao c.l.length cap]] WZ.drew fun E w7 => ∃ v', E = .returned v' ∧ ∃ (vo : Value) (V : World), v' = .agg #[.int .i64 c.e, .int .i64 c.n, vo] ∧ (∃ a n k, vo = .slice a n k) ∧ w7.cell? ⟨xs, 2, none⟩ = some (.slice la ln lk) ∧ (w7.cell? ⟨w.heap.size, 0, none⟩ = some (.int .i64 c.e) ∧ w7.cell? ⟨w.heap.size, 1, none⟩ = some (.int .i64 c.n) ∧ w7.cell? ⟨w.heap.size, 2, none⟩ = some (.slice ao c.l.length cap)) ∧ w7.alloc (.cells #[.int .i64 c.e, .int .i64 c.n, vo] 50) = V ∧ (V.cell? ⟨xs, 2, none⟩ = some (.slice la ln lk) ∧ (V.cell? ⟨w.heap.size, 0, none⟩ = some (.int .i64 c.e) ∧ V.cell? ⟨w.heap.size, 1, none⟩ = some (.int .i64 c.n) ∧ V.cell? ⟨w.heap.size, 2, none⟩ = some (.slice ao c.l.length cap))) ∧
       Hid (∀ ty, ∃ v2 w2, (Builtin.append_ #[22, 22] ty #[.slice la ln lk, .slice (some ⟨w7.heap.size, 0, none⟩) 1 1]).run Tryz.prog V = .ok v2 w2 ∧ (YwS xs x y F w1 (w2.setCell ⟨xs, 2, none⟩ v2) ⟨s.r, s.l ++ [c.c]⟩ ∧ w2.cell? ⟨xs, 2, none⟩ = some (.slice la ln lk) ∧ w2.frozen? ⟨xs, 2, none⟩ = false ∧ ∃ a n k, v2 = .slice a n k))) := hide (by
      have := copyX_any c.e c.n (.slice ao c.l.length cap) c.l WZ.drew (i9.drewN 1) HLO.out
      unfold cmv at this
      refine this.mono ?_
      rintro E w7 ⟨vo, rfl, own7, bel7⟩
      have b97 : Below WZ.heap.size WZ w7 := (Below.refl WZ.heap.size WZ).drew.trans bel7
      have hgk : Cm.chk c.e c.n c.l = 0 := HK.out
      have hfw : s.l.length + 1 ≤ 1048576 := by have := HLL.out; omega
      obtain ⟨V, hV, V2, _⟩ := y_push (c := ⟨c.e, c.n, vo, c.l⟩) Y9.out b97 own7 hgk hfw 22
      rw [hlv] at V2
      have belV : Below w7.heap.size w7 V := by rw [← hV]; exact (Below.refl _ _).alloc (Nat.le_refl _) _
      have b9V := b97.trans (belV.mono b97.size)
      have b17 := BEL.out.trans (b97.mono hszz)
      have b1V := BEL.out.trans (b9V.mono hszz)
      obtain ⟨a1, k1, h1, _⟩ := own7.is.shape
      refine ⟨_, rfl, vo, V, rfl, ⟨a1, _, k1, h1⟩, (b97.cell (p := ⟨xs, 2, none⟩) hp9).trans y2, SX.out w7 b17, hV, ⟨V2, SX.out V b1V⟩, hide fun ty => ?_⟩
      obtain ⟨V', hV', V2', v2', w2', hr', q1', q2', q3', J1, J2, J3⟩ := y_push (c := ⟨c.e, c.n, vo, c.l⟩) Y9.out b97 own7 hgk hfw ty
      have eV : V' = V := hV'.symm.trans hV
      subst eV
      rw [hlv] at hr' q1'
      refine ⟨v2', w2', hr', ?_, q1', q2', q3'⟩
      rw [HFF.out]
      have hok := HOK.out
      rw [E4.out] at hok
      exact YwS.trans (Out.of_below BEL.out) (fun g hg => .inl hg) (YwS.rest X9.out Y9.out H3.out J1 J2 J3 hok))
     clear Y9 X9 i9 HYV HXW HFO HEN
     go_wp2_with fail
     go_region_law (first
      | (have ow := XX; refine step_append_at rfl (.tmp 45) (.tmp 48) 22 rfl (.slice la ln lk) (.slice (some ⟨w7.heap.size, 0, none⟩) 1 1) (by first | (simp [Act.eval]; done) | (simp [Act.eval, Act.put]; done)) (by first | (simp [Act.eval]; done) | (simp [Act.eval, Act.put]; done)) XX.out ?_; rintro v8 w8 ⟨J, d8, g8, a8, n8, k8, rfl⟩; have J := hide J)
      | (refine call_at rfl 85 #[.tmp 46] #[50] rfl Tryz.enters85 #[.agg #[.int .i64 c.e, .int .i64 c.n, .slice ao c.l.length cap]] (by first | (simp [Act.eval]; done) | (simp [Act.eval, Act.put]; done)) X1.out ?_; rintro v7 w7 ⟨vo, V, rfl, ⟨oa, on, ok, rfl⟩, z2, ⟨b0, b1, b2⟩, hV, ⟨z3, b3, b4, b5⟩, XX⟩))
     all_goals
      have JJ := hide (YwS.pre B1.out J.out)
      clear J
      go_wp2
      go_ret
      exact ⟨by rw [E4.out]; rfl, by rw [E4.out]; exact JJ.out⟩
   ·have E4 : Hid (Sto.apl s c.c = (15, s)) := hide (by rw [EA.out, if_pos hbad])
    have hbb : (!((fa.1 == 0) && (fa.2 == 0))) = true := by
     obtain ⟨p1, p2⟩ := fa
     simp at hbad ⊢
     omega
    go_enter Tryz.func51, Tryz.ntmps51
    go_wp2_with fail
    refine HN.out.mono ?_
    rintro E w2 ⟨rfl, rfl⟩
    go_wp2_with fail
    refine HCK.out.mono ?_
    rintro E w2 ⟨rfl, bel2⟩
    have B2 := hide bel2
    have d2' := (bel2.cell (p := ⟨xs, 2, none⟩) (blk_lt HYV.out.blk)).trans d2
    obtain ⟨W0, hW0⟩ : ∃ z, w2.drew = z := ⟨_, rfl⟩
    have bel0 : Below w1.heap.size w1 W0 := by rw [← hW0]; exact bel2.drew
    clear HN HCK d0 d2 c0 c1 c2 bel2
    go_wp2_with fail
    refine region_any (ops := (regOf 9 Tryz.f51)) (S := fun W => W.cell? ⟨w.heap.size, 0, none⟩ = some (.int .i64 c.e) ∧ W.cell? ⟨w.heap.size, 1, none⟩ = some (.int .i64 c.n) ∧ W.cell? ⟨w.heap.size, 2, none⟩ = some (.slice ao c.l.length cap)) (by kernel_rfl) wzo_size ?_
    rw [wzo_new, hW0]
    refine any_take (v := ?_) wzo_t0_0 (by kernel_rfl) (fun _ _ _ _ _ h => h) (SX.out _ bel0) rfl rfl (by rfl) ?_ ?_
    rotate_left 1
    ·intro w hS
     (try dsimp only at hS)
     go_simp
     all_goals with_reducible rfl
    simp only [Act.put, List.setIfInBounds_toArray, List.set_cons_zero, List.set_cons_succ]
    refine any_take (v := ?_) wzo_t1_1 (by kernel_rfl) (fun _ _ _ _ _ h => h) (SX.out _ bel0) rfl rfl (by rfl) ?_ ?_
    rotate_left 1
    ·intro w hS
     (try dsimp only at hS)
     go_simp
     all_goals with_reducible rfl
    simp only [Act.put, List.setIfInBounds_toArray, List.set_cons_zero, List.set_cons_succ]
    refine any_take (v := ?_) wzo_t3_3 (by kernel_rfl) (fun _ _ _ _ _ h => h) (SX.out _ bel0) rfl rfl (by rfl) ?_ ?_
    rotate_left 1
    ·intro w hS
     (try dsimp only at hS)
     go_simp
     all_goals with_reducible rfl
    simp only [Act.put, List.setIfInBounds_toArray, List.set_cons_zero, List.set_cons_succ]
    refine any_take (v := ?_) wzo_t11_6 (by kernel_rfl) (fun _ _ _ _ _ h => h) (SX.out _ bel0) rfl rfl (by rfl) ?_ ?_
    rotate_left 1
    ·intro w hS
     (try dsimp only at hS)
     go_simp
     all_goals with_reducible rfl
    simp only [Act.put, List.setIfInBounds_toArray, List.set_cons_zero, List.set_cons_succ]
    refine any_two wzo_r75 ?_ ?_
    ·refine any_op rfl (by rfl) (fun K hK => ?_)
     go_simp
     refine (HEN.out _ bel0).mono ?_
     rintro E W7 ⟨rfl, st7⟩
     have bel7 := bel0.trans (st7.mono bel0.size)
     go_wp2_with fail
     refine hK.out _ _ (SX.out _ bel7) ?_
     clear hK K
     try simp only [Act.put, List.setIfInBounds_toArray, List.set_cons_zero, List.set_cons_succ]
     refine any_one wzo_r79 ?_
     obtain ⟨W8, hW8, sz8, st8, own8⟩ := coms_step 50 W7 #[.int .i64 c.e, .int .i64 c.n, .slice ao c.l.length cap] 1 [⟨c.e, c.n, .slice ao c.l.length cap, c.l⟩] rfl rfl (by simp [maxLen])
     have bel8 := bel7.trans (st8.mono bel7.size)
     clear sz8
     refine any_op rfl (by rfl) (fun K hK => ?_)
     go_simp
     go_wp2_with fail
     refine hK.out _ _ (SX.out _ bel8) ?_
     clear hK K
     try simp only [Act.put, List.setIfInBounds_toArray, List.set_cons_zero, List.set_cons_succ]
     refine any_one wzo_r95 ?_
     have FO9 := hide (HFO.out _ _ bel8 own8.row)
     refine any_op rfl (by rfl) (fun K hK => ?_)
     go_simp
     refine FO9.out.mono ?_
     rintro E W9 ⟨rfl, st9⟩
     have bel9 := bel8.trans (st9.mono bel8.size)
     clear FO9
     go_wp2_with fail
     refine hK.out _ _ (SX.out _ bel9) ?_
     clear hK K
     try simp only [Act.put, List.setIfInBounds_toArray, List.set_cons_zero, List.set_cons_succ]
     refine any_take (v := ?_) wzo_t127_7 (by kernel_rfl) (fun _ _ _ _ _ h => h) (SX.out _ bel9) rfl rfl (by rfl) ?_ ?_
     rotate_left 1
     ·intro w hS
      (try dsimp only at hS)
      go_simp
      all_goals with_reducible rfl
     simp only [Act.put, List.setIfInBounds_toArray, List.set_cons_zero, List.set_cons_succ]
     refine any_done wzo_end ?_
     have BEL := hide bel9
     obtain ⟨WZ, hWZ⟩ : ∃ z, z = W9 := ⟨_, rfl⟩
     rw [← hWZ] at BEL
     rw [← hWZ]
     clear hWZ
     go_wp2
     go_ret
     refine ⟨by rw [E4.out]; rfl, ?_⟩
     rw [E4.out]
     exact YwS.pre B1.out (YwS.same (s := s) (by rw [HFF.out]; exact ⟨F1, v, rs, HXW.out, HYV.out, H3.out, HOKS.out, rfl⟩) BEL.out)
    ·obtain ⟨W10, hW10, sz10, st10, own10⟩ := coms_step 50 W0 #[.int .i64 c.e, .int .i64 c.n, .slice ao c.l.length cap] 1 [⟨c.e, c.n, .slice ao c.l.length cap, c.l⟩] rfl rfl (by simp [maxLen])
     have bel10 := bel0.trans (st10.mono bel0.size)
     clear sz10
     refine any_op rfl (by rfl) (fun K hK => ?_)
     go_simp
     go_wp2_with fail
     refine hK.out _ _ (SX.out _ bel10) ?_
     clear hK K
     try simp only [Act.put, List.setIfInBounds_toArray, List.set_cons_zero, List.set_cons_succ]
     refine any_one wzo_r91 ?_
     refine any_op rfl (by rfl) (fun K hK => ?_)
     go_simp
     refine (HEN.out _ bel10).mono ?_
     rintro E W11 ⟨rfl, st11⟩
     have bel11 := bel10.trans (st11.mono bel10.size)
     have own11 := OwnR.below own10 st11
     go_wp2_with fail
     refine hK.out _ _ (SX.out _ bel11) ?_
     clear hK K
     try simp only [Act.put, List.setIfInBounds_toArray, List.set_cons_zero, List.set_cons_succ]
     refine any_one wzo_r95 ?_
     have FO12 := hide (HFO.out _ _ bel11 own11.row)
     refine any_op rfl (by rfl) (fun K hK => ?_)
     go_simp
     refine FO12.out.mono ?_
     rintro E W12 ⟨rfl, st12⟩
     have bel12 := bel11.trans (st12.mono bel11.size)
     clear FO12
     go_wp2_with fail
     refine hK.out _ _ (SX.out _ bel12) ?_
     clear hK K
     try simp only [Act.put, List.setIfInBounds_toArray, List.set_cons_zero, List.set_cons_succ]
     refine any_take (v := ?_) wzo_t127_7 (by kernel_rfl) (fun _ _ _ _ _ h => h) (SX.out _ bel12) rfl rfl (by rfl) ?_ ?_
     rotate_left 1
     ·intro w hS
      (try dsimp only at hS)
      go_simp
      all_goals with_reducible rfl
     simp only [Act.put, List.setIfInBounds_toArray, List.set_cons_zero, List.set_cons_succ]
     refine any_done wzo_end ?_
     have BEL := hide bel12
     obtain ⟨WZ, hWZ⟩ : ∃ z, z = W12 := ⟨_, rfl⟩
     rw [← hWZ] at BEL
     rw [← hWZ]
     clear hWZ
     go_wp2
     go_ret
     refine ⟨by rw [E4.out]; rfl, ?_⟩
     rw [E4.out]
     exact YwS.pre B1.out (YwS.same (s := s) (by rw [HFF.out]; exact ⟨F1, v, rs, HXW.out, HYV.out, H3.out, HOKS.out, rfl⟩) BEL.out)
  ·have S8 := hide hS8
   have hm0 : (0 : Int) < (m : Int) + 1 := by omega
   have hm1 : IntKind.i64.wrap ((m : Int) + 1 - 1) = (m : Int) := by rw [wrap_i64_small _ (by omega) (by omega)]; omega
   have hm4 : IntKind.i64.wrap (m : Int) = (m : Int) := wrap_i64_small _ (by omega) (by omega)
   have hm2 : (m : Int) < (m : Int) + 1 := by omega
   have hm3 : (0 : Int) ≤ (m : Int) := by omega
   clear CASES hv d2 hS8
   by_cases hbad : fa = (0, 0)
   ·have E4 : Hid (Sto.apl s c.c = (0, ⟨s.r, s.l ++ [c.c]⟩)) := hide (by rw [EA.out, if_neg (by simp [hbad])])
    subst hbad
    go_enter Tryz.func51, Tryz.ntmps51
    go_wp2_with fail
    refine HN.out.mono ?_
    rintro E w2 ⟨rfl, rfl⟩
    go_wp2_with fail
    refine HCK.out.mono ?_
    rintro E w2 ⟨rfl, bel2⟩
    have B2 := hide bel2
    have d2' := (S8.out w2 bel2).1
    obtain ⟨W8, hW8⟩ : ∃ z, w2.drew = z := ⟨_, rfl⟩
    have bel8 : Below w1.heap.size w1 W8 := by rw [← hW8]; exact bel2.drew
    clear HN HCK d0 c0 c1 c2 bel2
    go_wp2_with fail
    refine region_any (ops := (regOf 8 Tryz.f51)) (S := fun W => W.cell? ⟨xs, 2, none⟩ = some (.slice (some ⟨lb, lo, none⟩) (m + 1) k1) ∧ W.cell? ⟨lb, lo + m * 3, none⟩ = some (.int .i64 ep)) (by kernel_rfl) wzn_size ?_
    rw [wzn_new, hW8]
    refine any_take (v := ?_) wzn_t0_0 (by kernel_rfl) (fun _ _ _ _ _ h => h) (S8.out _ bel8) rfl rfl (by rfl) ?_ ?_
    rotate_left 1
    ·intro w hS
     (try dsimp only at hS)
     go_simp
     all_goals with_reducible rfl
    simp only [Act.put, List.setIfInBounds_toArray, List.set_cons_zero, List.set_cons_succ]
    refine any_take (v := ?_) wzn_t1_1 (by kernel_rfl) (fun _ _ _ _ _ h => h) (S8.out _ bel8) rfl rfl (by rfl) ?_ ?_
    rotate_left 1
    ·intro w hS
     (try dsimp only at hS)
     go_simp
     all_goals with_reducible rfl
    simp only [Act.put, List.setIfInBounds_toArray, List.set_cons_zero, List.set_cons_succ]
    refine any_take (v := ?_) wzn_t3_2 (by kernel_rfl) (fun _ _ _ _ _ h => h) (S8.out _ bel8) rfl rfl (by rfl) ?_ ?_
    rotate_left 1
    ·intro w hS
     (try dsimp only at hS)
     go_simp
     all_goals with_reducible rfl
    simp only [Act.put, List.setIfInBounds_toArray, List.set_cons_zero, List.set_cons_succ]
    refine any_take (v := ?_) wzn_t7_3 (by kernel_rfl) (fun _ _ _ _ _ h => h) (S8.out _ bel8) rfl rfl (by rfl) ?_ ?_
    rotate_left 1
    ·intro w hS
     (try dsimp only at hS)
     go_simp
     all_goals with_reducible rfl
    simp only [Act.put, List.setIfInBounds_toArray, List.set_cons_zero, List.set_cons_succ]
    refine any_take (v := ?_) wzn_t15_4 (by kernel_rfl) (fun _ _ _ _ _ h => h) (S8.out _ bel8) rfl rfl (by rfl) ?_ ?_
    rotate_left 1
    ·intro w hS
     (try dsimp only at hS)
     go_simp
     all_goals with_reducible rfl
    simp only [Act.put, List.setIfInBounds_toArray, List.set_cons_zero, List.set_cons_succ]
    refine any_take (v := ?_) wzn_t31_5 (by kernel_rfl) (fun _ _ _ _ _ h => h) (S8.out _ bel8) rfl rfl (by rfl) ?_ ?_
    rotate_left 1
    ·intro w hS
     (try dsimp only at hS)
     go_simp
     all_goals with_reducible rfl
    simp only [Act.put, List.setIfInBounds_toArray, List.set_cons_zero, List.set_cons_succ]
    refine any_take (v := ?_) wzn_t63_6 (by kernel_rfl) (fun _ _ _ _ _ h => h) (S8.out _ bel8) rfl rfl (by rfl) ?_ ?_
    rotate_left 1
    ·intro w hS
     (try dsimp only at hS)
     go_simp
     all_goals with_reducible rfl
    simp only [Act.put, List.setIfInBounds_toArray, List.set_cons_zero, List.set_cons_succ]
    refine any_take (v := ?_) wzn_t127_7 (by kernel_rfl) (fun _ _ _ _ _ h => h) (S8.out _ bel8) rfl rfl (by rfl) ?_ ?_
    rotate_left 1
    ·intro w hS
     (try dsimp only at hS)
     go_simp
     all_goals with_reducible rfl
    simp only [Act.put, List.setIfInBounds_toArray, List.set_cons_zero, List.set_cons_succ]
    refine any_take (v := ?_) wzn_t255_8 (by kernel_rfl) (fun _ _ _ _ _ h => h) (S8.out _ bel8) rfl rfl (by rfl) ?_ ?_
    rotate_left 1
    ·intro w hS
     (try dsimp only at hS)
     go_simp
     all_goals with_reducible rfl
    simp only [Act.put, List.setIfInBounds_toArray, List.set_cons_zero, List.set_cons_succ]
    refine any_take (v := ?_) wzn_t511_9 (by kernel_rfl) (fun _ _ _ _ _ h => h) (S8.out _ bel8) rfl rfl (by rfl) ?_ ?_
    rotate_left 1
    ·intro w hS
     (try dsimp only at hS)
     go_simp
     all_goals with_reducible rfl
    simp only [Act.put, List.setIfInBounds_toArray, List.set_cons_zero, List.set_cons_succ]
    refine any_take (v := ?_) wzn_t1023_10 (by kernel_rfl) (fun _ _ _ _ _ h => h) (S8.out _ bel8) rfl rfl (by rfl) ?_ ?_
    rotate_left 1
    ·intro w hS
     (try dsimp only at hS)
     go_simp
     all_goals with_reducible rfl
    simp only [Act.put, List.setIfInBounds_toArray, List.set_cons_zero, List.set_cons_succ]
    refine any_take (v := ?_) wzn_t2047_11 (by kernel_rfl) (fun _ _ _ _ _ h => h) (S8.out _ bel8) rfl rfl (by rfl) ?_ ?_
    rotate_left 1
    ·intro w hS
     (try dsimp only at hS)
     go_simp
     all_goals with_reducible rfl
    simp only [Act.put, List.setIfInBounds_toArray, List.set_cons_zero, List.set_cons_succ]
    refine any_take (v := ?_) wzn_t4095_12 (by kernel_rfl) (fun _ _ _ _ _ h => h) (S8.out _ bel8) rfl rfl (by rfl) ?_ ?_
    rotate_left 1
    ·intro w hS
     (try dsimp only at hS)
     go_simp
     all_goals with_reducible rfl
    simp only [Act.put, List.setIfInBounds_toArray, List.set_cons_zero, List.set_cons_succ]
    refine any_take (v := ?_) wzn_t8191_13 (by kernel_rfl) (fun _ _ _ _ _ h => h) (S8.out _ bel8) rfl rfl (by rfl) ?_ ?_
    rotate_left 1
    ·intro w hS
     (try dsimp only at hS)
     go_simp
     all_goals with_reducible rfl
    simp only [Act.put, List.setIfInBounds_toArray, List.set_cons_zero, List.set_cons_succ]
    refine any_done wzn_end ?_
    have B8 := hide bel8
    obtain ⟨W0, hW0⟩ : ∃ z, W8.drew = z := ⟨_, rfl⟩
    have bel0 : Below w1.heap.size w1 W0 := by rw [← hW0]; exact bel8.drew
    clear bel8 hW8
    go_wp2_with fail
    refine region_any (ops := (regOf 9 Tryz.f51)) (S := fun W => W.cell? ⟨w.heap.size, 0, none⟩ = some (.int .i64 c.e) ∧ W.cell? ⟨w.heap.size, 1, none⟩ = some (.int .i64 c.n) ∧ W.cell? ⟨w.heap.size, 2, none⟩ = some (.slice ao c.l.length cap)) (by kernel_rfl) wzo_size ?_
    rw [wzo_new, hW0]
    refine any_take (v := ?_) wzo_t0_0 (by kernel_rfl) (fun _ _ _ _ _ h => h) (SX.out _ bel0) rfl rfl (by rfl) ?_ ?_
    rotate_left 1
    ·intro w hS
     (try dsimp only at hS)
     go_simp
     all_goals with_reducible rfl
    simp only [Act.put, List.setIfInBounds_toArray, List.set_cons_zero, List.set_cons_succ]
    refine any_take (v := ?_) wzo_t1_1 (by kernel_rfl) (fun _ _ _ _ _ h => h) (SX.out _ bel0) rfl rfl (by rfl) ?_ ?_
    rotate_left 1
    ·intro w hS
     (try dsimp only at hS)
     go_simp
     all_goals with_reducible rfl
    simp only [Act.put, List.setIfInBounds_toArray, List.set_cons_zero, List.set_cons_succ]
    refine any_take (v := ?_) wzo_t3_3 (by kernel_rfl) (fun _ _ _ _ _ h => h) (SX.out _ bel0) rfl rfl (by rfl) ?_ ?_
    rotate_left 1
    ·intro w hS
     (try dsimp only at hS)
     go_simp
     all_goals with_reducible rfl
    simp only [Act.put, List.setIfInBounds_toArray, List.set_cons_zero, List.set_cons_succ]
    refine any_take (v := ?_) wzo_t11_6 (by kernel_rfl) (fun _ _ _ _ _ h => h) (SX.out _ bel0) rfl rfl (by rfl) ?_ ?_
    rotate_left 1
    ·intro w hS
     (try dsimp only at hS)
     go_simp
     all_goals with_reducible rfl
    simp only [Act.put, List.setIfInBounds_toArray, List.set_cons_zero, List.set_cons_succ]
    refine any_two wzo_r75 ?_ ?_
    ·refine any_op rfl (by rfl) (fun K hK => ?_)
     go_simp
     refine (HEN.out _ bel0).mono ?_
     rintro E W13 ⟨rfl, st13⟩
     have bel13 := bel0.trans (st13.mono bel0.size)
     go_wp2_with fail
     refine hK.out _ _ (SX.out _ bel13) ?_
     clear hK K
     try simp only [Act.put, List.setIfInBounds_toArray, List.set_cons_zero, List.set_cons_succ]
     refine any_one wzo_r79 ?_
     obtain ⟨W14, hW14, sz14, st14, own14⟩ := coms_step 50 W13 #[.int .i64 c.e, .int .i64 c.n, .slice ao c.l.length cap] 1 [⟨c.e, c.n, .slice ao c.l.length cap, c.l⟩] rfl rfl (by simp [maxLen])
     have bel14 := bel13.trans (st14.mono bel13.size)
     clear sz14
     refine any_op rfl (by rfl) (fun K hK => ?_)
     go_simp
     go_wp2_with fail
     refine hK.out _ _ (SX.out _ bel14) ?_
     clear hK K
     try simp only [Act.put, List.setIfInBounds_toArray, List.set_cons_zero, List.set_cons_succ]
     refine any_one wzo_r95 ?_
     have FO15 := hide (HFO.out _ _ bel14 own14.row)
     refine any_op rfl (by rfl) (fun K hK => ?_)
     go_simp
     refine FO15.out.mono ?_
     rintro E W15 ⟨rfl, st15⟩
     have bel15 := bel14.trans (st15.mono bel14.size)
     clear FO15
     go_wp2_with fail
     refine hK.out _ _ (SX.out _ bel15) ?_
     clear hK K
     try simp only [Act.put, List.setIfInBounds_toArray, List.set_cons_zero, List.set_cons_succ]
     refine any_take (v := ?_) wzo_t127_7 (by kernel_rfl) (fun _ _ _ _ _ h => h) (SX.out _ bel15) rfl rfl (by rfl) ?_ ?_
     rotate_left 1
     ·intro w hS
      (try dsimp only at hS)
      go_simp
      all_goals with_reducible rfl
     simp only [Act.put, List.setIfInBounds_toArray, List.set_cons_zero, List.set_cons_succ]
     refine any_done wzo_end ?_
     have BEL := hide bel15
     obtain ⟨WZ, hWZ⟩ : ∃ z, z = W15 := ⟨_, rfl⟩
     rw [← hWZ] at BEL
     rw [← hWZ]
     clear hWZ
     have hszz := BEL.out.size
     have Y9 := hide (HYV.out.below BEL.out)
     have X9 := hide (HXW.out.below BEL.out)
     have i9 : IsO WZ (.slice ao c.l.length cap) c.l := HIO.out.below BEL.out
     obtain ⟨x0, x1, x2⟩ := SX.out WZ BEL.out
     have y2 : WZ.cell? ⟨xs, 2, none⟩ = some v := blk_cell Y9.out.blk 2 rfl
     obtain ⟨la, ln, lk, hlv⟩ : ∃ a n k, v = .slice a n k := by
      obtain ⟨a1, k1, h1, _⟩ := Y9.out.rest.row.row.shape
      exact ⟨a1, _, k1, h1⟩
     rw [hlv] at y2
     have hp9 : xs < WZ.heap.size := blk_lt Y9.out.blk
     have BB1 := hide (show w.heap.size < WZ.heap.size by have := blk_lt (show WZ.heap[xs]? = _ from Y9.out.blk); omega)
     have X1 : Hid (Calls Tryz.prog 85 #[.agg #[.int .i64 c.e, .int .i64 c.n, .slice ao c.l.length cap]] WZ.drew fun E w7 => ∃ v', E = .returned v' ∧ ∃ (vo : Value) (V : World), v' = .agg #[.int .i64 c.e, .int .i64 c.n, vo] ∧ (∃ a n k, vo = .slice a n k) ∧ w7.cell? ⟨xs, 2, none⟩ = some (.slice la ln lk) ∧ (w7.cell? ⟨w.heap.size, 0, none⟩ = some (.int .i64 c.e) ∧ w7.cell? ⟨w.heap.size, 1, none⟩ = some (.int .i64 c.n) ∧ w7.cell? ⟨w.heap.size, 2, none⟩ = some (.slice ao c.l.length cap)) ∧ w7.alloc (.cells #[.int .i64 c.e, .int .i64 c.n, vo] 50) = V ∧ (V.cell? ⟨xs, 2, none⟩ = some (.slice la ln lk) ∧ (V.cell? ⟨w.heap.size, 0, none⟩ = some (.int .i64 c.e) ∧ V.cell? ⟨w.heap.size, 1, none⟩ = some (.int .i64 c.n) ∧ V.cell? ⟨w.heap.size, 2, none⟩ = some (.slice ao c.l.length cap))) ∧
       Hid (∀ ty, ∃ v2 w2, (Builtin.append_ #[22, 22] ty #[.slice la ln lk, .slice (some ⟨w7.heap.size, 0, none⟩) 1 1]).run Tryz.prog V = .ok v2 w2 ∧ (YwS xs x y F w1 (w2.setCell ⟨xs, 2, none⟩ v2) ⟨s.r, s.l ++ [c.c]⟩ ∧ w2.cell? ⟨xs, 2, none⟩ = some (.slice la ln lk) ∧ w2.frozen? ⟨xs, 2, none⟩ = false ∧ ∃ a n k, v2 = .slice a n k))) := hide (by
      have := copyX_any c.e c.n (.slice ao c.l.length cap) c.l WZ.drew (i9.drewN 1) HLO.out
      unfold cmv at this
      refine this.mono ?_
      rintro E w7 ⟨vo, rfl, own7, bel7⟩
      have b97 : Below WZ.heap.size WZ w7 := (Below.refl WZ.heap.size WZ).drew.trans bel7
      have hgk : Cm.chk c.e c.n c.l = 0 := HK.out
      have hfw : s.l.length + 1 ≤ 1048576 := by have := HLL.out; omega
      obtain ⟨V, hV, V2, _⟩ := y_push (c := ⟨c.e, c.n, vo, c.l⟩) Y9.out b97 own7 hgk hfw 22
      rw [hlv] at V2
      have belV : Below w7.heap.size w7 V := by rw [← hV]; exact (Below.refl _ _).alloc (Nat.le_refl _) _
      have b9V := b97.trans (belV.mono b97.size)
      have b17 := BEL.out.trans (b97.mono hszz)
      have b1V := BEL.out.trans (b9V.mono hszz)
      obtain ⟨a1, k1, h1, _⟩ := own7.is.shape
      refine ⟨_, rfl, vo, V, rfl, ⟨a1, _, k1, h1⟩, (b97.cell (p := ⟨xs, 2, none⟩) hp9).trans y2, SX.out w7 b17, hV, ⟨V2, SX.out V b1V⟩, hide fun ty => ?_⟩
      obtain ⟨V', hV', V2', v2', w2', hr', q1', q2', q3', J1, J2, J3⟩ := y_push (c := ⟨c.e, c.n, vo, c.l⟩) Y9.out b97 own7 hgk hfw ty
      have eV : V' = V := hV'.symm.trans hV
      subst eV
      rw [hlv] at hr' q1'
      refine ⟨v2', w2', hr', ?_, q1', q2', q3'⟩
      rw [HFF.out]
      have hok := HOK.out
      rw [E4.out] at hok
      exact YwS.trans (Out.of_below BEL.out) (fun g hg => .inl hg) (YwS.rest X9.out Y9.out H3.out J1 J2 J3 hok))
     clear Y9 X9 i9 HYV HXW HFO HEN
     go_wp2_with fail
     go_region_law (first
      | (have ow := XX; refine step_append_at rfl (.tmp 45) (.tmp 48) 22 rfl (.slice la ln lk) (.slice (some ⟨w7.heap.size, 0, none⟩) 1 1) (by first | (simp [Act.eval]; done) | (simp [Act.eval, Act.put]; done)) (by first | (simp [Act.eval]; done) | (simp [Act.eval, Act.put]; done)) XX.out ?_; rintro v8 w8 ⟨J, d8, g8, a8, n8, k8, rfl⟩; have J := hide J)
      | (refine call_at rfl 85 #[.tmp 46] #[50] rfl Tryz.enters85 #[.agg #[.int .i64 c.e, .int .i64 c.n, .slice ao c.l.length cap]] (by first | (simp [Act.eval]; done) | (simp [Act.eval, Act.put]; done)) X1.out ?_; rintro v7 w7 ⟨vo, V, rfl, ⟨oa, on, ok, rfl⟩, z2, ⟨b0, b1, b2⟩, hV, ⟨z3, b3, b4, b5⟩, XX⟩))
     all_goals
      have JJ := hide (YwS.pre B1.out J.out)
      clear J
      go_wp2
      go_ret
      exact ⟨by rw [E4.out]; rfl, by rw [E4.out]; exact JJ.out⟩
    ·obtain ⟨W16, hW16, sz16, st16, own16⟩ := coms_step 50 W0 #[.int .i64 c.e, .int .i64 c.n, .slice ao c.l.length cap] 1 [⟨c.e, c.n, .slice ao c.l.length cap, c.l⟩] rfl rfl (by simp [maxLen])
     have bel16 := bel0.trans (st16.mono bel0.size)
     clear sz16
     refine any_op rfl (by rfl) (fun K hK => ?_)
     go_simp
     go_wp2_with fail
     refine hK.out _ _ (SX.out _ bel16) ?_
     clear hK K
     try simp only [Act.put, List.setIfInBounds_toArray, List.set_cons_zero, List.set_cons_succ]
     refine any_one wzo_r91 ?_
     refine any_op rfl (by rfl) (fun K hK => ?_)
     go_simp
     refine (HEN.out _ bel16).mono ?_
     rintro E W17 ⟨rfl, st17⟩
     have bel17 := bel16.trans (st17.mono bel16.size)
     have own17 := OwnR.below own16 st17
     go_wp2_with fail
     refine hK.out _ _ (SX.out _ bel17) ?_
     clear hK K
     try simp only [Act.put, List.setIfInBounds_toArray, List.set_cons_zero, List.set_cons_succ]
     refine any_one wzo_r95 ?_
     have FO18 := hide (HFO.out _ _ bel17 own17.row)
     refine any_op rfl (by rfl) (fun K hK => ?_)
     go_simp
     refine FO18.out.mono ?_
     rintro E W18 ⟨rfl, st18⟩
     have bel18 := bel17.trans (st18.mono bel17.size)
     clear FO18
     go_wp2_with fail
     refine hK.out _ _ (SX.out _ bel18) ?_
     clear hK K
     try simp only [Act.put, List.setIfInBounds_toArray, List.set_cons_zero, List.set_cons_succ]
     refine any_take (v := ?_) wzo_t127_7 (by kernel_rfl) (fun _ _ _ _ _ h => h) (SX.out _ bel18) rfl rfl (by rfl) ?_ ?_
     rotate_left 1
     ·intro w hS
      (try dsimp only at hS)
      go_simp
      all_goals with_reducible rfl
     simp only [Act.put, List.setIfInBounds_toArray, List.set_cons_zero, List.set_cons_succ]
     refine any_done wzo_end ?_
     have BEL := hide bel18
     obtain ⟨WZ, hWZ⟩ : ∃ z, z = W18 := ⟨_, rfl⟩
     rw [← hWZ] at BEL
     rw [← hWZ]
     clear hWZ
     have hszz := BEL.out.size
     have Y9 := hide (HYV.out.below BEL.out)
     have X9 := hide (HXW.out.below BEL.out)
     have i9 : IsO WZ (.slice ao c.l.length cap) c.l := HIO.out.below BEL.out
     obtain ⟨x0, x1, x2⟩ := SX.out WZ BEL.out
     have y2 : WZ.cell? ⟨xs, 2, none⟩ = some v := blk_cell Y9.out.blk 2 rfl
     obtain ⟨la, ln, lk, hlv⟩ : ∃ a n k, v = .slice a n k := by
      obtain ⟨a1, k1, h1, _⟩ := Y9.out.rest.row.row.shape
      exact ⟨a1, _, k1, h1⟩
     rw [hlv] at y2
     have hp9 : xs < WZ.heap.size := blk_lt Y9.out.blk
     have BB1 := hide (show w.heap.size < WZ.heap.size by have := blk_lt (show WZ.heap[xs]? = _ from Y9.out.blk); omega)
     have X1 : Hid (Calls Tryz.prog 85 #[.agg #[.int .i64 c.e, .int .i64 c.n, .slice ao c.l.length cap]] WZ.drew fun E w7 => ∃ v', E = .returned v' ∧ ∃ (vo : Value) (V : World), v' = .agg #[.int .i64 c.e, .int .i64 c.n, vo] ∧ (∃ a n k, vo = .slice a n k) ∧ w7.cell? ⟨xs, 2, none⟩ = some (.slice la ln lk) ∧ (w7.cell? ⟨w.heap.size, 0, none⟩ = some (.int .i64 c.e) ∧ w7.cell? ⟨w.heap.size, 1, none⟩ = some (.int .i64 c.n) ∧ w7.cell? ⟨w.heap.size, 2, none⟩ = some (.slice ao c.l.length cap)) ∧ w7.alloc (.cells #[.int .i64 c.e, .int .i64 c.n, vo] 50) = V ∧ (V.cell? ⟨xs, 2, none⟩ = some (.slice la ln lk) ∧ (V.cell? ⟨w.heap.size, 0, none⟩ = some (.int .i64 c.e) ∧ V.cell? ⟨w.heap.size, 1, none⟩ = some (.int .i64 c.n) ∧ V.cell? ⟨w.heap.size, 2, none⟩ = some (.slice ao c.l.length cap))) ∧
       Hid (∀ ty, ∃ v2 w2, (Builtin.append_ #[22, 22] ty #[.slice la ln lk, .slice (some ⟨w7.heap.size, 0, none⟩) 1 1]).run Tryz.prog V = .ok v2 w2 ∧ (YwS xs x y F w1 (w2.setCell ⟨xs, 2, none⟩ v2) ⟨s.r, s.l ++ [c.c]⟩ ∧ w2.cell? ⟨xs, 2, none⟩ = some (.slice la ln lk) ∧ w2.frozen? ⟨xs, 2, none⟩ = false ∧ ∃ a n k, v2 = .slice a n k))) := hide (by
      have := copyX_any c.e c.n (.slice ao c.l.length cap) c.l WZ.drew (i9.drewN 1) HLO.out
      unfold cmv at this
      refine this.mono ?_
      rintro E w7 ⟨vo, rfl, own7, bel7⟩
      have b97 : Below WZ.heap.size WZ w7 := (Below.refl WZ.heap.size WZ).drew.trans bel7
      have hgk : Cm.chk c.e c.n c.l = 0 := HK.out
      have hfw : s.l.length + 1 ≤ 1048576 := by have := HLL.out; omega
      obtain ⟨V, hV, V2, _⟩ := y_push (c := ⟨c.e, c.n, vo, c.l⟩) Y9.out b97 own7 hgk hfw 22
      rw [hlv] at V2
      have belV : Below w7.heap.size w7 V := by rw [← hV]; exact (Below.refl _ _).alloc (Nat.le_refl _) _
      have b9V := b97.trans (belV.mono b97.size)
      have b17 := BEL.out.trans (b97.mono hszz)
      have b1V := BEL.out.trans (b9V.mono hszz)
      obtain ⟨a1, k1, h1, _⟩ := own7.is.shape
      refine ⟨_, rfl, vo, V, rfl, ⟨a1, _, k1, h1⟩, (b97.cell (p := ⟨xs, 2, none⟩) hp9).trans y2, SX.out w7 b17, hV, ⟨V2, SX.out V b1V⟩, hide fun ty => ?_⟩
      obtain ⟨V', hV', V2', v2', w2', hr', q1', q2', q3', J1, J2, J3⟩ := y_push (c := ⟨c.e, c.n, vo, c.l⟩) Y9.out b97 own7 hgk hfw ty
      have eV : V' = V := hV'.symm.trans hV
      subst eV
      rw [hlv] at hr' q1'
      refine ⟨v2', w2', hr', ?_, q1', q2', q3'⟩
      rw [HFF.out]
      have hok := HOK.out
      rw [E4.out] at hok
      exact YwS.trans (Out.of_below BEL.out) (fun g hg => .inl hg) (YwS.rest X9.out Y9.out H3.out J1 J2 J3 hok))
     clear Y9 X9 i9 HYV HXW HFO HEN
     go_wp2_with fail
     go_region_law (first
      | (have ow := XX; refine step_append_at rfl (.tmp 45) (.tmp 48) 22 rfl (.slice la ln lk) (.slice (some ⟨w7.heap.size, 0, none⟩) 1 1) (by first | (simp [Act.eval]; done) | (simp [Act.eval, Act.put]; done)) (by first | (simp [Act.eval]; done) | (simp [Act.eval, Act.put]; done)) XX.out ?_; rintro v8 w8 ⟨J, d8, g8, a8, n8, k8, rfl⟩; have J := hide J)
      | (refine call_at rfl 85 #[.tmp 46] #[50] rfl Tryz.enters85 #[.agg #[.int .i64 c.e, .int .i64 c.n, .slice ao c.l.length cap]] (by first | (simp [Act.eval]; done) | (simp [Act.eval, Act.put]; done)) X1.out ?_; rintro v7 w7 ⟨vo, V, rfl, ⟨oa, on, ok, rfl⟩, z2, ⟨b0, b1, b2⟩, hV, ⟨z3, b3, b4, b5⟩, XX⟩))
     all_goals
      have JJ := hide (YwS.pre B1.out J.out)
      clear J
      go_wp2
      go_ret
      exact ⟨by rw [E4.out]; rfl, by rw [E4.out]; exact JJ.out⟩
   ·have E4 : Hid (Sto.apl s c.c = (15, s)) := hide (by rw [EA.out, if_pos hbad])
    have hbb : (!((fa.1 == 0) && (fa.2 == 0))) = true := by
     obtain ⟨p1, p2⟩ := fa
     simp at hbad ⊢
     omega
    go_enter Tryz.func51, Tryz.ntmps51
    go_wp2_with fail
    refine HN.out.mono ?_
    rintro E w2 ⟨rfl, rfl⟩
    go_wp2_with fail
    refine HCK.out.mono ?_
    rintro E w2 ⟨rfl, bel2⟩
    have B2 := hide bel2
    have d2' := (S8.out w2 bel2).1
    obtain ⟨W8, hW8⟩ : ∃ z, w2.drew = z := ⟨_, rfl⟩
    have bel8 : Below w1.heap.size w1 W8 := by rw [← hW8]; exact bel2.drew
    clear HN HCK d0 c0 c1 c2 bel2
    go_wp2_with fail
    refine region_any (ops := (regOf 8 Tryz.f51)) (S := fun W => W.cell? ⟨xs, 2, none⟩ = some (.slice (some ⟨lb, lo, none⟩) (m + 1) k1) ∧ W.cell? ⟨lb, lo + m * 3, none⟩ = some (.int .i64 ep)) (by kernel_rfl) wzn_size ?_
    rw [wzn_new, hW8]
    refine any_take (v := ?_) wzn_t0_0 (by kernel_rfl) (fun _ _ _ _ _ h => h) (S8.out _ bel8) rfl rfl (by rfl) ?_ ?_
    rotate_left 1
    ·intro w hS
     (try dsimp only at hS)
     go_simp
     all_goals with_reducible rfl
    simp only [Act.put, List.setIfInBounds_toArray, List.set_cons_zero, List.set_cons_succ]
    refine any_take (v := ?_) wzn_t1_1 (by kernel_rfl) (fun _ _ _ _ _ h => h) (S8.out _ bel8) rfl rfl (by rfl) ?_ ?_
    rotate_left 1
    ·intro w hS
     (try dsimp only at hS)
     go_simp
     all_goals with_reducible rfl
    simp only [Act.put, List.setIfInBounds_toArray, List.set_cons_zero, List.set_cons_succ]
    refine any_take (v := ?_) wzn_t3_2 (by kernel_rfl) (fun _ _ _ _ _ h => h) (S8.out _ bel8) rfl rfl (by rfl) ?_ ?_
    rotate_left 1
    ·intro w hS
     (try dsimp only at hS)
     go_simp
     all_goals with_reducible rfl
    simp only [Act.put, List.setIfInBounds_toArray, List.set_cons_zero, List.set_cons_succ]
    refine any_take (v := ?_) wzn_t7_3 (by kernel_rfl) (fun _ _ _ _ _ h => h) (S8.out _ bel8) rfl rfl (by rfl) ?_ ?_
    rotate_left 1
    ·intro w hS
     (try dsimp only at hS)
     go_simp
     all_goals with_reducible rfl
    simp only [Act.put, List.setIfInBounds_toArray, List.set_cons_zero, List.set_cons_succ]
    refine any_take (v := ?_) wzn_t15_4 (by kernel_rfl) (fun _ _ _ _ _ h => h) (S8.out _ bel8) rfl rfl (by rfl) ?_ ?_
    rotate_left 1
    ·intro w hS
     (try dsimp only at hS)
     go_simp
     all_goals with_reducible rfl
    simp only [Act.put, List.setIfInBounds_toArray, List.set_cons_zero, List.set_cons_succ]
    refine any_take (v := ?_) wzn_t31_5 (by kernel_rfl) (fun _ _ _ _ _ h => h) (S8.out _ bel8) rfl rfl (by rfl) ?_ ?_
    rotate_left 1
    ·intro w hS
     (try dsimp only at hS)
     go_simp
     all_goals with_reducible rfl
    simp only [Act.put, List.setIfInBounds_toArray, List.set_cons_zero, List.set_cons_succ]
    refine any_take (v := ?_) wzn_t63_6 (by kernel_rfl) (fun _ _ _ _ _ h => h) (S8.out _ bel8) rfl rfl (by rfl) ?_ ?_
    rotate_left 1
    ·intro w hS
     (try dsimp only at hS)
     go_simp
     all_goals with_reducible rfl
    simp only [Act.put, List.setIfInBounds_toArray, List.set_cons_zero, List.set_cons_succ]
    refine any_take (v := ?_) wzn_t127_7 (by kernel_rfl) (fun _ _ _ _ _ h => h) (S8.out _ bel8) rfl rfl (by rfl) ?_ ?_
    rotate_left 1
    ·intro w hS
     (try dsimp only at hS)
     go_simp
     all_goals with_reducible rfl
    simp only [Act.put, List.setIfInBounds_toArray, List.set_cons_zero, List.set_cons_succ]
    refine any_take (v := ?_) wzn_t255_8 (by kernel_rfl) (fun _ _ _ _ _ h => h) (S8.out _ bel8) rfl rfl (by rfl) ?_ ?_
    rotate_left 1
    ·intro w hS
     (try dsimp only at hS)
     go_simp
     all_goals with_reducible rfl
    simp only [Act.put, List.setIfInBounds_toArray, List.set_cons_zero, List.set_cons_succ]
    refine any_take (v := ?_) wzn_t511_9 (by kernel_rfl) (fun _ _ _ _ _ h => h) (S8.out _ bel8) rfl rfl (by rfl) ?_ ?_
    rotate_left 1
    ·intro w hS
     (try dsimp only at hS)
     go_simp
     all_goals with_reducible rfl
    simp only [Act.put, List.setIfInBounds_toArray, List.set_cons_zero, List.set_cons_succ]
    refine any_take (v := ?_) wzn_t1023_10 (by kernel_rfl) (fun _ _ _ _ _ h => h) (S8.out _ bel8) rfl rfl (by rfl) ?_ ?_
    rotate_left 1
    ·intro w hS
     (try dsimp only at hS)
     go_simp
     all_goals with_reducible rfl
    simp only [Act.put, List.setIfInBounds_toArray, List.set_cons_zero, List.set_cons_succ]
    refine any_take (v := ?_) wzn_t2047_11 (by kernel_rfl) (fun _ _ _ _ _ h => h) (S8.out _ bel8) rfl rfl (by rfl) ?_ ?_
    rotate_left 1
    ·intro w hS
     (try dsimp only at hS)
     go_simp
     all_goals with_reducible rfl
    simp only [Act.put, List.setIfInBounds_toArray, List.set_cons_zero, List.set_cons_succ]
    refine any_take (v := ?_) wzn_t4095_12 (by kernel_rfl) (fun _ _ _ _ _ h => h) (S8.out _ bel8) rfl rfl (by rfl) ?_ ?_
    rotate_left 1
    ·intro w hS
     (try dsimp only at hS)
     go_simp
     all_goals with_reducible rfl
    simp only [Act.put, List.setIfInBounds_toArray, List.set_cons_zero, List.set_cons_succ]
    refine any_take (v := ?_) wzn_t8191_13 (by kernel_rfl) (fun _ _ _ _ _ h => h) (S8.out _ bel8) rfl rfl (by rfl) ?_ ?_
    rotate_left 1
    ·intro w hS
     (try dsimp only at hS)
     go_simp
     all_goals with_reducible rfl
    simp only [Act.put, List.setIfInBounds_toArray, List.set_cons_zero, List.set_cons_succ]
    refine any_done wzn_end ?_
    have B8 := hide bel8
    obtain ⟨W0, hW0⟩ : ∃ z, W8.drew = z := ⟨_, rfl⟩
    have bel0 : Below w1.heap.size w1 W0 := by rw [← hW0]; exact bel8.drew
    clear bel8 hW8
    go_wp2_with fail
    refine region_any (ops := (regOf 9 Tryz.f51)) (S := fun W => W.cell? ⟨w.heap.size, 0, none⟩ = some (.int .i64 c.e) ∧ W.cell? ⟨w.heap.size, 1, none⟩ = some (.int .i64 c.n) ∧ W.cell? ⟨w.heap.size, 2, none⟩ = some (.slice ao c.l.length cap)) (by kernel_rfl) wzo_size ?_
    rw [wzo_new, hW0]
    refine any_take (v := ?_) wzo_t0_0 (by kernel_rfl) (fun _ _ _ _ _ h => h) (SX.out _ bel0) rfl rfl (by rfl) ?_ ?_
    rotate_left 1
    ·intro w hS
     (try dsimp only at hS)
     go_simp
     all_goals with_reducible rfl
    simp only [Act.put, List.setIfInBounds_toArray, List.set_cons_zero, List.set_cons_succ]
    refine any_take (v := ?_) wzo_t1_1 (by kernel_rfl) (fun _ _ _ _ _ h => h) (SX.out _ bel0) rfl rfl (by rfl) ?_ ?_
    rotate_left 1
    ·intro w hS
     (try dsimp only at hS)
     go_simp
     all_goals with_reducible rfl
    simp only [Act.put, List.setIfInBounds_toArray, List.set_cons_zero, List.set_cons_succ]
    refine any_take (v := ?_) wzo_t3_3 (by kernel_rfl) (fun _ _ _ _ _ h => h) (SX.out _ bel0) rfl rfl (by rfl) ?_ ?_
    rotate_left 1
    ·intro w hS
     (try dsimp only at hS)
     go_simp
     all_goals with_reducible rfl
    simp only [Act.put, List.setIfInBounds_toArray, List.set_cons_zero, List.set_cons_succ]
    refine any_take (v := ?_) wzo_t11_6 (by kernel_rfl) (fun _ _ _ _ _ h => h) (SX.out _ bel0) rfl rfl (by rfl) ?_ ?_
    rotate_left 1
    ·intro w hS
     (try dsimp only at hS)
     go_simp
     all_goals with_reducible rfl
    simp only [Act.put, List.setIfInBounds_toArray, List.set_cons_zero, List.set_cons_succ]
    refine any_two wzo_r75 ?_ ?_
    ·refine any_op rfl (by rfl) (fun K hK => ?_)
     go_simp
     refine (HEN.out _ bel0).mono ?_
     rintro E W19 ⟨rfl, st19⟩
     have bel19 := bel0.trans (st19.mono bel0.size)
     go_wp2_with fail
     refine hK.out _ _ (SX.out _ bel19) ?_
     clear hK K
     try simp only [Act.put, List.setIfInBounds_toArray, List.set_cons_zero, List.set_cons_succ]
     refine any_one wzo_r79 ?_
     obtain ⟨W20, hW20, sz20, st20, own20⟩ := coms_step 50 W19 #[.int .i64 c.e, .int .i64 c.n, .slice ao c.l.length cap] 1 [⟨c.e, c.n, .slice ao c.l.length cap, c.l⟩] rfl rfl (by simp [maxLen])
     have bel20 := bel19.trans (st20.mono bel19.size)
     clear sz20
     refine any_op rfl (by rfl) (fun K hK => ?_)
     go_simp
     go_wp2_with fail
     refine hK.out _ _ (SX.out _ bel20) ?_
     clear hK K
     try simp only [Act.put, List.setIfInBounds_toArray, List.set_cons_zero, List.set_cons_succ]
     refine any_one wzo_r95 ?_
     have FO21 := hide (HFO.out _ _ bel20 own20.row)
     refine any_op rfl (by rfl) (fun K hK => ?_)
     go_simp
     refine FO21.out.mono ?_
     rintro E W21 ⟨rfl, st21⟩
     have bel21 := bel20.trans (st21.mono bel20.size)
     clear FO21
     go_wp2_with fail
     refine hK.out _ _ (SX.out _ bel21) ?_
     clear hK K
     try simp only [Act.put, List.setIfInBounds_toArray, List.set_cons_zero, List.set_cons_succ]
     refine any_take (v := ?_) wzo_t127_7 (by kernel_rfl) (fun _ _ _ _ _ h => h) (SX.out _ bel21) rfl rfl (by rfl) ?_ ?_
     rotate_left 1
     ·intro w hS
      (try dsimp only at hS)
      go_simp
      all_goals with_reducible rfl
     simp only [Act.put, List.setIfInBounds_toArray, List.set_cons_zero, List.set_cons_succ]
     refine any_done wzo_end ?_
     have BEL := hide bel21
     obtain ⟨WZ, hWZ⟩ : ∃ z, z = W21 := ⟨_, rfl⟩
     rw [← hWZ] at BEL
     rw [← hWZ]
     clear hWZ
     go_wp2
     go_ret
     refine ⟨by rw [E4.out]; rfl, ?_⟩
     rw [E4.out]
     exact YwS.pre B1.out (YwS.same (s := s) (by rw [HFF.out]; exact ⟨F1, v, rs, HXW.out, HYV.out, H3.out, HOKS.out, rfl⟩) BEL.out)
    ·obtain ⟨W22, hW22, sz22, st22, own22⟩ := coms_step 50 W0 #[.int .i64 c.e, .int .i64 c.n, .slice ao c.l.length cap] 1 [⟨c.e, c.n, .slice ao c.l.length cap, c.l⟩] rfl rfl (by simp [maxLen])
     have bel22 := bel0.trans (st22.mono bel0.size)
     clear sz22
     refine any_op rfl (by rfl) (fun K hK => ?_)
     go_simp
     go_wp2_with fail
     refine hK.out _ _ (SX.out _ bel22) ?_
     clear hK K
     try simp only [Act.put, List.setIfInBounds_toArray, List.set_cons_zero, List.set_cons_succ]
     refine any_one wzo_r91 ?_
     refine any_op rfl (by rfl) (fun K hK => ?_)
     go_simp
     refine (HEN.out _ bel22).mono ?_
     rintro E W23 ⟨rfl, st23⟩
     have bel23 := bel22.trans (st23.mono bel22.size)
     have own23 := OwnR.below own22 st23
     go_wp2_with fail
     refine hK.out _ _ (SX.out _ bel23) ?_
     clear hK K
     try simp only [Act.put, List.setIfInBounds_toArray, List.set_cons_zero, List.set_cons_succ]
     refine any_one wzo_r95 ?_
     have FO24 := hide (HFO.out _ _ bel23 own23.row)
     refine any_op rfl (by rfl) (fun K hK => ?_)
     go_simp
     refine FO24.out.mono ?_
     rintro E W24 ⟨rfl, st24⟩
     have bel24 := bel23.trans (st24.mono bel23.size)
     clear FO24
     go_wp2_with fail
     refine hK.out _ _ (SX.out _ bel24) ?_
     clear hK K
     try simp only [Act.put, List.setIfInBounds_toArray, List.set_cons_zero, List.set_cons_succ]
     refine any_take (v := ?_) wzo_t127_7 (by kernel_rfl) (fun _ _ _ _ _ h => h) (SX.out _ bel24) rfl rfl (by rfl) ?_ ?_
     rotate_left 1
     ·intro w hS
      (try dsimp only at hS)
      go_simp
      all_goals with_reducible rfl
     simp only [Act.put, List.setIfInBounds_toArray, List.set_cons_zero, List.set_cons_succ]
     refine any_done wzo_end ?_
     have BEL := hide bel24
     obtain ⟨WZ, hWZ⟩ : ∃ z, z = W24 := ⟨_, rfl⟩
     rw [← hWZ] at BEL
     rw [← hWZ]
     clear hWZ
     go_wp2
     go_ret
     refine ⟨by rw [E4.out]; rfl, ?_⟩
     rw [E4.out]
     exact YwS.pre B1.out (YwS.same (s := s) (by rw [HFF.out]; exact ⟨F1, v, rs, HXW.out, HYV.out, H3.out, HOKS.out, rfl⟩) BEL.out)
 ·have hkb : (Cm.chk c.e c.n c.l != 0) = true := by simpa using hk
  rw [if_pos (show Cm.chk c.c.e c.c.n c.c.l ≠ 0 from hk)] at ea
  have EA := hide ea
  have J := hide (YwS.same h (bel1))
  have JJ : Hid (∀ w2, Below w1.heap.size w1 w2 → YwS xs x y F w w2 s) := hide fun w2 hb => YwS.same h (bel1.trans (hb.mono bel1.size))
  have KC : Hid (Cm.chk c.e c.n c.l = Cm.chk c.c.e c.c.n c.c.l) := hide rfl
  clear h hi hf h64 hlo HY1 h1 h2 h3 h4 hF ea hB bel1 d2 J
  go_enter Tryz.func51, Tryz.ntmps51
  go_wp2_with fail
  refine HN.out.mono ?_
  rintro E w2 ⟨rfl, rfl⟩
  go_wp2_with fail
  refine HCK.out.mono ?_
  rintro E w2 ⟨rfl, bel2⟩
  have J2 := hide (JJ.out w2 bel2)
  clear bel2 HCK HN
  go_wp2
  go_ret
  exact ⟨by rw [EA.out]; rfl, by rw [EA.out]; exact J2.out⟩

end Go.Proofs.YtmmfakpphjjjfaaGreat
