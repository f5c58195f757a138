/- Texts of one layer, one behind the other. -/
import Derived.Test.YtkpnkknolobioaaGreatG6
import Derived.Test.YtkpnkknolobioaaGreatG5
import Derived.Deep.RegionHeld3
/- The contracts of Follows: the program's, the document's. -/
namespace Go.Proofs.YtkpnkknolobioaaGreat
open Go.RowKit
set_option linter.unusedVariables false

/-- Two cells of a block are written. -/
theorem res_two {V : World} {R : Nat} {t : TypeId} {x y : Value} (hR : V.heap[R]? = some (.cells #[x, y] t (0, 0))) (a b : Value) :
    ∃ V', (V.setCell ⟨R, 0, none⟩ a).setCell ⟨R, 1, none⟩ b = V' ∧ V'.heap[R]? = some (.cells #[a, b] t (0, 0)) ∧ V.grownBy V' (some R) ∧
      (V.cell? ⟨R, 0, none⟩ = some x ∧ V.cell? ⟨R, 1, none⟩ = some y) ∧ (V.frozen? ⟨R, 0, none⟩ = false ∧ V.frozen? ⟨R, 1, none⟩ = false) ∧
      (V'.cell? ⟨R, 0, none⟩ = some a ∧ V'.cell? ⟨R, 1, none⟩ = some b) := by
  have h2 := set_cells (set_cells hR 0 a) 1 b
  exact ⟨_, rfl, h2, grown_trans (grown_setCell V ⟨R, 0, none⟩ a) (grown_setCell _ ⟨R, 1, none⟩ b), ⟨blk_cell hR 0 rfl, blk_cell hR 1 rfl⟩, ⟨blk_froz hR 0, blk_froz hR 1⟩, ⟨blk_cell h2 0 rfl, blk_cell h2 1 rfl⟩⟩

/-- A block of two cells, made and written. -/
theorem new_two (w : World) (t : TypeId) (x y a b : Value) : ∃ V, (((w.alloc (.cells #[x, y] t)).setCell ⟨w.heap.size, 0, none⟩ a).setCell ⟨w.heap.size, 1, none⟩ b = V) ∧ w.alloc (.cells #[a, b] t) = V ∧ V.heap.size = w.heap.size + 1 ∧ Below w.heap.size w V ∧ V.heap[w.heap.size]? = some (.cells #[a, b] t (0, 0)) ∧
    V.cell? ⟨w.heap.size, 0, none⟩ = some a ∧ V.cell? ⟨w.heap.size, 1, none⟩ = some b := by
  obtain ⟨V, h1, h2, h3, h4⟩ := blk_step w #[a, b] t
  refine ⟨V, ?_, h1, h2, h3, h4, blk_cell h4 0 rfl, blk_cell h4 1 rfl⟩
  rw [← h1]
  simp [go_sem]

/-- A fault as a value. -/
def flv (f : Int × Int) : Value := .agg #[.int .i64 f.1, .int .i64 f.2]

theorem Tryz.guardF (op : BinOp) (x y : Operand) (xs ys : Array Value) (w : World) : (eqGuard op 95 x y (.agg xs) (.agg ys)).run Tryz.prog w = .ok () w := run_eqGuard_agg w op 95 x y xs ys (by kernel_rfl)

theorem Tryz.neqF (a b c d : Int) (w : World) : (binOp .neq 95 (.agg #[.int .i64 a, .int .i64 b]) (.agg #[.int .i64 c, .int .i64 d])).run Tryz.prog w = .ok (.bool (!((a == c) && (b == d)))) w := by
  rw [run_neq_struct, run_equalIn_agg w 9999 95 _ _ (by kernel_rfl) (by kernel_rfl)]
  unfold Program.fieldsOf
  rw [Tryz.underlying95]
  simp [Op.eqFields, go_sem, Tryz.underlying32, Tryz.underlying3]
  by_cases h1 : a = c <;> by_cases h2 : b = d <;> simp [h1, h2]

set_option maxHeartbeats 400000 in
theorem flt_any (at' ep nu e n : Int) (v : Value) (l : List Bm.Ov) (w : World) (h : IsO w v l) (hf : FitO l) (hl : l.length ≤ 140737488355328) :
    Calls Tryz.prog 87 #[.int .i64 at', .int .i64 ep, .int .i64 nu, cmv e n v] w fun E w' => E = .returned (flv (Cm.flt at' ep nu ⟨e, n, l⟩)) ∧ Below w.heap.size w w' := by
  unfold cmv flv
  obtain ⟨fa, hfa⟩ : ∃ f, Cm.flt at' ep nu ⟨e, n, l⟩ = f := ⟨_, rfl⟩
  rw [hfa]
  have HF := hide hfa
  clear hfa
  obtain ⟨w1, hw1, sz1, bel1, hB⟩ := blk_step w #[.int .i64 e, .int .i64 n, v] 59
  obtain ⟨w2, hw2, sz2, bel2, hR⟩ := blk_step w1 #[.int .i64 0, .int .i64 0] 95
  rw [sz1] at hR
  have bel02 : Below w.heap.size w w2 := bel1.trans (bel2.mono (by omega))
  have hB2 := (bel2.block w.heap.size (by omega)).trans hB
  have c0 := blk_cell hB2 0 rfl
  have c1 := blk_cell hB2 1 rfl
  have c2 := blk_cell hB2 2 rfl
  have h2 := h.below bel02
  obtain ⟨ao, cap, rfl, _, _⟩ := h.shape
  have HB := hide hB2
  have HR := hide hR
  clear hB hB2 hR bel1 bel2
  go_enter Tryz.func87, Tryz.ntmps87
  go_wp2_with fail
  refine (ccheck_any e n _ l _ h2 hf hl).mono ?_
  rintro E w3 ⟨rfl, bel3⟩
  have sz3 := bel3.size
  have hB3 := (bel3.block w.heap.size (by omega)).trans HB.out
  have hR3 := (bel3.block (w.heap.size + 1) (by omega)).trans HR.out
  have bel03 := bel02.trans (bel3.mono (by omega))
  have d0 := blk_cell hB3 0 rfl
  have d1 := blk_cell hB3 1 rfl
  clear c0 c1 c2 HB HR hB3 bel02 bel3 h2
  by_cases hc : Cm.chk e n l = 0
  · obtain ⟨g1, g2, g3, g4, g5⟩ := Cm.chk_zero hc
    by_cases hq : n - 1 ≠ nu ∨ e < ep
    · obtain rfl : (15, at') = fa := (Cm.flt_off (c := ⟨e, n, l⟩) hc hq).symm.trans HF.out
      rw [hc]
      obtain ⟨V', hV', bV', gV', ⟨a0, a1⟩, ⟨f0, f1⟩, ⟨z0, z1⟩⟩ := res_two hR3 (.int .i64 15) (.int .i64 at')
      have belV' := below_put bel03 gV' (by omega) (by omega)
      clear hc bV' gV' hR3
      by_cases hq1 : n - 1 = nu
      · have hq2 : e < ep := by omega
        have hq3 : (n - 1 != nu) = false := by simpa using hq1
        clear hq hq1
        go_wp2
        refine bodyPost_ret (v := .agg #[.int .i64 15, .int .i64 at']) (by simp [results, Tryz.results87, go_sem, z0, z1]) rfl ?_
        exact ⟨rfl, belV'⟩
      · have hq3 : (n - 1 != nu) = true := by simpa using hq1
        clear hq hq1
        go_wp2
        refine bodyPost_ret (v := .agg #[.int .i64 15, .int .i64 at']) (by simp [results, Tryz.results87, go_sem, z0, z1]) rfl ?_
        exact ⟨rfl, belV'⟩
    · obtain rfl : (0, 0) = fa := (Cm.flt_on (c := ⟨e, n, l⟩) hc hq).symm.trans HF.out
      rw [hc]
      obtain ⟨V', hV', bV', gV', ⟨a0, a1⟩, ⟨f0, f1⟩, ⟨z0, z1⟩⟩ := res_two hR3 (.int .i64 0) (.int .i64 0)
      have belV' := below_put bel03 gV' (by omega) (by omega)
      have hq3 : (n - 1 != nu) = false := by simp; omega
      have hq2 : ¬ e < ep := by omega
      clear hc bV' gV' hR3 hq
      go_wp2
      refine bodyPost_ret (v := .agg #[.int .i64 0, .int .i64 0]) (by simp [results, Tryz.results87, go_sem, z0, z1]) rfl ?_
      exact ⟨rfl, belV'⟩
  · have hfo : (Cm.chk e n l, at') = fa := (Cm.flt_bad (c := ⟨e, n, l⟩) hc).symm.trans HF.out
    have hne : (Cm.chk e n l == 0) = false := by simpa using hc
    generalize Cm.chk e n l = ck at *
    subst hfo
    obtain ⟨V', hV', bV', gV', ⟨a0, a1⟩, ⟨f0, f1⟩, ⟨z0, z1⟩⟩ := res_two hR3 (.int .i64 ck) (.int .i64 at')
    have belV' := below_put bel03 gV' (by omega) (by omega)
    clear hc bV' gV' hR3
    go_wp2
    refine bodyPost_ret (v := .agg #[.int .i64 ck, .int .i64 at']) (by simp [results, Tryz.results87, go_sem, z0, z1]) rfl ?_
    exact ⟨rfl, belV'⟩

theorem cvs_drop {r : List Cw} {k : Nat} {c : Cw} (h : r[k]? = some c) : (cvs r).drop k = c.c :: (cvs r).drop (k + 1) := by
  obtain ⟨hk, rfl⟩ := List.getElem?_eq_some_iff.1 h
  unfold cvs
  rw [← List.map_drop, ← List.map_drop, List.drop_eq_getElem_cons hk, List.map_cons]

set_option maxHeartbeats 1000000 in
theorem cfol_any (ep0 nu0 : Int) (vl : Value) (r : List Cw) (w : World) (h : IsC w vl r) (hf : FitC r) (hl : r.length ≤ 140737488355328) :
    Calls Tryz.prog 73 #[.int .i64 ep0, .int .i64 nu0, vl] w fun E w' => E = .returned (flv (Cm.fol ep0 nu0 0 (cvs r))) ∧ Below w.heap.size w w' := by
  unfold flv
  obtain ⟨fa, hfa⟩ : ∃ f, Cm.fol ep0 nu0 0 (cvs r) = f := ⟨_, rfl⟩
  rw [hfa]
  have HF := hide hfa
  clear hfa
  obtain ⟨w1, hw1, sz1, bel1, hR⟩ := blk_step w #[.int .i64 0, .int .i64 0] 95
  have h1 := h.below bel1
  have hR0 := blk_cell hR 0 rfl
  have hR1 := blk_cell hR 1 rfl
  by_cases hz : r.length = 0
  · have : r = [] := List.eq_nil_of_length_eq_zero hz
    subst this
    obtain ⟨ao, cap, rfl, _, _⟩ := h.1.shape
    have hfo := HF.out
    simp only [cvs, List.map_nil, Cm.fol_nil] at hfo
    subst hfo
    obtain ⟨V', hV', bV', gV', ⟨a0, a1⟩, ⟨f0, f1⟩, ⟨z0, z1⟩⟩ := res_two hR (.int .i64 0) (.int .i64 0)
    have belV' := below_put bel1 gV' (by omega) (by omega)
    clear h h1 hf hl hz HF bV' gV' hR
    simp only [List.length_nil]
    go_enter Tryz.func73, Tryz.ntmps73
    go_wp2
    go_loopw [12] (fun iv wr => iv = .int .i64 0 ∧ wr = w1) (fun _ _ => 0)
    case atStart => exact ⟨rfl, rfl⟩
    case round =>
      obtain ⟨rfl, rfl⟩ := hrel
      go_wp2
      refine bodyPost_ret (v := .agg #[.int .i64 0, .int .i64 0]) (by simp [results, Tryz.results73, go_sem, z0, z1]) rfl ?_
      exact ⟨rfl, belV'⟩
  obtain ⟨b1, o1, c1, hvl, _, _, hB, hcell⟩ := h1.1.full (by omega)
  subst hvl
  have HIN := hide h1.2
  have HFIT := hide hf
  have HC := hide hcell
  have HRR := hide hR
  generalize hn : r.length = n at *
  have HN := hide hn
  clear h h1 hcell hf hR hR0 hR1 hn
  go_enter Tryz.func73, Tryz.ntmps73
  go_wp2
  go_loopw [0, 1, 12] (fun ev nv iv wr => ∃ (k : Nat) (ep nu : Int), k ≤ n ∧ iv = .int .i64 k ∧ ev = .int .i64 ep ∧ nv = .int .i64 nu ∧ Hid (Cm.fol ep nu k ((cvs r).drop k) = fa) ∧ Below w1.heap.size w1 wr) (fun _ _ iv _ => n - (intOf iv).toNat)
  case atStart => exact ⟨0, ep0, nu0, by omega, rfl, rfl, rfl, HF, Below.refl _ _⟩
  case round =>
    obtain ⟨k, ep, nu, hk, rfl, rfl, rfl, HT, bel⟩ := hrel
    have sz := bel.size
    by_cases hlt : k < n
    · obtain ⟨c, hc⟩ : ∃ c, r[k]? = some c := ⟨r[k]'(by have := HN.out; omega), by rw [List.getElem?_eq_getElem]⟩
      obtain ⟨e0, e1, e2⟩ := HC.out k c hc
      have d0 := (bel.cell (p := ⟨b1, o1 + k * 3, none⟩) hB).trans e0
      have d1 := (bel.cell (p := ⟨b1, o1 + k * 3 + 1, none⟩) hB).trans e1
      have d2 := (bel.cell (p := ⟨b1, o1 + k * 3 + 2, none⟩) hB).trans e2
      have hmem := List.mem_of_getElem? hc
      obtain ⟨i1, _, _⟩ := HIN.out c hmem
      have i2 := i1.below bel
      obtain ⟨hfc, hlc⟩ := HFIT.out c hmem
      have HCD := hide (cvs_drop hc)
      have hlt' : (k : Int) < n := by omega
      obtain ⟨ao, cp, hcv, _, _⟩ := i2.shape
      rw [hcv] at d2 i2
      obtain ⟨V, hV, hV2, szV, belV, bC, q0, q1, q2⟩ := new_step wr 59 (.int .i64 0) (.int .i64 0) (.slice none 0 0) (.int .i64 c.e) (.int .i64 c.n) (.slice ao c.l.length cp)
      have i3 := i2.below belV
      have BC := hide bC
      clear e0 e1 e2 hc hmem i1 i2 hcv bC
      go_wp2_with fail
      refine (flt_any k ep nu c.e c.n _ c.l _ i3 hfc (by omega)).mono ?_
      rintro E w3 ⟨rfl, bel3⟩
      have sz3 := bel3.size
      obtain ⟨fl, hfl⟩ : ∃ f, Cm.flt k ep nu ⟨c.e, c.n, c.l⟩ = f := ⟨_, rfl⟩
      unfold flv
      rw [hfl]
      have HFL := hide hfl
      clear hfl
      obtain ⟨fe, fp⟩ := fl
      simp only
      have bC3 := (bel3.block wr.heap.size (by omega)).trans BC.out
      obtain ⟨X, hX, hX2, szX, belX, bF, x0, x1⟩ := new_two w3 95 (.int .i64 0) (.int .i64 0) (.int .i64 fe) (.int .i64 fp)
      have bCX := (belX.block wr.heap.size (by omega)).trans bC3
      have u0 := blk_cell bCX 0 rfl
      have u1 := blk_cell bCX 1 rfl
      have belA : Below w1.heap.size w1 X := ((bel.trans (belV.mono (by omega))).trans (bel3.mono (by omega))).trans (belX.mono (by omega))
      have hRX := (belA.block w.heap.size (by omega)).trans HRR.out
      have hnq := Tryz.neqF fe fp 0 0
      have hgd := Tryz.guardF
      clear bel belV bel3 belX BC bC3 bCX bF i3 q0 q1 q2 d0 d1 d2 hV hV2
      by_cases hfe : fe = 0
      · have hz := Cm.flt_zero (a := k) (ep := ep) (nu := nu) (c := ⟨c.e, c.n, c.l⟩) (by rw [HFL.out]; exact hfe)
        have hfp : fp = 0 := by have := hz.2.2; rw [HFL.out] at this; exact this
        have HT2 : Hid (Cm.fol c.e c.n (k + 1) ((cvs r).drop (k + 1)) = fa) := hide (by
          have := HT.out
          rw [HCD.out] at this
          rw [← this]
          exact (Cm.fol_next (c := c.c) (by rw [show Cm.flt k ep nu c.c = (fe, fp) from HFL.out]; exact hfe)).symm)
        have hb : (!((fe == 0) && (fp == 0))) = false := by simp [hfe, hfp]
        rw [hb] at hnq
        clear hb hz hfe hfp hRX HFL HCD HT
        go_wp2_with fail
        go_quiet (fail)
        go_wp2
        go_roundw
        case rel => exact ⟨k + 1, c.e, c.n, by omega, by go_num, rfl, rfl, HT2, below_drewN belA _⟩
        case measure => simp [intOf]; omega
      · have hfo : (fe, fp) = fa := by
          have := HT.out
          rw [HCD.out] at this
          rw [← this, Cm.fol_stop (c := c.c) (by rw [show Cm.flt k ep nu c.c = (fe, fp) from HFL.out]; exact hfe)]
          exact HFL.out.symm
        have hb : (!((fe == 0) && (fp == 0))) = true := by simp [hfe]
        rw [hb] at hnq
        subst hfo
        obtain ⟨V', hV', bV', gV', ⟨a0, a1⟩, ⟨f0, f1⟩, ⟨z0, z1⟩⟩ := res_two hRX (.int .i64 fe) (.int .i64 fp)
        have belV' := below_put (bel1.trans (belA.mono (by omega))) gV' (by omega) (by omega)
        clear hb hfe hRX HFL HCD HT HF bV' gV' u0 u1 belA
        go_wp2
        refine bodyPost_ret (v := .agg #[.int .i64 fe, .int .i64 fp]) (by simp [results, Tryz.results73, go_sem, z0, z1]) rfl ?_
        exact ⟨rfl, belV'⟩
    · have hlt' : ¬ (k : Int) < n := by omega
      have hfo : (0, 0) = fa := by
        have := HT.out
        rw [List.drop_of_length_le (by unfold cvs; rw [List.length_map, HN.out]; omega), Cm.fol_nil] at this
        exact this
      subst hfo
      have hRX := (bel.block w.heap.size (by omega)).trans HRR.out
      obtain ⟨V', hV', bV', gV', ⟨a0, a1⟩, ⟨f0, f1⟩, ⟨z0, z1⟩⟩ := res_two hRX (.int .i64 0) (.int .i64 0)
      have belV' := below_put (bel1.trans (bel.mono (by omega))) gV' (by omega) (by omega)
      clear hRX HT HF bV' gV' bel
      go_wp2
      refine bodyPost_ret (v := .agg #[.int .i64 0, .int .i64 0]) (by simp [results, Tryz.results73, go_sem, z0, z1]) rfl ?_
      exact ⟨rfl, belV'⟩

set_option maxHeartbeats 1000000 in
theorem cfolR_any (ep0 nu0 : Int) (vl : Value) (r : List Cw) (w : World) (h : IsC w vl r) (hf : FitC r) (hl : r.length ≤ 140737488355328) :
    Calls Tryz.prog 84 #[.int .i64 ep0, .int .i64 nu0, vl] w fun E w' => E = .returned (flv (Cm.fol ep0 nu0 0 (cvs r))) ∧ Below w.heap.size w w' := by
  unfold flv
  obtain ⟨fa, hfa⟩ : ∃ f, Cm.fol ep0 nu0 0 (cvs r) = f := ⟨_, rfl⟩
  rw [hfa]
  have HF := hide hfa
  clear hfa
  obtain ⟨w1, hw1, sz1, bel1, hR⟩ := blk_step w #[.int .i64 0, .int .i64 0] 95
  have h1 := h.below bel1
  by_cases hz : r.length = 0
  · have : r = [] := List.eq_nil_of_length_eq_zero hz
    subst this
    obtain ⟨ao, cap, rfl, _, _⟩ := h.1.shape
    have hfo := HF.out
    simp only [cvs, List.map_nil, Cm.fol_nil] at hfo
    subst hfo
    obtain ⟨V', hV', bV', gV', ⟨a0, a1⟩, ⟨f0, f1⟩, ⟨z0, z1⟩⟩ := res_two hR (.int .i64 0) (.int .i64 0)
    have belV' := below_put bel1 gV' (by omega) (by omega)
    clear h h1 hf hl hz HF bV' gV' hR
    simp only [List.length_nil]
    go_enter Tryz.func84, Tryz.ntmps84
    go_wp2
    go_loopw [7] (fun iv wr => iv = .int .i64 0 ∧ wr = w1) (fun _ _ => 0)
    case atStart => exact ⟨rfl, rfl⟩
    case round =>
      obtain ⟨rfl, rfl⟩ := hrel
      go_wp2
      refine bodyPost_ret (v := .agg #[.int .i64 0, .int .i64 0]) (by simp [results, Tryz.results84, go_sem, z0, z1]) rfl ?_
      exact ⟨rfl, belV'⟩
  obtain ⟨b1, o1, c1, hvl, _, _, hB, hcell⟩ := h1.1.full (by omega)
  subst hvl
  have HIN := hide h1.2
  have HFIT := hide hf
  have HC := hide hcell
  have HRR := hide hR
  generalize hn : r.length = n at *
  have HN := hide hn
  clear h h1 hcell hf hR hn
  go_enter Tryz.func84, Tryz.ntmps84
  go_wp2
  go_loopw [0, 1, 7] (fun ev nv iv wr => ∃ (k : Nat) (ep nu : Int), k ≤ n ∧ iv = .int .i64 k ∧ ev = .int .i64 ep ∧ nv = .int .i64 nu ∧ Hid (Cm.fol ep nu k ((cvs r).drop k) = fa) ∧ Below w1.heap.size w1 wr) (fun _ _ iv _ => n - (intOf iv).toNat)
  case atStart => exact ⟨0, ep0, nu0, by omega, rfl, rfl, rfl, HF, Below.refl _ _⟩
  case round =>
    obtain ⟨k, ep, nu, hk, rfl, rfl, rfl, HT, bel⟩ := hrel
    have sz := bel.size
    by_cases hlt : k < n
    · obtain ⟨c, hc⟩ : ∃ c, r[k]? = some c := ⟨r[k]'(by have := HN.out; omega), by rw [List.getElem?_eq_getElem]⟩
      obtain ⟨e0, e1, e2⟩ := HC.out k c hc
      have d0 := (bel.cell (p := ⟨b1, o1 + k * 3, none⟩) hB).trans e0
      have d1 := (bel.cell (p := ⟨b1, o1 + k * 3 + 1, none⟩) hB).trans e1
      have d2 := (bel.cell (p := ⟨b1, o1 + k * 3 + 2, none⟩) hB).trans e2
      have hmem := List.mem_of_getElem? hc
      obtain ⟨i1, _, _⟩ := HIN.out c hmem
      have i2 := i1.below bel
      obtain ⟨hfc, hlc⟩ := HFIT.out c hmem
      have HCD := hide (cvs_drop hc)
      have hlt' : (k : Int) < n := by omega
      clear hc hmem i1
      go_wp2_with fail
      refine (ccheckR_any c.e c.n _ c.l _ i2 hfc (by omega)).mono ?_
      rintro E w3 ⟨rfl, bel3⟩
      have sz3 := bel3.size
      have belA : Below w1.heap.size w1 w3 := bel.trans (bel3.mono (by omega))
      have u0 := (belA.cell (p := ⟨b1, o1 + k * 3, none⟩) hB).trans e0
      have u1 := (belA.cell (p := ⟨b1, o1 + k * 3 + 1, none⟩) hB).trans e1
      have hRX := (belA.block w.heap.size (by omega)).trans HRR.out
      clear bel bel3 d0 d1 d2 e0 e1 e2 i2
      by_cases hck : Cm.chk c.e c.n c.l = 0
      · rw [hck]
        obtain ⟨g1, g2, g3, g4, g5⟩ := Cm.chk_zero hck
        by_cases hq : c.n - 1 ≠ nu ∨ c.e < ep
        · obtain rfl : (15, (k : Int)) = fa := by
            have := HT.out
            rw [HCD.out, Cm.fol_off (c := c.c) hck hq] at this
            exact this
          obtain ⟨V', hV', bV', gV', ⟨a0, a1⟩, ⟨f0, f1⟩, ⟨z0, z1⟩⟩ := res_two hRX (.int .i64 15) (.int .i64 k)
          have belV' := below_put (bel1.trans (belA.mono (by omega))) gV' (by omega) (by omega)
          clear hck hRX HCD HT HF bV' gV' belA
          by_cases hq1 : c.n - 1 = nu
          · have hq2 : c.e < ep := by omega
            have hq3 : (c.n - 1 != nu) = false := by simpa using hq1
            clear hq hq1
            go_wp2
            refine bodyPost_ret (v := .agg #[.int .i64 15, .int .i64 k]) (by simp [results, Tryz.results84, go_sem, z0, z1]) rfl ?_
            exact ⟨rfl, belV'⟩
          · have hq3 : (c.n - 1 != nu) = true := by simpa using hq1
            clear hq hq1
            go_wp2
            refine bodyPost_ret (v := .agg #[.int .i64 15, .int .i64 k]) (by simp [results, Tryz.results84, go_sem, z0, z1]) rfl ?_
            exact ⟨rfl, belV'⟩
        · have HT2 : Hid (Cm.fol c.e c.n (k + 1) ((cvs r).drop (k + 1)) = fa) := hide (by
            have := HT.out
            rw [HCD.out, Cm.fol_on (c := c.c) hck hq] at this
            exact this)
          have hq3 : (c.n - 1 != nu) = false := by simp; omega
          have hq2 : ¬ c.e < ep := by omega
          clear hck hRX HCD HT hq
          go_wp2_with fail
          go_quiet (fail)
          go_wp2
          go_roundw
          case rel => exact ⟨k + 1, c.e, c.n, by omega, by go_num, rfl, rfl, HT2, below_drewN belA _⟩
          case measure => simp [intOf]; omega
      · have hfo : (Cm.chk c.e c.n c.l, (k : Int)) = fa := by
          have := HT.out
          rw [HCD.out, Cm.fol_bad (c := c.c) hck] at this
          exact this
        have hne : (Cm.chk c.e c.n c.l == 0) = false := by simpa using hck
        generalize Cm.chk c.e c.n c.l = ck at *
        subst hfo
        obtain ⟨V', hV', bV', gV', ⟨a0, a1⟩, ⟨f0, f1⟩, ⟨z0, z1⟩⟩ := res_two hRX (.int .i64 ck) (.int .i64 k)
        have belV' := below_put (bel1.trans (belA.mono (by omega))) gV' (by omega) (by omega)
        clear hck hRX HCD HT HF bV' gV' belA
        go_wp2
        refine bodyPost_ret (v := .agg #[.int .i64 ck, .int .i64 k]) (by simp [results, Tryz.results84, go_sem, z0, z1]) rfl ?_
        exact ⟨rfl, belV'⟩
    · have hlt' : ¬ (k : Int) < n := by omega
      have hfo : (0, 0) = fa := by
        have := HT.out
        rw [List.drop_of_length_le (by unfold cvs; rw [List.length_map, HN.out]; omega), Cm.fol_nil] at this
        exact this
      subst hfo
      have hRX := (bel.block w.heap.size (by omega)).trans HRR.out
      obtain ⟨V', hV', bV', gV', ⟨a0, a1⟩, ⟨f0, f1⟩, ⟨z0, z1⟩⟩ := res_two hRX (.int .i64 0) (.int .i64 0)
      have belV' := below_put (bel1.trans (bel.mono (by omega))) gV' (by omega) (by omega)
      clear hRX HT HF bV' gV' bel
      go_wp2
      refine bodyPost_ret (v := .agg #[.int .i64 0, .int .i64 0]) (by simp [results, Tryz.results84, go_sem, z0, z1]) rfl ?_
      exact ⟨rfl, belV'⟩

end Go.Proofs.YtkpnkknolobioaaGreat

/- The contracts of the laws' copies of ops: CopyOps, LentOps, KeptOps. -/
namespace Go.Proofs.YtkpnkknolobioaaGreat
open Go.RowKit
set_option linter.unusedVariables false

/-- What stands behind ops that are lent. -/
def behind : Bm.Ov := ⟨true, ⟨#[98, 101, 104, 105, 110, 100]⟩, ⟨#[]⟩⟩

set_option maxHeartbeats 400000 in
theorem copyO_any (vl : Value) (l : List Bm.Ov) (w : World) (h : IsO w vl l) (hl : l.length * 40 ≤ 140737488355328) :
    Calls Tryz.prog 83 #[vl] w fun e w' => ∃ v, e = .returned v ∧ OwnO 93 w.heap.size w' v l ∧ Below w.heap.size w w' := by
  obtain ⟨w1, hw1, sz1, bel1, own1⟩ := ops_step 93 w #[] 0 [] rfl rfl (by simp [maxLen])
  have h1 := h.below bel1
  go_enter Tryz.func83, Tryz.ntmps83
  go_wp2_with (at_builtin; refine wpList_append_ops rfl (.tmp 3) (.tmp 4) 57 rfl 93 w.heap.size Tryz.underlying57 Tryz.info93 _ [] rfl own1 _ l rfl h1 (by simp; omega) (by omega) ?_)
  intro v2 w2 own2 bel2 _
  go_wp2
  go_ret
  exact ⟨_, rfl, by simpa using own2, bel1.trans bel2⟩

set_option maxHeartbeats 400000 in
theorem lentO_any (vl : Value) (l : List Bm.Ov) (w : World) (h : IsO w vl l) (hl : l.length * 40 ≤ 140737488351232) :
    Calls Tryz.prog 63 #[vl] w fun e w' => ∃ v, e = .returned v ∧ OwnO 93 w.heap.size w' v (l ++ [behind, behind, behind]) ∧ Below w.heap.size w w' := by
  have hc : l.length * 40 ≤ 140737488355328 := by omega
  have HK : Hid (∀ k : Nat, k < 3 → ((l ++ List.replicate k behind).length + [behind].length) * 40 ≤ 140737488355328) := hide (fun k hk => by
    rw [List.length_append, List.length_replicate, List.length_singleton]
    omega)
  have HC := hide hc
  clear hl hc
  go_enter Tryz.func63, Tryz.ntmps63
  go_wp2_with fail
  refine (copyO_any vl l _ h HC.out).mono ?_
  rintro E w0 ⟨v0, rfl, own0, bel0⟩
  have own0' : OwnO 93 w.heap.size w0 v0 (l ++ List.replicate 0 behind) := by simpa using own0
  clear own0
  go_wp2
  go_loopw [3, 4] (fun ov iv wr => ∃ k : Nat, k ≤ 3 ∧ iv = .int .i64 k ∧ OwnO 93 w.heap.size wr ov (l ++ List.replicate k behind) ∧ Below w.heap.size w wr) (fun _ iv _ => 3 - (intOf iv).toNat)
  case atStart => exact ⟨0, by omega, rfl, own0', bel0⟩
  case round =>
    obtain ⟨k, hk, rfl, own, bel⟩ := hrel
    have sz := bel.size
    by_cases hlt : k < 3
    · have hlt' : (k : Int) < 3 := by omega
      obtain ⟨w1, hw1, sz1, bel1, own1⟩ := ops_step 93 wr #[.bool true, .string ⟨#[98, 101, 104, 105, 110, 100]⟩, .string ⟨#[]⟩] 1 [behind] rfl rfl (by simp [maxLen])
      have own' := own.below bel1
      go_wp2_with (at_builtin; refine wpList_append_ops rfl (.tmp 11) (.tmp 13) 57 rfl 93 w.heap.size Tryz.underlying57 Tryz.info93 _ _ rfl own' _ [behind] rfl own1.is (HK.out k hlt) (by omega) ?_)
      intro v2 w2 own2 bel2 _
      have e2 : l ++ (List.replicate k behind ++ [behind]) = l ++ List.replicate (k + 1) behind := by rw [List.replicate_succ']
      rw [e2] at own2
      have bel3 := (bel.trans (bel1.mono sz)).trans bel2
      clear own own' own1 bel1 bel2 e2
      go_wp2
      go_roundw
      case rel => exact ⟨k + 1, by omega, by go_num, own2, bel3⟩
      case measure => simp [intOf]; omega
    · have hke : k = 3 := by omega
      subst hke
      go_wp2
      go_ret
      exact ⟨_, rfl, own, bel⟩

set_option maxHeartbeats 400000 in
theorem keptO_yes (vf vl : Value) (l fs : List Bm.Ov) (w : World) (hf : IsO w vf fs) (hl : IsO w vl l) (hll : l.length * 40 ≤ 140737488351232) (he : fs = l ++ [behind, behind, behind]) :
    Calls Tryz.prog 69 #[vf, vl] w fun e w' => e = .returned (.bool true) ∧ Below w.heap.size w w' := by
  have hfl : fs.length ≤ 140737488355328 := by rw [he]; simp; omega
  have HE := hide he
  have HL := hide hll
  clear he hll
  go_enter Tryz.func69, Tryz.ntmps69
  go_wp2_with fail
  refine (lentO_any vl l _ hl HL.out).mono ?_
  rintro E w1 ⟨v1, rfl, own1, bel1⟩
  rw [← HE.out] at own1
  go_wp2_with fail
  refine (sameO_any _ _ fs fs _ (hf.below bel1) own1.is (by omega) (by omega)).mono ?_
  rintro E w2 ⟨rfl, bel2⟩
  rw [Bm.sameL_self]
  go_wp2
  go_ret
  exact ⟨rfl, bel1.trans (bel2.mono bel1.size)⟩

end Go.Proofs.YtkpnkknolobioaaGreat

/- The contracts of the laws' copies of one commit: CopyCommit, LentCommit, KeptCommit. -/
namespace Go.Proofs.YtkpnkknolobioaaGreat
open Go.RowKit
set_option linter.unusedVariables false

/-- A slice of ops that was lent: those behind it stand in its room. -/
def LentV (base : Nat) (w : World) (v : Value) (l : List Bm.Ov) : Prop :=
  ∃ g cap, v = .slice (some ⟨g, 0, none⟩) l.length cap ∧ l.length + 3 ≤ cap ∧ cap ≤ maxLen ∧ OwnO 93 base w (.slice (some ⟨g, 0, none⟩) (l.length + 3) cap) (l ++ [behind, behind, behind])

theorem LentV.is {base : Nat} {w : World} {v : Value} {l : List Bm.Ov} (h : LentV base w v l) : IsO w v l := by
  obtain ⟨g, cap, rfl, hc, hm, ho⟩ := h
  have := ho.is.front l.length (by simp)
  rwa [List.take_left] at this

theorem LentV.below {base : Nat} {w w' : World} {v : Value} {l : List Bm.Ov} (h : LentV base w v l) (hb : Below w.heap.size w w') : LentV base w' v l := by
  obtain ⟨g, cap, rfl, hc, hm, ho⟩ := h
  exact ⟨g, cap, rfl, hc, hm, ho.below hb⟩

theorem LentV.keepT {e' base : Nat} {w w' : World} {v : Value} {l : List Bm.Ov} (h : LentV base w v l) (k : KeepT e' w w') (hne : 93 ≠ e') : LentV base w' v l := by
  obtain ⟨g, cap, rfl, hc, hm, ho⟩ := h
  exact ⟨g, cap, rfl, hc, hm, ho.keepT k hne⟩

theorem LentV.rebase {base base' : Nat} {w : World} {v : Value} {l : List Bm.Ov} (h : LentV base w v l) (hb : base' ≤ base) : LentV base' w v l := by
  obtain ⟨g, cap, rfl, hc, hm, ho⟩ := h
  exact ⟨g, cap, rfl, hc, hm, ho.rebase hb⟩

theorem lent_of {base : Nat} {w : World} {v : Value} {l : List Bm.Ov} (h : OwnO 93 base w v (l ++ [behind, behind, behind])) :
    ∃ g cap, v = .slice (some ⟨g, 0, none⟩) (l.length + 3) cap ∧ l.length + 3 ≤ cap ∧ cap ≤ maxLen ∧ OwnO 93 base w (.slice (some ⟨g, 0, none⟩) (l.length + 3) cap) (l ++ [behind, behind, behind]) := by
  have h' := h
  rcases h.2 with ⟨_, hn⟩ | ⟨g, cap, cur, hv, h1, hh, hc, hm, hs, ht⟩
  · simp at hn
  · rw [List.length_append, show [behind, behind, behind].length = 3 from rfl] at hv hc
    exact ⟨g, cap, hv, hc, hm, hv ▸ h'⟩

theorem run_front (g n m cap p : Nat) (hp : p ≤ cap) (wx : World) : (Instr.slice 57 (.slice (some ⟨g, 0, none⟩) n cap) none (some (.int .i64 p)) none).run Tryz.prog wx = .ok (.slice (some ⟨g, 0, none⟩) p cap) wx := by
  rw [run_slice_h wx 57 (some ⟨g, 0, none⟩) n cap Tryz.elemO .i64 _ (by omega) (by omega), Tryz.sizeO]
  simp only [Result.andThen, sliced]
  simp [Addr.add]

set_option maxHeartbeats 1000000 in
theorem lentC_any (e n : Int) (v : Value) (l : List Bm.Ov) (w : World) (h : IsO w v l) (hl : l.length * 40 ≤ 140737488351232) :
    Calls Tryz.prog 41 #[cmv e n v] w fun E w' => ∃ v', E = .returned (cmv e n v') ∧ LentV w.heap.size w' v' l ∧ Below w.heap.size w w' := by
  unfold cmv
  obtain ⟨w1, hw1, sz1, bel1, hB⟩ := blk_step w #[.int .i64 e, .int .i64 n, v] 59
  obtain ⟨w2, hw2, sz2, bel2, hR⟩ := blk_step w1 #[.int .i64 0, .int .i64 0, .slice none 0 0] 59
  rw [sz1] at hR
  have hB2 := (bel2.block w.heap.size (by omega)).trans hB
  have bel02 : Below w.heap.size w w2 := bel1.trans (bel2.mono (by omega))
  have h2 := h.below bel02
  obtain ⟨ao, cap, rfl, _, _⟩ := h.shape
  have c0 := blk_cell hB2 0 rfl
  have c1 := blk_cell hB2 1 rfl
  have c2 := blk_cell hB2 2 rfl
  have HB := hide hB2
  have HR := hide hR
  clear hB hB2 hR bel1 bel2
  go_enter Tryz.func41, Tryz.ntmps41
  go_wp2_with fail
  go_region_held3 (fun w' => w'.cell? ⟨w.heap.size, 0, none⟩ = some (.int .i64 e) ∧ w'.cell? ⟨w.heap.size, 1, none⟩ = some (.int .i64 n) ∧ w'.cell? ⟨w.heap.size, 2, none⟩ = some (.slice ao l.length cap)) (first | exact ⟨c0, c1, c2⟩ | exact ⟨a0, a1, a2⟩ | exact ⟨b0, b1, b2⟩ | go_keep)
    (first
    | (go_at_call 63; refine (lentO_any _ l _ (h2.drewN 1) hl).mono ?_; rintro E w3 ⟨v3, rfl, own3, bel3'⟩; have bel3 : Below w2.heap.size w2 w3 := ((Below.refl _ _).drew).trans bel3'; have sz3 := bel3.size; have hB3 := (bel3.block w.heap.size (by omega)).trans HB.out; have hR3 := (bel3.block (w.heap.size + 1) (by omega)).trans HR.out; have a0 := blk_cell hB3 0 rfl; have a1 := blk_cell hB3 1 rfl; have a2 := blk_cell hB3 2 rfl; obtain ⟨gh, ch, hv3, hcc, hcm, own3'⟩ := lent_of own3; subst hv3; have hfr := run_front gh (l.length + 3) 0 ch l.length (by omega); obtain ⟨V', hV', bV', gV', ⟨r0, r1, r2⟩, ⟨f0, f1, f2⟩, ⟨z0, z1, z2⟩⟩ := res_step hR3 (.int .i64 e) (.int .i64 n) (.slice (some ⟨gh, 0, none⟩) l.length ch); have belV' := below_put (bel02.trans (bel3.mono (by omega))) gV' (by omega) (by omega); have szV := gV'.size; have ownV' := (own3'.keptg gV' (show w.heap.size + 1 < w2.drew.heap.size by simp; omega)).rebase (base' := w.heap.size) (show w.heap.size ≤ w2.drew.heap.size by simp; omega); have hBV := (gV'.block w.heap.size (by omega) (by simp)).trans hB3; have b0 := blk_cell hBV 0 rfl; have b1 := blk_cell hBV 1 rfl; have b2 := blk_cell hBV 2 rfl; clear bel3' hB3 hR3 own3 own3' bV' gV' hBV))
  go_wp2
  refine bodyPost_ret (v := .agg #[.int .i64 e, .int .i64 n, .slice (some ⟨gh, 0, none⟩) l.length ch]) (by simp [results, Tryz.results41, go_sem, z0, z1, z2]) rfl ?_
  exact ⟨_, rfl, ⟨gh, ch, rfl, hcc, hcm, ownV'⟩, belV'⟩

set_option maxRecDepth 100000 in
set_option maxHeartbeats 1000000 in
theorem keptC_yes (e n : Int) (v v' : Value) (l : List Bm.Ov) (base : Nat) (w : World) (h : LentV base w v l) (h' : IsO w v' l) (hl : l.length * 40 ≤ 140737488351232) :
    Calls Tryz.prog 47 #[cmv e n v, cmv e n v'] w fun E w' => E = .returned (.bool true) ∧ Below w.heap.size w w' := by
  unfold cmv
  obtain ⟨w1, hw1, sz1, bel1, hB⟩ := blk_step w #[.int .i64 e, .int .i64 n, v] 59
  obtain ⟨w2, hw2, sz2, bel2, hC⟩ := blk_step w1 #[.int .i64 e, .int .i64 n, v'] 59
  rw [sz1] at hC
  have hB2 := (bel2.block _ (blk_lt hB)).trans hB
  have bel02 : Below w.heap.size w w2 := bel1.trans (bel2.mono (by omega))
  have h2 := h'.below bel02
  obtain ⟨g, cap, rfl, hgc, hgm, ho⟩ := h
  have ho2 := ho.below bel02
  obtain ⟨ao', cap', rfl, _, _⟩ := h'.shape
  have c0 := blk_cell hB2 0 rfl
  have c1 := blk_cell hB2 1 rfl
  have c2 := blk_cell hB2 2 rfl
  have d0 := blk_cell hC 0 rfl
  have d1 := blk_cell hC 1 rfl
  have d2 := blk_cell hC 2 rfl
  have hfr := run_front g l.length 0 cap (l.length + 3) (by omega)
  push_cast at hfr
  have HL := hide hl
  have hl' : (l.length : Int) + 3 < 9223372036854775808 := by omega
  have hcb : (l.length : Int) + 3 ≤ (cap : Int) := by omega
  have hc0 : (0 : Int) ≤ (l.length : Int) + 3 := by omega
  have htn : ((l.length : Int) + 3).toNat = l.length + 3 := by omega
  have hwr : IntKind.i64.wrap ((l.length : Int) + 3) = (l.length : Int) + 3 := wrap_i64_small _ (by omega) (by omega)
  clear hB hC hB2 bel1 bel2 ho hl
  go_enter Tryz.func47, Tryz.ntmps47
  go_wp2_with fail
  go_region_held3 (fun w' => (w'.cell? ⟨w.heap.size, 0, none⟩ = some (.int .i64 e) ∧ w'.cell? ⟨w.heap.size, 1, none⟩ = some (.int .i64 n) ∧ w'.cell? ⟨w.heap.size, 2, none⟩ = some (.slice (some ⟨g, 0, none⟩) l.length cap)) ∧ (w'.cell? ⟨w.heap.size + 1, 0, none⟩ = some (.int .i64 e) ∧ w'.cell? ⟨w.heap.size + 1, 1, none⟩ = some (.int .i64 n) ∧ w'.cell? ⟨w.heap.size + 1, 2, none⟩ = some (.slice ao' l.length cap'))) (first | exact ⟨⟨c0, c1, c2⟩, ⟨d0, d1, d2⟩⟩ | exact ⟨⟨a0, a1, a2⟩, ⟨b0, b1, b2⟩⟩ | go_keep)
    (first
    | (go_at_call 69; refine (keptO_yes _ _ l _ _ (ho2.is.drewN 1) (h2.drewN 1) HL.out rfl).mono ?_; rintro E w3 ⟨rfl, bel3'⟩; have bel3 : Below w2.heap.size w2 w3 := ((Below.refl _ _).drew).trans bel3'; have a0 := (bel3.cell (p := ⟨w.heap.size, 0, none⟩) (show w.heap.size < w2.heap.size by omega)).trans c0; have a1 := (bel3.cell (p := ⟨w.heap.size, 1, none⟩) (show w.heap.size < w2.heap.size by omega)).trans c1; have a2 := (bel3.cell (p := ⟨w.heap.size, 2, none⟩) (show w.heap.size < w2.heap.size by omega)).trans c2; have b0 := (bel3.cell (p := ⟨w.heap.size + 1, 0, none⟩) (show w.heap.size + 1 < w2.heap.size by omega)).trans d0; have b1 := (bel3.cell (p := ⟨w.heap.size + 1, 1, none⟩) (show w.heap.size + 1 < w2.heap.size by omega)).trans d1; have b2 := (bel3.cell (p := ⟨w.heap.size + 1, 2, none⟩) (show w.heap.size + 1 < w2.heap.size by omega)).trans d2; clear bel3'))
  go_wp2
  go_ret
  exact ⟨rfl, bel02.trans (bel3.mono (by omega))⟩

end Go.Proofs.YtkpnkknolobioaaGreat
