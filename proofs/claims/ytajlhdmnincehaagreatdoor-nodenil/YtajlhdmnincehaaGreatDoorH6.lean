/- Texts of one layer, one behind the other. -/
import Derived.Test.YtajlhdmnincehaaGreatDoorH3
import Derived.Test.YtajlhdmnincehaaGreatDoorH1
import Derived.Deep.RegionHeld3
import Derived.Test.YtajlhdmnincehaaGreatDoorH7
import Derived.Test.YtajlhdmnincehaaGreatDoorH5
import Derived.Test.YtajlhdmnincehaaGreatDoorH2
import Derived.Laws.BytesArg
import Derived.Test.YtajlhdmnincehaaGreatDoorG2
import Derived.Test.YtajlhdmnincehaaGreatDoorH17
import Derived.Test.YtajlhdmnincehaaGreatDoorH8
import Derived.Test.YtajlhdmnincehaaGreatDoorG1
/- The contracts of Follows: the program's, the document's. -/
namespace Go.Proofs.YtajlhdmnincehaaGreatDoor
open Go.RowKit
set_option linter.unusedVariables false

/-- Two cells of a block are written. -/
theorem res_two {V : World} {R : Nat} {t : TypeId} {x y : Value} (hR : V.heap[R]? = some (.cells #[x, y] t (0, 0))) (a b : Value) :
    ∃ V', (V.setCell ⟨R, 0, none⟩ a).setCell ⟨R, 1, none⟩ b = V' ∧ V'.heap[R]? = some (.cells #[a, b] t (0, 0)) ∧ V.grownBy V' (some R) ∧
      (V.cell? ⟨R, 0, none⟩ = some x ∧ V.cell? ⟨R, 1, none⟩ = some y) ∧ (V.frozen? ⟨R, 0, none⟩ = false ∧ V.frozen? ⟨R, 1, none⟩ = false) ∧
      (V'.cell? ⟨R, 0, none⟩ = some a ∧ V'.cell? ⟨R, 1, none⟩ = some b) := by
  have h2 := set_cells (set_cells hR 0 a) 1 b
  exact ⟨_, rfl, h2, grown_trans (grown_setCell V ⟨R, 0, none⟩ a) (grown_setCell _ ⟨R, 1, none⟩ b), ⟨blk_cell hR 0 rfl, blk_cell hR 1 rfl⟩, ⟨blk_froz hR 0, blk_froz hR 1⟩, ⟨blk_cell h2 0 rfl, blk_cell h2 1 rfl⟩⟩

/-- A block of two cells, made and written. -/
theorem new_two (w : World) (t : TypeId) (x y a b : Value) : ∃ V, (((w.alloc (.cells #[x, y] t)).setCell ⟨w.heap.size, 0, none⟩ a).setCell ⟨w.heap.size, 1, none⟩ b = V) ∧ w.alloc (.cells #[a, b] t) = V ∧ V.heap.size = w.heap.size + 1 ∧ Below w.heap.size w V ∧ V.heap[w.heap.size]? = some (.cells #[a, b] t (0, 0)) ∧
    V.cell? ⟨w.heap.size, 0, none⟩ = some a ∧ V.cell? ⟨w.heap.size, 1, none⟩ = some b := by
  obtain ⟨V, h1, h2, h3, h4⟩ := blk_step w #[a, b] t
  refine ⟨V, ?_, h1, h2, h3, h4, blk_cell h4 0 rfl, blk_cell h4 1 rfl⟩
  rw [← h1]
  simp [go_sem]

/-- A fault as a value. -/
def flv (f : Int × Int) : Value := .agg #[.int .i64 f.1, .int .i64 f.2]

theorem Tryz.guardF (op : BinOp) (x y : Operand) (xs ys : Array Value) (w : World) : (eqGuard op 136 x y (.agg xs) (.agg ys)).run Tryz.prog w = .ok () w := run_eqGuard_agg w op 136 x y xs ys (by kernel_rfl)

theorem Tryz.neqF (a b c d : Int) (w : World) : (binOp .neq 136 (.agg #[.int .i64 a, .int .i64 b]) (.agg #[.int .i64 c, .int .i64 d])).run Tryz.prog w = .ok (.bool (!((a == c) && (b == d)))) w := by
  rw [run_neq_struct, run_equalIn_agg w 9999 136 _ _ (by kernel_rfl) (by kernel_rfl)]
  unfold Program.fieldsOf
  rw [Tryz.underlying136]
  simp [Op.eqFields, go_sem, Tryz.underlying39, Tryz.underlying3]
  by_cases h1 : a = c <;> by_cases h2 : b = d <;> simp [h1, h2]

set_option maxHeartbeats 400000 in
theorem flt_any (at' ep nu e n : Int) (v : Value) (l : List Bm.Ov) (w : World) (h : IsO w v l) (hf : FitO l) (hl : l.length ≤ 140737488355328) :
    Calls Tryz.prog 155 #[.int .i64 at', .int .i64 ep, .int .i64 nu, cmv e n v] w fun E w' => E = .returned (flv (Cm.flt at' ep nu ⟨e, n, l⟩)) ∧ Below w.heap.size w w' := by
  unfold cmv flv
  obtain ⟨fa, hfa⟩ : ∃ f, Cm.flt at' ep nu ⟨e, n, l⟩ = f := ⟨_, rfl⟩
  rw [hfa]
  have HF := hide hfa
  clear hfa
  obtain ⟨w1, hw1, sz1, bel1, hB⟩ := blk_step w #[.int .i64 e, .int .i64 n, v] 93
  obtain ⟨w2, hw2, sz2, bel2, hR⟩ := blk_step w1 #[.int .i64 0, .int .i64 0] 136
  rw [sz1] at hR
  have bel02 : Below w.heap.size w w2 := bel1.trans (bel2.mono (by omega))
  have hB2 := (bel2.block w.heap.size (by omega)).trans hB
  have c0 := blk_cell hB2 0 rfl
  have c1 := blk_cell hB2 1 rfl
  have c2 := blk_cell hB2 2 rfl
  have h2 := h.below bel02
  obtain ⟨ao, cap, rfl, _, _⟩ := h.shape
  have HB := hide hB2
  have HR := hide hR
  clear hB hB2 hR bel1 bel2
  go_enter Tryz.func155, Tryz.ntmps155
  go_wp2_with fail
  refine (ccheck_any e n _ l _ h2 hf hl).mono ?_
  rintro E w3 ⟨rfl, bel3⟩
  have sz3 := bel3.size
  have hB3 := (bel3.block w.heap.size (by omega)).trans HB.out
  have hR3 := (bel3.block (w.heap.size + 1) (by omega)).trans HR.out
  have bel03 := bel02.trans (bel3.mono (by omega))
  have d0 := blk_cell hB3 0 rfl
  have d1 := blk_cell hB3 1 rfl
  clear c0 c1 c2 HB HR hB3 bel02 bel3 h2
  by_cases hc : Cm.chk e n l = 0
  · obtain ⟨g1, g2, g3, g4, g5⟩ := Cm.chk_zero hc
    by_cases hq : n - 1 ≠ nu ∨ e < ep
    · obtain rfl : (15, at') = fa := (Cm.flt_off (c := ⟨e, n, l⟩) hc hq).symm.trans HF.out
      rw [hc]
      obtain ⟨V', hV', bV', gV', ⟨a0, a1⟩, ⟨f0, f1⟩, ⟨z0, z1⟩⟩ := res_two hR3 (.int .i64 15) (.int .i64 at')
      have belV' := below_put bel03 gV' (by omega) (by omega)
      clear hc bV' gV' hR3
      by_cases hq1 : n - 1 = nu
      · have hq2 : e < ep := by omega
        have hq3 : (n - 1 != nu) = false := by simpa using hq1
        clear hq hq1
        go_wp2
        refine bodyPost_ret (v := .agg #[.int .i64 15, .int .i64 at']) (by simp [results, Tryz.results155, go_sem, z0, z1]) rfl ?_
        exact ⟨rfl, belV'⟩
      · have hq3 : (n - 1 != nu) = true := by simpa using hq1
        clear hq hq1
        go_wp2
        refine bodyPost_ret (v := .agg #[.int .i64 15, .int .i64 at']) (by simp [results, Tryz.results155, go_sem, z0, z1]) rfl ?_
        exact ⟨rfl, belV'⟩
    · obtain rfl : (0, 0) = fa := (Cm.flt_on (c := ⟨e, n, l⟩) hc hq).symm.trans HF.out
      rw [hc]
      obtain ⟨V', hV', bV', gV', ⟨a0, a1⟩, ⟨f0, f1⟩, ⟨z0, z1⟩⟩ := res_two hR3 (.int .i64 0) (.int .i64 0)
      have belV' := below_put bel03 gV' (by omega) (by omega)
      have hq3 : (n - 1 != nu) = false := by simp; omega
      have hq2 : ¬ e < ep := by omega
      clear hc bV' gV' hR3 hq
      go_wp2
      refine bodyPost_ret (v := .agg #[.int .i64 0, .int .i64 0]) (by simp [results, Tryz.results155, go_sem, z0, z1]) rfl ?_
      exact ⟨rfl, belV'⟩
  · have hfo : (Cm.chk e n l, at') = fa := (Cm.flt_bad (c := ⟨e, n, l⟩) hc).symm.trans HF.out
    have hne : (Cm.chk e n l == 0) = false := by simpa using hc
    generalize Cm.chk e n l = ck at *
    subst hfo
    obtain ⟨V', hV', bV', gV', ⟨a0, a1⟩, ⟨f0, f1⟩, ⟨z0, z1⟩⟩ := res_two hR3 (.int .i64 ck) (.int .i64 at')
    have belV' := below_put bel03 gV' (by omega) (by omega)
    clear hc bV' gV' hR3
    go_wp2
    refine bodyPost_ret (v := .agg #[.int .i64 ck, .int .i64 at']) (by simp [results, Tryz.results155, go_sem, z0, z1]) rfl ?_
    exact ⟨rfl, belV'⟩

theorem cvs_drop {r : List Cw} {k : Nat} {c : Cw} (h : r[k]? = some c) : (cvs r).drop k = c.c :: (cvs r).drop (k + 1) := by
  obtain ⟨hk, rfl⟩ := List.getElem?_eq_some_iff.1 h
  unfold cvs
  rw [← List.map_drop, ← List.map_drop, List.drop_eq_getElem_cons hk, List.map_cons]

set_option maxHeartbeats 1000000 in
theorem cfol_any (ep0 nu0 : Int) (vl : Value) (r : List Cw) (w : World) (h : IsC w vl r) (hf : FitC r) (hl : r.length ≤ 140737488355328) :
    Calls Tryz.prog 95 #[.int .i64 ep0, .int .i64 nu0, vl] w fun E w' => E = .returned (flv (Cm.fol ep0 nu0 0 (cvs r))) ∧ Below w.heap.size w w' := by
  unfold flv
  obtain ⟨fa, hfa⟩ : ∃ f, Cm.fol ep0 nu0 0 (cvs r) = f := ⟨_, rfl⟩
  rw [hfa]
  have HF := hide hfa
  clear hfa
  obtain ⟨w1, hw1, sz1, bel1, hR⟩ := blk_step w #[.int .i64 0, .int .i64 0] 136
  have h1 := h.below bel1
  have hR0 := blk_cell hR 0 rfl
  have hR1 := blk_cell hR 1 rfl
  by_cases hz : r.length = 0
  · have : r = [] := List.eq_nil_of_length_eq_zero hz
    subst this
    obtain ⟨ao, cap, rfl, _, _⟩ := h.1.shape
    have hfo := HF.out
    simp only [cvs, List.map_nil, Cm.fol_nil] at hfo
    subst hfo
    obtain ⟨V', hV', bV', gV', ⟨a0, a1⟩, ⟨f0, f1⟩, ⟨z0, z1⟩⟩ := res_two hR (.int .i64 0) (.int .i64 0)
    have belV' := below_put bel1 gV' (by omega) (by omega)
    clear h h1 hf hl hz HF bV' gV' hR
    simp only [List.length_nil]
    go_enter Tryz.func95, Tryz.ntmps95
    go_wp2
    go_loopw [12] (fun iv wr => iv = .int .i64 0 ∧ wr = w1) (fun _ _ => 0)
    case atStart => exact ⟨rfl, rfl⟩
    case round =>
      obtain ⟨rfl, rfl⟩ := hrel
      go_wp2
      refine bodyPost_ret (v := .agg #[.int .i64 0, .int .i64 0]) (by simp [results, Tryz.results95, go_sem, z0, z1]) rfl ?_
      exact ⟨rfl, belV'⟩
  obtain ⟨b1, o1, c1, hvl, _, _, hB, hcell⟩ := h1.1.full (by omega)
  subst hvl
  have HIN := hide h1.2
  have HFIT := hide hf
  have HC := hide hcell
  have HRR := hide hR
  generalize hn : r.length = n at *
  have HN := hide hn
  clear h h1 hcell hf hR hR0 hR1 hn
  go_enter Tryz.func95, Tryz.ntmps95
  go_wp2
  go_loopw [0, 1, 12] (fun ev nv iv wr => ∃ (k : Nat) (ep nu : Int), k ≤ n ∧ iv = .int .i64 k ∧ ev = .int .i64 ep ∧ nv = .int .i64 nu ∧ Hid (Cm.fol ep nu k ((cvs r).drop k) = fa) ∧ Below w1.heap.size w1 wr) (fun _ _ iv _ => n - (intOf iv).toNat)
  case atStart => exact ⟨0, ep0, nu0, by omega, rfl, rfl, rfl, HF, Below.refl _ _⟩
  case round =>
    obtain ⟨k, ep, nu, hk, rfl, rfl, rfl, HT, bel⟩ := hrel
    have sz := bel.size
    by_cases hlt : k < n
    · obtain ⟨c, hc⟩ : ∃ c, r[k]? = some c := ⟨r[k]'(by have := HN.out; omega), by rw [List.getElem?_eq_getElem]⟩
      obtain ⟨e0, e1, e2⟩ := HC.out k c hc
      have d0 := (bel.cell (p := ⟨b1, o1 + k * 3, none⟩) hB).trans e0
      have d1 := (bel.cell (p := ⟨b1, o1 + k * 3 + 1, none⟩) hB).trans e1
      have d2 := (bel.cell (p := ⟨b1, o1 + k * 3 + 2, none⟩) hB).trans e2
      have hmem := List.mem_of_getElem? hc
      obtain ⟨i1, _, _⟩ := HIN.out c hmem
      have i2 := i1.below bel
      obtain ⟨hfc, hlc⟩ := HFIT.out c hmem
      have HCD := hide (cvs_drop hc)
      have hlt' : (k : Int) < n := by omega
      obtain ⟨ao, cp, hcv, _, _⟩ := i2.shape
      rw [hcv] at d2 i2
      obtain ⟨V, hV, hV2, szV, belV, bC, q0, q1, q2⟩ := new_step wr 93 (.int .i64 0) (.int .i64 0) (.slice none 0 0) (.int .i64 c.e) (.int .i64 c.n) (.slice ao c.l.length cp)
      have i3 := i2.below belV
      have BC := hide bC
      clear e0 e1 e2 hc hmem i1 i2 hcv bC
      go_wp2_with fail
      refine (flt_any k ep nu c.e c.n _ c.l _ i3 hfc (by omega)).mono ?_
      rintro E w3 ⟨rfl, bel3⟩
      have sz3 := bel3.size
      obtain ⟨fl, hfl⟩ : ∃ f, Cm.flt k ep nu ⟨c.e, c.n, c.l⟩ = f := ⟨_, rfl⟩
      unfold flv
      rw [hfl]
      have HFL := hide hfl
      clear hfl
      obtain ⟨fe, fp⟩ := fl
      simp only
      have bC3 := (bel3.block wr.heap.size (by omega)).trans BC.out
      obtain ⟨X, hX, hX2, szX, belX, bF, x0, x1⟩ := new_two w3 136 (.int .i64 0) (.int .i64 0) (.int .i64 fe) (.int .i64 fp)
      have bCX := (belX.block wr.heap.size (by omega)).trans bC3
      have u0 := blk_cell bCX 0 rfl
      have u1 := blk_cell bCX 1 rfl
      have belA : Below w1.heap.size w1 X := ((bel.trans (belV.mono (by omega))).trans (bel3.mono (by omega))).trans (belX.mono (by omega))
      have hRX := (belA.block w.heap.size (by omega)).trans HRR.out
      have hnq := Tryz.neqF fe fp 0 0
      have hgd := Tryz.guardF
      clear bel belV bel3 belX BC bC3 bCX bF i3 q0 q1 q2 d0 d1 d2 hV hV2
      by_cases hfe : fe = 0
      · have hz := Cm.flt_zero (a := k) (ep := ep) (nu := nu) (c := ⟨c.e, c.n, c.l⟩) (by rw [HFL.out]; exact hfe)
        have hfp : fp = 0 := by have := hz.2.2; rw [HFL.out] at this; exact this
        have HT2 : Hid (Cm.fol c.e c.n (k + 1) ((cvs r).drop (k + 1)) = fa) := hide (by
          have := HT.out
          rw [HCD.out] at this
          rw [← this]
          exact (Cm.fol_next (c := c.c) (by rw [show Cm.flt k ep nu c.c = (fe, fp) from HFL.out]; exact hfe)).symm)
        have hb : (!((fe == 0) && (fp == 0))) = false := by simp [hfe, hfp]
        rw [hb] at hnq
        clear hb hz hfe hfp hRX HFL HCD HT
        go_wp2_with fail
        go_quiet (fail)
        go_wp2
        go_roundw
        case rel => exact ⟨k + 1, c.e, c.n, by omega, by go_num, rfl, rfl, HT2, below_drewN belA _⟩
        case measure => simp [intOf]; omega
      · have hfo : (fe, fp) = fa := by
          have := HT.out
          rw [HCD.out] at this
          rw [← this, Cm.fol_stop (c := c.c) (by rw [show Cm.flt k ep nu c.c = (fe, fp) from HFL.out]; exact hfe)]
          exact HFL.out.symm
        have hb : (!((fe == 0) && (fp == 0))) = true := by simp [hfe]
        rw [hb] at hnq
        subst hfo
        obtain ⟨V', hV', bV', gV', ⟨a0, a1⟩, ⟨f0, f1⟩, ⟨z0, z1⟩⟩ := res_two hRX (.int .i64 fe) (.int .i64 fp)
        have belV' := below_put (bel1.trans (belA.mono (by omega))) gV' (by omega) (by omega)
        clear hb hfe hRX HFL HCD HT HF bV' gV' u0 u1 belA
        go_wp2
        refine bodyPost_ret (v := .agg #[.int .i64 fe, .int .i64 fp]) (by simp [results, Tryz.results95, go_sem, z0, z1]) rfl ?_
        exact ⟨rfl, belV'⟩
    · have hlt' : ¬ (k : Int) < n := by omega
      have hfo : (0, 0) = fa := by
        have := HT.out
        rw [List.drop_of_length_le (by unfold cvs; rw [List.length_map, HN.out]; omega), Cm.fol_nil] at this
        exact this
      subst hfo
      have hRX := (bel.block w.heap.size (by omega)).trans HRR.out
      obtain ⟨V', hV', bV', gV', ⟨a0, a1⟩, ⟨f0, f1⟩, ⟨z0, z1⟩⟩ := res_two hRX (.int .i64 0) (.int .i64 0)
      have belV' := below_put (bel1.trans (bel.mono (by omega))) gV' (by omega) (by omega)
      clear hRX HT HF bV' gV' bel
      go_wp2
      refine bodyPost_ret (v := .agg #[.int .i64 0, .int .i64 0]) (by simp [results, Tryz.results95, go_sem, z0, z1]) rfl ?_
      exact ⟨rfl, belV'⟩

end Go.Proofs.YtajlhdmnincehaaGreatDoor

/- Lists of commits: the same, of the call's own, apart. -/
namespace Go.Proofs.YtajlhdmnincehaaGreatDoor
open Go.RowKit
set_option linter.unusedVariables false






theorem cvs_length (r : List Cw) : (cvs r).length = r.length := by unfold cvs; rw [List.length_map]

/-- A list's cells, where there are any. -/
theorem isC_cells {w : World} {v : Value} {r : List Cw} (h : IsC w v r) : 0 < r.length → ∃ b1 o1 c1, v = .slice (some ⟨b1, o1, none⟩) r.length c1 ∧ b1 < w.heap.size ∧ ∀ i c, r[i]? = some c → w.cell? ⟨b1, o1 + i * 3, none⟩ = some (.int .i64 c.e) ∧ w.cell? ⟨b1, o1 + i * 3 + 1, none⟩ = some (.int .i64 c.n) ∧ w.cell? ⟨b1, o1 + i * 3 + 2, none⟩ = some c.v := by
  intro hp
  obtain ⟨b1, o1, c1, hv, _, _, hB, hc⟩ := h.1.full hp
  exact ⟨b1, o1, c1, hv, hB, hc⟩


/-- Commits whose ops lie apart. -/
def ApC (cs : List Cw) : Prop := ∀ (i j : Nat) (c d : Cw), i ≠ j → cs[i]? = some c → cs[j]? = some d → c.v.ownBlock = none ∨ c.v.ownBlock ≠ d.v.ownBlock




theorem apc_snoc {cs : List Cw} {c : Cw} {N : Nat} (h : ApC cs) (h1 : ∀ d ∈ cs, ∀ b, d.v.ownBlock = some b → b < N) (h2 : ∀ b, c.v.ownBlock = some b → N ≤ b) : ApC (cs ++ [c]) := by
  intro i j x y hij hx hy
  have hix := (List.getElem?_eq_some_iff.1 hx).1
  have hjx := (List.getElem?_eq_some_iff.1 hy).1
  rw [List.length_append, List.length_singleton] at hix hjx
  have key : ∀ u v : Value, (∀ b d, u.ownBlock = some b → v.ownBlock = some d → b ≠ d) → u.ownBlock = none ∨ u.ownBlock ≠ v.ownBlock := by
    intro u v h
    cases hu : u.ownBlock with
    | none => exact .inl rfl
    | some b => exact .inr fun e => h b b hu e.symm rfl
  by_cases hi : i < cs.length
  · rw [List.getElem?_append_left hi] at hx
    by_cases hj : j < cs.length
    · rw [List.getElem?_append_left hj] at hy
      exact h i j x y hij hx hy
    · have : j = cs.length := by omega
      subst this
      simp at hy
      subst hy
      exact key _ _ fun b d hb hd => by have := h1 x (List.mem_of_getElem? hx) b hb; have := h2 d hd; omega
  · have : i = cs.length := by omega
    subst this
    simp at hx
    subst hx
    rw [List.getElem?_append_left (by omega)] at hy
    exact key _ _ fun b d hb hd => by have := h2 b hb; have := h1 y (List.mem_of_getElem? hy) d hd; omega

end Go.Proofs.YtajlhdmnincehaaGreatDoor

/- Of which types the blocks of rows and of a disk are. No program. -/
namespace Go.Proofs.YtajlhdmnincehaaGreatDoor
open Go.RowKit
set_option linter.unusedVariables false

section
variable {base : Nat} {w : World} {F : Nat → Prop}

theorem OwnR.type {e : TypeId} {r : List Cw} {v : Value} (h : OwnR e base w v r) {g : Nat} (hg : v.ownBlock = some g) : ∃ cs, w.heap[g]? = some (.cells cs e (0, 0)) := by
  rcases h.2 with ⟨rfl, _⟩ | ⟨g', cap, cur, rfl, _, hh, _⟩
  · simp [Value.ownBlock] at hg
  · simp [Value.ownBlock] at hg
    subst hg
    exact ⟨_, hh⟩

theorem OwnO.type {e : TypeId} {r : List Bm.Ov} {v : Value} (h : OwnO e base w v r) {g : Nat} (hg : v.ownBlock = some g) : ∃ cs, w.heap[g]? = some (.cells cs e (0, 0)) := by
  rcases h.2 with ⟨rfl, _⟩ | ⟨g', cap, cur, rfl, _, hh, _⟩
  · simp [Value.ownBlock] at hg
  · simp [Value.ownBlock] at hg
    subst hg
    exact ⟨_, hh⟩

/-- Of which types a disk's blocks are. -/
theorem Pk.ty {p : Nat} {st : Dm.Ds} (h : Pk p F w st) : ∀ g, F g → ∃ cs t fr, w.heap[g]? = some (.cells cs t fr) ∧ (t = 67 ∨ t = 5 ∨ t = 133) := by
  obtain ⟨s, wv, rs, h, rfl⟩ := h
  rintro g (rfl | ⟨f, hf, hb⟩ | hb | ⟨r, hr, hb⟩)
  · exact ⟨_, _, _, h.blk, .inl rfl⟩
  · obtain ⟨cs, hc⟩ := (h.con.file f hf).type hb
    exact ⟨_, _, _, hc, .inr (.inl rfl)⟩
  · obtain ⟨cs, hc⟩ := h.con.row.type hb
    exact ⟨_, _, _, hc, .inr (.inr rfl)⟩
  · obtain ⟨_, cs, fr, hc⟩ := (h.con.raw r hr).2 g hb
    exact ⟨_, _, _, hc, .inr (.inl rfl)⟩

end

theorem IsO.out {F : Nat → Prop} {w w' : World} {v : Value} {l : List Bm.Ov} (h : IsO w v l) (ho : Out F w w') (hF : 0 < l.length → ∀ b, v.ownBlock = some b → ¬ F b) : IsO w' v l := by
  rcases h with h | ⟨ad, cap, hv, h1, h2, hc⟩
  · exact .inl h
  · refine .inr ⟨ad, cap, hv, h1, h2, fun j u hj => ?_⟩
    have hk := hc j u hj
    have hl : 0 < l.length := by
      rcases l with _ | ⟨x, l⟩
      · simp [ocells] at hj
      · simp
    have eb : (ad.add j).block = ad.block := by unfold Addr.add; split <;> rfl
    have hlt := World.block_lt_of_cell? _ _ hk
    rw [World.cell?_of_block (ho.block _ hlt (by rw [eb]; exact hF hl _ (by rw [hv]; rfl)))]
    exact hk


end Go.Proofs.YtajlhdmnincehaaGreatDoor

/- Runs in memory: the program's object, its list and its disk. -/
namespace Go.Proofs.YtajlhdmnincehaaGreatDoor
open Go.RowKit
set_option linter.unusedVariables false



/-- A list of runs in memory: a row of its own, and the ops of each. -/
structure Rq (base : Nat) (w : World) (l : List Cm.Cv) (v : Value) (rs : List Cw) : Prop where
  row : OwnR 187 base w v rs
  cop : CopyR base w rs
  is : cvs rs = l
  good : Rl.Good 0 l

/-- Its blocks. -/
def QB (v : Value) (rs : List Cw) (g : Nat) : Prop := v.ownBlock = some g ∨ ∃ c ∈ rs, c.v.ownBlock = some g

section
variable {base base' : Nat} {w w' : World} {l : List Cm.Cv} {v : Value} {rs : List Cw} {F G : Nat → Prop}

theorem Rq.nil (base : Nat) (w : World) : Rq base w [] (.slice none 0 0) [] := ⟨OwnR.nil _ _ _, fun c hc => by simp at hc, rfl, trivial⟩

theorem Rq.ty (h : Rq base w l v rs) : ∀ g, QB v rs g → ∃ cs t, w.heap[g]? = some (.cells cs t (0, 0)) ∧ (t = 187 ∨ t = 88) := by
  rintro g (hb | ⟨c, hc, hb⟩)
  · obtain ⟨cs, e⟩ := h.row.type hb
    exact ⟨_, _, e, .inl rfl⟩
  · obtain ⟨cs, e⟩ := (h.cop c hc).type hb
    exact ⟨_, _, e, .inr rfl⟩

theorem Rq.lt (h : Rq base w l v rs) : ∀ g, QB v rs g → g < w.heap.size := fun g hg => by
  obtain ⟨cs, t, e, _⟩ := h.ty g hg
  exact blk_lt e


theorem Rq.agree (h : Rq base w l v rs) (ha : ∀ g, QB v rs g → w'.heap[g]? = w.heap[g]?) : Rq base w' l v rs :=
  ⟨row_agree h.row fun b hb => ha b (.inl hb), fun c hc => row_agree (h.cop c hc) fun b hb => ha b (.inr ⟨c, hc, hb⟩), h.is, h.good⟩

theorem Rq.below (h : Rq base w l v rs) (hb : Below w.heap.size w w') : Rq base w' l v rs := h.agree fun g hg => hb.block g (h.lt g hg)



theorem Rq.len (h : Rq base w l v rs) : rs.length = l.length := by rw [← h.is, cvs, List.length_map]

theorem Rq.len_le (h : Rq base w l v rs) : rs.length ≤ 1048576 := by rw [h.len]; exact (Rl.good_len h.good).1




/-- Runs in memory: their block p, its disk's block q. -/
structure RkV (p q : Nat) (w : World) (l : List Cm.Cv) (bk : Bool) (v : Value) (rs : List Cw) : Prop where
  blk : w.heap[p]? = some (.cells #[.pointer (some ⟨q, 0, none⟩), .bool bk, v] 196 (0, 0))
  log : Rq 0 w l v rs

def Rk (p q : Nat) (G : Nat → Prop) (w : World) (l : List Cm.Cv) (bk : Bool) : Prop := ∃ v rs, RkV p q w l bk v rs ∧ G = fun g => g = p ∨ QB v rs g

theorem RkV.ty {p q : Nat} {bk : Bool} (h : RkV p q w l bk v rs) : ∀ g, g = p ∨ QB v rs g → ∃ cs t, w.heap[g]? = some (.cells cs t (0, 0)) ∧ (t = 196 ∨ t = 187 ∨ t = 88) := by
  rintro g (rfl | hg)
  · exact ⟨_, _, h.blk, .inl rfl⟩
  · obtain ⟨cs, t, e, ht⟩ := h.log.ty g hg
    exact ⟨cs, t, e, .inr ht⟩

theorem Rk.ty {p q : Nat} {bk : Bool} (h : Rk p q G w l bk) : ∀ g, G g → ∃ cs t, w.heap[g]? = some (.cells cs t (0, 0)) ∧ (t = 196 ∨ t = 187 ∨ t = 88) := by
  obtain ⟨v, rs, h, rfl⟩ := h
  exact h.ty

theorem Rk.lt {p q : Nat} {bk : Bool} (h : Rk p q G w l bk) : ∀ g, G g → g < w.heap.size := fun g hg => by
  obtain ⟨cs, t, e, _⟩ := h.ty g hg
  exact blk_lt e

theorem Rk.agree {p q : Nat} {bk : Bool} (h : Rk p q G w l bk) (ha : ∀ g, G g → w'.heap[g]? = w.heap[g]?) : Rk p q G w' l bk := by
  obtain ⟨v, rs, h, rfl⟩ := h
  exact ⟨v, rs, ⟨(ha p (.inl rfl)).trans h.blk, h.log.agree fun g hg => ha g (.inr hg)⟩, rfl⟩

theorem Rk.below {p q : Nat} {bk : Bool} (h : Rk p q G w l bk) (hb : Below w.heap.size w w') : Rk p q G w' l bk := h.agree fun g hg => hb.block g (h.lt g hg)
theorem Rk.out {p q : Nat} {bk : Bool} (h : Rk p q G w l bk) (ho : Out F w w') (hd : ∀ g, G g → ¬ F g) : Rk p q G w' l bk := h.agree fun g hg => ho.block g (h.lt g hg) (hd g hg)
theorem Rk.good {p q : Nat} {bk : Bool} (h : Rk p q G w l bk) : Rl.Good 0 l := by
  obtain ⟨v, rs, h, rfl⟩ := h
  exact h.log.good

/-- Runs' blocks are none of their disk's. -/
theorem rk_pk {p q q' : Nat} {bk : Bool} {st : Dm.Ds} (h : Rk p q G w l bk) (k : Pk q' F w st) : ∀ g, G g → ¬ F g := by
  intro g hg hf
  obtain ⟨cs, t, e, ht⟩ := h.ty g hg
  obtain ⟨cs', t', fr, e', ht'⟩ := k.ty g hf
  rw [e] at e'
  simp only [Option.some.injEq, Obj.cells.injEq] at e'
  obtain ⟨_, e2, _⟩ := e'
  subst e2
  rcases ht with rfl | rfl | rfl <;> rcases ht' with e | e | e <;> exact absurd e (by decide)

end

/-- Runs and their disk. -/
def RW (p q : Nat) (F : Nat → Prop) (w : World) (s : Rl.Rs) : Prop := ∃ F1 G1, Pk q F1 w s.d ∧ Rk p q G1 w s.l s.bk ∧ F = fun g => F1 g ∨ G1 g


section
variable {p q : Nat} {F G : Nat → Prop} {w w' w1 w2 : World} {s s' : Rl.Rs} {st' : Dm.Ds}

theorem RW.lt (h : RW p q F w s) : ∀ g, F g → g < w.heap.size := by
  obtain ⟨F1, G1, h1, h2, rfl⟩ := h
  rintro g (hg | hg)
  · exact h1.lt g hg
  · exact h2.lt g hg

theorem RW.agree (h : RW p q F w s) (ha : ∀ g, F g → w'.heap[g]? = w.heap[g]?) : RW p q F w' s := by
  obtain ⟨F1, G1, h1, h2, rfl⟩ := h
  exact ⟨F1, G1, h1.agree fun g hg => ha g (.inl hg), h2.agree fun g hg => ha g (.inr hg), rfl⟩
theorem RW.below (h : RW p q F w s) (hb : Below w.heap.size w w') : RW p q F w' s := h.agree fun g hg => hb.block g (h.lt g hg)
theorem RW.out (h : RW p q F w s) (ho : Out G w w') (hd : ∀ g, F g → ¬ G g) : RW p q F w' s := h.agree fun g hg => ho.block g (h.lt g hg) (hd g hg)
theorem RW.good (h : RW p q F w s) : Rl.Good 0 s.l := by
  obtain ⟨F1, G1, h1, h2, rfl⟩ := h
  exact h2.good



end

end Go.Proofs.YtajlhdmnincehaaGreatDoor

/- The contracts of run.read and run.Decode. -/
namespace Go.Proofs.YtajlhdmnincehaaGreatDoor
open Go.RowKit
open Bm (Ov)
set_option linter.unusedVariables false

theorem Tryz.elemB3 : Tryz.prog.underlying 28 = some (.slice (Tryz.prog.elem 28)) := by kernel_rfl

theorem Tryz.sizeB3 (wx : World) : (sizeOf (Tryz.prog.elem 28)).run Tryz.prog wx = .ok 1 wx := by kernel_rfl


/-- A cell of a block is written. -/
theorem put_at3 {V : World} {R : Nat} {t : TypeId} {cs : Array Value} (hR : V.heap[R]? = some (.cells cs t (0, 0))) (j : Nat) (u : Value) :
    ∃ V', V.setCell ⟨R, j, none⟩ u = V' ∧ V'.heap[R]? = some (.cells (cs.setIfInBounds j u) t (0, 0)) ∧ V.grownBy V' (some R) ∧ V.frozen? ⟨R, j, none⟩ = false :=
  ⟨_, rfl, set_cells hR j u, grown_setCell _ _ _, blk_froz hR j⟩

/-- The first k numbers are read. -/
def Nr (bs : List Int) (x y m k a : Nat) : Prop := match k with
  | 0 => a = 0
  | 1 => Vm.enc x <+: bs ∧ a = Vm.sz x ∧ x ≤ 1048576
  | 2 => Vm.enc x <+: bs ∧ Vm.enc y <+: bs.drop (Vm.sz x) ∧ a = Vm.sz x + Vm.sz y ∧ x ≤ 1048576 ∧ y ≤ 1048576
  | _ => Vm.enc x <+: bs ∧ Vm.enc y <+: bs.drop (Vm.sz x) ∧ Vm.enc m <+: bs.drop (Vm.sz x + Vm.sz y) ∧ a = Vm.sz x + Vm.sz y + Vm.sz m ∧ x ≤ 1048576 ∧ y ≤ 1048576 ∧ m ≤ 1048576




/-- In the midst of the ops. -/
structure RdO (bs : List Int) (w wr : World) (x y m a : Nat) (v : Value) (l : List Ov) : Prop where
  blk : wr.heap[w.heap.size]? = some (.cells #[.int .i64 x, .int .i64 y, v] 187 (0, 0))
  own : OwnO 88 (w.heap.size + 2) wr v l
  bel : Below w.heap.size w wr
  sz : w.heap.size + 2 ≤ wr.heap.size
  nr : Nr bs x y m 3 (Vm.sz x + Vm.sz y + Vm.sz m)
  ens : Rn.ens l <+: bs.drop (Vm.sz x + Vm.sz y + Vm.sz m)
  ok : ∀ o ∈ l, o.c = 0
  a : a = Vm.sz x + Vm.sz y + Vm.sz m + (Rn.ens l).length






end Go.Proofs.YtajlhdmnincehaaGreatDoor

/- A row of commits or runs of one's own: an element is stored. No program. -/
namespace Go.Proofs.YtajlhdmnincehaaGreatDoor
open Go.RowKit
set_option linter.unusedVariables false

theorem ccells_set (l : List Cw) (i : Nat) (c : Cw) (hi : i < l.length) : (((ccells l).set (i * 3) (.int .i64 c.e)).set (i * 3 + 1) (.int .i64 c.n)).set (i * 3 + 2) c.v = ccells (l.set i c) := by
  induction l generalizing i with
  | nil => simp at hi
  | cons d l ih =>
    cases i with
    | zero => simp [ccells, ccell]
    | succ i =>
      have := ih i (by simpa using hi)
      rw [show (i + 1) * 3 = i * 3 + 3 by omega]
      simp only [ccells, ccell, List.set_cons_succ, List.cons_append, List.nil_append]
      rw [← this]

theorem own_putC {e base g n cap : Nat} {w : World} {l : List Cw} (h : OwnR e base w (.slice (some ⟨g, 0, none⟩) n cap) l) (hn : l.length = n) (i : Nat) (hi : i < n) (c : Cw) :
    ∃ W, ((w.setCell ⟨g, i * 3, none⟩ (.int .i64 c.e)).setCell ⟨g, i * 3 + 1, none⟩ (.int .i64 c.n)).setCell ⟨g, i * 3 + 2, none⟩ c.v = W ∧ OwnR e base W (.slice (some ⟨g, 0, none⟩) n cap) (l.set i c) ∧ w.grownBy W (some g) := by
  subst hn
  unfold OwnR at h
  have s1 := h.stored (i * 3) (.int .i64 c.e)
  have s2 := s1.1.stored (i * 3 + 1) (.int .i64 c.n)
  have s3 := s2.1.stored (i * 3 + 2) c.v
  refine ⟨_, rfl, ?_, grown_trans s1.2 (grown_trans s2.2 s3.2)⟩
  unfold OwnR
  rw [List.length_set, ← ccells_set l i c hi]
  exact s3.1

theorem own_atC {e base g n cap : Nat} {w : World} {l : List Cw} (h : OwnR e base w (.slice (some ⟨g, 0, none⟩) n cap) l) (hn : l.length = n) (i : Nat) (c : Cw) (hc : l[i]? = some c) :
    (w.cell? ⟨g, i * 3, none⟩ = some (.int .i64 c.e) ∧ w.cell? ⟨g, i * 3 + 1, none⟩ = some (.int .i64 c.n) ∧ w.cell? ⟨g, i * 3 + 2, none⟩ = some c.v) ∧ (w.frozen? ⟨g, i * 3, none⟩ = false ∧ w.frozen? ⟨g, i * 3 + 1, none⟩ = false ∧ w.frozen? ⟨g, i * 3 + 2, none⟩ = false) := by
  subst hn
  unfold OwnR at h
  obtain ⟨hi, rfl⟩ := List.getElem?_eq_some_iff.1 hc
  obtain ⟨a0, a1, a2⟩ := ccells_at l i hi
  exact ⟨⟨by rw [h.cellAt (i * 3) (by omega)]; exact a0, by rw [h.cellAt (i * 3 + 1) (by omega)]; exact a1, by rw [h.cellAt (i * 3 + 2) (by omega)]; exact a2⟩, h.frozenAt _, h.frozenAt _, h.frozenAt _⟩

end Go.Proofs.YtajlhdmnincehaaGreatDoor

/- The program's log in memory: its commits, where each ends; a wal. -/
namespace Go.Proofs.YtajlhdmnincehaaGreatDoor
open Go.RowKit
set_option linter.unusedVariables false

/-- Where each commit's frame ends. -/
def ends (l : List Cm.Cv) : List Int := (List.range l.length).map fun i => ((Wl.lgb (l.take (i + 1))).length : Int)

theorem ends_len (l : List Cm.Cv) : (ends l).length = l.length := by simp [ends]

theorem ends_at (l : List Cm.Cv) (i : Nat) (hi : i < l.length) : (ends l).getD i 0 = (Wl.lgb (l.take (i + 1))).length := by
  simp [ends, List.getD_eq_getElem?_getD, hi]

theorem ends_snoc (l : List Cm.Cv) (c : Cm.Cv) : ends (l ++ [c]) = ends l ++ [((Wl.lgb (l ++ [c])).length : Int)] := by
  unfold ends
  rw [List.length_append, List.length_singleton, List.range_succ, List.map_append]
  congr 1
  · apply List.map_congr_left
    intro i hi
    rw [List.mem_range] at hi
    rw [List.take_append_of_le_length (by omega)]
  · rw [List.map_singleton, List.take_of_length_le (by simp)]


theorem good_len {l : List Cm.Cv} (h : Cm.Good 0 0 l) : l.length ≤ 1048576 := by
  rcases List.eq_nil_or_concat l with rfl | ⟨r, c, rfl⟩
  · simp
  · have hk : (r.concat c)[r.length]? = some c := by rw [List.concat_eq_append]; simp
    obtain ⟨h1, h2, _⟩ := Cm.good_at (r.concat c) 0 0 r.length c h hk
    have := Cm.chk_zero h1
    rw [List.concat_eq_append, List.length_append, List.length_singleton]
    omega

theorem lgb_le {l : List Cm.Cv} (h : Cm.Good 0 0 l) : (Wl.lgb l).length ≤ 454033408 := by
  have h1 := Wl.lgb_small h
  have h2 := good_len h
  omega


theorem fit_good {rs : List Cw} {l : List Cm.Cv} (h : Cm.Good 0 0 l) (he : cvs rs = l) : FitC rs ∧ ∀ c ∈ rs, In64 c.e ∧ In64 c.n ∧ c.l.length ≤ 8 := by
  have key : ∀ c ∈ rs, Cm.chk c.e c.n c.l = 0 := by
    intro c hc
    obtain ⟨k, hk⟩ := List.getElem?_of_mem hc
    have : l[k]? = some c.c := by rw [← he, cvs, List.getElem?_map, hk]; rfl
    exact (Cm.good_at l 0 0 k c.c h this).1
  constructor
  · intro c hc
    obtain ⟨_, _, _, _, h5⟩ := Cm.chk_zero (key c hc)
    have := (Bm.chkL_zero h5).2.1
    exact ⟨(small_of h5).fit, by omega⟩
  · intro c hc
    obtain ⟨h1, h2, h3, h4, h5⟩ := Cm.chk_zero (key c hc)
    have := (Bm.chkL_zero h5).2.1
    exact ⟨⟨by omega, by omega⟩, ⟨by omega, by omega⟩, this⟩

/-- A log's two rows in memory, and its commits' ops. -/
structure Lr (base : Nat) (w : World) (vc ve : Value) (rs : List Cw) (zs : List Int) : Prop where
  row : OwnR 93 base w vc rs
  cop : CopyR base w rs
  en : Own .i64 3 base w ve zs

/-- A log in memory. -/
structure Lw (base : Nat) (w : World) (l : List Cm.Cv) (vc ve : Value) (rs : List Cw) : Prop where
  r : Lr base w vc ve rs (ends l)
  is : cvs rs = l
  good : Cm.Good 0 0 l

/-- Its blocks. -/
def LB (vc ve : Value) (rs : List Cw) (g : Nat) : Prop := vc.ownBlock = some g ∨ ve.ownBlock = some g ∨ ∃ c ∈ rs, c.v.ownBlock = some g

section
variable {base base' : Nat} {w w' : World} {l : List Cm.Cv} {vc ve : Value} {rs : List Cw} {F G : Nat → Prop}

theorem Lr.nil (base : Nat) (w : World) : Lr base w (.slice none 0 0) (.slice none 0 0) [] [] := ⟨OwnR.nil _ _ _, fun c hc => by simp at hc, Own.nil _ _ _ _⟩
theorem Lw.nil (base : Nat) (w : World) : Lw base w [] (.slice none 0 0) (.slice none 0 0) [] := ⟨Lr.nil _ _, rfl, trivial⟩

/-- Of which types its blocks are. -/
theorem Lr.ty {zs : List Int} (h : Lr base w vc ve rs zs) : ∀ g, LB vc ve rs g → ∃ cs t, w.heap[g]? = some (.cells cs t (0, 0)) ∧ (t = 93 ∨ t = 3 ∨ t = 88) := by
  rintro g (hb | hb | ⟨c, hc, hb⟩)
  · obtain ⟨cs, e⟩ := h.row.type hb
    exact ⟨_, _, e, .inl rfl⟩
  · obtain ⟨cs, e⟩ := h.en.type hb
    exact ⟨_, _, e, .inr (.inl rfl)⟩
  · obtain ⟨cs, e⟩ := (h.cop c hc).type hb
    exact ⟨_, _, e, .inr (.inr rfl)⟩

theorem Lr.lt {zs : List Int} (h : Lr base w vc ve rs zs) : ∀ g, LB vc ve rs g → g < w.heap.size := fun g hg => by
  obtain ⟨cs, t, e, _⟩ := h.ty g hg
  exact blk_lt e


theorem Lr.agree {zs : List Int} (h : Lr base w vc ve rs zs) (ha : ∀ g, LB vc ve rs g → w'.heap[g]? = w.heap[g]?) : Lr base w' vc ve rs zs :=
  ⟨row_agree h.row fun b hb => ha b (.inl hb), fun c hc => row_agree (h.cop c hc) fun b hb => ha b (.inr (.inr ⟨c, hc, hb⟩)), h.en.agree fun b hb => ha b (.inr (.inl hb))⟩

theorem Lr.below {zs : List Int} (h : Lr base w vc ve rs zs) (hb : Below w.heap.size w w') : Lr base w' vc ve rs zs := h.agree fun g hg => hb.block g (h.lt g hg)


/-- A block of another type is none of its. -/
theorem Lr.ne {zs : List Int} (h : Lr base w vc ve rs zs) {b : Nat} {cs : Array Value} {t : TypeId} {fr : Nat × Nat} (hb : w.heap[b]? = some (.cells cs t fr)) (h1 : t ≠ 93) (h2 : t ≠ 3) (h3 : t ≠ 88) : ¬ LB vc ve rs b := by
  intro hg
  obtain ⟨cs', t', e, ht⟩ := h.ty b hg
  rw [hb] at e
  simp only [Option.some.injEq, Obj.cells.injEq] at e
  obtain ⟨_, e2, _⟩ := e
  subst e2
  rcases ht with e | e | e
  · exact h1 e
  · exact h2 e
  · exact h3 e

theorem Lw.ty (h : Lw base w l vc ve rs) : ∀ g, LB vc ve rs g → ∃ cs t, w.heap[g]? = some (.cells cs t (0, 0)) ∧ (t = 93 ∨ t = 3 ∨ t = 88) := h.r.ty

theorem Lw.lt (h : Lw base w l vc ve rs) : ∀ g, LB vc ve rs g → g < w.heap.size := h.r.lt


theorem Lw.agree (h : Lw base w l vc ve rs) (ha : ∀ g, LB vc ve rs g → w'.heap[g]? = w.heap[g]?) : Lw base w' l vc ve rs := ⟨h.r.agree ha, h.is, h.good⟩

theorem Lw.below (h : Lw base w l vc ve rs) (hb : Below w.heap.size w w') : Lw base w' l vc ve rs := ⟨h.r.below hb, h.is, h.good⟩


theorem Lw.len (h : Lw base w l vc ve rs) : rs.length = l.length := by rw [← h.is, cvs, List.length_map]


/-- A wal in memory: its block p, its disk's block q. -/
structure WkV (p q : Nat) (w : World) (l : List Cm.Cv) (bk : Bool) (vc ve : Value) (rs : List Cw) : Prop where
  blk : w.heap[p]? = some (.cells #[.pointer (some ⟨q, 0, none⟩), .bool bk, vc, ve] 192 (0, 0))
  log : Lw 0 w l vc ve rs

def Wk (p q : Nat) (G : Nat → Prop) (w : World) (l : List Cm.Cv) (bk : Bool) : Prop := ∃ vc ve rs, WkV p q w l bk vc ve rs ∧ G = fun g => g = p ∨ LB vc ve rs g

theorem WkV.ty {p q : Nat} {bk : Bool} (h : WkV p q w l bk vc ve rs) : ∀ g, g = p ∨ LB vc ve rs g → ∃ cs t, w.heap[g]? = some (.cells cs t (0, 0)) ∧ (t = 192 ∨ t = 93 ∨ t = 3 ∨ t = 88) := by
  rintro g (rfl | hg)
  · exact ⟨_, _, h.blk, .inl rfl⟩
  · obtain ⟨cs, t, e, ht⟩ := h.log.ty g hg
    exact ⟨cs, t, e, .inr ht⟩

theorem Wk.ty {p q : Nat} {bk : Bool} (h : Wk p q G w l bk) : ∀ g, G g → ∃ cs t, w.heap[g]? = some (.cells cs t (0, 0)) ∧ (t = 192 ∨ t = 93 ∨ t = 3 ∨ t = 88) := by
  obtain ⟨vc, ve, rs, h, rfl⟩ := h
  exact h.ty

theorem Wk.lt {p q : Nat} {bk : Bool} (h : Wk p q G w l bk) : ∀ g, G g → g < w.heap.size := fun g hg => by
  obtain ⟨cs, t, e, _⟩ := h.ty g hg
  exact blk_lt e

theorem Wk.agree {p q : Nat} {bk : Bool} (h : Wk p q G w l bk) (ha : ∀ g, G g → w'.heap[g]? = w.heap[g]?) : Wk p q G w' l bk := by
  obtain ⟨vc, ve, rs, h, rfl⟩ := h
  exact ⟨vc, ve, rs, ⟨(ha p (.inl rfl)).trans h.blk, h.log.agree fun g hg => ha g (.inr hg)⟩, rfl⟩

theorem Wk.below {p q : Nat} {bk : Bool} (h : Wk p q G w l bk) (hb : Below w.heap.size w w') : Wk p q G w' l bk := h.agree fun g hg => hb.block g (h.lt g hg)
theorem Wk.out {p q : Nat} {bk : Bool} (h : Wk p q G w l bk) (ho : Out F w w') (hd : ∀ g, G g → ¬ F g) : Wk p q G w' l bk := h.agree fun g hg => ho.block g (h.lt g hg) (hd g hg)
theorem Wk.good {p q : Nat} {bk : Bool} (h : Wk p q G w l bk) : Cm.Good 0 0 l := by
  obtain ⟨vc, ve, rs, h, rfl⟩ := h
  exact h.log.good

/-- A wal's blocks are none of its disk's. -/
theorem wk_pk {p q q' : Nat} {bk : Bool} {st : Dm.Ds} (h : Wk p q G w l bk) (k : Pk q' F w st) : ∀ g, G g → ¬ F g := by
  intro g hg hf
  obtain ⟨cs, t, e, ht⟩ := h.ty g hg
  obtain ⟨cs', t', fr, e', ht'⟩ := k.ty g hf
  rw [e] at e'
  simp only [Option.some.injEq, Obj.cells.injEq] at e'
  obtain ⟨_, e2, _⟩ := e'
  subst e2
  rcases ht with rfl | rfl | rfl | rfl <;> rcases ht' with e | e | e <;> exact absurd e (by decide)

end

/-- A wal and its disk. -/
def WW (p q : Nat) (F : Nat → Prop) (w : World) (s : Wl.Ws) : Prop := ∃ F1 G1, Pk q F1 w s.d ∧ Wk p q G1 w s.l s.bk ∧ F = fun g => F1 g ∨ G1 g

/-- What a call leaves of them. -/
def WStep (p q : Nat) (F : Nat → Prop) (w w' : World) (s' : Wl.Ws) : Prop := ∃ F', WW p q F' w' s' ∧ Out F w w' ∧ ∀ g, F' g → F g ∨ w.heap.size ≤ g

section
variable {p q : Nat} {F G : Nat → Prop} {w w' w1 w2 : World} {s s' : Wl.Ws} {st' : Dm.Ds}

theorem WW.lt (h : WW p q F w s) : ∀ g, F g → g < w.heap.size := by
  obtain ⟨F1, G1, h1, h2, rfl⟩ := h
  rintro g (hg | hg)
  · exact h1.lt g hg
  · exact h2.lt g hg

theorem WW.agree (h : WW p q F w s) (ha : ∀ g, F g → w'.heap[g]? = w.heap[g]?) : WW p q F w' s := by
  obtain ⟨F1, G1, h1, h2, rfl⟩ := h
  exact ⟨F1, G1, h1.agree fun g hg => ha g (.inl hg), h2.agree fun g hg => ha g (.inr hg), rfl⟩
theorem WW.below (h : WW p q F w s) (hb : Below w.heap.size w w') : WW p q F w' s := h.agree fun g hg => hb.block g (h.lt g hg)
theorem WW.good (h : WW p q F w s) : Cm.Good 0 0 s.l := by
  obtain ⟨F1, G1, h1, h2, rfl⟩ := h
  exact h2.good

theorem WStep.trans {F1 : Nat → Prop} (ho : Out F w w1) (hs : ∀ g, F1 g → F g ∨ w.heap.size ≤ g) (k : WStep p q F1 w1 w2 s') : WStep p q F w w2 s' := by
  obtain ⟨F2, h1, h2, h3⟩ := k
  refine ⟨F2, h1, ho.trans h2 hs, fun g hg => ?_⟩
  rcases h3 g hg with h | h
  · exact hs g h
  · exact .inr (Nat.le_trans ho.size h)
theorem WStep.pre (hb : Below w.heap.size w w1) (h : WStep p q F w1 w2 s') : WStep p q F w w2 s' := h.trans (Out.of_below hb) fun g hg => .inl hg

/-- A step of the disk alone. -/
theorem WW.disk {F1 G1 : Nat → Prop} {l : List Cm.Cv} {bk : Bool} (h1 : Pk q F1 w s.d) (h2 : Wk p q G1 w l bk) (k : PStep q F1 w w' st') :
    ∃ F2, Pk q F2 w' st' ∧ Wk p q G1 w' l bk ∧ Out F1 w w' ∧ ∀ g, F2 g → F1 g ∨ w.heap.size ≤ g := by
  obtain ⟨F2, k1, k2, k3⟩ := k
  exact ⟨F2, k1, h2.out k2 (wk_pk h2 h1), k2, k3⟩

end

end Go.Proofs.YtajlhdmnincehaaGreatDoor

/- Commits in memory of their own, put together one by one. -/
namespace Go.Proofs.YtajlhdmnincehaaGreatDoor
open Go.RowKit
set_option linter.unusedVariables false



/-- Commits so far. -/
structure ShS (b : Nat) (w : World) (vc : Value) (cs : List Cw) : Prop where
  c : OwnR 93 b w vc cs
  o : CopyR b w cs
  i : ∀ c ∈ cs, In64 c.e ∧ In64 c.n
  ap : ApC cs
  f : FitC cs







end Go.Proofs.YtajlhdmnincehaaGreatDoor

/- Sections in memory; the document's Check of one (layer 19). -/
namespace Go.Proofs.YtajlhdmnincehaaGreatDoor
open Go.RowKit
set_option linter.unusedVariables false

/-- A section in memory. -/
structure Sw where
  e : Int
  f : Int
  v : Value
  rs : List Cw





end Go.Proofs.YtajlhdmnincehaaGreatDoor

/- Copies of commits, one after the other, in a row of one's own. No program. -/
namespace Go.Proofs.YtajlhdmnincehaaGreatDoor
open Go.RowKit
set_option linter.unusedVariables false

/-- The copies so far. -/
structure Fst (w wr : World) (g m cap : Nat) (rest : List Cw) (k : Nat) (rk : List Cw) : Prop where
  row : OwnR 93 w.heap.size wr (.slice (some ⟨g, 0, none⟩) m cap) rk
  len : rk.length = m
  left : rk.drop k = rest.drop k
  cop : CopyR w.heap.size wr (rk.take k)
  is : cvs rk = cvs rest
  ap : ApC (rk.take k)
  bel : Below w.heap.size w wr

theorem Fst.next {w wr w2 w3 : World} {g m cap : Nat} {rest rk : List Cw} {k : Nat} (h : Fst w wr g m cap rest k rk) {c : Cw} (hc : rest[k]? = some c) (hk : k < m) {v' : Value} (ho : OwnO 88 wr.heap.size w2 v' c.l) (hb : Below wr.heap.size wr w2)
    (hr : OwnR 93 w.heap.size w3 (.slice (some ⟨g, 0, none⟩) m cap) (rk.set k ⟨c.e, c.n, v', c.l⟩)) (hg : w2.grownBy w3 (some g)) : Fst w w3 g m cap rest (k + 1) (rk.set k ⟨c.e, c.n, v', c.l⟩) := by
  have hlen := h.len
  have hrk : rk[k]? = some c := by
    have e1 : (rk.drop k)[0]? = (rest.drop k)[0]? := by rw [h.left]
    rw [List.getElem?_drop, List.getElem?_drop] at e1
    simpa using e1.trans (by simpa using hc)
  have htk : (rk.set k ⟨c.e, c.n, v', c.l⟩).take (k + 1) = rk.take k ++ [⟨c.e, c.n, v', c.l⟩] := by
    rw [List.take_succ_eq_append_getElem (by rw [List.length_set]; omega), List.take_set_of_le (Nat.le_refl _)]
    simp
  have hrow2 : OwnR 93 w.heap.size w2 (.slice (some ⟨g, 0, none⟩) m cap) rk := h.row.below hb
  have kt : KeepT 93 w2 w3 := KeepT.of_row hrow2 hg
  refine ⟨hr, by rw [List.length_set]; exact hlen, ?_, ?_, ?_, ?_, ?_⟩
  · rw [List.drop_set_of_lt (by omega), ← List.drop_drop, h.left, List.drop_drop]
  · rw [htk]
    exact ((h.cop.below hb).keepT kt).snoc (c := ⟨c.e, c.n, v', c.l⟩) ((ho.keepT kt (by decide)).rebase h.bel.size)
  · rw [← h.is]
    unfold cvs
    rw [List.map_set]
    apply List.ext_getElem?
    intro i
    rw [List.getElem?_set]
    by_cases hik : k = i
    · subst hik
      rw [if_pos rfl, if_pos (by rw [List.length_map]; omega), List.getElem?_map, hrk]
      rfl
    · rw [if_neg hik]
  · rw [htk]
    refine apc_snoc (N := wr.heap.size) h.ap (fun d hd b hb => ((h.cop d hd).block b hb).2) fun b hb => (OwnO.block ho b hb).1
  · have b2 := h.bel.trans (hb.mono h.bel.size)
    refine b2.grown hg b2.size fun i hi => ?_
    have := (World.ownsRow.lt h.row g rfl).1
    simp only [Option.some.injEq] at hi
    omega

end Go.Proofs.YtajlhdmnincehaaGreatDoor
