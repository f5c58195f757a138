/- Texts of one layer, one behind the other. -/
import Derived.Test.YtfnaeblbodfekaaG4
import Derived.Test.YtfnaeblbodfekaaG5
import Derived.Test.YtfnaeblbodfekaaG3
import Derived.Test.YtfnaeblbodfekaaG1
/- The contracts of Check and Same: the program's, the document's, the laws'. -/
namespace Go.Proofs.Ytfnaeblbodfekaa
open Go.RowKit
set_option linter.unusedVariables false

theorem inb_any (x : Int) (w : World) : Calls Try.prog 69 #[.int .i64 x] w fun E w' => E = .returned (.bool (decide (1 ≤ x ∧ x ≤ 1048576))) ∧ w = w' := by
  go_enter Try.func69, Try.ntmps69
  by_cases h1 : 1 ≤ x
  · by_cases h2 : x ≤ 1048576
    · go_wp2
      go_ret
      exact ⟨by simp [h1, h2], rfl⟩
    · go_wp2
      go_ret
      exact ⟨by simp; omega, rfl⟩
  · go_wp2
    go_ret
    exact ⟨by simp; omega, rfl⟩

set_option maxHeartbeats 400000 in
theorem ccheck_any (e n : Int) (v : Value) (l : List Bm.Ov) (w : World) (h : IsO w v l) (hf : FitO l) (hl : l.length ≤ 140737488355328) :
    Calls Try.prog 63 #[cmv e n v] w fun E w' => E = .returned (.int .i64 (Cm.chk e n l)) ∧ Below w.heap.size w w' := by
  unfold cmv
  obtain ⟨w1, hw1, sz1, bel1, hB⟩ := blk_step w #[.int .i64 e, .int .i64 n, v] 50
  have c0 := blk_cell hB 0 rfl
  have c1 := blk_cell hB 1 rfl
  have c2 := blk_cell hB 2 rfl
  have h1 := h.below bel1
  obtain ⟨ao, cap, rfl, _, _⟩ := h.shape
  clear hB
  go_enter Try.func63, Try.ntmps63
  by_cases he : 1 ≤ e ∧ e ≤ 1048576
  · have he' : decide (1 ≤ e ∧ e ≤ 1048576) = true := by simp [he]
    by_cases hn : 1 ≤ n ∧ n ≤ 1048576
    · have hn' : decide (1 ≤ n ∧ n ≤ 1048576) = true := by simp [hn]
      rw [Cm.chk_in ⟨he.1, he.2, hn.1, hn.2⟩]
      clear he hn
      go_wp2_with fail
      refine (inb_any e _).mono ?_
      rintro E w2 ⟨rfl, rfl⟩
      rw [he']
      go_wp2_with fail
      refine (inb_any n _).mono ?_
      rintro E w2 ⟨rfl, rfl⟩
      rw [hn']
      go_wp2_with fail
      refine (bcheck_any _ l _ h1 hf hl).mono ?_
      rintro E w3 ⟨rfl, bel3⟩
      have bel03 := bel1.trans (bel3.mono (by omega))
      go_wp2
      go_ret
      exact ⟨rfl, bel03⟩
    · have hn' : decide (1 ≤ n ∧ n ≤ 1048576) = false := by simpa using hn
      rw [Cm.chk_out (by omega)]
      clear he hn
      go_wp2_with fail
      refine (inb_any e _).mono ?_
      rintro E w2 ⟨rfl, rfl⟩
      rw [he']
      go_wp2_with fail
      refine (inb_any n _).mono ?_
      rintro E w2 ⟨rfl, rfl⟩
      rw [hn']
      go_wp2
      go_ret
      exact ⟨rfl, bel1⟩
  · have he' : decide (1 ≤ e ∧ e ≤ 1048576) = false := by simpa using he
    rw [Cm.chk_out (by omega)]
    clear he
    go_wp2_with fail
    refine (inb_any e _).mono ?_
    rintro E w2 ⟨rfl, rfl⟩
    rw [he']
    go_wp2
    go_ret
    exact ⟨rfl, bel1⟩

set_option maxHeartbeats 400000 in
theorem ccheckR_any (e n : Int) (v : Value) (l : List Bm.Ov) (w : World) (h : IsO w v l) (hf : FitO l) (hl : l.length ≤ 140737488355328) :
    Calls Try.prog 54 #[cmv e n v] w fun E w' => E = .returned (.int .i64 (Cm.chk e n l)) ∧ Below w.heap.size w w' := by
  unfold cmv
  obtain ⟨w1, hw1, sz1, bel1, hB⟩ := blk_step w #[.int .i64 e, .int .i64 n, v] 50
  have c0 := blk_cell hB 0 rfl
  have c1 := blk_cell hB 1 rfl
  have c2 := blk_cell hB 2 rfl
  have h1 := h.below bel1
  obtain ⟨ao, cap, rfl, _, _⟩ := h.shape
  clear hB
  go_enter Try.func54, Try.ntmps54
  by_cases hin : 1 ≤ e ∧ e ≤ 1048576 ∧ 1 ≤ n ∧ n ≤ 1048576
  · rw [Cm.chk_in hin]
    obtain ⟨g1, g2, g3, g4⟩ := hin
    go_wp2_with fail
    refine (bcheckR_any _ l _ h1 hf hl).mono ?_
    rintro E w3 ⟨rfl, bel3⟩
    have bel03 := bel1.trans (bel3.mono (by omega))
    go_wp2
    go_ret
    exact ⟨rfl, bel03⟩
  · rw [Cm.chk_out hin]
    by_cases g1 : e < 1
    · go_wp2
      go_ret
      exact ⟨rfl, bel1⟩
    · by_cases g2 : 1048576 < e
      · go_wp2
        go_ret
        exact ⟨rfl, bel1⟩
      · by_cases g3 : n < 1
        · go_wp2
          go_ret
          exact ⟨rfl, bel1⟩
        · have g4 : 1048576 < n := by omega
          go_wp2
          go_ret
          exact ⟨rfl, bel1⟩

/-- Whether two commits are the same. -/
def sameC (e n : Int) (l : List Bm.Ov) (e' n' : Int) (l' : List Bm.Ov) : Bool := (e == e') && ((n == n') && Bm.sameL l l')

theorem sameC_self (e n : Int) (l : List Bm.Ov) : sameC e n l e n l = true := by simp [sameC, Bm.sameL_self]

set_option maxHeartbeats 400000 in
theorem csame_any (e n : Int) (v : Value) (l : List Bm.Ov) (e' n' : Int) (v' : Value) (l' : List Bm.Ov) (w : World) (h : IsO w v l) (h' : IsO w v' l') (hl : l.length ≤ 140737488355328) (hl' : l'.length ≤ 140737488355328) :
    Calls Try.prog 23 #[cmv e n v, cmv e' n' v'] w fun E w' => E = .returned (.bool (sameC e n l e' n' l')) ∧ Below w.heap.size w w' := by
  unfold cmv
  obtain ⟨w1, hw1, sz1, bel1, hB⟩ := blk_step w #[.int .i64 e, .int .i64 n, v] 50
  obtain ⟨w2, hw2, sz2, bel2, hC⟩ := blk_step w1 #[.int .i64 e', .int .i64 n', v'] 50
  rw [sz1] at hC
  have hB2 := (bel2.block _ (blk_lt hB)).trans hB
  have c0 := blk_cell hB2 0 rfl
  have c1 := blk_cell hB2 1 rfl
  have c2 := blk_cell hB2 2 rfl
  have d0 := blk_cell hC 0 rfl
  have d1 := blk_cell hC 1 rfl
  have d2 := blk_cell hC 2 rfl
  have bel02 : Below w.heap.size w w2 := bel1.trans (bel2.mono (by omega))
  have i1 := h.below bel02
  have i2 := h'.below bel02
  obtain ⟨ao, cap, rfl, _, _⟩ := h.shape
  obtain ⟨ao', cap', rfl, _, _⟩ := h'.shape
  clear hB hC hB2 bel1 bel2
  go_enter Try.func23, Try.ntmps23
  by_cases he : e = e'
  · have he' : (e == e') = true := by simp [he]
    by_cases hn : n = n'
    · have hn' : (n == n') = true := by simp [hn]
      have hs : sameC e n l e' n' l' = Bm.sameL l l' := by simp [sameC, he', hn']
      rw [hs]
      clear he hn hs
      go_wp2_with fail
      refine (bsame_any _ _ l l' _ i1 i2 hl hl').mono ?_
      rintro E w3 ⟨rfl, bel3⟩
      have bel03 := bel02.trans (bel3.mono (by omega))
      go_wp2
      go_ret
      exact ⟨rfl, bel03⟩
    · have hn' : (n == n') = false := by simpa using hn
      have hs : sameC e n l e' n' l' = false := by simp [sameC, hn']
      rw [hs]
      clear he hn hs
      go_wp2
      go_ret
      exact ⟨rfl, bel02⟩
  · have he' : (e == e') = false := by simpa using he
    have hs : sameC e n l e' n' l' = false := by simp [sameC, he']
    rw [hs]
    clear he hs
    go_wp2
    go_ret
    exact ⟨rfl, bel02⟩

set_option maxHeartbeats 400000 in
theorem csameK_any (e n : Int) (v : Value) (l : List Bm.Ov) (e' n' : Int) (v' : Value) (l' : List Bm.Ov) (w : World) (h : IsO w v l) (h' : IsO w v' l') (hl : l.length ≤ 140737488355328) (hl' : l'.length ≤ 140737488355328) :
    Calls Try.prog 36 #[cmv e n v, cmv e' n' v'] w fun E w' => E = .returned (.bool (sameC e n l e' n' l')) ∧ Below w.heap.size w w' := by
  unfold cmv
  obtain ⟨w1, hw1, sz1, bel1, hB⟩ := blk_step w #[.int .i64 e, .int .i64 n, v] 50
  obtain ⟨w2, hw2, sz2, bel2, hC⟩ := blk_step w1 #[.int .i64 e', .int .i64 n', v'] 50
  rw [sz1] at hC
  have hB2 := (bel2.block _ (blk_lt hB)).trans hB
  have c0 := blk_cell hB2 0 rfl
  have c1 := blk_cell hB2 1 rfl
  have c2 := blk_cell hB2 2 rfl
  have d0 := blk_cell hC 0 rfl
  have d1 := blk_cell hC 1 rfl
  have d2 := blk_cell hC 2 rfl
  have bel02 : Below w.heap.size w w2 := bel1.trans (bel2.mono (by omega))
  have i1 := h.below bel02
  have i2 := h'.below bel02
  obtain ⟨ao, cap, rfl, _, _⟩ := h.shape
  obtain ⟨ao', cap', rfl, _, _⟩ := h'.shape
  clear hB hC hB2 bel1 bel2
  go_enter Try.func36, Try.ntmps36
  by_cases he : e = e'
  · have he' : (e == e') = true := by simp [he]
    by_cases hn : n = n'
    · have hn' : (n == n') = true := by simp [hn]
      have hs : sameC e n l e' n' l' = Bm.sameL l l' := by simp [sameC, he', hn']
      rw [hs]
      clear he hn hs
      go_wp2_with fail
      refine (sameO_any _ _ l l' _ i1 i2 hl hl').mono ?_
      rintro E w3 ⟨rfl, bel3⟩
      have bel03 := bel02.trans (bel3.mono (by omega))
      go_wp2
      go_ret
      exact ⟨rfl, bel03⟩
    · have hn' : (n == n') = false := by simpa using hn
      have hs : sameC e n l e' n' l' = false := by simp [sameC, hn']
      rw [hs]
      clear he hn hs
      go_wp2
      go_ret
      exact ⟨rfl, bel02⟩
  · have he' : (e == e') = false := by simpa using he
    have hs : sameC e n l e' n' l' = false := by simp [sameC, he']
    rw [hs]
    clear he hs
    go_wp2
    go_ret
    exact ⟨rfl, bel02⟩

end Go.Proofs.Ytfnaeblbodfekaa

/- The contracts of Follows: the program's, the document's. -/
namespace Go.Proofs.Ytfnaeblbodfekaa
open Go.RowKit
set_option linter.unusedVariables false

/-- Two cells of a block are written. -/
theorem res_two {V : World} {R : Nat} {t : TypeId} {x y : Value} (hR : V.heap[R]? = some (.cells #[x, y] t (0, 0))) (a b : Value) :
    ∃ V', (V.setCell ⟨R, 0, none⟩ a).setCell ⟨R, 1, none⟩ b = V' ∧ V'.heap[R]? = some (.cells #[a, b] t (0, 0)) ∧ V.grownBy V' (some R) ∧
      (V.cell? ⟨R, 0, none⟩ = some x ∧ V.cell? ⟨R, 1, none⟩ = some y) ∧ (V.frozen? ⟨R, 0, none⟩ = false ∧ V.frozen? ⟨R, 1, none⟩ = false) ∧
      (V'.cell? ⟨R, 0, none⟩ = some a ∧ V'.cell? ⟨R, 1, none⟩ = some b) := by
  have h2 := set_cells (set_cells hR 0 a) 1 b
  exact ⟨_, rfl, h2, grown_trans (grown_setCell V ⟨R, 0, none⟩ a) (grown_setCell _ ⟨R, 1, none⟩ b), ⟨blk_cell hR 0 rfl, blk_cell hR 1 rfl⟩, ⟨blk_froz hR 0, blk_froz hR 1⟩, ⟨blk_cell h2 0 rfl, blk_cell h2 1 rfl⟩⟩

/-- A block of two cells, made and written. -/
theorem new_two (w : World) (t : TypeId) (x y a b : Value) : ∃ V, (((w.alloc (.cells #[x, y] t)).setCell ⟨w.heap.size, 0, none⟩ a).setCell ⟨w.heap.size, 1, none⟩ b = V) ∧ w.alloc (.cells #[a, b] t) = V ∧ V.heap.size = w.heap.size + 1 ∧ Below w.heap.size w V ∧ V.heap[w.heap.size]? = some (.cells #[a, b] t (0, 0)) ∧
    V.cell? ⟨w.heap.size, 0, none⟩ = some a ∧ V.cell? ⟨w.heap.size, 1, none⟩ = some b := by
  obtain ⟨V, h1, h2, h3, h4⟩ := blk_step w #[a, b] t
  refine ⟨V, ?_, h1, h2, h3, h4, blk_cell h4 0 rfl, blk_cell h4 1 rfl⟩
  rw [← h1]
  simp [go_sem]

/-- A fault as a value. -/
def flv (f : Int × Int) : Value := .agg #[.int .i64 f.1, .int .i64 f.2]

theorem Try.guardF (op : BinOp) (x y : Operand) (xs ys : Array Value) (w : World) : (eqGuard op 46 x y (.agg xs) (.agg ys)).run Try.prog w = .ok () w := run_eqGuard_agg w op 46 x y xs ys (by kernel_rfl)

theorem Try.neqF (a b c d : Int) (w : World) : (binOp .neq 46 (.agg #[.int .i64 a, .int .i64 b]) (.agg #[.int .i64 c, .int .i64 d])).run Try.prog w = .ok (.bool (!((a == c) && (b == d)))) w := by
  rw [run_neq_struct, run_equalIn_agg w 9999 46 _ _ (by kernel_rfl) (by kernel_rfl)]
  unfold Program.fieldsOf
  rw [Try.underlying46]
  simp [Op.eqFields, go_sem, Try.underlying24, Try.underlying3]
  by_cases h1 : a = c <;> by_cases h2 : b = d <;> simp [h1, h2]

set_option maxHeartbeats 400000 in
theorem flt_any (at' ep nu e n : Int) (v : Value) (l : List Bm.Ov) (w : World) (h : IsO w v l) (hf : FitO l) (hl : l.length ≤ 140737488355328) :
    Calls Try.prog 44 #[.int .i64 at', .int .i64 ep, .int .i64 nu, cmv e n v] w fun E w' => E = .returned (flv (Cm.flt at' ep nu ⟨e, n, l⟩)) ∧ Below w.heap.size w w' := by
  unfold cmv flv
  obtain ⟨fa, hfa⟩ : ∃ f, Cm.flt at' ep nu ⟨e, n, l⟩ = f := ⟨_, rfl⟩
  rw [hfa]
  have HF := hide hfa
  clear hfa
  obtain ⟨w1, hw1, sz1, bel1, hB⟩ := blk_step w #[.int .i64 e, .int .i64 n, v] 50
  obtain ⟨w2, hw2, sz2, bel2, hR⟩ := blk_step w1 #[.int .i64 0, .int .i64 0] 46
  rw [sz1] at hR
  have bel02 : Below w.heap.size w w2 := bel1.trans (bel2.mono (by omega))
  have hB2 := (bel2.block w.heap.size (by omega)).trans hB
  have c0 := blk_cell hB2 0 rfl
  have c1 := blk_cell hB2 1 rfl
  have c2 := blk_cell hB2 2 rfl
  have h2 := h.below bel02
  obtain ⟨ao, cap, rfl, _, _⟩ := h.shape
  have HB := hide hB2
  have HR := hide hR
  clear hB hB2 hR bel1 bel2
  go_enter Try.func44, Try.ntmps44
  go_wp2_with fail
  refine (ccheck_any e n _ l _ h2 hf hl).mono ?_
  rintro E w3 ⟨rfl, bel3⟩
  have sz3 := bel3.size
  have hB3 := (bel3.block w.heap.size (by omega)).trans HB.out
  have hR3 := (bel3.block (w.heap.size + 1) (by omega)).trans HR.out
  have bel03 := bel02.trans (bel3.mono (by omega))
  have d0 := blk_cell hB3 0 rfl
  have d1 := blk_cell hB3 1 rfl
  clear c0 c1 c2 HB HR hB3 bel02 bel3 h2
  by_cases hc : Cm.chk e n l = 0
  · obtain ⟨g1, g2, g3, g4, g5⟩ := Cm.chk_zero hc
    by_cases hq : n - 1 ≠ nu ∨ e < ep
    · obtain rfl : (15, at') = fa := (Cm.flt_off (c := ⟨e, n, l⟩) hc hq).symm.trans HF.out
      rw [hc]
      obtain ⟨V', hV', bV', gV', ⟨a0, a1⟩, ⟨f0, f1⟩, ⟨z0, z1⟩⟩ := res_two hR3 (.int .i64 15) (.int .i64 at')
      have belV' := below_put bel03 gV' (by omega) (by omega)
      clear hc bV' gV' hR3
      by_cases hq1 : n - 1 = nu
      · have hq2 : e < ep := by omega
        have hq3 : (n - 1 != nu) = false := by simpa using hq1
        clear hq hq1
        go_wp2
        refine bodyPost_ret (v := .agg #[.int .i64 15, .int .i64 at']) (by simp [results, Try.results44, go_sem, z0, z1]) rfl ?_
        exact ⟨rfl, belV'⟩
      · have hq3 : (n - 1 != nu) = true := by simpa using hq1
        clear hq hq1
        go_wp2
        refine bodyPost_ret (v := .agg #[.int .i64 15, .int .i64 at']) (by simp [results, Try.results44, go_sem, z0, z1]) rfl ?_
        exact ⟨rfl, belV'⟩
    · obtain rfl : (0, 0) = fa := (Cm.flt_on (c := ⟨e, n, l⟩) hc hq).symm.trans HF.out
      rw [hc]
      obtain ⟨V', hV', bV', gV', ⟨a0, a1⟩, ⟨f0, f1⟩, ⟨z0, z1⟩⟩ := res_two hR3 (.int .i64 0) (.int .i64 0)
      have belV' := below_put bel03 gV' (by omega) (by omega)
      have hq3 : (n - 1 != nu) = false := by simp; omega
      have hq2 : ¬ e < ep := by omega
      clear hc bV' gV' hR3 hq
      go_wp2
      refine bodyPost_ret (v := .agg #[.int .i64 0, .int .i64 0]) (by simp [results, Try.results44, go_sem, z0, z1]) rfl ?_
      exact ⟨rfl, belV'⟩
  · have hfo : (Cm.chk e n l, at') = fa := (Cm.flt_bad (c := ⟨e, n, l⟩) hc).symm.trans HF.out
    have hne : (Cm.chk e n l == 0) = false := by simpa using hc
    generalize Cm.chk e n l = ck at *
    subst hfo
    obtain ⟨V', hV', bV', gV', ⟨a0, a1⟩, ⟨f0, f1⟩, ⟨z0, z1⟩⟩ := res_two hR3 (.int .i64 ck) (.int .i64 at')
    have belV' := below_put bel03 gV' (by omega) (by omega)
    clear hc bV' gV' hR3
    go_wp2
    refine bodyPost_ret (v := .agg #[.int .i64 ck, .int .i64 at']) (by simp [results, Try.results44, go_sem, z0, z1]) rfl ?_
    exact ⟨rfl, belV'⟩

theorem cvs_drop {r : List Cw} {k : Nat} {c : Cw} (h : r[k]? = some c) : (cvs r).drop k = c.c :: (cvs r).drop (k + 1) := by
  obtain ⟨hk, rfl⟩ := List.getElem?_eq_some_iff.1 h
  unfold cvs
  rw [← List.map_drop, ← List.map_drop, List.drop_eq_getElem_cons hk, List.map_cons]

set_option maxHeartbeats 1000000 in
theorem cfol_any (ep0 nu0 : Int) (vl : Value) (r : List Cw) (w : World) (h : IsC w vl r) (hf : FitC r) (hl : r.length ≤ 140737488355328) :
    Calls Try.prog 22 #[.int .i64 ep0, .int .i64 nu0, vl] w fun E w' => E = .returned (flv (Cm.fol ep0 nu0 0 (cvs r))) ∧ Below w.heap.size w w' := by
  unfold flv
  obtain ⟨fa, hfa⟩ : ∃ f, Cm.fol ep0 nu0 0 (cvs r) = f := ⟨_, rfl⟩
  rw [hfa]
  have HF := hide hfa
  clear hfa
  obtain ⟨w1, hw1, sz1, bel1, hR⟩ := blk_step w #[.int .i64 0, .int .i64 0] 46
  have h1 := h.below bel1
  have hR0 := blk_cell hR 0 rfl
  have hR1 := blk_cell hR 1 rfl
  by_cases hz : r.length = 0
  · have : r = [] := List.eq_nil_of_length_eq_zero hz
    subst this
    obtain ⟨ao, cap, rfl, _, _⟩ := h.1.shape
    have hfo := HF.out
    simp only [cvs, List.map_nil, Cm.fol_nil] at hfo
    subst hfo
    obtain ⟨V', hV', bV', gV', ⟨a0, a1⟩, ⟨f0, f1⟩, ⟨z0, z1⟩⟩ := res_two hR (.int .i64 0) (.int .i64 0)
    have belV' := below_put bel1 gV' (by omega) (by omega)
    clear h h1 hf hl hz HF bV' gV' hR
    simp only [List.length_nil]
    go_enter Try.func22, Try.ntmps22
    go_wp2
    go_loopw [12] (fun iv wr => iv = .int .i64 0 ∧ wr = w1) (fun _ _ => 0)
    case atStart => exact ⟨rfl, rfl⟩
    case round =>
      obtain ⟨rfl, rfl⟩ := hrel
      go_wp2
      refine bodyPost_ret (v := .agg #[.int .i64 0, .int .i64 0]) (by simp [results, Try.results22, go_sem, z0, z1]) rfl ?_
      exact ⟨rfl, belV'⟩
  obtain ⟨b1, o1, c1, hvl, _, _, hB, hcell⟩ := h1.1.full (by omega)
  subst hvl
  have HIN := hide h1.2
  have HFIT := hide hf
  have HC := hide hcell
  have HRR := hide hR
  generalize hn : r.length = n at *
  have HN := hide hn
  clear h h1 hcell hf hR hR0 hR1 hn
  go_enter Try.func22, Try.ntmps22
  go_wp2
  go_loopw [0, 1, 12] (fun ev nv iv wr => ∃ (k : Nat) (ep nu : Int), k ≤ n ∧ iv = .int .i64 k ∧ ev = .int .i64 ep ∧ nv = .int .i64 nu ∧ Hid (Cm.fol ep nu k ((cvs r).drop k) = fa) ∧ Below w1.heap.size w1 wr) (fun _ _ iv _ => n - (intOf iv).toNat)
  case atStart => exact ⟨0, ep0, nu0, by omega, rfl, rfl, rfl, HF, Below.refl _ _⟩
  case round =>
    obtain ⟨k, ep, nu, hk, rfl, rfl, rfl, HT, bel⟩ := hrel
    have sz := bel.size
    by_cases hlt : k < n
    · obtain ⟨c, hc⟩ : ∃ c, r[k]? = some c := ⟨r[k]'(by have := HN.out; omega), by rw [List.getElem?_eq_getElem]⟩
      obtain ⟨e0, e1, e2⟩ := HC.out k c hc
      have d0 := (bel.cell (p := ⟨b1, o1 + k * 3, none⟩) hB).trans e0
      have d1 := (bel.cell (p := ⟨b1, o1 + k * 3 + 1, none⟩) hB).trans e1
      have d2 := (bel.cell (p := ⟨b1, o1 + k * 3 + 2, none⟩) hB).trans e2
      have hmem := List.mem_of_getElem? hc
      obtain ⟨i1, _, _⟩ := HIN.out c hmem
      have i2 := i1.below bel
      obtain ⟨hfc, hlc⟩ := HFIT.out c hmem
      have HCD := hide (cvs_drop hc)
      have hlt' : (k : Int) < n := by omega
      obtain ⟨ao, cp, hcv, _, _⟩ := i2.shape
      rw [hcv] at d2 i2
      obtain ⟨V, hV, hV2, szV, belV, bC, q0, q1, q2⟩ := new_step wr 50 (.int .i64 0) (.int .i64 0) (.slice none 0 0) (.int .i64 c.e) (.int .i64 c.n) (.slice ao c.l.length cp)
      have i3 := i2.below belV
      have BC := hide bC
      clear e0 e1 e2 hc hmem i1 i2 hcv bC
      go_wp2_with fail
      refine (flt_any k ep nu c.e c.n _ c.l _ i3 hfc (by omega)).mono ?_
      rintro E w3 ⟨rfl, bel3⟩
      have sz3 := bel3.size
      obtain ⟨fl, hfl⟩ : ∃ f, Cm.flt k ep nu ⟨c.e, c.n, c.l⟩ = f := ⟨_, rfl⟩
      unfold flv
      rw [hfl]
      have HFL := hide hfl
      clear hfl
      obtain ⟨fe, fp⟩ := fl
      simp only
      have bC3 := (bel3.block wr.heap.size (by omega)).trans BC.out
      obtain ⟨X, hX, hX2, szX, belX, bF, x0, x1⟩ := new_two w3 46 (.int .i64 0) (.int .i64 0) (.int .i64 fe) (.int .i64 fp)
      have bCX := (belX.block wr.heap.size (by omega)).trans bC3
      have u0 := blk_cell bCX 0 rfl
      have u1 := blk_cell bCX 1 rfl
      have belA : Below w1.heap.size w1 X := ((bel.trans (belV.mono (by omega))).trans (bel3.mono (by omega))).trans (belX.mono (by omega))
      have hRX := (belA.block w.heap.size (by omega)).trans HRR.out
      have hnq := Try.neqF fe fp 0 0
      have hgd := Try.guardF
      clear bel belV bel3 belX BC bC3 bCX bF i3 q0 q1 q2 d0 d1 d2 hV hV2
      by_cases hfe : fe = 0
      · have hz := Cm.flt_zero (a := k) (ep := ep) (nu := nu) (c := ⟨c.e, c.n, c.l⟩) (by rw [HFL.out]; exact hfe)
        have hfp : fp = 0 := by have := hz.2.2; rw [HFL.out] at this; exact this
        have HT2 : Hid (Cm.fol c.e c.n (k + 1) ((cvs r).drop (k + 1)) = fa) := hide (by
          have := HT.out
          rw [HCD.out] at this
          rw [← this]
          exact (Cm.fol_next (c := c.c) (by rw [show Cm.flt k ep nu c.c = (fe, fp) from HFL.out]; exact hfe)).symm)
        have hb : (!((fe == 0) && (fp == 0))) = false := by simp [hfe, hfp]
        rw [hb] at hnq
        clear hb hz hfe hfp hRX HFL HCD HT
        go_wp2_with fail
        go_quiet (fail)
        go_wp2
        go_roundw
        case rel => exact ⟨k + 1, c.e, c.n, by omega, by go_num, rfl, rfl, HT2, below_drewN belA _⟩
        case measure => simp [intOf]; omega
      · have hfo : (fe, fp) = fa := by
          have := HT.out
          rw [HCD.out] at this
          rw [← this, Cm.fol_stop (c := c.c) (by rw [show Cm.flt k ep nu c.c = (fe, fp) from HFL.out]; exact hfe)]
          exact HFL.out.symm
        have hb : (!((fe == 0) && (fp == 0))) = true := by simp [hfe]
        rw [hb] at hnq
        subst hfo
        obtain ⟨V', hV', bV', gV', ⟨a0, a1⟩, ⟨f0, f1⟩, ⟨z0, z1⟩⟩ := res_two hRX (.int .i64 fe) (.int .i64 fp)
        have belV' := below_put (bel1.trans (belA.mono (by omega))) gV' (by omega) (by omega)
        clear hb hfe hRX HFL HCD HT HF bV' gV' u0 u1 belA
        go_wp2
        refine bodyPost_ret (v := .agg #[.int .i64 fe, .int .i64 fp]) (by simp [results, Try.results22, go_sem, z0, z1]) rfl ?_
        exact ⟨rfl, belV'⟩
    · have hlt' : ¬ (k : Int) < n := by omega
      have hfo : (0, 0) = fa := by
        have := HT.out
        rw [List.drop_of_length_le (by unfold cvs; rw [List.length_map, HN.out]; omega), Cm.fol_nil] at this
        exact this
      subst hfo
      have hRX := (bel.block w.heap.size (by omega)).trans HRR.out
      obtain ⟨V', hV', bV', gV', ⟨a0, a1⟩, ⟨f0, f1⟩, ⟨z0, z1⟩⟩ := res_two hRX (.int .i64 0) (.int .i64 0)
      have belV' := below_put (bel1.trans (bel.mono (by omega))) gV' (by omega) (by omega)
      clear hRX HT HF bV' gV' bel
      go_wp2
      refine bodyPost_ret (v := .agg #[.int .i64 0, .int .i64 0]) (by simp [results, Try.results22, go_sem, z0, z1]) rfl ?_
      exact ⟨rfl, belV'⟩

set_option maxHeartbeats 1000000 in
theorem cfolR_any (ep0 nu0 : Int) (vl : Value) (r : List Cw) (w : World) (h : IsC w vl r) (hf : FitC r) (hl : r.length ≤ 140737488355328) :
    Calls Try.prog 32 #[.int .i64 ep0, .int .i64 nu0, vl] w fun E w' => E = .returned (flv (Cm.fol ep0 nu0 0 (cvs r))) ∧ Below w.heap.size w w' := by
  unfold flv
  obtain ⟨fa, hfa⟩ : ∃ f, Cm.fol ep0 nu0 0 (cvs r) = f := ⟨_, rfl⟩
  rw [hfa]
  have HF := hide hfa
  clear hfa
  obtain ⟨w1, hw1, sz1, bel1, hR⟩ := blk_step w #[.int .i64 0, .int .i64 0] 46
  have h1 := h.below bel1
  by_cases hz : r.length = 0
  · have : r = [] := List.eq_nil_of_length_eq_zero hz
    subst this
    obtain ⟨ao, cap, rfl, _, _⟩ := h.1.shape
    have hfo := HF.out
    simp only [cvs, List.map_nil, Cm.fol_nil] at hfo
    subst hfo
    obtain ⟨V', hV', bV', gV', ⟨a0, a1⟩, ⟨f0, f1⟩, ⟨z0, z1⟩⟩ := res_two hR (.int .i64 0) (.int .i64 0)
    have belV' := below_put bel1 gV' (by omega) (by omega)
    clear h h1 hf hl hz HF bV' gV' hR
    simp only [List.length_nil]
    go_enter Try.func32, Try.ntmps32
    go_wp2
    go_loopw [7] (fun iv wr => iv = .int .i64 0 ∧ wr = w1) (fun _ _ => 0)
    case atStart => exact ⟨rfl, rfl⟩
    case round =>
      obtain ⟨rfl, rfl⟩ := hrel
      go_wp2
      refine bodyPost_ret (v := .agg #[.int .i64 0, .int .i64 0]) (by simp [results, Try.results32, go_sem, z0, z1]) rfl ?_
      exact ⟨rfl, belV'⟩
  obtain ⟨b1, o1, c1, hvl, _, _, hB, hcell⟩ := h1.1.full (by omega)
  subst hvl
  have HIN := hide h1.2
  have HFIT := hide hf
  have HC := hide hcell
  have HRR := hide hR
  generalize hn : r.length = n at *
  have HN := hide hn
  clear h h1 hcell hf hR hn
  go_enter Try.func32, Try.ntmps32
  go_wp2
  go_loopw [0, 1, 7] (fun ev nv iv wr => ∃ (k : Nat) (ep nu : Int), k ≤ n ∧ iv = .int .i64 k ∧ ev = .int .i64 ep ∧ nv = .int .i64 nu ∧ Hid (Cm.fol ep nu k ((cvs r).drop k) = fa) ∧ Below w1.heap.size w1 wr) (fun _ _ iv _ => n - (intOf iv).toNat)
  case atStart => exact ⟨0, ep0, nu0, by omega, rfl, rfl, rfl, HF, Below.refl _ _⟩
  case round =>
    obtain ⟨k, ep, nu, hk, rfl, rfl, rfl, HT, bel⟩ := hrel
    have sz := bel.size
    by_cases hlt : k < n
    · obtain ⟨c, hc⟩ : ∃ c, r[k]? = some c := ⟨r[k]'(by have := HN.out; omega), by rw [List.getElem?_eq_getElem]⟩
      obtain ⟨e0, e1, e2⟩ := HC.out k c hc
      have d0 := (bel.cell (p := ⟨b1, o1 + k * 3, none⟩) hB).trans e0
      have d1 := (bel.cell (p := ⟨b1, o1 + k * 3 + 1, none⟩) hB).trans e1
      have d2 := (bel.cell (p := ⟨b1, o1 + k * 3 + 2, none⟩) hB).trans e2
      have hmem := List.mem_of_getElem? hc
      obtain ⟨i1, _, _⟩ := HIN.out c hmem
      have i2 := i1.below bel
      obtain ⟨hfc, hlc⟩ := HFIT.out c hmem
      have HCD := hide (cvs_drop hc)
      have hlt' : (k : Int) < n := by omega
      clear hc hmem i1
      go_wp2_with fail
      refine (ccheckR_any c.e c.n _ c.l _ i2 hfc (by omega)).mono ?_
      rintro E w3 ⟨rfl, bel3⟩
      have sz3 := bel3.size
      have belA : Below w1.heap.size w1 w3 := bel.trans (bel3.mono (by omega))
      have u0 := (belA.cell (p := ⟨b1, o1 + k * 3, none⟩) hB).trans e0
      have u1 := (belA.cell (p := ⟨b1, o1 + k * 3 + 1, none⟩) hB).trans e1
      have hRX := (belA.block w.heap.size (by omega)).trans HRR.out
      clear bel bel3 d0 d1 d2 e0 e1 e2 i2
      by_cases hck : Cm.chk c.e c.n c.l = 0
      · rw [hck]
        obtain ⟨g1, g2, g3, g4, g5⟩ := Cm.chk_zero hck
        by_cases hq : c.n - 1 ≠ nu ∨ c.e < ep
        · obtain rfl : (15, (k : Int)) = fa := by
            have := HT.out
            rw [HCD.out, Cm.fol_off (c := c.c) hck hq] at this
            exact this
          obtain ⟨V', hV', bV', gV', ⟨a0, a1⟩, ⟨f0, f1⟩, ⟨z0, z1⟩⟩ := res_two hRX (.int .i64 15) (.int .i64 k)
          have belV' := below_put (bel1.trans (belA.mono (by omega))) gV' (by omega) (by omega)
          clear hck hRX HCD HT HF bV' gV' belA
          by_cases hq1 : c.n - 1 = nu
          · have hq2 : c.e < ep := by omega
            have hq3 : (c.n - 1 != nu) = false := by simpa using hq1
            clear hq hq1
            go_wp2
            refine bodyPost_ret (v := .agg #[.int .i64 15, .int .i64 k]) (by simp [results, Try.results32, go_sem, z0, z1]) rfl ?_
            exact ⟨rfl, belV'⟩
          · have hq3 : (c.n - 1 != nu) = true := by simpa using hq1
            clear hq hq1
            go_wp2
            refine bodyPost_ret (v := .agg #[.int .i64 15, .int .i64 k]) (by simp [results, Try.results32, go_sem, z0, z1]) rfl ?_
            exact ⟨rfl, belV'⟩
        · have HT2 : Hid (Cm.fol c.e c.n (k + 1) ((cvs r).drop (k + 1)) = fa) := hide (by
            have := HT.out
            rw [HCD.out, Cm.fol_on (c := c.c) hck hq] at this
            exact this)
          have hq3 : (c.n - 1 != nu) = false := by simp; omega
          have hq2 : ¬ c.e < ep := by omega
          clear hck hRX HCD HT hq
          go_wp2_with fail
          go_quiet (fail)
          go_wp2
          go_roundw
          case rel => exact ⟨k + 1, c.e, c.n, by omega, by go_num, rfl, rfl, HT2, below_drewN belA _⟩
          case measure => simp [intOf]; omega
      · have hfo : (Cm.chk c.e c.n c.l, (k : Int)) = fa := by
          have := HT.out
          rw [HCD.out, Cm.fol_bad (c := c.c) hck] at this
          exact this
        have hne : (Cm.chk c.e c.n c.l == 0) = false := by simpa using hck
        generalize Cm.chk c.e c.n c.l = ck at *
        subst hfo
        obtain ⟨V', hV', bV', gV', ⟨a0, a1⟩, ⟨f0, f1⟩, ⟨z0, z1⟩⟩ := res_two hRX (.int .i64 ck) (.int .i64 k)
        have belV' := below_put (bel1.trans (belA.mono (by omega))) gV' (by omega) (by omega)
        clear hck hRX HCD HT HF bV' gV' belA
        go_wp2
        refine bodyPost_ret (v := .agg #[.int .i64 ck, .int .i64 k]) (by simp [results, Try.results32, go_sem, z0, z1]) rfl ?_
        exact ⟨rfl, belV'⟩
    · have hlt' : ¬ (k : Int) < n := by omega
      have hfo : (0, 0) = fa := by
        have := HT.out
        rw [List.drop_of_length_le (by unfold cvs; rw [List.length_map, HN.out]; omega), Cm.fol_nil] at this
        exact this
      subst hfo
      have hRX := (bel.block w.heap.size (by omega)).trans HRR.out
      obtain ⟨V', hV', bV', gV', ⟨a0, a1⟩, ⟨f0, f1⟩, ⟨z0, z1⟩⟩ := res_two hRX (.int .i64 0) (.int .i64 0)
      have belV' := below_put (bel1.trans (bel.mono (by omega))) gV' (by omega) (by omega)
      clear hRX HT HF bV' gV' bel
      go_wp2
      refine bodyPost_ret (v := .agg #[.int .i64 0, .int .i64 0]) (by simp [results, Try.results32, go_sem, z0, z1]) rfl ?_
      exact ⟨rfl, belV'⟩

end Go.Proofs.Ytfnaeblbodfekaa

/- Objects in memory: what a call that writes into a set F of blocks leaves of the others ('Out'); facts that rest on blocks that stay. No program. -/
namespace Go.Proofs.Ytfnaeblbodfekaa
open Go.RowKit
set_option linter.unusedVariables false

/-- Blocks outside F are as they were; new ones may have come. -/
structure Out (F : Nat → Prop) (w w' : World) : Prop where
  os : w'.os = w.os
  tape : w'.tape = w.tape
  output : w'.output = w.output
  size : w.heap.size ≤ w'.heap.size
  block : ∀ g, g < w.heap.size → ¬ F g → w'.heap[g]? = w.heap[g]?

theorem Out.refl (F : Nat → Prop) (w : World) : Out F w w := ⟨rfl, rfl, rfl, Nat.le_refl _, fun _ _ _ => rfl⟩

theorem Out.trans {F G : Nat → Prop} {w w1 w2 : World} (h : Out F w w1) (k : Out G w1 w2) (hs : ∀ g, G g → F g ∨ w.heap.size ≤ g) : Out F w w2 :=
  ⟨k.os.trans h.os, k.tape.trans h.tape, k.output.trans h.output, Nat.le_trans h.size k.size, fun g hg hn => (k.block g (Nat.lt_of_lt_of_le hg h.size) fun hG => by
    rcases hs g hG with h1 | h1
    · exact hn h1
    · omega).trans (h.block g hg hn)⟩

theorem Out.mono {F G : Nat → Prop} {w w' : World} (h : Out F w w') (hs : ∀ g, F g → G g ∨ w.heap.size ≤ g) : Out G w w' :=
  ⟨h.os, h.tape, h.output, h.size, fun g hg hn => h.block g hg fun hF => by
    rcases hs g hF with h1 | h1
    · exact hn h1
    · omega⟩

theorem Out.of_below {F : Nat → Prop} {w w' : World} (h : Below w.heap.size w w') : Out F w w' := ⟨h.os, h.tape, h.output, h.size, fun g hg _ => h.block g hg⟩

theorem Out.of_base {F : Nat → Prop} {w w' : World} {base : Nat} (h : Below base w w') (hF : ∀ g, base ≤ g → g < w.heap.size → F g) : Out F w w' :=
  ⟨h.os, h.tape, h.output, h.size, fun g hg hn => h.block g (Nat.lt_of_not_le fun hb => hn (hF g hb hg))⟩

theorem Out.of_grown {F : Nat → Prop} {w w' : World} {row : Option Nat} (h : w.grownBy w' row) (hF : ∀ g, row = some g → F g) : Out F w w' :=
  ⟨h.os, h.tape, h.output, h.size, fun g hg hn => h.block g hg fun e => hn (hF g e.symm)⟩

theorem Out.below {F : Nat → Prop} {w w' : World} {base : Nat} (h : Out F w w') (hF : ∀ g, F g → base ≤ g) (hb : base ≤ w.heap.size) : Below base w w' :=
  ⟨h.os, h.tape, h.output, h.size, fun g hg => h.block g (Nat.lt_of_lt_of_le hg hb) fun hf => by have := hF g hf; omega⟩

theorem Out.drew {F : Nat → Prop} {w w' : World} (h : Out F w w') (n : Nat) : Out F w (w'.drewN n) := ⟨h.os, h.tape, h.output, h.size, h.block⟩

/-- What a slice reads as, where its block stays. -/
theorem Is.agree {k : IntKind} {w w' : World} {v : Value} {zs : List Int} (h : Is k w v zs) (hb : ∀ b, v.ownBlock = some b → w'.heap[b]? = w.heap[b]?) : Is k w' v zs := by
  refine ⟨h.1, ?_⟩
  rcases h.2 with h | ⟨ad, cap, hv, h1, h2, hc⟩
  · exact .inl h
  · refine .inr ⟨ad, cap, hv, h1, h2, fun i hi => ?_⟩
    rw [World.cell?_of_block (show w'.heap[(ad.add i).block]? = w.heap[(ad.add i).block]? from ?_)]
    · exact hc i hi
    · have e : (ad.add i).block = ad.block := by unfold Addr.add; split <;> rfl
      rw [e]
      exact hb ad.block (by rw [hv]; rfl)

theorem row_agree {w w' : World} {base e size n : Nat} {v : Value} {xs : List Value} (h : w.ownsRow base e size v n xs) (hb : ∀ b, v.ownBlock = some b → w'.heap[b]? = w.heap[b]?) : w'.ownsRow base e size v n xs := by
  refine ⟨h.1, ?_⟩
  rcases h.2 with h | ⟨g, cap, cur, hv, h1, hh, r⟩
  · exact .inl h
  · refine .inr ⟨g, cap, cur, hv, h1, ?_, r⟩
    rw [hb g (by rw [hv]; rfl)]
    exact hh

theorem Is.lt {k : IntKind} {w : World} {v : Value} {zs : List Int} (h : Is k w v zs) (hne : 0 < zs.length) : ∀ b, v.ownBlock = some b → b < w.heap.size := by
  intro b hb
  obtain ⟨g, off, cap, rfl, _, _, hB, _⟩ := h.full hne
  simp [Value.ownBlock] at hb
  omega

end Go.Proofs.Ytfnaeblbodfekaa

/- Rows of anything in memory, k cells each: what a slice of them reads as ('RowG'), one of the call's own ('OwnG'), an append between the two. No program. -/
namespace Go.Proofs.Ytfnaeblbodfekaa
open Go.RowKit
set_option linter.unusedVariables false

section
variable {α : Type}

def gcells (f : α → List Value) : List α → List Value
  | [] => []
  | a :: r => f a ++ gcells f r

theorem gcells_len {f : α → List Value} {k : Nat} (hk : ∀ a, (f a).length = k) : ∀ (l : List α), (gcells f l).length = l.length * k
  | [] => by simp [gcells]
  | a :: r => by rw [gcells, List.length_append, hk, gcells_len hk r, List.length_cons, Nat.add_mul]; omega

theorem gcells_app (f : α → List Value) : ∀ (l m : List α), gcells f (l ++ m) = gcells f l ++ gcells f m
  | [], _ => rfl
  | a :: l, m => by simp only [List.cons_append, gcells, gcells_app f l m, List.append_assoc]

theorem gcells_at {f : α → List Value} {k : Nat} (hk : ∀ a, (f a).length = k) : ∀ (l : List α) (i : Nat) (a : α), l[i]? = some a → ∀ j u, (f a)[j]? = some u → (gcells f l)[i * k + j]? = some u
  | [], _, _, h, _, _, _ => by simp at h
  | b :: r, 0, a, h, j, u, hj => by
    simp at h
    subst h
    have := (List.getElem?_eq_some_iff.1 hj).1
    rw [gcells, Nat.zero_mul, Nat.zero_add, List.getElem?_append_left this]
    exact hj
  | b :: r, i + 1, a, h, j, u, hj => by
    have := gcells_at hk r i a (by simpa using h) j u hj
    rw [gcells, List.getElem?_append_right (by rw [hk, Nat.add_mul]; omega), hk, show (i + 1) * k + j - k = i * k + j by rw [Nat.add_mul]; omega]
    exact this

theorem gcells_take {f : α → List Value} {k : Nat} (hk : ∀ a, (f a).length = k) : ∀ (l : List α) (p : Nat), gcells f (l.take p) = (gcells f l).take (p * k)
  | [], p => by simp [gcells]
  | a :: l, 0 => by simp [gcells]
  | a :: l, p + 1 => by
    have h1 : (f a).take ((p + 1) * k) = f a := List.take_of_length_le (by rw [hk, Nat.add_mul]; omega)
    have h2 : (p + 1) * k - k = p * k := by rw [Nat.add_mul]; omega
    rw [List.take_succ_cons, gcells, gcells, gcells_take hk l p, List.take_append, hk, h1, h2]

theorem gcells_drop {f : α → List Value} {k : Nat} (hk : ∀ a, (f a).length = k) : ∀ (l : List α) (p : Nat), gcells f (l.drop p) = (gcells f l).drop (p * k)
  | [], p => by simp [gcells]
  | a :: l, 0 => by simp [gcells]
  | a :: l, p + 1 => by
    have h1 : (f a).drop ((p + 1) * k) = [] := List.drop_eq_nil_of_le (by rw [hk, Nat.add_mul]; omega)
    have h2 : (p + 1) * k - k = p * k := by rw [Nat.add_mul]; omega
    rw [List.drop_succ_cons, gcells_drop hk l p, gcells, List.drop_append, hk, h1, h2, List.nil_append]

theorem gcells_set {f : α → List Value} {k : Nat} (hk : ∀ a, (f a).length = k) : ∀ (l : List α) (i : Nat) (a b : α), l[i]? = some a → ∀ j u, j < k → (f a).set j u = f b → (gcells f l).set (i * k + j) u = gcells f (l.set i b)
  | [], _, _, _, h, _, _, _, _ => by simp at h
  | c :: r, 0, a, b, h, j, u, hj, hb => by
    simp at h
    subst h
    rw [gcells, Nat.zero_mul, Nat.zero_add, List.set_append_left _ _ (by rw [hk]; exact hj), hb]
    rfl
  | c :: r, i + 1, a, b, h, j, u, hj, hb => by
    rw [gcells, List.set_append_right _ _ (by rw [hk, Nat.add_mul]; omega), hk, show (i + 1) * k + j - k = i * k + j by rw [Nat.add_mul]; omega, gcells_set hk r i a b (by simpa using h) j u hj hb]
    rfl

/-- A slice value whose cells are those of l. -/
def RowG (f : α → List Value) (w : World) (v : Value) (l : List α) : Prop :=
  (v = .slice none 0 0 ∧ l = []) ∨ ∃ ad cap, v = .slice (some ad) l.length cap ∧ l.length ≤ cap ∧ cap ≤ maxLen ∧ ∀ j u, (gcells f l)[j]? = some u → w.cell? (ad.add j) = some u

/-- A row of the call's (the object's) own. -/
def OwnG (f : α → List Value) (k : Nat) (e : TypeId) (base : Nat) (w : World) (v : Value) (l : List α) : Prop := w.ownsRow base e k v l.length (gcells f l)

theorem RowG.nil (f : α → List Value) (w : World) : RowG f w (.slice none 0 0) [] := .inl ⟨rfl, rfl⟩
theorem OwnG.nil (f : α → List Value) (k : Nat) (e : TypeId) (base : Nat) (w : World) : OwnG f k e base w (.slice none 0 0) [] := World.ownsRow_nil _ _ _ _

theorem RowG.agree {f : α → List Value} {w w' : World} {v : Value} {l : List α} (h : RowG f w v l) (hb : ∀ b, v.ownBlock = some b → w'.heap[b]? = w.heap[b]?) : RowG f w' v l := by
  rcases h with h | ⟨ad, cap, hv, h1, h2, hc⟩
  · exact .inl h
  · refine .inr ⟨ad, cap, hv, h1, h2, fun j u hj => ?_⟩
    rw [World.cell?_of_block (show w'.heap[(ad.add j).block]? = w.heap[(ad.add j).block]? from ?_)]
    · exact hc j u hj
    · have e : (ad.add j).block = ad.block := by unfold Addr.add; split <;> rfl
      rw [e]
      exact hb ad.block (by rw [hv]; rfl)

theorem RowG.below {f : α → List Value} {w w' : World} {v : Value} {l : List α} (h : RowG f w v l) (hb : Below w.heap.size w w') : RowG f w' v l := by
  rcases h with h | ⟨ad, cap, hv, h1, h2, hc⟩
  · exact .inl h
  · refine .inr ⟨ad, cap, hv, h1, h2, fun j u hj => ?_⟩
    have := hc j u hj
    rw [hb.cell (World.block_lt_of_cell? _ _ this)]
    exact this

theorem RowG.shape {f : α → List Value} {w : World} {v : Value} {l : List α} (h : RowG f w v l) : ∃ ao cap, v = .slice ao l.length cap ∧ l.length ≤ cap ∧ cap ≤ maxLen := by
  rcases h with ⟨hv, e⟩ | ⟨ad, cap, hv, h1, h2, _⟩
  · subst e; exact ⟨none, 0, hv, by simp, by simp⟩
  · exact ⟨some ad, cap, hv, h1, h2⟩

theorem RowG.full {f : α → List Value} {k : Nat} (hk : ∀ a, (f a).length = k) (h0 : 0 < k) {w : World} {v : Value} {l : List α} (h : RowG f w v l) (hne : 0 < l.length) :
    ∃ b off cap, v = .slice (some ⟨b, off, none⟩) l.length cap ∧ l.length ≤ cap ∧ cap ≤ maxLen ∧ b < w.heap.size ∧ ∀ i a, l[i]? = some a → ∀ j u, (f a)[j]? = some u → w.cell? ⟨b, off + i * k + j, none⟩ = some u := by
  rcases h with ⟨_, h⟩ | ⟨⟨b, off, spot⟩, cap, hv, h1, h2, hc⟩
  · subst h; simp at hne
  · obtain ⟨a0, ha0⟩ : ∃ a, l[0]? = some a := ⟨l[0], by rw [List.getElem?_eq_getElem]⟩
    have hf0 : (f a0)[0]? = some ((f a0)[0]'(by rw [hk]; exact h0)) := List.getElem?_eq_getElem (by rw [hk]; exact h0)
    have g0 := hc _ _ (gcells_at hk l 0 a0 ha0 0 _ hf0)
    have hspot : spot = none := by simpa [Addr.add] using World.cell?_spot g0
    subst hspot
    rw [add_at] at g0
    refine ⟨b, off, cap, hv, h1, h2, World.block_lt_of_cell? _ _ g0, fun i a hia j u hj => ?_⟩
    have := hc _ _ (gcells_at hk l i a hia j u hj)
    rw [add_at] at this
    rw [Nat.add_assoc]
    exact this

theorem OwnG.row {f : α → List Value} {k e base : Nat} {w : World} {v : Value} {l : List α} (h : OwnG f k e base w v l) : RowG f w v l := by
  rcases h.2 with ⟨hv, hn⟩ | ⟨g, cap, cur, hv, h1, hh, hc, hm, hs, ht⟩
  · exact .inl ⟨hv, List.eq_nil_of_length_eq_zero hn⟩
  · refine .inr ⟨⟨g, 0, none⟩, cap, hv, hc, hm, fun j u hj => ?_⟩
    exact h.cells (by rw [hv]; rfl) j u hj

theorem OwnG.agree {f : α → List Value} {k e base : Nat} {w w' : World} {v : Value} {l : List α} (h : OwnG f k e base w v l) (hb : ∀ b, v.ownBlock = some b → w'.heap[b]? = w.heap[b]?) : OwnG f k e base w' v l := row_agree h hb

theorem OwnG.lt {f : α → List Value} {k e base : Nat} {w : World} {v : Value} {l : List α} (h : OwnG f k e base w v l) : ∀ b, v.ownBlock = some b → base ≤ b ∧ b < w.heap.size := World.ownsRow.lt h

theorem OwnG.type {f : α → List Value} {k e base : Nat} {w : World} {v : Value} {l : List α} (h : OwnG f k e base w v l) {g : Nat} (hg : v.ownBlock = some g) : ∃ cs, w.heap[g]? = some (.cells cs e (0, 0)) := by
  rcases h.2 with ⟨rfl, _⟩ | ⟨g', cap, cur, rfl, _, hh, _⟩
  · simp [Value.ownBlock] at hg
  · simp [Value.ownBlock] at hg
    subst hg
    exact ⟨_, hh⟩

/-- Laid in a new block. -/
theorem rows_step (f : α → List Value) (k : Nat) (hk : ∀ a, (f a).length = k) (e : TypeId) (w : World) (cs : Array Value) (n : Nat) (l : List α) (hn : l.length = n) (h : cs.toList = gcells f l) (hm : n ≤ maxLen) :
    ∃ W, w.alloc (.cells cs e) = W ∧ W.heap.size = w.heap.size + 1 ∧ Below w.heap.size w W ∧ OwnG f k e w.heap.size W (.slice (some ⟨w.heap.size, 0, none⟩) n n) l := by
  subst hn
  refine ⟨_, rfl, by simp, (Below.refl _ _).alloc (Nat.le_refl _) _, ?_⟩
  have ho := World.ownsRow_lit (base := w.heap.size) (e := e) (size := k) w cs l.length (Nat.le_refl _) hm (by have := congrArg List.length h; rw [gcells_len hk] at this; simpa using this)
  rw [h] at ho
  exact ho

variable {P : Program} {w : World} {ops : Array Oper} {rest : List Oper} {o : Oper} {a : Act} {Q : Exit → Act → World → Prop}

/-- 'out = append(out, xs...)': out nil or an own row. -/
theorem wpList_append_rows (f : α → List Value) (k bytes : Nat) (hk : ∀ a, (f a).length = k) (h0 : 0 < k) (hb0 : 0 < bytes) (z : Value) (hzk : z.cells.size = k) (hgd : o.guard = none) (s x : Operand) (t : TypeId)
    (ho : o.op = .call { callee := .builtin .append, args := #[s, x], argTypes := #[t, t] })
    (e : TypeId) (base : Nat) (ht : P.underlying t = some (.slice e)) (hinfo : (P.info? e).map (fun i => (i.zero, i.size, i.bytes)) = some (some z, k, bytes))
    (v : Value) (l : List α) (hs : a.eval s = v) (hown : OwnG f k e base w v l) (vx : Value) (m : List α) (hx : a.eval x = vx) (his : RowG f w vx m) (hone : ∀ u ∈ gcells f m, u.oneCell' = true)
    (hlen : (l.length + m.length) * bytes ≤ 140737488355328) (hbase : base ≤ w.heap.size)
    (h : ∀ v' w', OwnG f k e base w' v' (l ++ m) → w.grownBy w' v.ownBlock → wpList P ops Q rest (a.put o.dst v') w') : wpList P ops Q (o :: rest) a w := by
  obtain ⟨i, hi, hz, hsize, hb⟩ := info_parts hinfo
  have hn : l.length + m.length ≤ 140737488355328 := Nat.le_trans (Nat.le_mul_of_pos_right _ hb0) hlen
  rcases his with ⟨hv, hy⟩ | ⟨ad, cap, hv, h1, h2, hc⟩
  · subst hy
    refine wpList_append_own_none hgd s x t ho base e i k ht hi v l.length _ hs hown (hx.trans hv) (h v w (by simpa using hown) (World.grownBy.refl _ _))
  · refine wpList_append_own w hgd s x t ho base e i z k bytes ht hi hz hsize hb hzk h0 v l.length _ hs hown ad m.length cap (gcells f m) (hx.trans hv) (gcells_len hk m) hc hone (by unfold maxLen; omega) hlen hbase ?_
    intro v' w' ho' hg _
    exact h v' w' (by unfold OwnG; rw [gcells_app, List.length_append]; exact ho') hg

/-- The same inside a region that draws its order. -/
theorem step_append_rows {K : Act → World → Prop} {E : Prop} (f : α → List Value) (k bytes : Nat) (hk : ∀ a, (f a).length = k) (h0 : 0 < k) (hb0 : 0 < bytes) (z : Value) (hzk : z.cells.size = k) (hgd : o.guard = none) (s x : Operand) (t : TypeId)
    (ho : o.op = .call { callee := .builtin .append, args := #[s, x], argTypes := #[t, t] })
    (e : TypeId) (base : Nat) (ht : P.underlying t = some (.slice e)) (hinfo : (P.info? e).map (fun i => (i.zero, i.size, i.bytes)) = some (some z, k, bytes))
    (v : Value) (l : List α) (hs : a.eval s = v) (hown : OwnG f k e base w v l) (vx : Value) (m : List α) (hx : a.eval x = vx) (his : RowG f w vx m) (hone : ∀ u ∈ gcells f m, u.oneCell' = true)
    (hlen : (l.length + m.length) * bytes ≤ 140737488355328) (hbase : base ≤ w.heap.size)
    (h : ∀ v' w', OwnG f k e base w' v' (l ++ m) → w.grownBy w' v.ownBlock → K (a.put o.dst v') w') :
    if Region.wanted o (yielded ops a.tmps) = true then Oper.wp P o a w K Q else E := by
  have hw : Region.wanted o (yielded ops a.tmps) = true := by simp [Region.wanted, hgd]
  rw [if_pos hw]
  obtain ⟨i, hi, hz, hsize, hb⟩ := info_parts hinfo
  have hn : l.length + m.length ≤ 140737488355328 := Nat.le_trans (Nat.le_mul_of_pos_right _ hb0) hlen
  rcases his with ⟨hv, hy⟩ | ⟨ad, cap, hv, h1, h2, hc⟩
  · subst hy
    have hrun := run_append_owned_none (P := P) (w := w) base t o.type e i k ht hi v l.length _ hown
    have hk := h v w (by simpa using hown) (World.grownBy.refl _ _)
    unfold Oper.wp
    simp [execOp, ho, resolve, invoke, builtin, hs, hx.trans hv, hrun, Result.andThen]
    exact hk
  · refine wp_append_own w s x t ho base e i z k bytes ht hi hz hsize hb hzk h0 v l.length _ hs hown ad m.length cap (gcells f m) (hx.trans hv) (gcells_len hk m) hc hone (by unfold maxLen; omega) hlen hbase ?_
    intro v' w' ho' hg _
    exact h v' w' (by unfold OwnG; rw [gcells_app, List.length_append]; exact ho') hg

end

end Go.Proofs.Ytfnaeblbodfekaa

/- An element of a list. No program. -/
namespace Go.Proofs.Ytfnaeblbodfekaa

theorem at_of {α : Type} {l : List α} {k : Nat} (h : k < l.length) : ∃ s, l[k]? = some s := ⟨l[k], List.getElem?_eq_getElem h⟩

end Go.Proofs.Ytfnaeblbodfekaa
