/- A page in memory: six cells; First; a page's numbers and back; two pages the same. -/
import Derived.Test.YthndeolibilnnaaDoorFc
import Derived.Test.YthndeolibilnnaaDoorPm
namespace Go.Proofs.YthndeolibilnnaaDoor
open Go.RowKit
set_option linter.unusedVariables false

/-- A page as a value. -/
def vp (x : Pm.Pg) : Value := .agg #[.int .i64 x.e, .int .u8 x.r, .int .i64 x.a, .int .u8 x.p, .int .i64 x.f, .int .i64 x.b]
/-- A page's cells. -/
def cp (x : Pm.Pg) : Array Value := #[.int .i64 x.e, .int .u8 x.r, .int .i64 x.a, .int .u8 x.p, .int .i64 x.f, .int .i64 x.b]
/-- Six numbers as a value. -/
def vn (x : Pm.Pg) : Value := .agg #[.int .i64 x.e, .int .i64 x.r, .int .i64 x.a, .int .i64 x.p, .int .i64 x.f, .int .i64 x.b]

/-- What any page is. -/
def FitP (x : Pm.Pg) : Prop := -9223372036854775808 ≤ x.e ∧ x.e < 9223372036854775808 ∧ 0 ≤ x.r ∧ x.r < 256 ∧ -9223372036854775808 ≤ x.a ∧ x.a < 9223372036854775808 ∧ 0 ≤ x.p ∧ x.p < 256 ∧ -9223372036854775808 ≤ x.f ∧ x.f < 9223372036854775808 ∧ -9223372036854775808 ≤ x.b ∧ x.b < 9223372036854775808

theorem fit_ok {x : Pm.Pg} (h : Pm.Ok x) : FitP x := by
  have := Pm.ok_nums h
  unfold FitP
  omega

theorem fit_no : FitP Pm.no := by unfold FitP Pm.no; simp

/-- Six cells of a block. -/
structure Six (w : World) (g : Nat) (a b c d e f : Value) : Prop where
  c0 : w.cell? ⟨g, 0, none⟩ = some a
  c1 : w.cell? ⟨g, 1, none⟩ = some b
  c2 : w.cell? ⟨g, 2, none⟩ = some c
  c3 : w.cell? ⟨g, 3, none⟩ = some d
  c4 : w.cell? ⟨g, 4, none⟩ = some e
  c5 : w.cell? ⟨g, 5, none⟩ = some f

theorem six_of {w : World} {g : Nat} {t : TypeId} {fr : Nat × Nat} {a b c d e f : Value} (h : w.heap[g]? = some (.cells #[a, b, c, d, e, f] t fr)) : Six w g a b c d e f :=
  ⟨blk_cell h 0 rfl, blk_cell h 1 rfl, blk_cell h 2 rfl, blk_cell h 3 rfl, blk_cell h 4 rfl, blk_cell h 5 rfl⟩

/-- Six cells of a block are written. -/
theorem put6 {V : World} {R : Nat} {t : TypeId} {x0 x1 x2 x3 x4 x5 : Value} (hR : V.heap[R]? = some (.cells #[x0, x1, x2, x3, x4, x5] t (0, 0))) (a b c d e f : Value) :
    ∃ V', (((((V.setCell ⟨R, 0, none⟩ a).setCell ⟨R, 1, none⟩ b).setCell ⟨R, 2, none⟩ c).setCell ⟨R, 3, none⟩ d).setCell ⟨R, 4, none⟩ e).setCell ⟨R, 5, none⟩ f = V' ∧ V'.heap[R]? = some (.cells #[a, b, c, d, e, f] t (0, 0)) ∧ V.grownBy V' (some R) ∧
      Six V R x0 x1 x2 x3 x4 x5 ∧ (∀ j, V.frozen? ⟨R, j, none⟩ = false) ∧ Six V' R a b c d e f := by
  have h := set_cells (set_cells (set_cells (set_cells (set_cells (set_cells hR 0 a) 1 b) 2 c) 3 d) 4 e) 5 f
  refine ⟨_, rfl, h, ?_, six_of hR, blk_froz hR, six_of h⟩
  exact grown_trans (grown_trans (grown_trans (grown_trans (grown_trans (grown_setCell V ⟨R, 0, none⟩ a) (grown_setCell _ ⟨R, 1, none⟩ b)) (grown_setCell _ ⟨R, 2, none⟩ c)) (grown_setCell _ ⟨R, 3, none⟩ d)) (grown_setCell _ ⟨R, 4, none⟩ e)) (grown_setCell _ ⟨R, 5, none⟩ f)

/-- A block of six cells, made and written. -/
theorem new6 (w : World) (t : TypeId) (x0 x1 x2 x3 x4 x5 a b c d e f : Value) :
    ∃ V, ((((((w.alloc (.cells #[x0, x1, x2, x3, x4, x5] t)).setCell ⟨w.heap.size, 0, none⟩ a).setCell ⟨w.heap.size, 1, none⟩ b).setCell ⟨w.heap.size, 2, none⟩ c).setCell ⟨w.heap.size, 3, none⟩ d).setCell ⟨w.heap.size, 4, none⟩ e).setCell ⟨w.heap.size, 5, none⟩ f = V ∧ w.alloc (.cells #[a, b, c, d, e, f] t) = V ∧ V.heap.size = w.heap.size + 1 ∧ Below w.heap.size w V ∧ V.heap[w.heap.size]? = some (.cells #[a, b, c, d, e, f] t (0, 0)) ∧ Six V w.heap.size a b c d e f := by
  obtain ⟨V, h1, h2, h3, h4⟩ := blk_step w #[a, b, c, d, e, f] t
  refine ⟨V, ?_, h1, h2, h3, h4, six_of h4⟩
  rw [← h1]
  simp [go_sem]

/-- A node's first page. -/
def fst (n : Int) : Pm.Pg := if n = 0 then ⟨1, 1, 0, 0, 0, 0⟩ else if n = 1 then ⟨1, 2, 0, 0, 0, 0⟩ else Pm.no
def fse (n : Int) : Int := if n = 0 then 0 else if n = 1 then 0 else 2

theorem fst_fit (n : Int) : FitP (fst n) := by
  unfold fst
  by_cases h0 : n = 0
  · rw [if_pos h0]; unfold FitP; simp
  · rw [if_neg h0]
    by_cases h1 : n = 1
    · rw [if_pos h1]; unfold FitP; simp
    · rw [if_neg h1]; exact fit_no

set_option maxHeartbeats 400000 in
theorem first_any (n : Int) (w : World) :
    Calls Tryd.prog 28 #[.int .i64 n] w fun E w' => E = .returned (.tuple #[vp (fst n), .int .i64 (fse n)]) ∧ Below w.heap.size w w' := by
  obtain ⟨w1, hw1, sz1, bel1, hB⟩ := blk_step w #[.int .i64 0, .int .u8 0, .int .i64 0, .int .u8 0, .int .i64 0, .int .i64 0] 25
  unfold fst fse vp
  go_enter Tryd.func28, Tryd.ntmps28
  by_cases h0 : n = 0
  · have h0' : (n == 0) = true := by simp [h0]
    rw [if_pos h0, if_pos h0]
    obtain ⟨V, hV, bV, gV, ⟨a0, a1, a2, a3, a4, a5⟩, fr, ⟨z0, z1, z2, z3, z4, z5⟩⟩ := put6 hB (.int .i64 1) (.int .u8 1) (.int .i64 0) (.int .u8 0) (.int .i64 0) (.int .i64 0)
    have f0 := fr 0; have f1 := fr 1; have f2 := fr 2; have f3 := fr 3; have f4 := fr 4; have f5 := fr 5
    have bel := below_put bel1 gV (Nat.le_refl _) (by omega)
    clear h0 hB bV gV fr bel1
    go_wp2
    refine bodyPost_ret (v := .tuple #[.agg #[.int .i64 1, .int .u8 1, .int .i64 0, .int .u8 0, .int .i64 0, .int .i64 0], .int .i64 0]) (by simp [results, Tryd.results28, go_sem, z0, z1, z2, z3, z4, z5]) rfl ?_
    exact ⟨rfl, bel⟩
  · have h0' : (n == 0) = false := by simp [h0]
    rw [if_neg h0, if_neg h0]
    by_cases h1 : n = 1
    · have h1' : (n == 1) = true := by simp [h1]
      rw [if_pos h1, if_pos h1]
      obtain ⟨V, hV, bV, gV, ⟨a0, a1, a2, a3, a4, a5⟩, fr, ⟨z0, z1, z2, z3, z4, z5⟩⟩ := put6 hB (.int .i64 1) (.int .u8 2) (.int .i64 0) (.int .u8 0) (.int .i64 0) (.int .i64 0)
      have f0 := fr 0; have f1 := fr 1; have f2 := fr 2; have f3 := fr 3; have f4 := fr 4; have f5 := fr 5
      have bel := below_put bel1 gV (Nat.le_refl _) (by omega)
      clear h0 h1 hB bV gV fr bel1
      go_wp2
      refine bodyPost_ret (v := .tuple #[.agg #[.int .i64 1, .int .u8 2, .int .i64 0, .int .u8 0, .int .i64 0, .int .i64 0], .int .i64 0]) (by simp [results, Tryd.results28, go_sem, z0, z1, z2, z3, z4, z5]) rfl ?_
      exact ⟨rfl, bel⟩
    · have h1' : (n == 1) = false := by simp [h1]
      rw [if_neg h1, if_neg h1]
      obtain ⟨V, hV, bV, gV, ⟨a0, a1, a2, a3, a4, a5⟩, fr, ⟨z0, z1, z2, z3, z4, z5⟩⟩ := put6 hB (.int .i64 0) (.int .u8 0) (.int .i64 0) (.int .u8 0) (.int .i64 0) (.int .i64 0)
      have f0 := fr 0; have f1 := fr 1; have f2 := fr 2; have f3 := fr 3; have f4 := fr 4; have f5 := fr 5
      have bel := below_put bel1 gV (Nat.le_refl _) (by omega)
      clear h0 h1 hB bV gV fr bel1
      go_wp2
      refine bodyPost_ret (v := .tuple #[.agg #[.int .i64 0, .int .u8 0, .int .i64 0, .int .u8 0, .int .i64 0, .int .i64 0], .int .i64 2]) (by simp [results, Tryd.results28, go_sem, z0, z1, z2, z3, z4, z5]) rfl ?_
      exact ⟨rfl, bel⟩

theorem wrap_u8i (z : Int) (h0 : 0 ≤ z) (h1 : z < 256) : IntKind.i64.wrap z = z := wrap_i64_small z (by omega) (by omega)

set_option maxHeartbeats 400000 in
theorem numbersOf_any (x : Pm.Pg) (w : World) (hx : FitP x) :
    Calls Tryd.prog 40 #[vp x] w fun E w' => E = .returned (vn x) ∧ Below w.heap.size w w' := by
  unfold vp vn
  obtain ⟨g1, g2, g3, g4, g5, g6, g7, g8, g9, g10, g11, g12⟩ := hx
  obtain ⟨w1, hw1, sz1, bel1, hB⟩ := blk_step w #[.int .i64 x.e, .int .u8 x.r, .int .i64 x.a, .int .u8 x.p, .int .i64 x.f, .int .i64 x.b] 25
  obtain ⟨w2, hw2, sz2, bel2, hC⟩ := blk_step w1 #[.int .i64 0, .int .i64 0, .int .i64 0, .int .i64 0, .int .i64 0, .int .i64 0] 57
  obtain ⟨c0, c1, c2, c3, c4, c5⟩ := six_of ((bel2.block _ (blk_lt hB)).trans hB)
  rw [sz1] at hC
  obtain ⟨V, hV, bV, gV, ⟨a0, a1, a2, a3, a4, a5⟩, fr, ⟨z0, z1, z2, z3, z4, z5⟩⟩ := put6 hC (.int .i64 x.e) (.int .i64 x.r) (.int .i64 x.a) (.int .i64 x.p) (.int .i64 x.f) (.int .i64 x.b)
  have f0 := fr 0; have f1 := fr 1; have f2 := fr 2; have f3 := fr 3; have f4 := fr 4; have f5 := fr 5
  have bel := below_put (bel1.trans (bel2.mono (by omega))) gV (by omega) (by omega)
  have e1 := wrap_u8i x.r g3 g4
  have e2 := wrap_u8i x.p g7 g8
  clear hB hC bV gV fr bel1 bel2
  go_enter Tryd.func40, Tryd.ntmps40
  go_wp2
  refine bodyPost_ret (v := .agg #[.int .i64 x.e, .int .i64 x.r, .int .i64 x.a, .int .i64 x.p, .int .i64 x.f, .int .i64 x.b]) (by simp [results, Tryd.results40, go_sem, z0, z1, z2, z3, z4, z5]) rfl ?_
  exact ⟨rfl, bel⟩

theorem wrap_i8 (z : Int) (h0 : 0 ≤ z) (h1 : z < 256) : IntKind.u8.wrap z = z := by
  unfold IntKind.wrap
  simp [IntKind.bits, IntKind.signed]
  omega

/-- Two pages are one. -/
def same (x y : Pm.Pg) : Bool := x.e == y.e && x.r == y.r && x.a == y.a && x.p == y.p && x.f == y.f && x.b == y.b

theorem same_iff {x y : Pm.Pg} : same x y = true ↔ x = y := by
  constructor
  · intro h
    simp [same] at h
    exact Pm.Pg.eq h.1.1.1.1.1 h.1.1.1.1.2 h.1.1.1.2 h.1.1.2 h.1.2 h.2
  · rintro rfl
    simp [same]

theorem same_self (x : Pm.Pg) : same x x = true := same_iff.2 rfl

theorem Tryd.eqlP (a b c d e f a' b' c' d' e' f' : Int) (w : World) : (binOp .eql 25 (.agg #[.int .i64 a, .int .u8 b, .int .i64 c, .int .u8 d, .int .i64 e, .int .i64 f]) (.agg #[.int .i64 a', .int .u8 b', .int .i64 c', .int .u8 d', .int .i64 e', .int .i64 f'])).run Tryd.prog w = .ok (.bool (a == a' && b == b' && c == c' && d == d' && e == e' && f == f')) w := by
  rw [run_eql_struct, run_equalIn_agg w 9999 25 _ _ (by kernel_rfl) (by kernel_rfl)]
  unfold Program.fieldsOf
  rw [Tryd.underlying25]
  simp [Op.eqFields, go_sem, Tryd.underlying22, Tryd.underlying23, Tryd.underlying3]
  by_cases h1 : a = a' <;> by_cases h2 : b = b' <;> by_cases h3 : c = c' <;> by_cases h4 : d = d' <;> by_cases h5 : e = e' <;> by_cases h6 : f = f' <;> simp [h1, h2, h3, h4, h5, h6]

end Go.Proofs.YthndeolibilnnaaDoor
