/- A page's block that holds what is written again. -/
import Derived.Test.YthndeolibilnnaaDoorQa
namespace Go.Proofs.YthndeolibilnnaaDoor
open Go.RowKit
set_option linter.unusedVariables false

/-- What is written again changes nothing. -/
structure Sam (w : World) (g : Nat) (a b c d e f : Value) : Prop where
  s0 : w.setCell ⟨g, 0, none⟩ a = w
  s1 : w.setCell ⟨g, 1, none⟩ b = w
  s2 : w.setCell ⟨g, 2, none⟩ c = w
  s3 : w.setCell ⟨g, 3, none⟩ d = w
  s4 : w.setCell ⟨g, 4, none⟩ e = w
  s5 : w.setCell ⟨g, 5, none⟩ f = w
  f0 : w.frozen? ⟨g, 0, none⟩ = false
  f1 : w.frozen? ⟨g, 1, none⟩ = false
  f2 : w.frozen? ⟨g, 2, none⟩ = false
  f3 : w.frozen? ⟨g, 3, none⟩ = false
  f4 : w.frozen? ⟨g, 4, none⟩ = false
  f5 : w.frozen? ⟨g, 5, none⟩ = false

theorem sam_of {w : World} {g : Nat} {t : TypeId} {a b c d e f : Value} (h : w.heap[g]? = some (.cells #[a, b, c, d, e, f] t (0, 0))) : Sam w g a b c d e f :=
  ⟨set_same h (j := 0) rfl, set_same h (j := 1) rfl, set_same h (j := 2) rfl, set_same h (j := 3) rfl, set_same h (j := 4) rfl, set_same h (j := 5) rfl, blk_froz h 0, blk_froz h 1, blk_froz h 2, blk_froz h 3, blk_froz h 4, blk_froz h 5⟩

/-- A page's block, made and written. -/
theorem newp (w : World) (x : Pm.Pg) :
    ∃ V, w.alloc (.cells #[.int .i64 x.e, .int .u8 x.r, .int .i64 x.a, .int .u8 x.p, .int .i64 x.f, .int .i64 x.b] 25) = V ∧ V.heap.size = w.heap.size + 1 ∧ Below w.heap.size w V ∧ V.heap[w.heap.size]? = some (.cells (cp x) 25 (0, 0)) ∧
      Six V w.heap.size (.int .i64 x.e) (.int .u8 x.r) (.int .i64 x.a) (.int .u8 x.p) (.int .i64 x.f) (.int .i64 x.b) ∧ Sam V w.heap.size (.int .i64 x.e) (.int .u8 x.r) (.int .i64 x.a) (.int .u8 x.p) (.int .i64 x.f) (.int .i64 x.b) := by
  obtain ⟨V, h1, h2, h3, h4⟩ := blk_step w #[.int .i64 x.e, .int .u8 x.r, .int .i64 x.a, .int .u8 x.p, .int .i64 x.f, .int .i64 x.b] 25
  exact ⟨V, h1, h2, h3, h4, six_of h4, sam_of h4⟩

/-- The page in block g. -/
def PgAt (w : World) (g : Nat) (x : Pm.Pg) : Prop := w.heap[g]? = some (.cells (cp x) 25 (0, 0))

theorem PgAt.lt {w : World} {g : Nat} {x : Pm.Pg} (h : PgAt w g x) : g < w.heap.size := blk_lt h
theorem PgAt.below {w w' : World} {g : Nat} {x : Pm.Pg} (h : PgAt w g x) (b : Below w.heap.size w w') : PgAt w' g x := (b.block g h.lt).trans h
theorem PgAt.six {w : World} {g : Nat} {x : Pm.Pg} (h : PgAt w g x) : Six w g (.int .i64 x.e) (.int .u8 x.r) (.int .i64 x.a) (.int .u8 x.p) (.int .i64 x.f) (.int .i64 x.b) := six_of h

theorem cells1 {w : World} {g : Nat} {x : Pm.Pg} (h : PgAt w g x) : (w.cell? ⟨g, 0, none⟩ = some (.int .i64 x.e) ∧ w.cell? ⟨g, 1, none⟩ = some (.int .u8 x.r) ∧ w.cell? ⟨g, 2, none⟩ = some (.int .i64 x.a) ∧ w.cell? ⟨g, 3, none⟩ = some (.int .u8 x.p) ∧ w.cell? ⟨g, 4, none⟩ = some (.int .i64 x.f) ∧ w.cell? ⟨g, 5, none⟩ = some (.int .i64 x.b)) :=
  ⟨h.six.c0, h.six.c1, h.six.c2, h.six.c3, h.six.c4, h.six.c5⟩

theorem PgAt.under {w w' : World} {g B : Nat} {x : Pm.Pg} (h : PgAt w g x) (b : Below B w w') (hg : g < B) : PgAt w' g x := (b.block g hg).trans h

end Go.Proofs.YthndeolibilnnaaDoor
