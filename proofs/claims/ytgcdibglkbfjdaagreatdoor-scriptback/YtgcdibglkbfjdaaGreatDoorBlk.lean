/- Blocks of cells: one that a call has made, its cells, a store into it. No program. -/
import Derived.Test.YtgcdibglkbfjdaaGreatDoorCut
namespace Go.Proofs.YtgcdibglkbfjdaaGreatDoor
open Go.RowKit
set_option linter.unusedVariables false

theorem blk_cell {w : World} {g : Nat} {cs : Array Value} {t : TypeId} {fr : Nat × Nat} (hg : w.heap[g]? = some (.cells cs t fr)) (j : Nat) {u : Value} (hj : cs[j]? = some u) : w.cell? ⟨g, j, none⟩ = some u := by simp [World.cell?, hg, hj]
theorem blk_froz {w : World} {g : Nat} {cs : Array Value} {t : TypeId} (hg : w.heap[g]? = some (.cells cs t (0, 0))) (j : Nat) : w.frozen? ⟨g, j, none⟩ = false := by simp [World.frozen?, hg]

theorem blk_step (w : World) (cs : Array Value) (e : TypeId) : ∃ W, w.alloc (.cells cs e) = W ∧ W.heap.size = w.heap.size + 1 ∧ Below w.heap.size w W ∧ W.heap[w.heap.size]? = some (.cells cs e (0, 0)) := by
  refine ⟨_, rfl, by simp, (Below.refl _ _).alloc (Nat.le_refl _) _, heap_alloc_new w _⟩

theorem blk_lt {w : World} {g : Nat} {o : Obj} (h : w.heap[g]? = some o) : g < w.heap.size := (Array.getElem?_eq_some_iff.1 h).1

theorem set_same {w : World} {g j : Nat} {cs : Array Value} {t : TypeId} {fr : Nat × Nat} {u : Value} (hg : w.heap[g]? = some (.cells cs t fr)) (hj : cs[j]? = some u) : w.setCell ⟨g, j, none⟩ u = w := by
  have h2 : cs.setIfInBounds j u = cs := by
    apply Array.ext_getElem?
    intro i
    rw [Array.getElem?_setIfInBounds]
    by_cases h : j = i
    · subst h
      rw [if_pos rfl, hj]
      have := (Array.getElem?_eq_some_iff.1 hj).1
      simp [this]
    · rw [if_neg h]
  have : (w.setCell ⟨g, j, none⟩ u).heap = w.heap := by
    apply Array.ext_getElem?
    intro i
    by_cases h : i = g
    · subst h
      rw [set_cells hg, h2, hg]
    · exact Below.heap_setCell _ _ _ _ h
  have e : w.setCell ⟨g, j, none⟩ u = { w with heap := (w.setCell ⟨g, j, none⟩ u).heap } := rfl
  rw [e, this]

theorem grown_fresh {w V V' : World} {row : Option Nat} {R : Nat} (h : w.grownBy V row) (hp : V.grownBy V' (some R)) (hR : w.heap.size ≤ R) : w.grownBy V' row :=
  ⟨hp.os.trans h.os, hp.tape.trans h.tape, hp.output.trans h.output, Nat.le_trans h.size hp.size, fun i hi hne => (hp.block i (Nat.lt_of_lt_of_le hi h.size) (by simp; omega)).trans (h.block i hi hne)⟩

theorem put3 {V : World} {R : Nat} {t : TypeId} {fr : Nat × Nat} {x y z : Value} (hR : V.heap[R]? = some (.cells #[x, y, z] t fr)) (a b c : Value) :
    ∃ V', ((V.setCell ⟨R, 0, none⟩ a).setCell ⟨R, 1, none⟩ b).setCell ⟨R, 2, none⟩ c = V' ∧ V'.heap[R]? = some (.cells #[a, b, c] t fr) ∧ V.grownBy V' (some R) :=
  ⟨_, rfl, set_cells (set_cells (set_cells hR 0 a) 1 b) 2 c, grown_trans (grown_trans (grown_setCell V ⟨R, 0, none⟩ a) (grown_setCell _ ⟨R, 1, none⟩ b)) (grown_setCell _ ⟨R, 2, none⟩ c)⟩

/-- Three cells of a block are written. -/
theorem res_step {V : World} {R : Nat} {t : TypeId} {x y z : Value} (hR : V.heap[R]? = some (.cells #[x, y, z] t (0, 0))) (a b c : Value) :
    ∃ V', ((V.setCell ⟨R, 0, none⟩ a).setCell ⟨R, 1, none⟩ b).setCell ⟨R, 2, none⟩ c = V' ∧ V'.heap[R]? = some (.cells #[a, b, c] t (0, 0)) ∧ V.grownBy V' (some R) ∧
      (V.cell? ⟨R, 0, none⟩ = some x ∧ V.cell? ⟨R, 1, none⟩ = some y ∧ V.cell? ⟨R, 2, none⟩ = some z) ∧ (V.frozen? ⟨R, 0, none⟩ = false ∧ V.frozen? ⟨R, 1, none⟩ = false ∧ V.frozen? ⟨R, 2, none⟩ = false) ∧
      (V'.cell? ⟨R, 0, none⟩ = some a ∧ V'.cell? ⟨R, 1, none⟩ = some b ∧ V'.cell? ⟨R, 2, none⟩ = some c) := by
  obtain ⟨V', h1, h2, h3⟩ := put3 hR a b c
  exact ⟨V', h1, h2, h3, ⟨blk_cell hR 0 rfl, blk_cell hR 1 rfl, blk_cell hR 2 rfl⟩, ⟨blk_froz hR 0, blk_froz hR 1, blk_froz hR 2⟩, ⟨blk_cell h2 0 rfl, blk_cell h2 1 rfl, blk_cell h2 2 rfl⟩⟩

theorem below_put {w V V' : World} {R base : Nat} (h : Below base w V) (hg : V.grownBy V' (some R)) (hb : base ≤ R) (hs : base ≤ V.heap.size) : Below base w V' := h.grown hg hs (fun k hk => by simp at hk; omega)

/-- A block of three cells, made and written. -/
theorem new_step (w : World) (t : TypeId) (x y z a b c : Value) : ∃ V, ((((w.alloc (.cells #[x, y, z] t)).setCell ⟨w.heap.size, 0, none⟩ a).setCell ⟨w.heap.size, 1, none⟩ b).setCell ⟨w.heap.size, 2, none⟩ c = V) ∧ w.alloc (.cells #[a, b, c] t) = V ∧ V.heap.size = w.heap.size + 1 ∧ Below w.heap.size w V ∧ V.heap[w.heap.size]? = some (.cells #[a, b, c] t (0, 0)) ∧
    V.cell? ⟨w.heap.size, 0, none⟩ = some a ∧ V.cell? ⟨w.heap.size, 1, none⟩ = some b ∧ V.cell? ⟨w.heap.size, 2, none⟩ = some c := by
  obtain ⟨V, h1, h2, h3, h4⟩ := blk_step w #[a, b, c] t
  refine ⟨V, ?_, h1, h2, h3, h4, blk_cell h4 0 rfl, blk_cell h4 1 rfl, blk_cell h4 2 rfl⟩
  rw [← h1]
  simp [go_sem]

theorem wrap_i64_small (z : Int) (h0 : -9223372036854775808 ≤ z) (h1 : z < 9223372036854775808) : IntKind.i64.wrap z = z := by
  unfold IntKind.wrap
  simp [IntKind.bits, IntKind.signed]
  omega

theorem put_c {V : World} {R : Nat} {t : TypeId} {cs : Array Value} (hR : V.heap[R]? = some (.cells cs t (0, 0))) (j : Nat) (u : Value) :
    ∃ V', V.setCell ⟨R, j, none⟩ u = V' ∧ V'.heap[R]? = some (.cells (cs.setIfInBounds j u) t (0, 0)) ∧ V.grownBy V' (some R) ∧ V.frozen? ⟨R, j, none⟩ = false :=
  ⟨_, rfl, set_cells hR j u, grown_setCell _ _ _, blk_froz hR j⟩

end Go.Proofs.YtgcdibglkbfjdaaGreatDoor
