/- A disk and two tables of bytes beside it, in memory. -/
import Derived.Test.YteklbnonikccaaaDp
namespace Go.Proofs.Yteklbnonikccaaa
open Go.RowKit
set_option linter.unusedVariables false

/-- Bytes that are none of the disk's, nor in the tables' own blocks. -/
def Rw4 (F : Nat → Prop) (A S : Nat) (w : World) (v : Value) (zs : List Int) : Prop := Is .u8 w v zs ∧ ∀ b, v.ownBlock = some b → ¬ F b ∧ b < w.heap.size ∧ b ≠ A ∧ b ≠ S

structure XV (base p A S : Nat) (w : World) (st : Dm.Ds) (all sure : Nat → List Int) (F : Nat → Prop) (va vs : Nat → Value) : Prop where
  dk : Pk p F w st
  ge : ∀ g, F g → base ≤ g
  nA : ¬ F A
  nS : ¬ F S
  ne : A ≠ S
  bA : w.heap[A]? = some (.cells #[va 0, va 1, va 2, va 3] 52 (0, 0))
  bS : w.heap[S]? = some (.cells #[vs 0, vs 1, vs 2, vs 3] 52 (0, 0))
  ra : ∀ f, f < 4 → Rw4 F A S w (va f) (all f)
  rs : ∀ f, f < 4 → Rw4 F A S w (vs f) (sure f)

def XI (base p A S : Nat) (w : World) (st : Dm.Ds) (all sure : Nat → List Int) : Prop := ∃ F va vs, XV base p A S w st all sure F va vs

section
variable {base p A S : Nat} {w w' : World} {st st' : Dm.Ds} {all sure : Nat → List Int} {F : Nat → Prop} {va vs : Nat → Value}

theorem Rw4.agree {v : Value} {zs : List Int} (h : Rw4 F A S w v zs) (hs : w.heap.size ≤ w'.heap.size) (ha : ∀ b, v.ownBlock = some b → w'.heap[b]? = w.heap[b]?) : Rw4 F A S w' v zs := ⟨h.1.agree ha, fun b hb => ⟨(h.2 b hb).1, Nat.lt_of_lt_of_le (h.2 b hb).2.1 hs, (h.2 b hb).2.2⟩⟩

theorem XV.below (h : XV base p A S w st all sure F va vs) (hb : Below w.heap.size w w') : XV base p A S w' st all sure F va vs :=
  ⟨h.dk.below hb, h.ge, h.nA, h.nS, h.ne, (hb.block A (blk_lt h.bA)).trans h.bA, (hb.block S (blk_lt h.bS)).trans h.bS, fun f hf => (h.ra f hf).agree hb.size fun b hb' => hb.block b ((h.ra f hf).2 b hb').2.1, fun f hf => (h.rs f hf).agree hb.size fun b hb' => hb.block b ((h.rs f hf).2 b hb').2.1⟩

theorem XI.below (h : XI base p A S w st all sure) (hb : Below w.heap.size w w') : XI base p A S w' st all sure := by
  obtain ⟨F, va, vs, h⟩ := h
  exact ⟨F, va, vs, h.below hb⟩

/-- The disk alone was changed. -/
theorem XV.disk (h : XV base p A S w st all sure F va vs) (hbase : base ≤ w.heap.size) (k : PStep p F w w' st') : XI base p A S w' st' all sure := by
  obtain ⟨F', k1, k2, k3⟩ := k
  have nF : ∀ b, b < w.heap.size → ¬ F b → ¬ F' b := fun b hb hn hF => by
    rcases k3 b hF with h1 | h1
    · exact hn h1
    · omega
  have rw4 : ∀ (v : Value) (zs : List Int), Rw4 F A S w v zs → Rw4 F' A S w' v zs := fun v zs hr => ⟨hr.1.agree fun b hb => k2.block b (hr.2 b hb).2.1 (hr.2 b hb).1, fun b hb => ⟨nF b (hr.2 b hb).2.1 (hr.2 b hb).1, Nat.lt_of_lt_of_le (hr.2 b hb).2.1 k2.size, (hr.2 b hb).2.2⟩⟩
  exact ⟨F', va, vs, k1, fun g hg => (k3 g hg).elim (h.ge g) fun h1 => Nat.le_trans hbase h1, nF A (blk_lt h.bA) h.nA, nF S (blk_lt h.bS) h.nS, h.ne, (k2.block A (blk_lt h.bA) h.nA).trans h.bA, (k2.block S (blk_lt h.bS) h.nS).trans h.bS, fun f hf => rw4 _ _ (h.ra f hf), fun f hf => rw4 _ _ (h.rs f hf)⟩

theorem four_set (va : Nat → Value) (f : Nat) (hf : f < 4) (v : Value) : (#[va 0, va 1, va 2, va 3] : Array Value).setIfInBounds f v = #[sup va f v 0, sup va f v 1, sup va f v 2, sup va f v 3] := by
  rcases (show f = 0 ∨ f = 1 ∨ f = 2 ∨ f = 3 by omega) with rfl | rfl | rfl | rfl <;> simp [sup]

/-- One entry of the first table is another row now. -/
theorem XV.put (h : XV base p A S w st all sure F va vs) {f : Nat} (hf : f < 4) {v : Value} {zs : List Int} (hb : Below w.heap.size w w') (hv : Own .u8 5 w.heap.size w' v zs) : XI base p A S (w'.setCell ⟨A, f, none⟩ v) st (Dm.upd all f zs) sure := by
  have h' := h.below hb
  have hA : A < w.heap.size := blk_lt h.bA
  have hS : S < w.heap.size := blk_lt h.bS
  have ke : ∀ b, b ≠ A → (w'.setCell ⟨A, f, none⟩ v).heap[b]? = w'.heap[b]? := fun b hb => Below.heap_setCell _ _ _ _ hb
  have hsz : w'.heap.size ≤ (w'.setCell ⟨A, f, none⟩ v).heap.size := by simp [World.setCell]
  have r4 : ∀ (u : Value) (ys : List Int), Rw4 F A S w' u ys → Rw4 F A S (w'.setCell ⟨A, f, none⟩ v) u ys := fun u ys hr => hr.agree hsz fun b hb => ke b (hr.2 b hb).2.2.1
  have rv : Rw4 F A S w' v zs := ⟨hv.is, fun b hb => by
    have h1 := hv.block b hb
    exact ⟨fun hF => by have := h.dk.lt b hF; omega, h1.2, by omega, by omega⟩⟩
  refine ⟨F, sup va f v, vs, h'.dk.agree fun g hg => ke g fun e => h.nA (e ▸ hg), h.ge, h.nA, h.nS, h.ne, by rw [set_cells h'.bA, four_set va f hf v], (ke S (Ne.symm h.ne)).trans h'.bS, fun j hj => ?_, fun j hj => r4 _ _ (h'.rs j hj)⟩
  unfold sup Dm.upd
  by_cases e : j = f
  · rw [if_pos e, if_pos e]; exact r4 _ _ rv
  · rw [if_neg e, if_neg e]; exact r4 _ _ (h'.ra j hj)

/-- The second table is the first one now. -/
theorem XV.copy (h : XV base p A S w st all sure F va vs) : XI base p A S ((((w.setCell ⟨S, 0, none⟩ (va 0)).setCell ⟨S, 1, none⟩ (va 1)).setCell ⟨S, 2, none⟩ (va 2)).setCell ⟨S, 3, none⟩ (va 3)) st all all := by
  have b1 := set_cells h.bS 0 (va 0)
  have b2 := set_cells b1 1 (va 1)
  have b3 := set_cells b2 2 (va 2)
  have b4 := set_cells b3 3 (va 3)
  have ke : ∀ b, b ≠ S → ((((w.setCell ⟨S, 0, none⟩ (va 0)).setCell ⟨S, 1, none⟩ (va 1)).setCell ⟨S, 2, none⟩ (va 2)).setCell ⟨S, 3, none⟩ (va 3)).heap[b]? = w.heap[b]? := fun b hb => (Below.heap_setCell _ _ _ _ hb).trans ((Below.heap_setCell _ _ _ _ hb).trans ((Below.heap_setCell _ _ _ _ hb).trans (Below.heap_setCell _ _ _ _ hb)))
  have r4 : ∀ (u : Value) (ys : List Int), Rw4 F A S w u ys → Rw4 F A S ((((w.setCell ⟨S, 0, none⟩ (va 0)).setCell ⟨S, 1, none⟩ (va 1)).setCell ⟨S, 2, none⟩ (va 2)).setCell ⟨S, 3, none⟩ (va 3)) u ys := fun u ys hr => hr.agree (by simp [World.setCell]) fun b hb => ke b (hr.2 b hb).2.2.2
  exact ⟨F, va, va, h.dk.agree fun g hg => ke g fun e => h.nS (e ▸ hg), h.ge, h.nA, h.nS, h.ne, (ke A h.ne).trans h.bA, by rw [b4]; rfl, fun f hf => r4 _ _ (h.ra f hf), fun f hf => r4 _ _ (h.ra f hf)⟩
end

end Go.Proofs.Yteklbnonikccaaa
