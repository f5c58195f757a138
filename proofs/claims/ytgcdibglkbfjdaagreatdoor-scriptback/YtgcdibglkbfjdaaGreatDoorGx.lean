/- Rows of an own kind: their form, a place in them. No program. -/
import Derived.Test.YtgcdibglkbfjdaaGreatDoorGr
namespace Go.Proofs.YtgcdibglkbfjdaaGreatDoor
open Go.RowKit
set_option linter.unusedVariables false

theorem OwnG.rebase {α : Type} {f : α → List Value} {k e base base' : Nat} {w : World} {v : Value} {l : List α} (h : OwnG f k e base w v l) (hb : base' ≤ base) : OwnG f k e base' w v l := by
  refine ⟨h.1, ?_⟩
  rcases h.2 with h | ⟨g, cap, cur, hv, h1, r⟩
  · exact .inl h
  · exact .inr ⟨g, cap, cur, hv, by omega, r⟩

theorem OwnG.form {α : Type} {f : α → List Value} {k e base : Nat} {w : World} {v : Value} {l : List α} (h : OwnG f k e base w v l) (h0 : 0 < l.length) : ∃ g cap, v = .slice (some ⟨g, 0, none⟩) l.length cap ∧ l.length ≤ cap ∧ cap ≤ maxLen ∧ base ≤ g := by
  rcases h.2 with ⟨_, h1⟩ | ⟨g, cap, cur, hv, h1, _, h2, h3, _⟩
  · omega
  · exact ⟨g, cap, hv, h2, h3, h1⟩

theorem OwnG.at {α : Type} {f : α → List Value} {k e base : Nat} (hk : ∀ a, (f a).length = k) {w : World} {g n cap : Nat} {l : List α} (h : OwnG f k e base w (.slice (some ⟨g, 0, none⟩) n cap) l) {i : Nat} {a : α} (hi : l[i]? = some a) {j : Nat} {u : Value} (hj : (f a)[j]? = some u) : w.cell? ⟨g, i * k + j, none⟩ = some u := by
  have := World.ownsRow.cells h (show (Value.slice (some ⟨g, 0, none⟩) n cap).ownBlock = some g from rfl) (i * k + j) _ (gcells_at hk _ i a hi j _ hj)
  rwa [add_at, Nat.zero_add] at this

end Go.Proofs.YtgcdibglkbfjdaaGreatDoor
