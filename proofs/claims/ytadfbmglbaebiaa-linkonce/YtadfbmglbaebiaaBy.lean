/- Bytes of an object, in blocks of its own. -/
import Derived.Test.YtadfbmglbaebiaaOb
namespace Go.Proofs.Ytadfbmglbaebiaa
open Go.RowKit
set_option linter.unusedVariables false

/-- Bytes of an object: they lie in the blocks of F, in a block of bytes. -/
def Byt (F : Nat → Prop) (w : World) (v : Value) (zs : List Int) : Prop := Is .u8 w v zs ∧ ∀ b, v.ownBlock = some b → F b ∧ ∃ cs fr, w.heap[b]? = some (.cells cs 5 fr)

theorem Byt.nil (F : Nat → Prop) (w : World) : Byt F w (.slice none 0 0) [] := ⟨Is.nil _ _, fun b hb => by simp [Value.ownBlock] at hb⟩

theorem Byt.agree {F : Nat → Prop} {w w' : World} {v : Value} {zs : List Int} (h : Byt F w v zs) (ha : ∀ b, v.ownBlock = some b → w'.heap[b]? = w.heap[b]?) : Byt F w' v zs :=
  ⟨h.1.agree ha, fun b hb => ⟨(h.2 b hb).1, by obtain ⟨_, cs, fr, hc⟩ := h.2 b hb; exact ⟨cs, fr, (ha b hb).trans hc⟩⟩⟩

theorem Byt.mono {F G : Nat → Prop} {w : World} {v : Value} {zs : List Int} (h : Byt F w v zs) (hs : ∀ g, F g → G g) : Byt G w v zs := ⟨h.1, fun b hb => ⟨hs b (h.2 b hb).1, (h.2 b hb).2⟩⟩

theorem Byt.ne {F : Nat → Prop} {w : World} {v : Value} {zs : List Int} (h : Byt F w v zs) {p : Nat} {cs : Array Value} {t : TypeId} {fr : Nat × Nat} (hp : w.heap[p]? = some (.cells cs t fr)) (ht : t ≠ 5) : ∀ b, v.ownBlock = some b → b ≠ p := by
  intro b hb e
  obtain ⟨_, cs', fr', hc⟩ := h.2 b hb
  rw [e, hp] at hc
  simp at hc
  exact ht hc.2.1

theorem Byt.of_own {F : Nat → Prop} {base : Nat} {w : World} {v : Value} {zs : List Int} (h : Own .u8 5 base w v zs) (hF : ∀ b, base ≤ b → b < w.heap.size → F b) : Byt F w v zs := by
  refine ⟨h.is, fun b hb => ⟨hF b (h.block b hb).1 (h.block b hb).2, ?_⟩⟩
  rcases h.2.2 with ⟨rfl, _⟩ | ⟨g, cap, cur, rfl, _, hh, _⟩
  · simp [Value.ownBlock] at hb
  · simp [Value.ownBlock] at hb
    subst hb
    exact ⟨_, _, hh⟩

end Go.Proofs.Ytadfbmglbaebiaa
