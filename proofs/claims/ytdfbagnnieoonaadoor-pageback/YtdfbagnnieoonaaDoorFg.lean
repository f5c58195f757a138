/- A first part of a row of lists. -/
import Derived.Test.YtdfbagnnieoonaaDoorFe
namespace Go.Proofs.YtdfbagnnieoonaaDoor
open Go.RowKit
set_option linter.unusedVariables false

theorem Tryd.elemBB : Tryd.prog.underlying 40 = some (.slice (Tryd.prog.elem 40)) := by kernel_rfl
theorem Tryd.sizeBB (wx : World) : (sizeOf (Tryd.prog.elem 40)).run Tryd.prog wx = .ok 1 wx := by kernel_rfl

/-- 'v[:p]'. -/
theorem IsBB.slice_h {w : World} {v : Value} {r : List Bw} (h : IsBB w v r) (p : Nat) (hp : p ≤ r.length) :
    ∃ vs, (∀ wx, (Instr.slice 40 v none (some (.int .i64 p)) none).run Tryd.prog wx = .ok vs wx) ∧ IsBB w vs (r.take p) := by
  obtain ⟨h, hr⟩ := h
  obtain ⟨ao, cap, rfl, hcap, hm⟩ := h.shape
  refine ⟨.slice ao p cap, fun wx => ?_, ?_, fun a ha => hr a (List.mem_of_mem_take ha)⟩
  · rw [run_slice_h wx _ ao r.length cap Tryd.elemBB .i64 _ (by omega) (by omega), Tryd.sizeBB]
    simp only [Result.andThen, sliced]
    cases ao <;> simp [Addr.add]
  · cases ao with
    | none =>
      rcases h with ⟨hv, e⟩ | ⟨ad, cap', hv, _⟩
      · subst e
        simp at hp hv
        subst hp hv
        exact RowG.nil _ _
      · simp at hv
    | some ad =>
      have hl : (r.take p).length = p := by rw [List.length_take]; omega
      rcases h with ⟨hv, _⟩ | ⟨ad', cap', hv, h1, h2, hc⟩
      · simp at hv
      · simp at hv
        obtain ⟨rfl, rfl⟩ := hv
        refine .inr ⟨ad, cap, by rw [hl], by omega, h2, fun j u hj => hc j u ?_⟩
        rw [gcells_take bwc_len, List.getElem?_take] at hj
        split at hj
        · exact hj
        · simp at hj

theorem lsts_take (r : List Bw) (p : Nat) : lsts (r.take p) = (lsts r).take p := by simp [lsts, List.map_take]

theorem sc_lens {bs : List Int} {r : List Bw} (h : Fm.Sc bs (lsts r)) : ∀ a ∈ r, a.l.length ≤ 131072 := fun a ha => h.1 _ (List.mem_map_of_mem ha)

theorem sc_gle {bs : List Int} {r : List Bw} (h : Fm.Sc bs (lsts r)) : (Fm.cat (lsts r)).length ≤ bs.length ∧ r.length ≤ (Fm.cat (lsts r)).length := by
  have := Fm.cat_len (lsts r)
  rw [lsts_len] at this
  exact ⟨h.2.1.length_le, this⟩

end Go.Proofs.YtdfbagnnieoonaaDoor
