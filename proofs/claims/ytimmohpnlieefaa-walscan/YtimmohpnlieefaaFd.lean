/- frame.Scan. -/
import Derived.Test.YtimmohpnlieefaaA6
import Derived.Test.YtimmohpnlieefaaApart
import Derived.WalkMore
namespace Go.Proofs.Ytimmohpnlieefaa
open Go.RowKit
set_option linter.unusedVariables false

/-- The lists of a row. -/
def lsts (r : List Bw) : List (List Int) := r.map Bw.l

theorem lsts_len (r : List Bw) : (lsts r).length = r.length := List.length_map ..
theorem lsts_app (r : List Bw) (a : Bw) : lsts (r ++ [a]) = lsts r ++ [a.l] := by simp [lsts]

/-- Gathered so far. -/
def Got (bs : List Int) (r : List Bw) : Prop := (∀ a ∈ r, a.l.length ≤ 131072) ∧ Fm.cat (lsts r) <+: bs

theorem Got.nil (bs : List Int) : Got bs [] := ⟨by simp, by simp [lsts, Fm.cat]⟩

theorem Got.next {bs z : List Int} {r : List Bw} {n : Nat} {v : Value} (h : Got bs r) (hr : Fm.Rd (bs.drop (Fm.cat (lsts r)).length) z n 0) : Got bs (r ++ [⟨v, z⟩]) ∧ (Fm.cat (lsts (r ++ [⟨v, z⟩]))).length = (Fm.cat (lsts r)).length + n ∧ 1 ≤ n ∧ z.length ≤ 131072 := by
  rcases hr with ⟨_, h1, h2, h3⟩ | ⟨h0, _⟩
  · obtain ⟨g1, g2⟩ := Fm.sc_next h.2 h3
    have e : lsts (r ++ [⟨v, z⟩]) = lsts r ++ [z] := lsts_app r ⟨v, z⟩
    rw [e]
    have hz := Vm.sz_pos z.length
    refine ⟨⟨fun a ha => ?_, by rw [e]; exact g1⟩, by omega, by omega, h1⟩
    rcases List.mem_append.1 ha with ha | ha
    · exact h.1 a ha
    · simp at ha
      subst ha
      exact h1
  · cases h0

theorem Got.le {bs : List Int} {r : List Bw} (h : Got bs r) : (Fm.cat (lsts r)).length ≤ bs.length ∧ r.length ≤ (Fm.cat (lsts r)).length := by
  refine ⟨h.2.length_le, ?_⟩
  have := Fm.cat_len (lsts r)
  rw [lsts_len] at this
  exact this

theorem Got.done {bs z : List Int} {r : List Bw} {n : Nat} (h : Got bs r) (hr : Fm.Rd (bs.drop (Fm.cat (lsts r)).length) z n 5) : Fm.Sc bs (lsts r) := by
  rcases hr with ⟨h0, _⟩ | ⟨_, _, _, h3⟩
  · cases h0
  · refine ⟨fun q hq => ?_, h.2, h3⟩
    obtain ⟨a, ha, rfl⟩ := List.mem_map.1 hq
    exact h.1 a ha

end Go.Proofs.Ytimmohpnlieefaa
