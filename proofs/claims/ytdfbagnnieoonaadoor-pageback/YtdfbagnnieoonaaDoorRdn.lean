/- The contract of the document's reader's Done. -/
import Derived.Test.YtdfbagnnieoonaaDoorRdr
namespace Go.Proofs.YtdfbagnnieoonaaDoor
open Go.RowKit
set_option linter.unusedVariables false

set_option maxHeartbeats 400000 in
theorem rdone_any (w0 w : World) (g : Nat) (vb : Value) (bs : List Int) (a : Nat) (bad : Bool) (h : Rdr w0 w g vb bs a bad) :
    Calls Tryd.prog 37 #[.pointer (some ⟨g, 0, none⟩)] w fun E w' => E = .returned (.bool (!bad && decide (a = bs.length))) ∧ ∃ m, w' = w.drewN m := by
  have c0 := h.cell0
  have c1 := h.cell1
  have c2 := h.cell2
  obtain ⟨ao, cap, rfl, _, _⟩ := h.is.shape
  clear h
  go_enter Tryd.func37, Tryd.ntmps37
  cases bad
  · by_cases he : a = bs.length
    · have he' : ((a : Int) == (bs.length : Int)) = true := by simp [he]
      have hd : (!false && decide (a = bs.length)) = true := by simp [he]
      rw [hd]
      clear he hd
      go_wp2_with fail
      go_quiet (fail)
      go_wp2
      go_ret
      exact ⟨rfl, _, rfl⟩
    · have he' : ((a : Int) == (bs.length : Int)) = false := by simp; omega
      have hd : (!false && decide (a = bs.length)) = false := by simp [he]
      rw [hd]
      clear he hd
      go_wp2_with fail
      go_quiet (fail)
      go_wp2
      go_ret
      exact ⟨rfl, _, rfl⟩
  · rw [Bool.not_true, Bool.false_and]
    go_wp2_with fail
    go_quiet (fail)
    go_wp2
    go_ret
    exact ⟨rfl, _, rfl⟩

end Go.Proofs.YtdfbagnnieoonaaDoor
