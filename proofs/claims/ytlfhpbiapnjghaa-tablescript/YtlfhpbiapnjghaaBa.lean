/- The contracts of batch's Check, Shared. -/
import Derived.Test.YtlfhpbiapnjghaaBk
namespace Go.Proofs.Ytlfhpbiapnjghaa
open Go.RowKit
set_option linter.unusedVariables false

theorem first_take {l : List Bm.Ov} {k : Nat} {o : Bm.Ov} (h : ∀ q ∈ l.take k, q.c = 0) (ho : l[k]? = some o) (hc : o.c = 0) : ∀ q ∈ l.take (k + 1), q.c = 0 := by
  obtain ⟨hk, rfl⟩ := List.getElem?_eq_some_iff.1 ho
  intro q hq
  rw [List.take_succ_eq_append_getElem hk] at hq
  rcases List.mem_append.1 hq with hq | hq
  · exact h q hq
  · rw [List.mem_singleton.1 hq]; exact hc

end Go.Proofs.Ytlfhpbiapnjghaa
