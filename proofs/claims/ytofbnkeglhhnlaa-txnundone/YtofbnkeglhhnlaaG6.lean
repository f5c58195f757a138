/- Texts of one layer, one behind the other. -/
import Derived.Test.YtofbnkeglhhnlaaG3
import Derived.Test.YtofbnkeglhhnlaaG2
import Derived.Test.YtofbnkeglhhnlaaG4
import Derived.Test.YtofbnkeglhhnlaaG5
/- The contract of the document's Check. -/
namespace Go.Proofs.Ytofbnkeglhhnlaa
open Go.RowKit
set_option linter.unusedVariables false

set_option maxHeartbeats 400000 in
theorem checkR_any (p : Bool) (k v : ByteArray) (w : World) (hk : k.size ≤ 140737488351232) (hv : v.size ≤ 140737488351232) :
    Calls Try.prog 42 #[opv p k v] w fun E w' => E = .returned (.int .i64 (Om.chk p k.data.toList v.data.toList)) ∧ Below w.heap.size w w' := by
  unfold opv
  obtain ⟨c, hc⟩ : ∃ c, Om.chk p k.data.toList v.data.toList = c := ⟨_, rfl⟩
  rw [hc]
  have HC := hide hc
  clear hc
  cases p
  all_goals go_enter Try.func42, Try.ntmps42
  all_goals go_wp2
  all_goals go_ret
  all_goals refine ⟨ret_i64 ?_, (Below.refl _ _).alloc (Nat.le_refl _) _⟩
  all_goals rw [← HC.out, chk_size]
  all_goals clear HC
  all_goals generalize v.toList.isEmpty = q at *
  all_goals (cases q <;> simp_all <;> omega)

end Go.Proofs.Ytofbnkeglhhnlaa

/- The contract of op's Append. -/
namespace Go.Proofs.Ytofbnkeglhhnlaa
open Go.RowKit
set_option linter.unusedVariables false

theorem ret2 {v : Value} {a b : Int} (h : a = b) : Ending.returned (.tuple #[v, .int .i64 a]) = .returned (.tuple #[v, .int .i64 b]) := by rw [h]

end Go.Proofs.Ytofbnkeglhhnlaa

/- The contracts of the document's Append, Read, Small. -/
namespace Go.Proofs.Ytofbnkeglhhnlaa
open Go.RowKit
set_option linter.unusedVariables false

end Go.Proofs.Ytofbnkeglhhnlaa

/- The contracts of the document's Put, Append. -/
namespace Go.Proofs.Ytofbnkeglhhnlaa
open Go.RowKit
set_option linter.unusedVariables false

end Go.Proofs.Ytofbnkeglhhnlaa

/- The contracts of the document's Check and Append of a batch. -/
namespace Go.Proofs.Ytofbnkeglhhnlaa
open Go.RowKit
set_option linter.unusedVariables false

end Go.Proofs.Ytofbnkeglhhnlaa
