/- The contract of the document's Check. -/
import Derived.Test.YtklpbcdkgjoheaaOpa
namespace Go.Proofs.Ytklpbcdkgjoheaa
open Go.RowKit
set_option linter.unusedVariables false

set_option maxHeartbeats 400000 in
theorem checkR_any (p : Bool) (k v : ByteArray) (w : World) (hk : k.size ≤ 140737488351232) (hv : v.size ≤ 140737488351232) :
    Calls Try.prog 58 #[opv p k v] w fun E w' => E = .returned (.int .i64 (Om.chk p k.data.toList v.data.toList)) ∧ Below w.heap.size w w' := by
  unfold opv
  obtain ⟨c, hc⟩ : ∃ c, Om.chk p k.data.toList v.data.toList = c := ⟨_, rfl⟩
  rw [hc]
  have HC := hide hc
  clear hc
  cases p
  all_goals go_enter Try.func58, Try.ntmps58
  all_goals go_wp2
  all_goals go_ret
  all_goals refine ⟨ret_i64 ?_, (Below.refl _ _).alloc (Nat.le_refl _) _⟩
  all_goals rw [← HC.out, chk_size]
  all_goals clear HC
  all_goals generalize v.toList.isEmpty = q at *
  all_goals (cases q <;> simp_all <;> omega)

end Go.Proofs.Ytklpbcdkgjoheaa
