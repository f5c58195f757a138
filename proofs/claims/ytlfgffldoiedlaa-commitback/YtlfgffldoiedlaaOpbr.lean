/- The contracts of the document's Put, Append. -/
import Derived.Test.YtlfgffldoiedlaaOpar
import Derived.Test.YtlfgffldoiedlaaOpb
import Derived.Test.YtlfgffldoiedlaaRefone
namespace Go.Proofs.Ytlfgffldoiedlaa
open Go.RowKit
set_option linter.unusedVariables false

set_option maxHeartbeats 400000 in
theorem putR_any (vb : Value) (bs : List Int) (x : Int) (w : World) (hb : Is .u8 w vb bs) (hl : bs.length ≤ 140737488352900) (h0 : 0 ≤ x) (h1 : x < 9223372036854775808) :
    Calls Try.prog 41 #[vb, .int .i64 x] w fun e w' => ∃ v, e = .returned v ∧ Own .u8 5 w.heap.size w' v (bs ++ Vm.enc x.toNat) ∧ Below w.heap.size w w' := by
  go_enter Try.func41, Try.ntmps41
  go_wp2_with fail
  refine (appR_any _ bs x _ hb (by omega) (by omega) (by omega)).mono ?_
  rintro E w1 ⟨v1, rfl, own1, bel1⟩
  go_wp2
  go_ret
  exact ⟨_, rfl, own1, bel1⟩

end Go.Proofs.Ytlfgffldoiedlaa
