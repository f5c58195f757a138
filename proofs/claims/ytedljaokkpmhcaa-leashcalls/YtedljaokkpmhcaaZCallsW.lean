/- LeashCalls: the walk. -/
import Derived.Test.YtedljaokkpmhcaaZa
namespace Go.Proofs.Ytedljaokkpmhcaa
open Go.RowKit
set_option linter.unusedVariables false

set_option maxRecDepth 100000 in
set_option maxHeartbeats 4000000 in
theorem leashCalls_walk (e a m t : Int) (w : World) (he : (Lit.int .i64 e).wf = true) (ha : (Lit.int .i64 a).wf = true) (hm : (Lit.int .i64 m).wf = true) (ht : (Lit.int .i64 t).wf = true) :
    Calls Try.prog 4 #[.int .i64 e, .int .i64 a, .int .i64 m, .int .i64 t] w fun E w' => E = .returned (.bool true) ∧ Below w.heap.size w w' := by
  clear he ha hm ht
  go_enter Try.func4, Try.ntmps4
  go_wp2_with fail
  refine (lout_any e a w).mono ?_
  rintro E w2 ⟨rfl, rfl⟩
  go_wp2_with fail
  refine (loutR_any e a w).mono ?_
  rintro E w2 ⟨rfl, rfl⟩
  go_wp2_with fail
  refine (lacked_any e a t w).mono ?_
  rintro E w2 ⟨rfl, rfl⟩
  go_wp2_with fail
  refine (lackedR_any e a t w).mono ?_
  rintro E w2 ⟨rfl, rfl⟩
  go_wp2_with fail
  refine (lroom_any e a m w).mono ?_
  rintro E w2 ⟨rfl, rfl⟩
  go_wp2_with fail
  refine (lroomR_any e a m w).mono ?_
  rintro E w2 ⟨rfl, rfl⟩
  generalize Lea.oV e a = x1
  generalize Lea.oE e a = x2
  generalize Lea.kV e a t = x3
  generalize Lea.rV e a m = x4
  generalize Lea.rE e a m = x5
  go_wp2_with fail
  refine (llives_any w).mono ?_
  rintro E w2 ⟨rfl, rfl⟩
  go_wp2_with fail
  refine (lcheck_any m w).mono ?_
  rintro E w2 ⟨rfl, rfl⟩
  go_wp2_with fail
  refine (lcheckR_any m w).mono ?_
  rintro E w2 ⟨rfl, rfl⟩
  generalize Lea.ck m = x6
  go_wp2_with fail
  refine (ladmit_any e a m w).mono ?_
  rintro E w2 ⟨rfl, rfl⟩
  go_wp2_with fail
  refine (ladmitR_any e a m w).mono ?_
  rintro E w2 ⟨rfl, rfl⟩
  generalize Lea.ad e a m = x7
  go_wp2
  go_ret
  exact ⟨rfl, Below.refl _ _⟩

end Go.Proofs.Ytedljaokkpmhcaa
