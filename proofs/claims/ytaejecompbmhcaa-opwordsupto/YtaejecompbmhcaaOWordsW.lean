/- The walk of the law OpWords. -/
import Derived.Test.YtaejecompbmhcaaOlive
import Derived.Test.YtaejecompbmhcaaWs
namespace Go.Proofs.Ytaejecompbmhcaa
open Go.RowKit
set_option linter.unusedVariables false

set_option maxHeartbeats 1000000 in
theorem opWords_walk (s t : ByteArray) (w : World) (hs : s.size ≤ 1048576) (ht : t.size ≤ 1048576) :
    Calls Try.prog 6 #[.string s, .string t] w fun E w' => E = .returned (.bool true) ∧ Below w.heap.size w w' := by
  go_enter Try.func6, Try.ntmps6
  go_wp2_with fail
  refine (byts_any t _ (by omega)).mono ?_
  rintro E w1 ⟨x, e, rfl, hB, bel1⟩
  have HB := hide hB
  have sz1 := bel1.size
  clear hB
  go_wp2_with fail
  refine (bytsR_any t _ (by omega)).mono ?_
  rintro E w2 ⟨y, f, rfl, hR, bel2⟩
  obtain ⟨hxy, rfl⟩ := Wm.bres_one HB.out hR
  obtain rfl := ba_ext hxy
  have sz2 := bel2.size
  clear hxy HB hR
  go_wp2_with fail
  refine (lives_any _).mono ?_
  rintro E w3 ⟨rfl, bel3⟩
  have sz3 := bel3.size
  go_wp2_with fail
  refine (word_any s _ (by omega)).mono ?_
  rintro E w4 ⟨rfl, bel4⟩
  have sz4 := bel4.size
  go_wp2_with fail
  refine (wordR_any s _ (by omega)).mono ?_
  rintro E w5 ⟨rfl, bel5⟩
  generalize (⟨(Wm.wd s.data.toList).toArray⟩ : ByteArray) = z
  go_wp2
  go_ret
  exact ⟨rfl, (((bel1.trans (bel2.mono (by omega))).trans (bel3.mono (by omega))).trans (bel4.mono (by omega))).trans (bel5.mono (by omega))⟩

end Go.Proofs.Ytaejecompbmhcaa
