/- The walk of BatchShared. -/
import Derived.Test.YtfgbdcncbhilfaaBl
import Derived.Test.YtfgbdcncbhilfaaBs
namespace Go.Proofs.Ytfgbdcncbhilfaa
open Go.RowKit
set_option linter.unusedVariables false

set_option maxHeartbeats 1000000 in
theorem batchShared_walk (a b : ByteArray) (vl : Value) (l : List Bm.Ov) (vm : Value) (m : List Bm.Ov) (w : World) (ha : a.size ≤ 140737488351232) (hb : b.size ≤ 140737488351232) (hl : IsO w vl l) (hfl : FitO l) (hll : l.length * 40 ≤ 140737488351232) (hm : IsO w vm m) (hfm : FitO m) (hlm : m.length * 40 ≤ 140737488351232) :
    Calls Try.prog 6 #[.string a, .string b, vl, vm] w fun e w' => e = .returned (.bool true) ∧ Below w.heap.size w w' := by
  go_enter Try.func6, Try.ntmps6
  go_wp2_with fail
  refine (lives_any _).mono ?_
  rintro E w1 ⟨rfl, bel1⟩
  go_wp2_with fail
  refine (shared_any a b _ (by omega) (by omega)).mono ?_
  rintro E w2 ⟨rfl, bel2⟩
  go_wp2_with fail
  refine (sharedR_any a b _ (by omega) (by omega)).mono ?_
  rintro E w3 ⟨rfl, bel3⟩
  have bel03 : Below w.heap.size w w3 := (bel1.trans (bel2.mono bel1.size)).trans (bel3.mono (Nat.le_trans bel1.size bel2.size))
  clear bel1 bel2 bel3
  have il := hl.below bel03
  have im := hm.below bel03
  go_wp2_with fail
  refine (bsame_any _ _ l m _ il im (by omega) (by omega)).mono ?_
  rintro E w4 ⟨rfl, bel4⟩
  have il4 := il.below bel4
  have im4 := im.below bel4
  have bel04 := bel03.trans (bel4.mono bel03.size)
  clear il im bel4 bel03
  go_wp2_with fail
  refine (sameR_any _ _ l m _ il4 im4 (by omega) (by omega)).mono ?_
  rintro E w5 ⟨rfl, bel5⟩
  have il5 := il4.below bel5
  have bel05 := bel04.trans (bel5.mono bel04.size)
  clear il4 im4 bel5 bel04
  go_wp2_with fail
  refine (bsame_any _ _ l l _ il5 il5 (by omega) (by omega)).mono ?_
  rintro E w6 ⟨rfl, bel6⟩
  rw [Bm.sameL_self]
  have bel06 := bel05.trans (bel6.mono bel05.size)
  go_wp2
  go_ret
  exact ⟨rfl, bel06⟩

end Go.Proofs.Ytfgbdcncbhilfaa
