/- The contract of the laws' own 'lives'. -/
import Derived.Test.YtaejecompbmhcaaOpb
import Derived.Test.YtaejecompbmhcaaWe
namespace Go.Proofs.Ytaejecompbmhcaa
open Go.RowKit
set_option linter.unusedVariables false

theorem ba_ext {s t : ByteArray} (h : s.data.toList = t.data.toList) : s = t := by
  obtain ⟨⟨a⟩⟩ := s
  obtain ⟨⟨b⟩⟩ := t
  simp at h
  rw [h]

set_option maxHeartbeats 400000 in
theorem lives_any (w : World) :
    Calls Try.prog 15 #[] w fun E w' => E = .returned (.bool true) ∧ Below w.heap.size w w' := by
  go_enter Try.func15, Try.ntmps15
  go_wp2_with fail
  refine (oapp_any _ [] true ⟨#[97]⟩ ⟨#[49]⟩ _ (Is.nil _ _) (by simp) (by simp [ByteArray.size]) (by simp [ByteArray.size])).mono ?_
  rintro E w1 ⟨v1, rfl, own1, bel1⟩
  have e1 : Om.chk true (⟨#[97]⟩ : ByteArray).data.toList (⟨#[49]⟩ : ByteArray).data.toList = 0 := by decide
  have e2 : Om.appd [] true (⟨#[97]⟩ : ByteArray).data.toList (⟨#[49]⟩ : ByteArray).data.toList = [1, 1, 97, 1, 49] := by decide +kernel
  rw [e1]
  rw [e2] at own1
  clear e1 e2
  have sz1 := bel1.size
  go_wp2_with fail
  refine (byts_any _ _ (by simp [ByteArray.size])).mono ?_
  rintro E w2 ⟨t, e, rfl, hB, bel2⟩
  obtain ⟨h1, rfl⟩ := Wm.bres_one hB (.inl ⟨rfl, by decide +kernel⟩ : Wm.BRes _ [97, 32, 98] 0)
  have ht : t = ⟨#[97, 32, 98]⟩ := ba_ext h1
  subst ht
  clear h1 hB
  have sz2 := bel2.size
  have own2 := own1.below bel2
  obtain ⟨w3, hw3, sz3, bel3, own3⟩ := own_step .u8 5 w2 #[.int .u8 1, .int .u8 1, .int .u8 97, .int .u8 1, .int .u8 49] 5 [1, 1, 97, 1, 49] rfl rfl (by simp [maxLen]) (bytes_wf (by decide))
  go_wp2_with fail
  refine (same_yes _ _ _ _ _ (own2.below bel3).is own3.is (by simp) rfl).mono ?_
  rintro E w4 ⟨rfl, bel4⟩
  go_wp2
  go_ret
  exact ⟨rfl, ((bel1.trans (bel2.mono (by omega))).trans (bel3.mono (by omega))).trans (bel4.mono (by omega))⟩

end Go.Proofs.Ytaejecompbmhcaa
