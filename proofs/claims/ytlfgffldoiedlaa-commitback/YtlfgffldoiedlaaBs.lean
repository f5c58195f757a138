/- The contract of the document's Shared. -/
import Derived.Test.YtlfgffldoiedlaaBa
namespace Go.Proofs.Ytlfgffldoiedlaa
open Go.RowKit
set_option linter.unusedVariables false

set_option maxHeartbeats 400000 in
theorem sharedR_quiet (a b : ByteArray) (w : World) (ha : a.size ≤ 140737488355328) (hb : b.size ≤ 140737488355328) :
    Calls Try.prog 65 #[.string a, .string b] w fun E w' => E = .returned (.int .i64 (Bm.com a.data.toList b.data.toList)) ∧ ∃ m, w' = w.drewN m := by
  have la : a.data.toList.length = a.size := (Lib.size_eq a).symm
  have lb : b.data.toList.length = b.size := (Lib.size_eq b).symm
  go_enter Try.func65, Try.ntmps65
  go_wp2
  go_loopw [5] (fun i wr => ∃ (k : Nat), k ≤ a.size ∧ k ≤ b.size ∧ i = .int .i64 k ∧ Hid (a.data.toList.take k = b.data.toList.take k) ∧ ∃ m, wr = w.drewN m) (fun i _ => a.size + b.size - (intOf i).toNat)
  case atStart => exact ⟨0, by omega, by omega, rfl, hide rfl, 0, rfl⟩
  case round =>
    obtain ⟨k, hka, hkb, rfl, HT, m, rfl⟩ := hrel
    by_cases hA : k < a.size
    · have hA' : (k : Int) < a.size := by omega
      by_cases hB : k < b.size
      · have hB' : (k : Int) < b.size := by omega
        obtain ⟨c, hc⟩ : ∃ c : UInt8, a[k] = c := ⟨_, rfl⟩
        obtain ⟨d, hd⟩ : ∃ c : UInt8, b[k] = c := ⟨_, rfl⟩
        have EA : Hid (a.data.toList[k]? = some c) := hide (by rw [List.getElem?_eq_getElem (by omega), ← hc]; rfl)
        have EB : Hid (b.data.toList[k]? = some d) := hide (by rw [List.getElem?_eq_getElem (by omega), ← hd]; rfl)
        by_cases hcd : c = d
        · have ht : ((c.toNat : Int) == (d.toNat : Int)) = true := by simp [hcd]
          have HK : Hid (a.data.toList.take (k + 1) = b.data.toList.take (k + 1)) := hide (by
            have h1 := EA.out
            have h2 := EB.out
            rw [List.take_add_one, List.take_add_one, HT.out, h1, h2, hcd])
          clear hcd
          go_wp2_with fail
          go_quiet (fail)
          go_wp2
          go_roundw
          case rel => exact ⟨k + 1, by omega, by omega, by go_num, HK, _, rfl⟩
          case measure => simp [intOf]; omega
        · have ht : ((c.toNat : Int) == (d.toNat : Int)) = false := by
            have : c.toNat ≠ d.toNat := fun h => hcd (UInt8.toNat_inj.1 h)
            simp; omega
          have HK : Hid (Bm.com a.data.toList b.data.toList = k) := hide (Bm.com_is _ _ k (by omega) (by omega) HT.out (.inr (.inr (by rw [EA.out, EB.out]; simpa using hcd))))
          clear hcd
          go_wp2_with fail
          go_quiet (fail)
          go_wp2
          go_ret
          exact ⟨ret_i64 (by rw [HK.out]), _, World.drewN_drewN _ _ _⟩
      · have hB' : ¬ (k : Int) < b.size := by omega
        have HK : Hid (Bm.com a.data.toList b.data.toList = k) := hide (Bm.com_is _ _ k (by omega) (by omega) HT.out (.inr (.inl (by omega))))
        go_wp2_with fail
        go_quiet (fail)
        go_wp2
        go_ret
        exact ⟨ret_i64 (by rw [HK.out]), _, World.drewN_drewN _ _ _⟩
    · have hA' : ¬ (k : Int) < a.size := by omega
      have HK : Hid (Bm.com a.data.toList b.data.toList = k) := hide (Bm.com_is _ _ k (by omega) (by omega) HT.out (.inl (by omega)))
      go_wp2_with fail
      go_quiet (fail)
      go_wp2
      go_ret
      exact ⟨ret_i64 (by rw [HK.out]), _, World.drewN_drewN _ _ _⟩

theorem sharedR_any (a b : ByteArray) (w : World) (ha : a.size ≤ 140737488355328) (hb : b.size ≤ 140737488355328) :
    Calls Try.prog 65 #[.string a, .string b] w fun E w' => E = .returned (.int .i64 (Bm.com a.data.toList b.data.toList)) ∧ Below w.heap.size w w' :=
  (sharedR_quiet a b w ha hb).mono (by rintro E w' ⟨rfl, m, rfl⟩; exact ⟨rfl, below_drewN (Below.refl _ _) m⟩)

end Go.Proofs.Ytlfgffldoiedlaa
