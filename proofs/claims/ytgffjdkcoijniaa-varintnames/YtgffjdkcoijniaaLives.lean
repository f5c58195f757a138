/- The contract of the law's 'lives' (some of the chapter's examples): true. -/
import Derived.Test.YtgffjdkcoijniaaSmall
namespace Go.Proofs.Ytgffjdkcoijniaa
open Go.RowKit
set_option linter.unusedVariables false

/-- Numbers laid in a new block. -/
theorem Is.lit (k : IntKind) (w : World) (cs : Array Value) (e : TypeId) (zs : List Int) (n : Nat) (hn : zs.length = n) (h : cs.toList = zs.map (Value.int k)) (hm : n ≤ maxLen) (hw : ∀ z ∈ zs, (Lit.int k z).wf = true) :
    Is k (w.alloc (.cells cs e)) (.slice (some ⟨w.heap.size, 0, none⟩) n n) zs := by
  subst hn
  have ho := World.ownsRow_lit (base := w.heap.size) (e := e) (size := 1) w cs zs.length (Nat.le_refl _) hm (by have := congrArg List.length h; simpa using this)
  rw [h] at ho
  exact (show Own k e w.heap.size _ _ zs from ⟨hw, ho⟩).is

theorem enc300 : Vm.enc 300 = [172, 2] := by simp [Vm.enc]
theorem szmax : Vm.sz 18446744073709551615 = 10 := by simp [Vm.sz, Vm.enc]
theorem res300 : Vm.Res [172, 2, 9] 300 2 0 := .inl ⟨300, by omega, by rw [enc300]; exact ⟨[9], rfl⟩, rfl, by simp [Vm.sz, enc300], rfl⟩

theorem bytes_wf {zs : List Int} (h : zs.all (fun z => decide (0 ≤ z) && decide (z < 256)) = true) : ∀ z ∈ zs, (Lit.int .u8 z).wf = true := by
  intro z hz
  have := List.all_eq_true.1 h z hz
  simp at this
  exact wf_u8 this.1 this.2

set_option maxHeartbeats 400000 in
theorem lives_yes (w : World) : Calls Try.prog 13 #[] w fun e w' => e = .returned (.bool true) ∧ Below w.heap.size w w' := by
  have is1 := Is.lit .u8 w #[.int .u8 172, .int .u8 2, .int .u8 9] 5 [172, 2, 9] 3 rfl rfl (by simp [maxLen]) (bytes_wf (by decide))
  have bel1 := (Below.refl w.heap.size w).alloc (Nat.le_refl _) (.cells #[.int .u8 172, .int .u8 2, .int .u8 9] 5)
  generalize hW : w.alloc (.cells #[.int .u8 172, .int .u8 2, .int .u8 9] 5) = W at *
  go_enter Try.func13, Try.ntmps13
  go_wp2_with fail
  refine (read_any _ _ _ _ _ _ is1 (by simp) res300).mono ?_
  rintro E w1 ⟨rfl, rfl⟩
  clear hW is1
  have q1 : ((300 : Int) == 300) = true := by simp
  go_wp2_with fail
  refine (app_any _ [] 300 _ (Is.nil _ _) (by simp) (by omega) (by omega)).mono ?_
  rintro E w2 ⟨v2, rfl, own2, bel2⟩
  have own3 : Own .u8 5 W.heap.size w2 v2 [172, 2] := by have := own2; rw [show ((300 : Int).toNat) = 300 from rfl, enc300] at this; exact this
  have is3 := (own3.is.below ((Below.refl _ _).alloc (Nat.le_refl _) (.cells #[.int .u8 172, .int .u8 2] 5)))
  have is4 := Is.lit .u8 w2 #[.int .u8 172, .int .u8 2] 5 [172, 2] 2 rfl rfl (by simp [maxLen]) (bytes_wf (by decide))
  have bel3 := (bel1.trans (bel2.mono bel1.size)).alloc (by have := bel1.size; have := bel2.size; omega) (.cells #[.int .u8 172, .int .u8 2] 5)
  generalize hW2 : w2.alloc (.cells #[.int .u8 172, .int .u8 2] 5) = W2 at *
  clear own2 own3 bel2 bel1
  go_wp2_with fail
  refine (same_yes _ _ _ _ _ is3 is4 (by simp) rfl).mono ?_
  rintro E w3 ⟨rfl, bel4⟩
  have bel5 := bel3.trans (bel4.mono bel3.size)
  clear bel4 bel3 is3 is4 hW2
  go_wp2_with fail
  refine (size_any 18446744073709551615 _ (by omega) (by omega)).mono ?_
  rintro E w4 ⟨rfl, rfl⟩
  rw [show ((18446744073709551615 : Int).toNat) = 18446744073709551615 from rfl, szmax]
  go_wp2
  go_ret
  exact ⟨rfl, bel5⟩

end Go.Proofs.Ytgffjdkcoijniaa
