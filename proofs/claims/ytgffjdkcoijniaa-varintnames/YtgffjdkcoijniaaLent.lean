/- The contracts of CopyBytes, LentBytes, KeptBytes and of the document's Append. -/
import Derived.Test.YtgffjdkcoijniaaApp
import Derived.Test.YtgffjdkcoijniaaSame
namespace Go.Proofs.Ytgffjdkcoijniaa
open Go.RowKit
set_option linter.unusedVariables false

set_option maxHeartbeats 400000 in
theorem copy_any (vb : Value) (bs : List Int) (w : World) (hb : Is .u8 w vb bs) (hl : bs.length ≤ 140737488355328) :
    Calls Try.prog 10 #[vb] w fun e w' => ∃ v, e = .returned v ∧ Own .u8 5 w.heap.size w' v bs ∧ Below w.heap.size w w' := by
  have own0 : Own .u8 5 w.heap.size (w.alloc (.cells #[] 5)) (.slice (some ⟨w.heap.size, 0, none⟩) 0 0) [] := ⟨by simp, World.ownsRow_made w #[] 0 (Nat.le_refl _) (by simp) (by simp)⟩
  have is0 := hb.below (w' := w.alloc (.cells #[] 5)) ((Below.refl _ _).alloc (Nat.le_refl _) _)
  go_enter Try.func10, Try.ntmps10
  go_wp2_with (at_builtin; refine wpList_append_is rfl (.tmp 3) (.tmp 4) 24 rfl .u8 5 w.heap.size 1 Try.underlying24 Try.info5 (by decide) _ [] rfl own0 _ bs rfl is0 (by simp; omega) (by simp) ?_)
  intro v1 w1 own1 bel1 _
  go_wp2
  go_ret
  exact ⟨_, rfl, own1, ((Below.refl _ _).alloc (Nat.le_refl _) _).trans bel1⟩

theorem lent_step (bs : List Int) (k : Nat) (h : k < 3) : (bs ++ ([201, 202, 203] : List Int).take k) ++ [201 + (k : Int)] = bs ++ ([201, 202, 203] : List Int).take (k + 1) := by
  have : k = 0 ∨ k = 1 ∨ k = 2 := by omega
  rcases this with rfl | rfl | rfl <;> simp

set_option maxHeartbeats 400000 in
theorem lent_any (vb : Value) (bs : List Int) (w : World) (hb : Is .u8 w vb bs) (hl : bs.length ≤ 140737488351232) :
    Calls Try.prog 14 #[vb] w fun e w' => ∃ v, e = .returned v ∧ Own .u8 5 w.heap.size w' v (bs ++ [201, 202, 203]) ∧ Below w.heap.size w w' := by
  go_enter Try.func14, Try.ntmps14
  go_wp2_with (go_at_call 10; refine (copy_any vb bs _ hb (by omega)).mono ?_; rintro e w0 ⟨v0, rfl, own0, bel0⟩)
  go_loopw [3, 4] (fun vv ii wr => ∃ (k : Nat), k ≤ 3 ∧ ii = .int .i64 k ∧ Own .u8 5 w.heap.size wr vv (bs ++ ([201, 202, 203] : List Int).take k) ∧ Below w.heap.size w wr) (fun _ ii _ => 3 - (intOf ii).toNat)
  case atStart => exact ⟨0, by omega, rfl, by simpa using own0, bel0⟩
  case round =>
    obtain ⟨k, hk, rfl, own, bel⟩ := hrel
    have szr := bel.size
    clear own0 bel0
    by_cases hlt : k < 3
    · have e1 : (k : Int) % 256 = k := by omega
      have e2 : (201 + (k : Int)) % 256 = 201 + k := by omega
      have W := wf_u8 (z := 201 + (k : Int)) (by omega) (by omega)
      have hll : (bs ++ ([201, 202, 203] : List Int).take k).length ≤ 140737488351242 := by simp; omega
      have HF2 := hide (lent_step bs k hlt)
      generalize bs ++ ([201, 202, 203] : List Int).take k = zs at *
      go_wp2_with (at_builtin; refine wpList_append_is rfl (.tmp 11) (.tmp 15) 24 rfl .u8 5 w.heap.size 1 Try.underlying24 Try.info5 (by decide) _ zs rfl (own.below ((Below.refl _ _).alloc (Nat.le_refl _) _)) _ [201 + (k : Int)] rfl (Is.one .u8 _ _ 5 W) (by simp; omega) (by simp; omega) ?_)
      intro v2 w2 own2 bel2 _
      rw [HF2.out] at own2
      have b3 := (bel.alloc szr _).trans bel2
      clear own e1 e2 bel2
      go_wp2
      go_roundw
      case rel => exact ⟨k + 1, by omega, by go_num, own2, b3⟩
      case measure => simp [intOf]; omega
    · have : k = 3 := by omega
      subst this
      go_wp2
      go_ret
      exact ⟨_, rfl, own, bel⟩

set_option maxHeartbeats 400000 in
theorem kept_yes (vf vb : Value) (bs fs : List Int) (w : World) (hf : Is .u8 w vf fs) (hb : Is .u8 w vb bs) (hl : bs.length ≤ 140737488351232) (he : fs = bs ++ [201, 202, 203]) :
    Calls Try.prog 18 #[vf, vb] w fun e w' => e = .returned (.bool true) ∧ Below w.heap.size w w' := by
  have HE := hide he
  clear he
  go_enter Try.func18, Try.ntmps18
  go_wp2_with (first | (go_at_call 14; refine (lent_any vb bs _ hb hl).mono ?_; rintro e w0 ⟨v0, rfl, own0, bel0⟩) | (go_at_call 8; refine (same_yes _ _ fs _ _ (hf.below bel0) own0.is (by rw [HE.out]; simp; omega) HE.out).mono ?_; rintro e w1 ⟨rfl, bel1⟩))
  go_ret
  exact ⟨rfl, bel0.trans (bel1.mono bel0.size)⟩

set_option maxHeartbeats 400000 in
theorem appR_any (vb : Value) (bs : List Int) (x : Int) (w : World) (hb : Is .u8 w vb bs) (hlb : bs.length ≤ 140737488351232) (h0 : 0 ≤ x) (h1 : x < 18446744073709551616) :
    Calls Try.prog 15 #[vb, .int .u64 x] w fun e w' => ∃ v, e = .returned v ∧ Own .u8 5 w.heap.size w' v (bs ++ Vm.enc x.toNat) ∧ Below w.heap.size w w' := by
  have hm := Vm.sz_le10 (x := x.toNat) (by omega)
  go_enter Try.func15, Try.ntmps15
  go_wp2_with (at_builtin; refine wpList_append_is rfl (.tmp 6) (.tmp 7) 24 rfl .u8 5 w.heap.size 1 Try.underlying24 Try.info5 (by decide) _ [] rfl (Own.nil _ _ _ _) _ bs rfl hb (by simp; omega) (Nat.le_refl _) ?_)
  intro v1 w1 own1 bel1 _
  go_wp2
  go_loopw [1, 5] (fun xx vv wr => ∃ (y : Int) (zs : List Int), 0 ≤ y ∧ y < 18446744073709551616 ∧ xx = .int .u64 y ∧ zs.length ≤ 140737488351242 ∧ Own .u8 5 w.heap.size wr vv zs ∧ zs ++ Vm.enc y.toNat = bs ++ Vm.enc x.toNat ∧ Below w.heap.size w wr) (fun xx _ _ => (intOf xx).toNat)
  case atStart => exact ⟨x, bs, h0, h1, rfl, by omega, own1, rfl, bel1⟩
  case round =>
    obtain ⟨y, zs, hy0, hy1, rfl, hl, own, heq, belr⟩ := hrel
    have HE := hide heq
    clear heq own1 bel1
    have szr := belr.size
    by_cases hy : 128 ≤ y
    · have e1 : y % 128 % 256 = y % 128 := by omega
      have e2 : (y % 128 + 128) % 256 = y % 128 + 128 := by omega
      have W := wf_u8 (z := y % 128 + 128) (by omega) (by omega)
      go_wp2_with (at_builtin; refine wpList_append_is rfl (.tmp 11) (.tmp 16) 24 rfl .u8 5 w.heap.size 1 Try.underlying24 Try.info5 (by decide) _ zs rfl (own.below ((Below.refl _ _).alloc (Nat.le_refl _) _)) _ [y % 128 + 128] rfl (Is.one .u8 _ _ 5 W) (by simp; omega) (by simp; omega) ?_)
      intro v2 w2 own2 bel2 _
      have HE2 : zs ++ [y % 128 + 128] ++ Vm.enc (y / 128).toNat = bs ++ Vm.enc x.toNat := by
        rw [← HE.out, Vm.enc_hi (x := y.toNat) (by omega)]
        have : (y / 128).toNat = y.toNat / 128 := by omega
        have : ((y.toNat % 128 + 128 : Nat) : Int) = y % 128 + 128 := by omega
        simp_all
      have HL : zs.length + 1 ≤ 140737488351242 := by
        have := congrArg List.length HE2
        have := Vm.sz_pos (y / 128).toNat
        simp at *
        unfold Vm.sz at *
        omega
      have HE3 := hide HE2
      have b3 := (belr.alloc szr _).trans bel2
      clear HE2 own e1 e2
      go_wp2
      go_roundw
      case rel => exact ⟨y / 128, zs ++ [y % 128 + 128], by omega, by omega, rfl, by simp; omega, own2, HE3.out, b3⟩
      case measure => simp [intOf]; omega
    · have e1 : y % 256 = y := by omega
      have W := wf_u8 (z := y) hy0 (by omega)
      go_wp2_with (at_builtin; refine wpList_append_is rfl (.tmp 20) (.tmp 23) 24 rfl .u8 5 w.heap.size 1 Try.underlying24 Try.info5 (by decide) _ zs rfl (own.below ((Below.refl _ _).alloc (Nat.le_refl _) _)) _ [y] rfl (Is.one .u8 _ _ 5 W) (by simp; omega) (by simp; omega) ?_)
      intro v2 w2 own2 bel2 _
      go_wp2
      go_ret
      refine ⟨_, rfl, ?_, (belr.alloc szr _).trans bel2⟩
      rw [← HE.out, Vm.enc_lo (x := y.toNat) (by omega), Int.toNat_of_nonneg hy0]
      exact own2

end Go.Proofs.Ytgffjdkcoijniaa
