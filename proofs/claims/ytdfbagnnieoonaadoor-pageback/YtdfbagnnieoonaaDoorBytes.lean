/- The contracts of the byte functions of the laws' kit. -/
import Derived.Test.YtdfbagnnieoonaaDoorProg
import Derived.Test.YtdfbagnnieoonaaDoorBits
import Derived.Deep.QuietTactic
import Derived.BigQuiet
import Derived.Deep.RegionWith
namespace Go.Proofs.YtdfbagnnieoonaaDoor
open Go.RowKit
set_option linter.unusedVariables false

theorem Tryd.info5 : (Tryd.prog.info? 5).map (fun i => (i.zero, i.size, i.bytes)) = some (some (.int .u8 0), 1, 1) := by kernel_rfl



set_option maxHeartbeats 400000 in
theorem same_quiet (va vb : Value) (xs ys : List Int) (w : World) (ha : Is .u8 w va xs) (hb : Is .u8 w vb ys) (hl : xs.length ≤ 150000000000000) (hl' : ys.length ≤ 150000000000000) :
    Calls Tryd.prog 18 #[va, vb] w fun e w' => e = .returned (.bool (decide (xs = ys))) ∧ ∃ m, w' = w.drewN m := by
  by_cases hne : xs.length = ys.length
  · by_cases hz : 0 < xs.length
    · obtain ⟨b1, o1, c1, rfl, _, _, hB1, hc1⟩ := ha.full hz
      obtain ⟨b2, o2, c2, rfl, _, _, hB2, hc2⟩ := hb.full (by omega)
      have hlen : (xs.length : Int) = ys.length := by omega
      have ht : ((xs.length : Int) != (ys.length : Int)) = false := by simp; omega
      have HL := hide hne
      clear hne ha hb hlen
      generalize hn : xs.length = n at *
      generalize hm : ys.length = m at *
      have HN := hide hn
      have HM := hide hm
      clear hn hm
      go_enter Tryd.func18, Tryd.ntmps18
      go_wp2
      go_loopw [5] (fun i wr => ∃ (k : Nat), k ≤ n ∧ i = .int .i64 k ∧ xs.take k = ys.take k ∧ ∃ m, wr = w.drewN m) (fun i _ => n - (intOf i).toNat)
      case atStart => exact ⟨0, by omega, rfl, rfl, 0, rfl⟩
      case round =>
        obtain ⟨k, hk, rfl, htk, mm, rfl⟩ := hrel
        have HT := hide htk
        clear htk
        by_cases hlt : k < n
        · have g1 := hc1 k hlt
          have g2 := hc2 k (by rw [← HL.out]; exact hlt)
          have hlt' : (k : Int) < n := by omega
          have hlt2 : (k : Int) < m := by have := HL.out; omega
          go_wp2
          go_quiet (fail)
          go_wp2
          · have hq : (xs[k]?.getD 0 != ys[k]?.getD 0) = true := by assumption
            go_ret
            refine ⟨?_, _, World.drewN_drewN _ _ _⟩
            have : xs ≠ ys := by intro h; subst h; simp at hq
            simp [this]
          · have hq : (xs[k]?.getD 0 != ys[k]?.getD 0) = false := by assumption
            have hx : k < xs.length := by rw [HN.out]; exact hlt
            have hy : k < ys.length := by rw [HM.out, ← HL.out]; exact hlt
            have hq2 : xs[k] = ys[k] := by simpa [hx, hy] using hq
            go_roundw
            case rel => exact ⟨k + 1, by omega, by go_num, take_next HT.out hx hy hq2, _, rfl⟩
            case measure => simp [intOf]; omega
        · go_wp2
          go_ret
          refine ⟨?_, mm, rfl⟩
          have h1 := HT.out
          rw [List.take_of_length_le (by have := HN.out; omega), List.take_of_length_le (by have := HN.out; have := HM.out; have := HL.out; omega)] at h1
          simp [h1]
    · have hx : xs = [] := List.eq_nil_of_length_eq_zero (by omega)
      have hy : ys = [] := List.eq_nil_of_length_eq_zero (by omega)
      subst hx hy
      obtain ⟨a1, c1, rfl⟩ := ha.bare
      obtain ⟨a2, c2, rfl⟩ := hb.bare
      clear hl hl' hne hz ha hb
      go_enter Tryd.func18, Tryd.ntmps18
      go_wp2
      refine wp_loop_rounds 1 ?_
      rw [rounds_succ]
      go_wp2
      go_ret
      exact ⟨by simp, 0, rfl⟩
  · obtain ⟨a1, c1, rfl, _, _⟩ := ha.shape
    obtain ⟨a2, c2, rfl, _, _⟩ := hb.shape
    have ht : ((xs.length : Int) != (ys.length : Int)) = true := by simp; omega
    have hxy : xs ≠ ys := by intro h; subst h; exact hne rfl
    have HX := hide hxy
    clear hne hxy
    go_enter Tryd.func18, Tryd.ntmps18
    go_wp2
    go_ret
    exact ⟨by simp [HX.out], 0, rfl⟩

theorem same_any (va vb : Value) (xs ys : List Int) (w : World) (ha : Is .u8 w va xs) (hb : Is .u8 w vb ys) (hl : xs.length ≤ 150000000000000) (hl' : ys.length ≤ 150000000000000) :
    Calls Tryd.prog 18 #[va, vb] w fun e w' => e = .returned (.bool (decide (xs = ys))) ∧ Below w.heap.size w w' := by
  refine (same_quiet va vb xs ys w ha hb hl hl').mono ?_
  rintro e w' ⟨rfl, m, rfl⟩
  exact ⟨rfl, below_drewN (Below.refl _ _) _⟩

theorem same_yes (va vb : Value) (xs ys : List Int) (w : World) (ha : Is .u8 w va xs) (hb : Is .u8 w vb ys) (hl : xs.length ≤ 150000000000000) (he : xs = ys) :
    Calls Tryd.prog 18 #[va, vb] w fun e w' => e = .returned (.bool true) ∧ Below w.heap.size w w' := by
  subst he
  refine (same_any va vb xs xs w ha hb hl hl).mono ?_
  rintro e w' ⟨rfl, hb⟩
  exact ⟨by simp, hb⟩

theorem same_bool (va vb : Value) (xs ys : List Int) (r : Bool) (w : World) (ha : Is .u8 w va xs) (hb : Is .u8 w vb ys) (hl : xs.length ≤ 150000000000000) (hl' : ys.length ≤ 150000000000000) (hr : decide (xs = ys) = r) :
    Calls Tryd.prog 18 #[va, vb] w fun e w' => e = .returned (.bool r) ∧ ∃ m, w' = w.drewN m := by
  subst hr
  exact same_quiet va vb xs ys w ha hb hl hl'

set_option maxHeartbeats 400000 in
theorem copy_any (vb : Value) (bs : List Int) (w : World) (hb : Is .u8 w vb bs) (hl : bs.length ≤ 150000000000000) :
    Calls Tryd.prog 34 #[vb] w fun e w' => ∃ v, e = .returned v ∧ Own .u8 5 w.heap.size w' v bs ∧ Below w.heap.size w w' := by
  have own0 : Own .u8 5 w.heap.size (w.alloc (.cells #[] 5)) (.slice (some ⟨w.heap.size, 0, none⟩) 0 0) [] := ⟨by simp, World.ownsRow_made w #[] 0 (Nat.le_refl _) (by simp) (by simp)⟩
  have is0 := hb.below (w' := w.alloc (.cells #[] 5)) ((Below.refl _ _).alloc (Nat.le_refl _) _)
  go_enter Tryd.func34, Tryd.ntmps34
  go_wp2_with (at_builtin; refine wpList_append_is rfl (.tmp 3) (.tmp 4) 31 rfl .u8 5 w.heap.size 1 Tryd.underlying31 Tryd.info5 (by decide) _ [] rfl own0 _ bs rfl is0 (by simp; omega) (by simp) ?_)
  intro v1 w1 own1 bel1 _
  go_wp2
  go_ret
  exact ⟨_, rfl, own1, ((Below.refl _ _).alloc (Nat.le_refl _) _).trans bel1⟩

theorem lent_step (bs : List Int) (k : Nat) (h : k < 3) : (bs ++ ([201, 202, 203] : List Int).take k) ++ [201 + (k : Int)] = bs ++ ([201, 202, 203] : List Int).take (k + 1) := by
  have : k = 0 ∨ k = 1 ∨ k = 2 := by omega
  rcases this with rfl | rfl | rfl <;> simp

set_option maxHeartbeats 400000 in
theorem lent_any (vb : Value) (bs : List Int) (w : World) (hb : Is .u8 w vb bs) (hl : bs.length ≤ 140737488351232) :
    Calls Tryd.prog 20 #[vb] w fun e w' => ∃ v, e = .returned v ∧ Own .u8 5 w.heap.size w' v (bs ++ [201, 202, 203]) ∧ Below w.heap.size w w' := by
  go_enter Tryd.func20, Tryd.ntmps20
  go_wp2_with (go_at_call 34; refine (copy_any vb bs _ hb (by omega)).mono ?_; rintro e w0 ⟨v0, rfl, own0, bel0⟩)
  go_loopw [3, 4] (fun vv ii wr => ∃ (k : Nat), k ≤ 3 ∧ ii = .int .i64 k ∧ Own .u8 5 w.heap.size wr vv (bs ++ ([201, 202, 203] : List Int).take k) ∧ Below w.heap.size w wr) (fun _ ii _ => 3 - (intOf ii).toNat)
  case atStart => exact ⟨0, by omega, rfl, by simpa using own0, bel0⟩
  case round =>
    obtain ⟨k, hk, rfl, own, bel⟩ := hrel
    have szr := bel.size
    clear own0 bel0
    by_cases hlt : k < 3
    · have e1 : (k : Int) % 256 = k := by omega
      have e2 : (201 + (k : Int)) % 256 = 201 + k := by omega
      have W := wf_u8 (z := 201 + (k : Int)) (by omega) (by omega)
      have hll : (bs ++ ([201, 202, 203] : List Int).take k).length ≤ 140737488351242 := by simp; omega
      have HF2 := hide (lent_step bs k hlt)
      generalize bs ++ ([201, 202, 203] : List Int).take k = zs at *
      go_wp2_with (at_builtin; refine wpList_append_is rfl (.tmp 11) (.tmp 15) 31 rfl .u8 5 w.heap.size 1 Tryd.underlying31 Tryd.info5 (by decide) _ zs rfl (own.below ((Below.refl _ _).alloc (Nat.le_refl _) _)) _ [201 + (k : Int)] rfl (Is.one .u8 _ _ 5 W) (by simp; omega) (by simp; omega) ?_)
      intro v2 w2 own2 bel2 _
      rw [HF2.out] at own2
      have b3 := (bel.alloc szr _).trans bel2
      clear own e1 e2 bel2
      go_wp2
      go_roundw
      case rel => exact ⟨k + 1, by omega, by go_num, own2, b3⟩
      case measure => simp [intOf]; omega
    · have : k = 3 := by omega
      subst this
      go_wp2
      go_ret
      exact ⟨_, rfl, own, bel⟩

set_option maxHeartbeats 400000 in
theorem kept_yes (vf vb : Value) (bs fs : List Int) (w : World) (hf : Is .u8 w vf fs) (hb : Is .u8 w vb bs) (hl : bs.length ≤ 140737488351232) (he : fs = bs ++ [201, 202, 203]) :
    Calls Tryd.prog 23 #[vf, vb] w fun e w' => e = .returned (.bool true) ∧ Below w.heap.size w w' := by
  have HE := hide he
  clear he
  go_enter Tryd.func23, Tryd.ntmps23
  go_wp2_with (first | (go_at_call 20; refine (lent_any vb bs _ hb hl).mono ?_; rintro e w0 ⟨v0, rfl, own0, bel0⟩) | (go_at_call 18; refine (same_yes _ _ fs _ _ (hf.below bel0) own0.is (by rw [HE.out]; simp; omega) HE.out).mono ?_; rintro e w1 ⟨rfl, bel1⟩))
  go_ret
  exact ⟨rfl, bel0.trans (bel1.mono bel0.size)⟩

end Go.Proofs.YtdfbagnnieoonaaDoor
