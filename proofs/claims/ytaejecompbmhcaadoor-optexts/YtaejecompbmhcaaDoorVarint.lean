/- The contracts of varint Size, Append, Read, Small. -/
import Derived.Test.YtaejecompbmhcaaDoorBytes
import Derived.Test.YtaejecompbmhcaaDoorMath
namespace Go.Proofs.YtaejecompbmhcaaDoor
open Go.RowKit
set_option linter.unusedVariables false

theorem size_done {y : Int} {n m : Nat} (h0 : 0 ≤ y) (hs : Vm.sz y.toNat + n = m + 1) (h : (y / 128 == 0) = true) : (n : Int) = m := by
  have h := beq_iff_eq.1 h
  have := Vm.sz_lo (x := y.toNat) (by omega)
  omega

theorem size_next {y : Int} {n m : Nat} (h0 : 0 ≤ y) (hs : Vm.sz y.toNat + n = m + 1) (hm : m ≤ 10) (h : (y / 128 == 0) = false) :
    Vm.sz (y / 128).toNat + (n + 1) = m + 1 ∧ n + 1 ≤ 10 ∧ (y / 128).toNat < y.toNat := by
  have h := beq_eq_false_iff_ne.1 h
  have := Vm.sz_hi (x := y.toNat) (by omega)
  have e : (y / 128).toNat = y.toNat / 128 := by omega
  have := Vm.sz_pos (y / 128).toNat
  rw [e] at *
  omega

set_option maxHeartbeats 400000 in
theorem size_any (x : Int) (w : World) (h0 : 0 ≤ x) (h1 : x < 18446744073709551616) :
    Calls Tryd.prog 32 #[.int .u64 x] w fun e w' => e = .returned (.int .i64 (Vm.sz x.toNat)) ∧ w = w' := by
  have hm := Vm.sz_le10 (x := x.toNat) (by omega)
  go_enter Tryd.func32, Tryd.ntmps32
  go_wp2
  go_loop [0, 3] (fun xx nn => ∃ (y : Int) (n : Nat), 0 ≤ y ∧ y < 18446744073709551616 ∧ 1 ≤ n ∧ n ≤ 10 ∧ xx = .int .u64 y ∧ nn = .int .i64 n ∧ Vm.sz y.toNat + n = Vm.sz x.toNat + 1) (fun xx _ => (intOf xx).toNat)
  case atStart => exact ⟨x, 1, h0, h1, by omega, by omega, rfl, rfl, rfl⟩
  case round =>
    obtain ⟨y, n, hy0, hy1, hn0, hn1, rfl, rfl, hs⟩ := hrel
    have HS : Hid (Vm.sz y.toNat + n = Vm.sz x.toNat + 1) := hs
    clear hs
    go_wp2
    · have hb : (y / 128 == 0) = true := by assumption
      go_ret
      exact ⟨ret_i64 (size_done hy0 HS.out hb), rfl⟩
    · have hb : (y / 128 == 0) = false := by assumption
      have R := size_next hy0 HS.out hm hb
      go_round
      case rel => exact ⟨y / 128, n + 1, by omega, by omega, by omega, R.2.1, rfl, by go_num, R.1⟩
      case measure => simp [intOf]; omega

set_option maxHeartbeats 400000 in
theorem app_any (vb : Value) (bs : List Int) (x : Int) (w : World) (hb : Is .u8 w vb bs) (hlb : bs.length ≤ 140737488351232) (h0 : 0 ≤ x) (h1 : x < 18446744073709551616) :
    Calls Tryd.prog 25 #[vb, .int .u64 x] w fun e w' => ∃ v, e = .returned v ∧ Own .u8 5 w.heap.size w' v (bs ++ Vm.enc x.toNat) ∧ Below w.heap.size w w' := by
  have hm := Vm.sz_le10 (x := x.toNat) (by omega)
  obtain ⟨ao, cap, hv⟩ : ∃ ao cap, vb = .slice ao bs.length cap := by
    rcases hb.2 with ⟨h, e⟩ | ⟨ad, cap, hv, _⟩
    · subst e; exact ⟨none, 0, h⟩
    · exact ⟨some ad, cap, hv⟩
  subst hv
  obtain ⟨i0, hi, hz0, hz1, hz2⟩ := info_parts Tryd.info5
  go_enter Tryd.func25, Tryd.ntmps25
  go_wp2_with (first | (go_at_call 32; refine (size_any x _ h0 h1).mono ?_; rintro e w' ⟨rfl, rfl⟩) | (at_make; refine wpList_make_own _ rfl _ _ 33 rfl w.heap.size 5 i0 (.int .u8 0) 1 Tryd.underlying33 hi hz0 hz1 _ _ _ (bs.length + Vm.sz x.toNat) rfl rfl (by omega) ?b2 ?b3 (Nat.le_refl _) ?_))
  case b2 => rw [hz2]; omega
  case b3 => unfold maxLen; omega
  intro w0 hown0 hgrow0
  have bel0 : Below w.heap.size w w0 := (Below.refl _ _).grown hgrow0 (Nat.le_refl _) (by simp)
  have own0 : Own .u8 5 w.heap.size w0 (.slice (some ⟨w.heap.size, 0, none⟩) 0 (bs.length + Vm.sz x.toNat)) [] := ⟨by simp, hown0⟩
  have is0 := hb.below bel0
  have sz0 := bel0.size
  clear hown0 hgrow0
  go_wp2_with (at_builtin; refine wpList_append_is rfl (.tmp 12) (.tmp 13) 33 rfl .u8 5 w.heap.size 1 Tryd.underlying33 Tryd.info5 (by decide) _ [] rfl own0 _ bs rfl is0 (by simp; omega) sz0 ?_)
  intro v1 w1 own1 bel1 _
  have bel := bel0.trans bel1
  clear own0 is0 bel0 bel1 sz0
  go_wp2
  go_loopw [1, 5] (fun xx vv wr => ∃ (y : Int) (zs : List Int), 0 ≤ y ∧ y < 18446744073709551616 ∧ xx = .int .u64 y ∧ zs.length ≤ 140737488351242 ∧ Own .u8 5 w.heap.size wr vv zs ∧ zs ++ Vm.enc y.toNat = bs ++ Vm.enc x.toNat ∧ Below w.heap.size w wr) (fun xx _ _ => (intOf xx).toNat)
  case atStart => exact ⟨x, bs, h0, h1, rfl, by omega, own1, rfl, bel⟩
  case round =>
    obtain ⟨y, zs, hy0, hy1, rfl, hl, own, heq, belr⟩ := hrel
    have HE := hide heq
    clear heq own1 bel
    have szr := belr.size
    by_cases hy : y ≤ 127
    · have e1 : y % 256 = y := by omega
      have W := wf_u8 (z := y) hy0 (by omega)
      go_wp2_with (at_builtin; refine wpList_append_is rfl (.tmp 17) (.tmp 20) 33 rfl .u8 5 w.heap.size 1 Tryd.underlying33 Tryd.info5 (by decide) _ zs rfl (own.below ((Below.refl _ _).alloc (Nat.le_refl _) _)) _ [y] rfl (Is.one .u8 _ _ 5 W) (by simp; omega) (by simp; omega) ?_)
      intro v2 w2 own2 bel2 _
      go_wp2
      go_ret
      refine ⟨_, rfl, ?_, (belr.alloc szr _).trans bel2⟩
      rw [← HE.out, Vm.enc_lo (x := y.toNat) (by omega), Int.toNat_of_nonneg hy0]
      exact own2
    · have e1 := and127_u64 y hy0 hy1
      have e2 : y % 128 % 256 = y % 128 := by omega
      have e3 := or128_u8 (y % 128) (by omega) (by omega)
      have W := wf_u8 (z := y % 128 + 128) (by omega) (by omega)
      go_wp2_with (at_builtin; refine wpList_append_is rfl (.tmp 22) (.tmp 27) 33 rfl .u8 5 w.heap.size 1 Tryd.underlying33 Tryd.info5 (by decide) _ zs rfl (own.below ((Below.refl _ _).alloc (Nat.le_refl _) _)) _ [y % 128 + 128] rfl (Is.one .u8 _ _ 5 W) (by simp; omega) (by simp; omega) ?_)
      intro v2 w2 own2 bel2 _
      have HE2 : zs ++ [y % 128 + 128] ++ Vm.enc (y / 128).toNat = bs ++ Vm.enc x.toNat := by
        rw [← HE.out, Vm.enc_hi (x := y.toNat) (by omega)]
        have : (y / 128).toNat = y.toNat / 128 := by omega
        have : ((y.toNat % 128 + 128 : Nat) : Int) = y % 128 + 128 := by omega
        simp_all
      have HL : zs.length + 1 ≤ 140737488351242 := by
        have := congrArg List.length HE2
        have := Vm.sz_pos (y / 128).toNat
        simp at *
        unfold Vm.sz at *
        omega
      have HE3 := hide HE2
      have b3 := (belr.alloc szr _).trans bel2
      clear HE2 own e1 e2 e3
      go_wp2
      go_roundw
      case rel => exact ⟨y / 128, zs ++ [y % 128 + 128], by omega, by omega, rfl, by simp; omega, own2, HE3.out, b3⟩
      case measure => simp [intOf]; omega

theorem ret3 {x n e x' n' e' : Int} (h : x = x' ∧ n = n' ∧ e = e') : Ending.returned (.tuple #[.int .u64 x', .int .i64 n', .int .i64 e']) = .returned (.tuple #[.int .u64 x, .int .i64 n, .int .i64 e]) := by
  obtain ⟨rfl, rfl, rfl⟩ := h; rfl

theorem good_ret {bs : List Int} {x n e : Int} (hR : Vm.Res bs x n e) {u k : Nat} (hu : u < 18446744073709551616) (hp : Vm.enc u <+: bs) (hs : Vm.sz u = k + 1) : x = (u : Int) ∧ n = (k : Int) + 1 ∧ e = 0 := by
  have := Vm.res_good hR hu hp
  omega

/-- What Small comes to. -/
def SRes (bs : List Int) (most u i g : Int) : Prop :=
  (Vm.Res bs u i 0 ∧ 0 ≤ most ∧ u ≤ most ∧ g = 0) ∨ (u = 0 ∧ i = 0 ∧ g = 5 ∧ ∃ x n e, Vm.Res bs x n e ∧ (e = 5 ∨ (e = 0 ∧ (most < 0 ∨ (0 ≤ most ∧ most < x)))))

theorem sres_is (bs : List Int) (most : Int) : ∃ u i g, SRes bs most u i g := by
  obtain ⟨x, n, e, hR⟩ := Vm.res_is bs
  have hb := Vm.res_bounds hR
  by_cases h : e = 0 ∧ 0 ≤ most ∧ x ≤ most
  · obtain ⟨rfl, h1, h2⟩ := h
    exact ⟨x, n, 0, .inl ⟨hR, h1, h2, rfl⟩⟩
  · exact ⟨0, 0, 5, .inr ⟨rfl, rfl, rfl, x, n, e, hR, by omega⟩⟩

end Go.Proofs.YtaejecompbmhcaaDoor
