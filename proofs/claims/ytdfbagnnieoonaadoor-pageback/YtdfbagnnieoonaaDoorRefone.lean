/- The contracts of the document's Append, Read, Small. -/
import Derived.Test.YtdfbagnnieoonaaDoorVarint
namespace Go.Proofs.YtdfbagnnieoonaaDoor
open Go.RowKit
set_option linter.unusedVariables false

set_option maxHeartbeats 400000 in
theorem appR_any (vb : Value) (bs : List Int) (x : Int) (w : World) (hb : Is .u8 w vb bs) (hlb : bs.length ≤ 140737488353000) (h0 : 0 ≤ x) (h1 : x < 18446744073709551616) :
    Calls Tryd.prog 43 #[vb, .int .u64 x] w fun e w' => ∃ v, e = .returned v ∧ Own .u8 5 w.heap.size w' v (bs ++ Vm.enc x.toNat) ∧ Below w.heap.size w w' := by
  have hm := Vm.sz_le10 (x := x.toNat) (by omega)
  go_enter Tryd.func43, Tryd.ntmps43
  go_wp2_with (at_builtin; refine wpList_append_is rfl (.tmp 6) (.tmp 7) 31 rfl .u8 5 w.heap.size 1 Tryd.underlying31 Tryd.info5 (by decide) _ [] rfl (Own.nil _ _ _ _) _ bs rfl hb (by simp; omega) (Nat.le_refl _) ?_)
  intro v1 w1 own1 bel1 _
  go_wp2
  go_loopw [1, 5] (fun xx vv wr => ∃ (y : Int) (zs : List Int), 0 ≤ y ∧ y < 18446744073709551616 ∧ xx = .int .u64 y ∧ zs.length ≤ 140737488353010 ∧ Own .u8 5 w.heap.size wr vv zs ∧ zs ++ Vm.enc y.toNat = bs ++ Vm.enc x.toNat ∧ Below w.heap.size w wr) (fun xx _ _ => (intOf xx).toNat)
  case atStart => exact ⟨x, bs, h0, h1, rfl, by omega, own1, rfl, bel1⟩
  case round =>
    obtain ⟨y, zs, hy0, hy1, rfl, hl, own, heq, belr⟩ := hrel
    have HE := hide heq
    clear heq own1 bel1
    have szr := belr.size
    by_cases hy : 128 ≤ y
    · have e1 : y % 128 % 256 = y % 128 := by omega
      have e2 : (y % 128 + 128) % 256 = y % 128 + 128 := by omega
      have W := wf_u8 (z := y % 128 + 128) (by omega) (by omega)
      go_wp2_with (at_builtin; refine wpList_append_is rfl (.tmp 11) (.tmp 16) 31 rfl .u8 5 w.heap.size 1 Tryd.underlying31 Tryd.info5 (by decide) _ zs rfl (own.below ((Below.refl _ _).alloc (Nat.le_refl _) _)) _ [y % 128 + 128] rfl (Is.one .u8 _ _ 5 W) (by simp; omega) (by simp; omega) ?_)
      intro v2 w2 own2 bel2 _
      have HE2 : zs ++ [y % 128 + 128] ++ Vm.enc (y / 128).toNat = bs ++ Vm.enc x.toNat := by
        rw [← HE.out, Vm.enc_hi (x := y.toNat) (by omega)]
        have : (y / 128).toNat = y.toNat / 128 := by omega
        have : ((y.toNat % 128 + 128 : Nat) : Int) = y % 128 + 128 := by omega
        simp_all
      have HL : zs.length + 1 ≤ 140737488353010 := by
        have := congrArg List.length HE2
        have := Vm.sz_pos (y / 128).toNat
        simp at *
        unfold Vm.sz at *
        omega
      have HE3 := hide HE2
      have b3 := (belr.alloc szr _).trans bel2
      clear HE2 own e1 e2
      go_wp2
      go_roundw
      case rel => exact ⟨y / 128, zs ++ [y % 128 + 128], by omega, by omega, rfl, by simp; omega, own2, HE3.out, b3⟩
      case measure => simp [intOf]; omega
    · have e1 : y % 256 = y := by omega
      have W := wf_u8 (z := y) hy0 (by omega)
      go_wp2_with (at_builtin; refine wpList_append_is rfl (.tmp 20) (.tmp 23) 31 rfl .u8 5 w.heap.size 1 Tryd.underlying31 Tryd.info5 (by decide) _ zs rfl (own.below ((Below.refl _ _).alloc (Nat.le_refl _) _)) _ [y] rfl (Is.one .u8 _ _ 5 W) (by simp; omega) (by simp; omega) ?_)
      intro v2 w2 own2 bel2 _
      go_wp2
      go_ret
      refine ⟨_, rfl, ?_, (belr.alloc szr _).trans bel2⟩
      rw [← HE.out, Vm.enc_lo (x := y.toNat) (by omega), Int.toNat_of_nonneg hy0]
      exact own2

set_option maxHeartbeats 400000 in
theorem readR_any (vb : Value) (bs : List Int) (x n e : Int) (w : World) (hb : Is .u8 w vb bs) (hl : bs.length ≤ 150000000000000) (hR : Vm.Res bs x n e) :
    Calls Tryd.prog 48 #[vb] w fun E w' => E = .returned (.tuple #[.int .u64 x, .int .i64 n, .int .i64 e]) ∧ Below w.heap.size w w' := by
  by_cases hz : 0 < bs.length
  · have hbyte := fun i => hb.byte i
    have HBY := hide hbyte
    obtain ⟨b1, o1, c1, rfl, _, _, hB1, hc1⟩ := hb.full hz
    have HC := hide hc1
    clear hc1 hbyte hb
    go_enter Tryd.func48, Tryd.ntmps48
    go_wp2
    go_loopw [5, 6] (fun xx nn wr => ∃ (acc : Nat) (k : Nat), k ≤ bs.length ∧ xx = .int .u64 acc ∧ nn = .int .i64 k ∧ ((k ≤ 9 ∧ Vm.Inv bs k acc) ∨ (k = 10 ∧ ∀ u : Nat, u < 18446744073709551616 → ¬ Vm.enc u <+: bs)) ∧ Below w.heap.size w wr) (fun _ nn _ => 10 - (intOf nn).toNat)
    case atStart => exact ⟨0, 0, by omega, rfl, rfl, .inl ⟨by omega, Vm.inv_start bs⟩, Below.refl _ _⟩
    case round =>
      obtain ⟨acc, k, hk2, rfl, rfl, hst, bel⟩ := hrel
      have HST := hide hst
      clear hst
      by_cases hlt : k < bs.length
      · by_cases hk9 : k ≤ 9
        · have HI : Hid (Vm.Inv bs k acc) := by
            rcases HST.out with ⟨_, h⟩ | ⟨h, _⟩
            · exact h
            · omega
          clear HST
          have g1 := (bel.cell (p := ⟨b1, o1 + k, none⟩) hB1).trans (HC.out k hlt)
          have hlt' : (k : Int) < bs.length := by omega
          have hc0 := HBY.out k
          generalize hcc : bs.getD k 0 = c at *
          have HCC := hide hcc
          have h71 := wrap_u64_small (c % 128) (by omega) (by omega)
          have hfit := Vm.dd_fits c HI.out hk9
          have e1 := or_shift_cut acc k c hc0.1 hc0.2 hk9 HI.out.1 hfit
          clear hcc
          generalize hna : acc + Vm.dd k c * 128 ^ k = na at *
          have HNA := hide hna
          clear hna
          by_cases h128 : c < 128
          · go_wp2_with fail
            refine (appR_any _ [] na _ (Is.nil _ _) (by simp) (by omega) (by omega)).mono ?_
            rintro E w1 ⟨v1, rfl, own1, bel1⟩
            rw [Int.toNat_natCast, List.nil_append] at own1
            have bel2 := bel.trans (bel1.mono bel.size)
            obtain ⟨b2, o2, c2, hv, hcap, hcm, _, hc2⟩ := own1.is.full (Vm.sz_pos na)
            subst hv
            have HC2 := hide hc2
            clear hc2 own1 bel bel1
            have hm10 : (Vm.enc na).length ≤ 10 := Vm.sz_le10 hfit
            by_cases hsz : Vm.sz na = k + 1
            · have hlen : (Vm.enc na).length = k + 1 := hsz
              have g2 := HC2.out k (by rw [hlen]; omega)
              generalize (Vm.enc na).length = m at *
              have ht : ((m : Int) != (k : Int) + 1) = false := by simp; omega
              have hkm : (k : Int) < m := by omega
              have HSZ := hide hsz
              clear hlen hsz
              by_cases hd : (Vm.enc na).getD k 0 = c
              · rw [hd] at g2
                have HD := hide hd
                clear hd
                have hcc : (c != c) = false := by simp
                go_wp2
                go_ret3
                have G := @Vm.dd_good bs k acc c HI.out hlt HCC.out hc0.1 h128
                rw [HNA.out] at G
                exact ⟨ret3 (good_ret hR hfit (G HSZ.out HD.out) HSZ.out), bel2⟩
              · have G := @Vm.dd_bad_last bs k acc c HI.out hk9 hlt HCC.out hc0.1 h128
                rw [HNA.out] at G
                have HG := hide (G HSZ.out hd)
                have hcc : ((Vm.enc na).getD k 0 != c) = true := by simpa using hd
                clear G hd
                generalize (Vm.enc na).getD k 0 = d at *
                go_wp2
                go_ret3
                exact ⟨ret3 (Vm.res_bad hR HG.out), bel2⟩
            · have G := @Vm.dd_bad_len bs k acc c HI.out hk9 hlt HCC.out hc0.1 h128
              rw [HNA.out] at G
              have HG := hide (G hsz)
              have hlen : (Vm.enc na).length ≠ k + 1 := hsz
              generalize (Vm.enc na).length = m at *
              have ht : ((m : Int) != (k : Int) + 1) = true := by simp; omega
              clear G hsz hlen
              go_wp2
              go_ret3
              exact ⟨ret3 (Vm.res_bad hR HG.out), bel2⟩
          · by_cases h9 : k = 9
            · have HT : Hid (∀ u : Nat, u < 18446744073709551616 → ¬ Vm.enc u <+: bs) := by
                have h1 := HI.out
                have h2 := HCC.out
                rw [h9] at h1 h2 hlt
                exact Vm.inv_ten h1 hlt h2 (by omega) hc0.2
              have h10 : k + 1 = 10 := by omega
              have H10 := hide h10
              clear h9 h10
              go_wp2
              go_roundw
              case rel => exact ⟨na, k + 1, by omega, rfl, by go_num, .inr ⟨H10.out, HT.out⟩, bel⟩
              case measure => simp [intOf]; omega
            · have HN := hide (Vm.inv_step HI.out hlt HCC.out (by omega) hc0.2)
              have e : Vm.dd k c = (c % 128).toNat := by unfold Vm.dd; rw [if_pos (by omega)]
              have HN2 : Hid (Vm.Inv bs (k + 1) na) := by
                have := HNA.out
                rw [e] at this
                rw [← this]
                exact HN.out
              clear e HN
              go_wp2
              go_roundw
              case rel => exact ⟨na, k + 1, by omega, rfl, by go_num, .inl ⟨by omega, HN2.out⟩, bel⟩
              case measure => simp [intOf]; omega
        · have HB : Hid (∀ u : Nat, u < 18446744073709551616 → ¬ Vm.enc u <+: bs) := by
            rcases HST.out with ⟨h, _⟩ | ⟨_, h⟩
            · omega
            · exact h
          clear HST
          go_wp2
          go_ret3
          exact ⟨ret3 (Vm.res_bad hR HB.out), bel⟩
      · have HB : Hid (∀ u : Nat, u < 18446744073709551616 → ¬ Vm.enc u <+: bs) := by
          rcases HST.out with ⟨_, h⟩ | ⟨_, h⟩
          · exact Vm.inv_short h (by omega)
          · exact h
        clear HST
        go_wp2
        go_ret3
        exact ⟨ret3 (Vm.res_bad hR HB.out), bel⟩
  · have hx : bs = [] := List.eq_nil_of_length_eq_zero (by omega)
    subst hx
    obtain ⟨a1, c1, rfl⟩ := hb.bare
    clear hb hl hz
    go_enter Tryd.func48, Tryd.ntmps48
    go_wp2
    refine wp_loop_rounds 1 ?_
    rw [rounds_succ]
    go_wp2
    go_ret3
    exact ⟨ret3 (Vm.res_bad hR (fun u _ => Vm.pre_nil u)), Below.refl _ _⟩

set_option maxHeartbeats 400000 in
theorem smallR_any (vb : Value) (bs : List Int) (most u i g : Int) (w : World) (hb : Is .u8 w vb bs) (hl : bs.length ≤ 150000000000000) (hm : most < 9223372036854775808) (hm' : -9223372036854775808 ≤ most) (hS : SRes bs most u i g) :
    Calls Tryd.prog 44 #[vb, .int .i64 most] w fun E w' => E = .returned (.tuple #[.int .i64 u, .int .i64 i, .int .i64 g]) ∧ Below w.heap.size w w' := by
  rcases hS with ⟨hR, h0, h1, hg⟩ | ⟨hu, hi, hg, x, n, e, hR, hcase⟩
  · have hbd := Vm.res_bounds hR
    have hq : ((0 : Int) != 0) = false := by simp
    subst hg
    go_enter Tryd.func44, Tryd.ntmps44
    go_wp2_with (go_at_call 48; refine (readR_any _ _ _ _ _ _ hb hl hR).mono ?_; rintro E w1 ⟨rfl, bel⟩)
    go_ret3
    exact ⟨rfl, bel⟩
  · have hbd := Vm.res_bounds hR
    subst hu hi hg
    rcases hcase with he | ⟨he, h | ⟨h, h'⟩⟩
    · subst he
      go_enter Tryd.func44, Tryd.ntmps44
      go_wp2_with (go_at_call 48; refine (readR_any _ _ _ _ _ _ hb hl hR).mono ?_; rintro E w1 ⟨rfl, bel⟩)
      go_ret3
      exact ⟨rfl, bel⟩
    · subst he
      go_enter Tryd.func44, Tryd.ntmps44
      go_wp2_with (go_at_call 48; refine (readR_any _ _ _ _ _ _ hb hl hR).mono ?_; rintro E w1 ⟨rfl, bel⟩)
      go_ret3
      exact ⟨rfl, bel⟩
    · subst he
      go_enter Tryd.func44, Tryd.ntmps44
      go_wp2_with (go_at_call 48; refine (readR_any _ _ _ _ _ _ hb hl hR).mono ?_; rintro E w1 ⟨rfl, bel⟩)
      go_ret3
      exact ⟨rfl, bel⟩

end Go.Proofs.YtdfbagnnieoonaaDoor
