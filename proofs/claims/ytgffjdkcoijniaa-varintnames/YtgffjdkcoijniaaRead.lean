/- The contract of varint.Read: the number whose bytes begin the given ones, or ErrBad; the world stays. -/
import Derived.Test.YtgffjdkcoijniaaLent
namespace Go.Proofs.Ytgffjdkcoijniaa
open Go.RowKit
set_option linter.unusedVariables false

theorem Is.byte {w : World} {v : Value} {zs : List Int} (h : Is .u8 w v zs) (i : Nat) : 0 ≤ zs.getD i 0 ∧ zs.getD i 0 < 256 := by
  have := range_u8 h.1 i
  simp at *
  omega

theorem ret3 {x n e x' n' e' : Int} (h : x = x' ∧ n = n' ∧ e = e') : Ending.returned (.tuple #[.int .u64 x', .int .i64 n', .int .i64 e']) = .returned (.tuple #[.int .u64 x, .int .i64 n, .int .i64 e]) := by
  obtain ⟨rfl, rfl, rfl⟩ := h; rfl

theorem good_ret {bs : List Int} {x n e : Int} (hR : Vm.Res bs x n e) {u k : Nat} (hu : u < 18446744073709551616) (hp : Vm.enc u <+: bs) (hs : Vm.sz u = k + 1) : x = (u : Int) ∧ n = (k : Int) + 1 ∧ e = 0 := by
  have := Vm.res_good hR hu hp
  omega

set_option maxHeartbeats 400000 in
theorem read_any (vb : Value) (bs : List Int) (x n e : Int) (w : World) (hb : Is .u8 w vb bs) (hl : bs.length ≤ 140737488355328) (hR : Vm.Res bs x n e) :
    Calls Try.prog 11 #[vb] w fun E w' => E = .returned (.tuple #[.int .u64 x, .int .i64 n, .int .i64 e]) ∧ w = w' := by
  by_cases hz : 0 < bs.length
  · have hbyte := fun i => hb.byte i
    have HBY := hide hbyte
    obtain ⟨b1, o1, c1, rfl, _, _, hB1, hc1⟩ := hb.full hz
    have HC := hide hc1
    clear hc1 hbyte hb
    go_enter Try.func11, Try.ntmps11
    go_wp2
    go_loop [2, 3] (fun xx nn => ∃ (acc : Nat) (k : Nat), k ≤ 9 ∧ k ≤ bs.length ∧ xx = .int .u64 acc ∧ nn = .int .i64 k ∧ Vm.Inv bs k acc) (fun _ nn => 10 - (intOf nn).toNat)
    case atStart => exact ⟨0, 0, by omega, by omega, rfl, rfl, Vm.inv_start bs⟩
    case round =>
      obtain ⟨acc, k, hk, hk2, rfl, rfl, hinv⟩ := hrel
      have HI := hide hinv
      clear hinv
      by_cases hlt : k < bs.length
      · have hq : ((k : Int) == (bs.length : Int)) = false := by simp; omega
        have g1 := HC.out k hlt
        have hlt' : (k : Int) < bs.length := by omega
        have hc0 := HBY.out k
        generalize hcc : bs.getD k 0 = c at *
        have HCC := hide hcc
        have h70 := and127_u8 c hc0.1 hc0.2
        have h71 := wrap_u64_small (c % 128) (by omega) (by omega)
        clear hcc
        by_cases h9 : k = 9
        · have h9' : ((k : Int) == 9) = true := by simp [h9]
          have H9 := hide h9
          have HI9 : Hid (Vm.Inv bs 9 acc) := by have := HI.out; rw [h9] at this; exact this
          have HC9 : Hid (bs.getD 9 0 = c) := by have := HCC.out; rw [h9] at this; exact this
          clear h9
          by_cases hc1 : 1 < c
          · go_wp2
            go_ret3
            exact ⟨ret3 (Vm.res_bad hR (Vm.inv_wide HI9.out (by rw [← H9.out]; exact hlt) HC9.out hc1 hc0.2)), rfl⟩
          · have hfit : acc + (c % 128).toNat * 128 ^ k < 18446744073709551616 := by rw [H9.out]; exact Vm.inv_fits9 HI9.out hc0.1 (by omega)
            have e1 := or_shift acc k (c % 128) (by omega) HI.out.1 hfit
            generalize hna : acc + (c % 128).toNat * 128 ^ k = na at *
            have HNA := hide hna
            clear hna
            have hk1 : 1 ≤ k := by have := H9.out; omega
            have hk1' : 1 < (k : Int) + 1 := by omega
            by_cases hcz : c = 0
            · have hcz' : (c == 0) = true := by simp [hcz]
              have HZ := hide hcz
              clear hcz
              go_wp2
              go_ret3
              exact ⟨ret3 (Vm.res_bad hR (Vm.inv_zero HI.out hlt (HCC.out.trans HZ.out) hk1)), rfl⟩
            · have hcz' : (c == 0) = false := by simp [hcz]
              have G := hide (Vm.inv_end HI.out hlt HCC.out hc0.1 (by omega) (.inl (by omega)))
              go_wp2
              go_ret3
              have G := G.out
              rw [HNA.out] at G
              exact ⟨ret3 (good_ret hR hfit G.1 G.2), rfl⟩
        · have h9' : ((k : Int) == 9) = false := by simp; omega
          have hfit := Vm.inv_fits HI.out (c := c) (by omega) hc0.1
          have e1 := or_shift acc k (c % 128) (by omega) HI.out.1 hfit
          generalize hna : acc + (c % 128).toNat * 128 ^ k = na at *
          have HNA := hide hna
          clear hna
          by_cases h128 : c ≤ 127
          · by_cases hk1 : 1 ≤ k
            · have hk1' : 1 < (k : Int) + 1 := by omega
              by_cases hcz : c = 0
              · have hcz' : (c == 0) = true := by simp [hcz]
                have HZ := hide hcz
                clear hcz
                go_wp2
                go_ret3
                exact ⟨ret3 (Vm.res_bad hR (Vm.inv_zero HI.out hlt (HCC.out.trans HZ.out) hk1)), rfl⟩
              · have hcz' : (c == 0) = false := by simp [hcz]
                have G := hide (Vm.inv_end HI.out hlt HCC.out hc0.1 (by omega) (.inl (by omega)))
                go_wp2
                go_ret3
                have G := G.out
                rw [HNA.out] at G
                exact ⟨ret3 (good_ret hR hfit G.1 G.2), rfl⟩
            · have hk1' : ¬ 1 < (k : Int) + 1 := by omega
              have G := hide (Vm.inv_end HI.out hlt HCC.out hc0.1 (by omega) (.inr (by omega)))
              go_wp2
              go_ret3
              have G := G.out
              rw [HNA.out] at G
              exact ⟨ret3 (good_ret hR hfit G.1 G.2), rfl⟩
          · go_wp2
            go_round
            case rel => exact ⟨na, k + 1, by omega, by omega, rfl, by go_num, by have := Vm.inv_step HI.out hlt HCC.out (by omega) hc0.2; rw [HNA.out] at this; exact this⟩
            case measure => simp [intOf]; omega
      · have hq : ((k : Int) == (bs.length : Int)) = true := by simp; omega
        go_wp2
        go_ret3
        exact ⟨ret3 (Vm.res_bad hR (Vm.inv_short HI.out (by omega))), rfl⟩
  · have hx : bs = [] := List.eq_nil_of_length_eq_zero (by omega)
    subst hx
    obtain ⟨a1, c1, rfl⟩ := hb.bare
    clear hb hl hz
    go_enter Try.func11, Try.ntmps11
    go_wp2
    refine wp_loop_rounds 1 ?_
    rw [rounds_succ]
    go_wp2
    go_ret3
    exact ⟨ret3 (Vm.res_bad hR (fun u _ => Vm.pre_nil u)), rfl⟩

end Go.Proofs.Ytgffjdkcoijniaa
