/- LeashHolds: the walk. -/
import Derived.Test.YtedljaokkpmhcaaZa
namespace Go.Proofs.Ytedljaokkpmhcaa
open Go.RowKit
set_option linter.unusedVariables false

theorem Lea.k_low {e a z : Int} (h : Lea.In e a) (hz : z ≤ a ∨ e ≤ a) : Lea.kV e a z = a := by
  have := h.2.2.2
  unfold Lea.kV
  rw [if_pos h]
  repeat' split
  all_goals omega

theorem Lea.k_mid {e a z : Int} (h : Lea.In e a) (h1 : a < z) (h2 : z < e) : Lea.kV e a z = z := by
  unfold Lea.kV
  rw [if_pos h, if_neg (by omega), if_pos (by omega)]

theorem Lea.k_top {e a z : Int} (h : Lea.In e a) (h1 : a < e) (h2 : e ≤ z) : Lea.kV e a z = e := by
  unfold Lea.kV
  rw [if_pos h]
  repeat' split
  all_goals omega

set_option maxRecDepth 100000 in
set_option maxHeartbeats 4000000 in
theorem leashHolds_walk (m : Int) (v : Value) (zs : List Int) (w : World) (hm : (Lit.int .i64 m).wf = true) (h : Is .i64 w v zs) (hz : zs.length * 8 ≤ 140737488351232) :
    Calls Try.prog 5 #[.int .i64 m, v] w fun E w' => E = .returned (.bool true) ∧ Below w.heap.size w w' := by
  clear hm
  have HI := hide h
  obtain ⟨ao, cap, rfl, _, _⟩ := h.shape
  clear h
  by_cases h1 : 1 ≤ m ∧ m ≤ 16
  · have ck := Lea.ck_in h1
    by_cases h2 : 400 < zs.length
    · have h2' : (400 : Int) < zs.length := by omega
      go_enter Try.func5, Try.ntmps5
      go_wp2_with fail
      refine (llives_any w).mono ?_
      rintro E w2 ⟨rfl, rfl⟩
      go_wp2_with fail
      refine (lcheck_any m w).mono ?_
      rintro E w2 ⟨rfl, rfl⟩
      rw [ck]
      go_wp2
      go_ret
      exact ⟨rfl, Below.refl _ _⟩
    · have h2' : ¬ (400 : Int) < zs.length := by omega
      go_enter Try.func5, Try.ntmps5
      go_wp2_with fail
      refine (llives_any w).mono ?_
      rintro E w2 ⟨rfl, rfl⟩
      go_wp2_with fail
      refine (lcheck_any m w).mono ?_
      rintro E w2 ⟨rfl, rfl⟩
      rw [ck]
      clear ck
      obtain ⟨h3, h4⟩ := h1
      go_wp2
      go_loopw [5, 6, 7] (fun ev av kv wr => ∃ (k : Nat) (e a : Int), ev = .int .i64 e ∧ av = .int .i64 a ∧ kv = .int .i64 k ∧ k ≤ zs.length ∧ 0 ≤ a ∧ a ≤ e ∧ e ≤ k ∧ e - a ≤ m ∧ wr = w) (fun _ _ kv _ => zs.length - (intOf kv).toNat)
      case atStart => exact ⟨0, 0, 0, rfl, rfl, rfl, by omega, by omega, by omega, by omega, by omega, rfl⟩
      case round =>
        obtain ⟨k, e, a, rfl, rfl, rfl, hk, p1, p2, p3, p4, rfl⟩ := hrel
        by_cases hlt : k < zs.length
        · have hlt' : (k : Int) < zs.length := by omega
          obtain ⟨b, off, cap', hv, _, _, _, hc⟩ := HI.out.full (by omega)
          obtain ⟨rfl, rfl⟩ : ao = some ⟨b, off, none⟩ ∧ cap = cap' := by
            simp only [Value.slice.injEq] at hv
            exact ⟨hv.1, hv.2.2⟩
          have hcell := hc k hlt
          generalize zs.getD k 0 = z at hcell
          have i2 : Lea.In e a := ⟨by omega, by omega, p1, p2⟩
          obtain ⟨o1, o2⟩ := Lea.o_in i2
          obtain ⟨r1, r2⟩ := Lea.r_in (m := m) ⟨h3, h4⟩ i2
          have r3 : Lea.rV e a m = m - (e - a) := by
            rw [r2]
            repeat' split
            all_goals omega
          have O := hide (And.intro o1 (And.intro o2 (And.intro r1 r3)))
          clear o1 o2 r1 r2 r3 hc hv
          by_cases hz0 : z < 0
          · by_cases hfull : e - a < m
            · have hA : Lea.ad e a m = 0 := by unfold Lea.ad; rw [if_pos ⟨h3, h4⟩, if_pos i2, if_neg (by omega), if_neg (by omega)]
              have HA := hide hA
              clear hA i2
              have hr : 0 < m - (e - a) := by omega
              go_wp2_with fail
              refine (lroom_any e a m wr).mono ?_
              rintro E w2 ⟨rfl, rfl⟩
              rw [O.out.2.2.1, O.out.2.2.2]
              go_wp2_with fail
              refine (lout_any e a wr).mono ?_
              rintro E w2 ⟨rfl, rfl⟩
              rw [O.out.1, O.out.2.1]
              go_wp2_with fail
              refine (ladmit_any e a m wr).mono ?_
              rintro E w2 ⟨rfl, rfl⟩
              rw [HA.out]
              go_wp2
              go_roundw
              case rel => exact ⟨k + 1, e + 1, a, rfl, rfl, rfl, by omega, by omega, by omega, by omega, by omega, by trivial⟩
              case measure => simp [intOf]; omega
            · have hA : Lea.ad e a m = 8 := by unfold Lea.ad; rw [if_pos ⟨h3, h4⟩, if_pos i2, if_pos (by omega)]
              have HA := hide hA
              clear hA i2
              have hr : ¬ 0 < m - (e - a) := by omega
              go_wp2_with fail
              refine (lroom_any e a m wr).mono ?_
              rintro E w2 ⟨rfl, rfl⟩
              rw [O.out.2.2.1, O.out.2.2.2]
              go_wp2_with fail
              refine (lout_any e a wr).mono ?_
              rintro E w2 ⟨rfl, rfl⟩
              rw [O.out.1, O.out.2.1]
              go_wp2_with fail
              refine (ladmit_any e a m wr).mono ?_
              rintro E w2 ⟨rfl, rfl⟩
              rw [HA.out]
              go_wp2
              go_roundw
              case rel => exact ⟨k + 1, e, a, rfl, rfl, rfl, by omega, by omega, by omega, by omega, by omega, by trivial⟩
              case measure => simp [intOf]; omega
          · by_cases hlow : z ≤ a ∨ e ≤ a
            · have HK := hide (Lea.k_low i2 hlow)
              clear hlow i2
              go_wp2_with fail
              refine (lroom_any e a m wr).mono ?_
              rintro E w2 ⟨rfl, rfl⟩
              rw [O.out.2.2.1, O.out.2.2.2]
              go_wp2_with fail
              refine (lout_any e a wr).mono ?_
              rintro E w2 ⟨rfl, rfl⟩
              rw [O.out.1, O.out.2.1]
              go_wp2_with fail
              refine (lacked_any e a z wr).mono ?_
              rintro E w2 ⟨rfl, rfl⟩
              rw [HK.out, O.out.2.1]
              go_wp2
              go_roundw
              case rel => exact ⟨k + 1, e, a, rfl, rfl, rfl, by omega, by omega, by omega, by omega, by omega, by trivial⟩
              case measure => simp [intOf]; omega
            · by_cases htop : e ≤ z
              · have HK := hide (Lea.k_top i2 (by omega) htop)
                have ne : (e == a) = false := by simp; omega
                have hea : a < e := by omega
                clear hlow i2
                go_wp2_with fail
                refine (lroom_any e a m wr).mono ?_
                rintro E w2 ⟨rfl, rfl⟩
                rw [O.out.2.2.1, O.out.2.2.2]
                go_wp2_with fail
                refine (lout_any e a wr).mono ?_
                rintro E w2 ⟨rfl, rfl⟩
                rw [O.out.1, O.out.2.1]
                go_wp2_with fail
                refine (lacked_any e a z wr).mono ?_
                rintro E w2 ⟨rfl, rfl⟩
                rw [HK.out, O.out.2.1]
                go_wp2
                go_roundw
                case rel => exact ⟨k + 1, e, e, rfl, rfl, rfl, by omega, by omega, by omega, by omega, by omega, by trivial⟩
                case measure => simp [intOf]; omega
              · have HK := hide (Lea.k_mid (z := z) i2 (by omega) (by omega))
                have ne : (z == a) = false := by simp; omega
                have ne2 : (z == e) = false := by simp; omega
                have hza : a < z := by omega
                clear hlow i2
                go_wp2_with fail
                refine (lroom_any e a m wr).mono ?_
                rintro E w2 ⟨rfl, rfl⟩
                rw [O.out.2.2.1, O.out.2.2.2]
                go_wp2_with fail
                refine (lout_any e a wr).mono ?_
                rintro E w2 ⟨rfl, rfl⟩
                rw [O.out.1, O.out.2.1]
                go_wp2_with fail
                refine (lacked_any e a z wr).mono ?_
                rintro E w2 ⟨rfl, rfl⟩
                rw [HK.out, O.out.2.1]
                go_wp2
                go_roundw
                case rel => exact ⟨k + 1, e, z, rfl, rfl, rfl, by omega, by omega, by omega, by omega, by omega, by trivial⟩
                case measure => simp [intOf]; omega
        · have hlt' : ¬ (k : Int) < zs.length := by omega
          go_wp2
          go_ret
          exact ⟨rfl, Below.refl _ _⟩
  · have ck := Lea.ck_no h1
    go_enter Try.func5, Try.ntmps5
    go_wp2_with fail
    refine (llives_any w).mono ?_
    rintro E w2 ⟨rfl, rfl⟩
    go_wp2_with fail
    refine (lcheck_any m w).mono ?_
    rintro E w2 ⟨rfl, rfl⟩
    rw [ck]
    clear h1 ck
    go_wp2
    go_ret
    exact ⟨rfl, Below.refl _ _⟩

end Go.Proofs.Ytedljaokkpmhcaa
