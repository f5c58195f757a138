/- LeashOrder: the walk. -/
import Derived.Test.YtedljaokkpmhcaaZa
namespace Go.Proofs.Ytedljaokkpmhcaa
open Go.RowKit
set_option linter.unusedVariables false

/-- The acked position behind what was told. -/
def Lea.km (e a t : Int) : Int := if t ≤ a then a else if t ≤ e then t else e

theorem Lea.k_in {e a : Int} (h : Lea.In e a) (t : Int) : Lea.kV e a t = Lea.km e a t := if_pos h

theorem Lea.km_in {e a : Int} (h : a ≤ e) (t : Int) : a ≤ Lea.km e a t ∧ Lea.km e a t ≤ e := by
  unfold Lea.km
  split
  · omega
  · split <;> omega

theorem Lea.km_twice {e a : Int} (h : a ≤ e) (t : Int) : Lea.km e (Lea.km e a t) t = Lea.km e a t := by
  unfold Lea.km
  repeat' split
  all_goals omega

theorem Lea.km_old {e a : Int} (h : a ≤ e) (t : Int) : Lea.km e (Lea.km e a t) a = Lea.km e a t := by
  unfold Lea.km
  repeat' split
  all_goals omega

theorem Lea.km_swap {e a : Int} (h : a ≤ e) (t u : Int) : Lea.km e (Lea.km e a u) t = Lea.km e (Lea.km e a t) u := by
  unfold Lea.km
  repeat' split
  all_goals omega

theorem Lea.r_more {e a b m : Int} (h1 : 1 ≤ m ∧ m ≤ 16) (h2 : Lea.In e a) (h3 : Lea.In e b) (h : a ≤ b) : Lea.rV e a m ≤ Lea.rV e b m := by
  rw [(Lea.r_in h1 h2).2, (Lea.r_in h1 h3).2]
  have := h2.2.1
  repeat' split
  all_goals omega

theorem Lea.r_long {e a m : Int} (h1 : 1 ≤ m ∧ m ≤ 16) (h : m + 1 ≤ 16) (h2 : Lea.In e a) : Lea.rV e a m ≤ Lea.rV e a (m + 1) := by
  rw [(Lea.r_in h1 h2).2, (Lea.r_in (m := m + 1) ⟨by omega, h⟩ h2).2]
  have := h2.2.1
  repeat' split
  all_goals omega

theorem Lea.r_ad {e a m : Int} (h1 : 1 ≤ m ∧ m ≤ 16) (h2 : Lea.In e a) : (0 < Lea.rV e a m ∧ Lea.ad e a m = 0) ∨ (¬ 0 < Lea.rV e a m ∧ (Lea.ad e a m == 0) = false) := by
  have h := Lea.room_next h1 h2 0 (Lea.r_pos e a m).1
  simp only [Int.natCast_zero, Int.add_zero] at h
  rcases h with ⟨h, h'⟩ | ⟨h, h'⟩
  · exact .inl ⟨h, h'⟩
  · exact .inr ⟨by omega, by simpa using h'⟩

set_option maxRecDepth 100000 in
set_option maxHeartbeats 4000000 in
theorem leashOrder_walk (e a m t u : Int) (w : World) (he : (Lit.int .i64 e).wf = true) (ha : (Lit.int .i64 a).wf = true) (hm : (Lit.int .i64 m).wf = true) (ht : (Lit.int .i64 t).wf = true) (hu : (Lit.int .i64 u).wf = true) :
    Calls Try.prog 6 #[.int .i64 e, .int .i64 a, .int .i64 m, .int .i64 t, .int .i64 u] w fun E w' => E = .returned (.bool true) ∧ Below w.heap.size w w' := by
  clear he ha hm ht hu
  by_cases h2 : Lea.In e a
  · obtain ⟨K, hK⟩ : ∃ K, K = Lea.km e a t := ⟨_, rfl⟩
    obtain ⟨U, hU⟩ : ∃ U, U = Lea.km e a u := ⟨_, rfl⟩
    obtain ⟨V, hV⟩ : ∃ V, V = Lea.km e K u := ⟨_, rfl⟩
    have hae := h2.2.2.2
    have k1 := Lea.km_in hae t
    have k2 := Lea.km_in hae u
    rw [← hK] at k1
    rw [← hU] at k2
    have iK : Lea.In e K := ⟨h2.1, h2.2.1, by have := h2.2.2.1; omega, k1.2⟩
    have iU : Lea.In e U := ⟨h2.1, h2.2.1, by have := h2.2.2.1; omega, k2.2⟩
    have f1 := Lea.k_in h2 t
    have f2 := Lea.k_in h2 u
    have f3 := Lea.k_in iK t
    have f4 := Lea.k_in iK a
    have f5 := Lea.k_in iK u
    have f6 := Lea.k_in iU t
    have f7 : Lea.km e K t = K := by rw [hK]; exact Lea.km_twice hae t
    have f8 : Lea.km e K a = K := by rw [hK]; exact Lea.km_old hae t
    have f9 : Lea.km e U t = V := by rw [hU, hV, hK]; exact Lea.km_swap hae t u
    have o1 := (Lea.o_in h2).2
    have o2 := (Lea.o_in iK).2
    have o3 := (Lea.o_in iU).2
    rw [f7] at f3
    rw [f8] at f4
    rw [← hV] at f5
    rw [f9] at f6
    rw [← hK] at f1
    rw [← hU] at f2
    obtain ⟨k3, k4⟩ := k1
    clear f7 f8 f9 hK hU hV k2 hae
    have F := hide (And.intro f1 (And.intro f2 (And.intro f3 (And.intro f4 (And.intro f5 f6)))))
    have O := hide (And.intro o1 (And.intro o2 o3))
    clear f1 f2 f3 f4 f5 f6 o1 o2 o3
    by_cases h1 : 1 ≤ m ∧ m ≤ 16
    · have r1 := hide (Lea.r_in h1 h2).1
      have r2 := hide (Lea.r_in h1 iK).1
      have r3 := Lea.r_more h1 h2 iK k3
      rcases Lea.r_ad h1 h2 with ⟨x1, x2⟩ | ⟨x1, x2⟩
      · have X2 := hide x2
        clear x2
        by_cases h4 : m + 1 ≤ 16
        · have r4 := hide (Lea.r_in (m := m + 1) ⟨by omega, h4⟩ h2).1
          have r5 := Lea.r_long h1 h4 h2
          clear h2 iK iU
          obtain ⟨h5, h6⟩ := h1
          go_enter Try.func6, Try.ntmps6
          go_wp2_with fail
          refine (llives_any w).mono ?_
          rintro E w2 ⟨rfl, rfl⟩
          go_wp2_with fail
          refine (lacked_any e a t w).mono ?_
          rintro E w2 ⟨rfl, rfl⟩
          rw [F.out.1, O.out.1]
          go_wp2_with fail
          refine (lacked_any e K t w).mono ?_
          rintro E w2 ⟨rfl, rfl⟩
          rw [F.out.2.2.1, O.out.2.1]
          go_wp2_with fail
          refine (lacked_any e K a w).mono ?_
          rintro E w2 ⟨rfl, rfl⟩
          rw [F.out.2.2.2.1, O.out.2.1]
          go_wp2_with fail
          refine (lacked_any e K u w).mono ?_
          rintro E w2 ⟨rfl, rfl⟩
          rw [F.out.2.2.2.2.1, O.out.2.1]
          go_wp2_with fail
          refine (lacked_any e a u w).mono ?_
          rintro E w2 ⟨rfl, rfl⟩
          rw [F.out.2.1, O.out.1]
          go_wp2_with fail
          refine (lacked_any e U t w).mono ?_
          rintro E w2 ⟨rfl, rfl⟩
          rw [F.out.2.2.2.2.2, O.out.2.2]
          go_wp2_with fail
          refine (lroom_any e a m w).mono ?_
          rintro E w2 ⟨rfl, rfl⟩
          rw [r1.out]
          go_wp2_with fail
          refine (lroom_any e K m w).mono ?_
          rintro E w2 ⟨rfl, rfl⟩
          rw [r2.out]
          go_wp2_with fail
          refine (lroom_any e a (m + 1) w).mono ?_
          rintro E w2 ⟨rfl, rfl⟩
          rw [r4.out]
          go_wp2_with fail
          refine (ladmit_any e a m w).mono ?_
          rintro E w2 ⟨rfl, rfl⟩
          rw [X2.out]
          go_wp2
          go_ret
          exact ⟨rfl, Below.refl _ _⟩
        · have r4 := hide (Lea.r_no (e := e) (a := a) (m := m + 1) (.inl (by omega))).1
          clear h2 iK iU
          obtain ⟨h5, h6⟩ := h1
          go_enter Try.func6, Try.ntmps6
          go_wp2_with fail
          refine (llives_any w).mono ?_
          rintro E w2 ⟨rfl, rfl⟩
          go_wp2_with fail
          refine (lacked_any e a t w).mono ?_
          rintro E w2 ⟨rfl, rfl⟩
          rw [F.out.1, O.out.1]
          go_wp2_with fail
          refine (lacked_any e K t w).mono ?_
          rintro E w2 ⟨rfl, rfl⟩
          rw [F.out.2.2.1, O.out.2.1]
          go_wp2_with fail
          refine (lacked_any e K a w).mono ?_
          rintro E w2 ⟨rfl, rfl⟩
          rw [F.out.2.2.2.1, O.out.2.1]
          go_wp2_with fail
          refine (lacked_any e K u w).mono ?_
          rintro E w2 ⟨rfl, rfl⟩
          rw [F.out.2.2.2.2.1, O.out.2.1]
          go_wp2_with fail
          refine (lacked_any e a u w).mono ?_
          rintro E w2 ⟨rfl, rfl⟩
          rw [F.out.2.1, O.out.1]
          go_wp2_with fail
          refine (lacked_any e U t w).mono ?_
          rintro E w2 ⟨rfl, rfl⟩
          rw [F.out.2.2.2.2.2, O.out.2.2]
          go_wp2_with fail
          refine (lroom_any e a m w).mono ?_
          rintro E w2 ⟨rfl, rfl⟩
          rw [r1.out]
          go_wp2_with fail
          refine (lroom_any e K m w).mono ?_
          rintro E w2 ⟨rfl, rfl⟩
          rw [r2.out]
          go_wp2_with fail
          refine (lroom_any e a (m + 1) w).mono ?_
          rintro E w2 ⟨rfl, rfl⟩
          rw [r4.out]
          go_wp2_with fail
          refine (ladmit_any e a m w).mono ?_
          rintro E w2 ⟨rfl, rfl⟩
          rw [X2.out]
          go_wp2
          go_ret
          exact ⟨rfl, Below.refl _ _⟩
      · have X2 := hide x2
        clear x2
        by_cases h4 : m + 1 ≤ 16
        · have r4 := hide (Lea.r_in (m := m + 1) ⟨by omega, h4⟩ h2).1
          have r5 := Lea.r_long h1 h4 h2
          clear h2 iK iU
          obtain ⟨h5, h6⟩ := h1
          go_enter Try.func6, Try.ntmps6
          go_wp2_with fail
          refine (llives_any w).mono ?_
          rintro E w2 ⟨rfl, rfl⟩
          go_wp2_with fail
          refine (lacked_any e a t w).mono ?_
          rintro E w2 ⟨rfl, rfl⟩
          rw [F.out.1, O.out.1]
          go_wp2_with fail
          refine (lacked_any e K t w).mono ?_
          rintro E w2 ⟨rfl, rfl⟩
          rw [F.out.2.2.1, O.out.2.1]
          go_wp2_with fail
          refine (lacked_any e K a w).mono ?_
          rintro E w2 ⟨rfl, rfl⟩
          rw [F.out.2.2.2.1, O.out.2.1]
          go_wp2_with fail
          refine (lacked_any e K u w).mono ?_
          rintro E w2 ⟨rfl, rfl⟩
          rw [F.out.2.2.2.2.1, O.out.2.1]
          go_wp2_with fail
          refine (lacked_any e a u w).mono ?_
          rintro E w2 ⟨rfl, rfl⟩
          rw [F.out.2.1, O.out.1]
          go_wp2_with fail
          refine (lacked_any e U t w).mono ?_
          rintro E w2 ⟨rfl, rfl⟩
          rw [F.out.2.2.2.2.2, O.out.2.2]
          go_wp2_with fail
          refine (lroom_any e a m w).mono ?_
          rintro E w2 ⟨rfl, rfl⟩
          rw [r1.out]
          go_wp2_with fail
          refine (lroom_any e K m w).mono ?_
          rintro E w2 ⟨rfl, rfl⟩
          rw [r2.out]
          go_wp2_with fail
          refine (lroom_any e a (m + 1) w).mono ?_
          rintro E w2 ⟨rfl, rfl⟩
          rw [r4.out]
          go_wp2_with fail
          refine (ladmit_any e a m w).mono ?_
          rintro E w2 ⟨rfl, rfl⟩
          have x3 := X2.out
          generalize Lea.ad e a m = z3 at x3 ⊢
          go_wp2
          go_ret
          exact ⟨by show Ending.returned (.bool (!decide (0 < Lea.rV e a m))) = _; rw [decide_eq_false (by omega)]; rfl, Below.refl _ _⟩
        · have r4 := hide (Lea.r_no (e := e) (a := a) (m := m + 1) (.inl (by omega))).1
          clear h2 iK iU
          obtain ⟨h5, h6⟩ := h1
          go_enter Try.func6, Try.ntmps6
          go_wp2_with fail
          refine (llives_any w).mono ?_
          rintro E w2 ⟨rfl, rfl⟩
          go_wp2_with fail
          refine (lacked_any e a t w).mono ?_
          rintro E w2 ⟨rfl, rfl⟩
          rw [F.out.1, O.out.1]
          go_wp2_with fail
          refine (lacked_any e K t w).mono ?_
          rintro E w2 ⟨rfl, rfl⟩
          rw [F.out.2.2.1, O.out.2.1]
          go_wp2_with fail
          refine (lacked_any e K a w).mono ?_
          rintro E w2 ⟨rfl, rfl⟩
          rw [F.out.2.2.2.1, O.out.2.1]
          go_wp2_with fail
          refine (lacked_any e K u w).mono ?_
          rintro E w2 ⟨rfl, rfl⟩
          rw [F.out.2.2.2.2.1, O.out.2.1]
          go_wp2_with fail
          refine (lacked_any e a u w).mono ?_
          rintro E w2 ⟨rfl, rfl⟩
          rw [F.out.2.1, O.out.1]
          go_wp2_with fail
          refine (lacked_any e U t w).mono ?_
          rintro E w2 ⟨rfl, rfl⟩
          rw [F.out.2.2.2.2.2, O.out.2.2]
          go_wp2_with fail
          refine (lroom_any e a m w).mono ?_
          rintro E w2 ⟨rfl, rfl⟩
          rw [r1.out]
          go_wp2_with fail
          refine (lroom_any e K m w).mono ?_
          rintro E w2 ⟨rfl, rfl⟩
          rw [r2.out]
          go_wp2_with fail
          refine (lroom_any e a (m + 1) w).mono ?_
          rintro E w2 ⟨rfl, rfl⟩
          rw [r4.out]
          go_wp2_with fail
          refine (ladmit_any e a m w).mono ?_
          rintro E w2 ⟨rfl, rfl⟩
          have x3 := X2.out
          generalize Lea.ad e a m = z3 at x3 ⊢
          go_wp2
          go_ret
          exact ⟨by show Ending.returned (.bool (!decide (0 < Lea.rV e a m))) = _; rw [decide_eq_false (by omega)]; rfl, Below.refl _ _⟩
    · have r1 := hide (Lea.r_no (e := e) (a := a) (.inl h1))
      have r2 := hide (Lea.r_no (e := e) (a := K) (.inl h1))
      clear h2 iK iU h1
      go_enter Try.func6, Try.ntmps6
      go_wp2_with fail
      refine (llives_any w).mono ?_
      rintro E w2 ⟨rfl, rfl⟩
      go_wp2_with fail
      refine (lacked_any e a t w).mono ?_
      rintro E w2 ⟨rfl, rfl⟩
      rw [F.out.1, O.out.1]
      go_wp2_with fail
      refine (lacked_any e K t w).mono ?_
      rintro E w2 ⟨rfl, rfl⟩
      rw [F.out.2.2.1, O.out.2.1]
      go_wp2_with fail
      refine (lacked_any e K a w).mono ?_
      rintro E w2 ⟨rfl, rfl⟩
      rw [F.out.2.2.2.1, O.out.2.1]
      go_wp2_with fail
      refine (lacked_any e K u w).mono ?_
      rintro E w2 ⟨rfl, rfl⟩
      rw [F.out.2.2.2.2.1, O.out.2.1]
      go_wp2_with fail
      refine (lacked_any e a u w).mono ?_
      rintro E w2 ⟨rfl, rfl⟩
      rw [F.out.2.1, O.out.1]
      go_wp2_with fail
      refine (lacked_any e U t w).mono ?_
      rintro E w2 ⟨rfl, rfl⟩
      rw [F.out.2.2.2.2.2, O.out.2.2]
      go_wp2_with fail
      refine (lroom_any e a m w).mono ?_
      rintro E w2 ⟨rfl, rfl⟩
      rw [r1.out.1, r1.out.2]
      go_wp2_with fail
      refine (lroom_any e K m w).mono ?_
      rintro E w2 ⟨rfl, rfl⟩
      rw [r2.out.1, r2.out.2]
      go_wp2
      go_ret
      exact ⟨rfl, Below.refl _ _⟩
  · obtain ⟨o1, o2⟩ := Lea.o_no h2
    have kk : Lea.kV e a t = 0 := if_neg h2
    go_enter Try.func6, Try.ntmps6
    go_wp2_with fail
    refine (llives_any w).mono ?_
    rintro E w2 ⟨rfl, rfl⟩
    go_wp2_with fail
    refine (lacked_any e a t w).mono ?_
    rintro E w2 ⟨rfl, rfl⟩
    rw [kk, o2]
    go_wp2_with fail
    refine (lout_any e a w).mono ?_
    rintro E w2 ⟨rfl, rfl⟩
    rw [o1, o2]
    clear h2
    go_wp2
    go_ret
    exact ⟨rfl, Below.refl _ _⟩

end Go.Proofs.Ytedljaokkpmhcaa
