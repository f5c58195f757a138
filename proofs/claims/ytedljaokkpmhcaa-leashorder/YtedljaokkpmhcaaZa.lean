/- The leash (package leash and the document's): what its functions answer, for all numbers. -/
import Derived.Test.YtedljaokkpmhcaaProg
import Derived.Test.YtedljaokkpmhcaaKit
import Derived.Test.YtedljaokkpmhcaaPick
namespace Go.Proofs.Ytedljaokkpmhcaa
open Go.RowKit
set_option linter.unusedVariables false

/-- A leash's error. -/
def Lea.ck (m : Int) : Int := if 1 ≤ m ∧ m ≤ 16 then 0 else 2

/-- A log's end and its acked position. -/
abbrev Lea.In (e a : Int) : Prop := 0 ≤ e ∧ e ≤ 1048576 ∧ 0 ≤ a ∧ a ≤ e

/-- Out's number. -/
def Lea.oV (e a : Int) : Int := if 0 ≤ e ∧ e ≤ 1048576 ∧ 0 ≤ a ∧ a ≤ e then e - a else 0

/-- Out's error. -/
def Lea.oE (e a : Int) : Int := if 0 ≤ e ∧ e ≤ 1048576 ∧ 0 ≤ a ∧ a ≤ e then 0 else 2

/-- Admit's answer. -/
def Lea.ad (e a m : Int) : Int := if 1 ≤ m ∧ m ≤ 16 then (if 0 ≤ e ∧ e ≤ 1048576 ∧ 0 ≤ a ∧ a ≤ e then (if m ≤ e - a then 8 else if e = 1048576 then 2 else 0) else 2) else 2

/-- Acked's number. -/
def Lea.kV (e a t : Int) : Int := if 0 ≤ e ∧ e ≤ 1048576 ∧ 0 ≤ a ∧ a ≤ e then (if t ≤ a then a else if t ≤ e then t else e) else 0

/-- Room's number. -/
def Lea.rV (e a m : Int) : Int := if 1 ≤ m ∧ m ≤ 16 ∧ 0 ≤ e ∧ e ≤ 1048576 ∧ 0 ≤ a ∧ a ≤ e then (if m ≤ e - a then 0 else if m - (e - a) ≤ 1048576 - e then m - (e - a) else 1048576 - e) else 0

/-- Room's error. -/
def Lea.rE (e a m : Int) : Int := if 1 ≤ m ∧ m ≤ 16 ∧ 0 ≤ e ∧ e ≤ 1048576 ∧ 0 ≤ a ∧ a ≤ e then 0 else 2

set_option maxHeartbeats 400000 in
theorem lcheck_any (m : Int) (w : World) : Calls Try.prog 15 #[.int .i64 m] w fun E w' => E = .returned (.int .i64 (Lea.ck m)) ∧ w = w' := by
  by_cases h1 : m < 1
  · rw [show Lea.ck m = 2 from if_neg (by omega)]
    go_enter Try.func15, Try.ntmps15
    go_wp2
    go_ret
    exact ⟨rfl, rfl⟩
  · by_cases h2 : 16 < m
    · rw [show Lea.ck m = 2 from if_neg (by omega)]
      go_enter Try.func15, Try.ntmps15
      go_wp2
      go_ret
      exact ⟨rfl, rfl⟩
    · rw [show Lea.ck m = 0 from if_pos (by omega)]
      go_enter Try.func15, Try.ntmps15
      go_wp2
      go_ret
      exact ⟨rfl, rfl⟩

set_option maxHeartbeats 400000 in
theorem lcheckR_any (m : Int) (w : World) : Calls Try.prog 16 #[.int .i64 m] w fun E w' => E = .returned (.int .i64 (Lea.ck m)) ∧ w = w' := by
  by_cases h1 : m < 1
  · rw [show Lea.ck m = 2 from if_neg (by omega)]
    go_enter Try.func16, Try.ntmps16
    go_wp2
    go_ret
    exact ⟨rfl, rfl⟩
  · by_cases h2 : 16 < m
    · rw [show Lea.ck m = 2 from if_neg (by omega)]
      go_enter Try.func16, Try.ntmps16
      go_wp2
      go_ret
      exact ⟨rfl, rfl⟩
    · rw [show Lea.ck m = 0 from if_pos (by omega)]
      go_enter Try.func16, Try.ntmps16
      go_wp2
      go_ret
      exact ⟨rfl, rfl⟩

set_option maxHeartbeats 1000000 in
theorem lout_any (e a : Int) (w : World) : Calls Try.prog 7 #[.int .i64 e, .int .i64 a] w fun E w' => E = .returned (.tuple #[.int .i64 (Lea.oV e a), .int .i64 (Lea.oE e a)]) ∧ w = w' := by
  by_cases h1 : e < 0
  · rw [show Lea.oV e a = 0 from if_neg (by omega), show Lea.oE e a = 2 from if_neg (by omega)]
    go_enter Try.func7, Try.ntmps7
    go_wp2
    go_ret2
    exact ⟨rfl, rfl⟩
  · by_cases h2 : 1048576 < e
    · rw [show Lea.oV e a = 0 from if_neg (by omega), show Lea.oE e a = 2 from if_neg (by omega)]
      go_enter Try.func7, Try.ntmps7
      go_wp2
      go_ret2
      exact ⟨rfl, rfl⟩
    · by_cases h3 : a < 0
      · rw [show Lea.oV e a = 0 from if_neg (by omega), show Lea.oE e a = 2 from if_neg (by omega)]
        go_enter Try.func7, Try.ntmps7
        go_wp2
        go_ret2
        exact ⟨rfl, rfl⟩
      · by_cases h4 : e < a
        · rw [show Lea.oV e a = 0 from if_neg (by omega), show Lea.oE e a = 2 from if_neg (by omega)]
          go_enter Try.func7, Try.ntmps7
          go_wp2
          go_ret2
          exact ⟨rfl, rfl⟩
        · rw [show Lea.oV e a = e - a from if_pos (by omega), show Lea.oE e a = 0 from if_pos (by omega)]
          go_enter Try.func7, Try.ntmps7
          go_wp2
          go_ret2
          exact ⟨rfl, rfl⟩

set_option maxHeartbeats 1000000 in
theorem loutR_any (e a : Int) (w : World) : Calls Try.prog 12 #[.int .i64 e, .int .i64 a] w fun E w' => E = .returned (.tuple #[.int .i64 (Lea.oV e a), .int .i64 (Lea.oE e a)]) ∧ w = w' := by
  by_cases h1 : e < 0
  · rw [show Lea.oV e a = 0 from if_neg (by omega), show Lea.oE e a = 2 from if_neg (by omega)]
    go_enter Try.func12, Try.ntmps12
    go_wp2
    go_ret2
    exact ⟨rfl, rfl⟩
  · by_cases h2 : 1048576 < e
    · rw [show Lea.oV e a = 0 from if_neg (by omega), show Lea.oE e a = 2 from if_neg (by omega)]
      go_enter Try.func12, Try.ntmps12
      go_wp2
      go_ret2
      exact ⟨rfl, rfl⟩
    · by_cases h3 : a < 0
      · rw [show Lea.oV e a = 0 from if_neg (by omega), show Lea.oE e a = 2 from if_neg (by omega)]
        go_enter Try.func12, Try.ntmps12
        go_wp2
        go_ret2
        exact ⟨rfl, rfl⟩
      · by_cases h4 : e < a
        · rw [show Lea.oV e a = 0 from if_neg (by omega), show Lea.oE e a = 2 from if_neg (by omega)]
          go_enter Try.func12, Try.ntmps12
          go_wp2
          go_ret2
          exact ⟨rfl, rfl⟩
        · rw [show Lea.oV e a = e - a from if_pos (by omega), show Lea.oE e a = 0 from if_pos (by omega)]
          go_enter Try.func12, Try.ntmps12
          go_wp2
          go_ret2
          exact ⟨rfl, rfl⟩

theorem Lea.o_in {e a : Int} (h : Lea.In e a) : Lea.oV e a = e - a ∧ Lea.oE e a = 0 := ⟨if_pos h, if_pos h⟩

theorem Lea.o_no {e a : Int} (h : ¬ Lea.In e a) : Lea.oV e a = 0 ∧ Lea.oE e a = 2 := ⟨if_neg h, if_neg h⟩

theorem Lea.ck_in {m : Int} (h : 1 ≤ m ∧ m ≤ 16) : Lea.ck m = 0 := if_pos h

theorem Lea.ck_no {m : Int} (h : ¬ (1 ≤ m ∧ m ≤ 16)) : Lea.ck m = 2 := if_neg h

set_option maxHeartbeats 1000000 in
theorem ladmit_any (e a m : Int) (w : World) : Calls Try.prog 11 #[.int .i64 e, .int .i64 a, .int .i64 m] w fun E w' => E = .returned (.int .i64 (Lea.ad e a m)) ∧ w = w' := by
  by_cases h1 : 1 ≤ m ∧ m ≤ 16
  · by_cases h2 : Lea.In e a
    · obtain ⟨o1, o2⟩ := Lea.o_in h2
      by_cases h3 : m ≤ e - a
      · rw [show Lea.ad e a m = 8 by unfold Lea.ad; rw [if_pos h1, if_pos h2, if_pos h3]]
        go_enter Try.func11, Try.ntmps11
        go_wp2_with fail
        refine (lcheck_any m w).mono ?_
        rintro E w2 ⟨rfl, rfl⟩
        rw [Lea.ck_in h1]
        go_wp2_with fail
        refine (lout_any e a w).mono ?_
        rintro E w2 ⟨rfl, rfl⟩
        rw [o1, o2]
        obtain ⟨h4, h5⟩ := h1
        obtain ⟨h6, h7, h8, h9⟩ := h2
        clear o1 o2
        go_wp2
        go_ret
        exact ⟨rfl, rfl⟩
      · by_cases h10 : e = 1048576
        · rw [show Lea.ad e a m = 2 by unfold Lea.ad; rw [if_pos h1, if_pos h2, if_neg h3, if_pos h10]]
          replace h10 : 1048576 ≤ e := by omega
          go_enter Try.func11, Try.ntmps11
          go_wp2_with fail
          refine (lcheck_any m w).mono ?_
          rintro E w2 ⟨rfl, rfl⟩
          rw [Lea.ck_in h1]
          go_wp2_with fail
          refine (lout_any e a w).mono ?_
          rintro E w2 ⟨rfl, rfl⟩
          rw [o1, o2]
          obtain ⟨h4, h5⟩ := h1
          obtain ⟨h6, h7, h8, h9⟩ := h2
          clear o1 o2
          go_wp2
          go_ret
          exact ⟨rfl, rfl⟩
        · rw [show Lea.ad e a m = 0 by unfold Lea.ad; rw [if_pos h1, if_pos h2, if_neg h3, if_neg h10]]
          have h11 : (e == 1048576) = false := by simpa using h10
          go_enter Try.func11, Try.ntmps11
          go_wp2_with fail
          refine (lcheck_any m w).mono ?_
          rintro E w2 ⟨rfl, rfl⟩
          rw [Lea.ck_in h1]
          go_wp2_with fail
          refine (lout_any e a w).mono ?_
          rintro E w2 ⟨rfl, rfl⟩
          rw [o1, o2]
          obtain ⟨h4, h5⟩ := h1
          obtain ⟨h6, h7, h8, h9⟩ := h2
          clear o1 o2
          go_wp2
          go_ret
          exact ⟨rfl, rfl⟩
    · obtain ⟨o1, o2⟩ := Lea.o_no h2
      rw [show Lea.ad e a m = 2 by unfold Lea.ad; rw [if_pos h1, if_neg h2]]
      go_enter Try.func11, Try.ntmps11
      go_wp2_with fail
      refine (lcheck_any m w).mono ?_
      rintro E w2 ⟨rfl, rfl⟩
      rw [Lea.ck_in h1]
      go_wp2_with fail
      refine (lout_any e a w).mono ?_
      rintro E w2 ⟨rfl, rfl⟩
      rw [o1, o2]
      go_wp2
      go_ret
      exact ⟨rfl, rfl⟩
  · rw [show Lea.ad e a m = 2 by unfold Lea.ad; rw [if_neg h1]]
    go_enter Try.func11, Try.ntmps11
    go_wp2_with fail
    refine (lcheck_any m w).mono ?_
    rintro E w2 ⟨rfl, rfl⟩
    rw [Lea.ck_no h1]
    go_wp2_with fail
    refine (lout_any e a w).mono ?_
    rintro E w2 ⟨rfl, rfl⟩
    generalize Lea.oV e a = x
    generalize Lea.oE e a = y
    go_wp2
    go_ret
    exact ⟨rfl, rfl⟩

set_option maxHeartbeats 1000000 in
theorem ladmitR_any (e a m : Int) (w : World) : Calls Try.prog 17 #[.int .i64 e, .int .i64 a, .int .i64 m] w fun E w' => E = .returned (.int .i64 (Lea.ad e a m)) ∧ w = w' := by
  by_cases h1 : 1 ≤ m ∧ m ≤ 16
  · by_cases h2 : Lea.In e a
    · obtain ⟨o1, o2⟩ := Lea.o_in h2
      by_cases h3 : m ≤ e - a
      · rw [show Lea.ad e a m = 8 by unfold Lea.ad; rw [if_pos h1, if_pos h2, if_pos h3]]
        go_enter Try.func17, Try.ntmps17
        go_wp2_with fail
        refine (lcheckR_any m w).mono ?_
        rintro E w2 ⟨rfl, rfl⟩
        rw [Lea.ck_in h1]
        go_wp2_with fail
        refine (loutR_any e a w).mono ?_
        rintro E w2 ⟨rfl, rfl⟩
        rw [o1, o2]
        obtain ⟨h4, h5⟩ := h1
        obtain ⟨h6, h7, h8, h9⟩ := h2
        clear o1 o2
        go_wp2
        go_ret
        exact ⟨rfl, rfl⟩
      · by_cases h10 : e = 1048576
        · rw [show Lea.ad e a m = 2 by unfold Lea.ad; rw [if_pos h1, if_pos h2, if_neg h3, if_pos h10]]
          replace h10 : 1048576 ≤ e := by omega
          go_enter Try.func17, Try.ntmps17
          go_wp2_with fail
          refine (lcheckR_any m w).mono ?_
          rintro E w2 ⟨rfl, rfl⟩
          rw [Lea.ck_in h1]
          go_wp2_with fail
          refine (loutR_any e a w).mono ?_
          rintro E w2 ⟨rfl, rfl⟩
          rw [o1, o2]
          obtain ⟨h4, h5⟩ := h1
          obtain ⟨h6, h7, h8, h9⟩ := h2
          clear o1 o2
          go_wp2
          go_ret
          exact ⟨rfl, rfl⟩
        · rw [show Lea.ad e a m = 0 by unfold Lea.ad; rw [if_pos h1, if_pos h2, if_neg h3, if_neg h10]]
          have h11 : (e == 1048576) = false := by simpa using h10
          go_enter Try.func17, Try.ntmps17
          go_wp2_with fail
          refine (lcheckR_any m w).mono ?_
          rintro E w2 ⟨rfl, rfl⟩
          rw [Lea.ck_in h1]
          go_wp2_with fail
          refine (loutR_any e a w).mono ?_
          rintro E w2 ⟨rfl, rfl⟩
          rw [o1, o2]
          obtain ⟨h4, h5⟩ := h1
          obtain ⟨h6, h7, h8, h9⟩ := h2
          clear o1 o2
          go_wp2
          go_ret
          exact ⟨rfl, rfl⟩
    · obtain ⟨o1, o2⟩ := Lea.o_no h2
      rw [show Lea.ad e a m = 2 by unfold Lea.ad; rw [if_pos h1, if_neg h2]]
      go_enter Try.func17, Try.ntmps17
      go_wp2_with fail
      refine (lcheckR_any m w).mono ?_
      rintro E w2 ⟨rfl, rfl⟩
      rw [Lea.ck_in h1]
      go_wp2_with fail
      refine (loutR_any e a w).mono ?_
      rintro E w2 ⟨rfl, rfl⟩
      rw [o1, o2]
      go_wp2
      go_ret
      exact ⟨rfl, rfl⟩
  · rw [show Lea.ad e a m = 2 by unfold Lea.ad; rw [if_neg h1]]
    go_enter Try.func17, Try.ntmps17
    go_wp2_with fail
    refine (lcheckR_any m w).mono ?_
    rintro E w2 ⟨rfl, rfl⟩
    rw [Lea.ck_no h1]
    go_wp2
    go_ret
    exact ⟨rfl, rfl⟩

set_option maxHeartbeats 1000000 in
theorem lacked_any (e a t : Int) (w : World) : Calls Try.prog 8 #[.int .i64 e, .int .i64 a, .int .i64 t] w fun E w' => E = .returned (.tuple #[.int .i64 (Lea.kV e a t), .int .i64 (Lea.oE e a)]) ∧ w = w' := by
  by_cases h2 : Lea.In e a
  · obtain ⟨o1, o2⟩ := Lea.o_in h2
    rw [o2]
    by_cases h3 : t < a
    · rw [show Lea.kV e a t = a by unfold Lea.kV; rw [if_pos h2, if_pos (by omega)]]
      have h4 : ¬ t > a := by omega
      have h5 : ¬ e < a := by have := h2.2.2.2; omega
      go_enter Try.func8, Try.ntmps8
      go_wp2_with fail
      refine (lout_any e a w).mono ?_
      rintro E w2 ⟨rfl, rfl⟩
      rw [o1, o2]
      obtain ⟨h6, h7, h8, h9⟩ := h2
      clear o1 o2
      go_wp2
      go_ret2
      exact ⟨rfl, rfl⟩
    · by_cases h4 : e < t
      · have h5 : t > a := by have := h2.2.2.2; omega
        rw [show Lea.kV e a t = e by unfold Lea.kV; rw [if_pos h2, if_neg (by omega), if_neg (by omega)]]
        go_enter Try.func8, Try.ntmps8
        go_wp2_with fail
        refine (lout_any e a w).mono ?_
        rintro E w2 ⟨rfl, rfl⟩
        rw [o1, o2]
        obtain ⟨h6, h7, h8, h9⟩ := h2
        clear o1 o2
        go_wp2
        go_ret2
        exact ⟨rfl, rfl⟩
      · by_cases h5 : t > a
        · rw [show Lea.kV e a t = t by unfold Lea.kV; rw [if_pos h2, if_neg (by omega), if_pos (by omega)]]
          go_enter Try.func8, Try.ntmps8
          go_wp2_with fail
          refine (lout_any e a w).mono ?_
          rintro E w2 ⟨rfl, rfl⟩
          rw [o1, o2]
          obtain ⟨h6, h7, h8, h9⟩ := h2
          clear o1 o2
          go_wp2
          go_ret2
          exact ⟨rfl, rfl⟩
        · obtain rfl : t = a := by omega
          rw [show Lea.kV e t t = t by unfold Lea.kV; rw [if_pos h2, if_pos (by omega)]]
          go_enter Try.func8, Try.ntmps8
          go_wp2_with fail
          refine (lout_any e t w).mono ?_
          rintro E w2 ⟨rfl, rfl⟩
          rw [o1, o2]
          obtain ⟨h6, h7, h8, h9⟩ := h2
          clear o1 o2
          go_wp2
          go_ret2
          exact ⟨rfl, rfl⟩
  · obtain ⟨o1, o2⟩ := Lea.o_no h2
    rw [show Lea.kV e a t = 0 by unfold Lea.kV; rw [if_neg h2], o2]
    go_enter Try.func8, Try.ntmps8
    go_wp2_with fail
    refine (lout_any e a w).mono ?_
    rintro E w2 ⟨rfl, rfl⟩
    rw [o1, o2]
    go_wp2
    go_ret2
    exact ⟨rfl, rfl⟩

set_option maxHeartbeats 1000000 in
theorem lackedR_any (e a t : Int) (w : World) : Calls Try.prog 13 #[.int .i64 e, .int .i64 a, .int .i64 t] w fun E w' => E = .returned (.tuple #[.int .i64 (Lea.kV e a t), .int .i64 (Lea.oE e a)]) ∧ w = w' := by
  by_cases h2 : Lea.In e a
  · obtain ⟨o1, o2⟩ := Lea.o_in h2
    rw [o2]
    by_cases h3 : t < a
    · rw [show Lea.kV e a t = a by unfold Lea.kV; rw [if_pos h2, if_pos (by omega)]]
      have h4 : ¬ t > a := by omega
      have h5 : ¬ e < a := by have := h2.2.2.2; omega
      go_enter Try.func13, Try.ntmps13
      go_wp2_with fail
      refine (loutR_any e a w).mono ?_
      rintro E w2 ⟨rfl, rfl⟩
      rw [o1, o2]
      obtain ⟨h6, h7, h8, h9⟩ := h2
      clear o1 o2
      go_wp2
      go_ret2
      exact ⟨rfl, rfl⟩
    · by_cases h4 : e < t
      · have h5 : t > a := by have := h2.2.2.2; omega
        rw [show Lea.kV e a t = e by unfold Lea.kV; rw [if_pos h2, if_neg (by omega), if_neg (by omega)]]
        go_enter Try.func13, Try.ntmps13
        go_wp2_with fail
        refine (loutR_any e a w).mono ?_
        rintro E w2 ⟨rfl, rfl⟩
        rw [o1, o2]
        obtain ⟨h6, h7, h8, h9⟩ := h2
        clear o1 o2
        go_wp2
        go_ret2
        exact ⟨rfl, rfl⟩
      · by_cases h5 : t > a
        · rw [show Lea.kV e a t = t by unfold Lea.kV; rw [if_pos h2, if_neg (by omega), if_pos (by omega)]]
          go_enter Try.func13, Try.ntmps13
          go_wp2_with fail
          refine (loutR_any e a w).mono ?_
          rintro E w2 ⟨rfl, rfl⟩
          rw [o1, o2]
          obtain ⟨h6, h7, h8, h9⟩ := h2
          clear o1 o2
          go_wp2
          go_ret2
          exact ⟨rfl, rfl⟩
        · obtain rfl : t = a := by omega
          rw [show Lea.kV e t t = t by unfold Lea.kV; rw [if_pos h2, if_pos (by omega)]]
          go_enter Try.func13, Try.ntmps13
          go_wp2_with fail
          refine (loutR_any e t w).mono ?_
          rintro E w2 ⟨rfl, rfl⟩
          rw [o1, o2]
          obtain ⟨h6, h7, h8, h9⟩ := h2
          clear o1 o2
          go_wp2
          go_ret2
          exact ⟨rfl, rfl⟩
  · obtain ⟨o1, o2⟩ := Lea.o_no h2
    rw [show Lea.kV e a t = 0 by unfold Lea.kV; rw [if_neg h2], o2]
    go_enter Try.func13, Try.ntmps13
    go_wp2_with fail
    refine (loutR_any e a w).mono ?_
    rintro E w2 ⟨rfl, rfl⟩
    rw [o1, o2]
    go_wp2
    go_ret2
    exact ⟨rfl, rfl⟩

theorem Lea.r_in {e a m : Int} (h1 : 1 ≤ m ∧ m ≤ 16) (h2 : Lea.In e a) : Lea.rE e a m = 0 ∧ Lea.rV e a m = (if m ≤ e - a then 0 else if m - (e - a) ≤ 1048576 - e then m - (e - a) else 1048576 - e) :=
  ⟨if_pos ⟨h1.1, h1.2, h2⟩, if_pos ⟨h1.1, h1.2, h2⟩⟩

theorem Lea.r_no {e a m : Int} (h : ¬ (1 ≤ m ∧ m ≤ 16) ∨ ¬ Lea.In e a) : Lea.rE e a m = 2 ∧ Lea.rV e a m = 0 :=
  ⟨if_neg (fun x => h.elim (fun y => y ⟨x.1, x.2.1⟩) (fun y => y x.2.2)), if_neg (fun x => h.elim (fun y => y ⟨x.1, x.2.1⟩) (fun y => y x.2.2))⟩

set_option maxHeartbeats 1000000 in
theorem lroom_any (e a m : Int) (w : World) : Calls Try.prog 9 #[.int .i64 e, .int .i64 a, .int .i64 m] w fun E w' => E = .returned (.tuple #[.int .i64 (Lea.rV e a m), .int .i64 (Lea.rE e a m)]) ∧ w = w' := by
  by_cases h1 : 1 ≤ m ∧ m ≤ 16
  · by_cases h2 : Lea.In e a
    · obtain ⟨o1, o2⟩ := Lea.o_in h2
      obtain ⟨hr, hr'⟩ := Lea.r_in h1 h2
      rw [hr, hr']
      clear hr'
      by_cases h3 : m ≤ e - a
      · rw [if_pos h3]
        have h10 : ¬ (0 : Int) < m - (e - a) := by omega
        by_cases h11 : m - (e - a) = 0
        · have h12 : ¬ (0 : Int) > m - (e - a) := by omega
          have h13 : ¬ 1048576 - e < m - (e - a) := by have := h2.2.1; omega
          clear h11
          go_enter Try.func9, Try.ntmps9
          go_wp2_with fail
          refine (lcheck_any m w).mono ?_
          rintro E w2 ⟨rfl, rfl⟩
          rw [Lea.ck_in h1]
          go_wp2_with fail
          refine (lout_any e a w).mono ?_
          rintro E w2 ⟨rfl, rfl⟩
          rw [o1, o2]
          obtain ⟨h4, h5⟩ := h1
          obtain ⟨h6, h7, h8, h9⟩ := h2
          clear o1 o2 hr
          go_wp2
          go_ret2
          have h14 : m - (e - a) = 0 := by omega
          exact ⟨by show Ending.returned (.tuple #[.int .i64 (m - (e - a)), .int .i64 0]) = _; rw [h14], rfl⟩
        · have h12 : (0 : Int) > m - (e - a) := by omega
          have h13 : ¬ 1048576 - e < 0 := by have := h2.2.1; omega
          go_enter Try.func9, Try.ntmps9
          go_wp2_with fail
          refine (lcheck_any m w).mono ?_
          rintro E w2 ⟨rfl, rfl⟩
          rw [Lea.ck_in h1]
          go_wp2_with fail
          refine (lout_any e a w).mono ?_
          rintro E w2 ⟨rfl, rfl⟩
          rw [o1, o2]
          obtain ⟨h4, h5⟩ := h1
          obtain ⟨h6, h7, h8, h9⟩ := h2
          clear o1 o2 hr
          go_wp2
          go_ret2
          exact ⟨rfl, rfl⟩
      · have h12 : ¬ (0 : Int) > m - (e - a) := by omega
        rw [if_neg h3]
        by_cases h11 : m - (e - a) ≤ 1048576 - e
        · rw [if_pos h11]
          have h13 : ¬ 1048576 - e < m - (e - a) := by omega
          go_enter Try.func9, Try.ntmps9
          go_wp2_with fail
          refine (lcheck_any m w).mono ?_
          rintro E w2 ⟨rfl, rfl⟩
          rw [Lea.ck_in h1]
          go_wp2_with fail
          refine (lout_any e a w).mono ?_
          rintro E w2 ⟨rfl, rfl⟩
          rw [o1, o2]
          obtain ⟨h4, h5⟩ := h1
          obtain ⟨h6, h7, h8, h9⟩ := h2
          clear o1 o2 hr
          go_wp2
          go_ret2
          exact ⟨rfl, rfl⟩
        · rw [if_neg h11]
          have h13 : 1048576 - e < m - (e - a) := by omega
          go_enter Try.func9, Try.ntmps9
          go_wp2_with fail
          refine (lcheck_any m w).mono ?_
          rintro E w2 ⟨rfl, rfl⟩
          rw [Lea.ck_in h1]
          go_wp2_with fail
          refine (lout_any e a w).mono ?_
          rintro E w2 ⟨rfl, rfl⟩
          rw [o1, o2]
          obtain ⟨h4, h5⟩ := h1
          obtain ⟨h6, h7, h8, h9⟩ := h2
          clear o1 o2 hr
          go_wp2
          go_ret2
          exact ⟨rfl, rfl⟩
    · obtain ⟨o1, o2⟩ := Lea.o_no h2
      obtain ⟨hr, hr'⟩ := Lea.r_no (m := m) (.inr h2)
      rw [hr, hr']
      go_enter Try.func9, Try.ntmps9
      go_wp2_with fail
      refine (lcheck_any m w).mono ?_
      rintro E w2 ⟨rfl, rfl⟩
      rw [Lea.ck_in h1]
      go_wp2_with fail
      refine (lout_any e a w).mono ?_
      rintro E w2 ⟨rfl, rfl⟩
      rw [o1, o2]
      go_wp2
      go_ret2
      exact ⟨rfl, rfl⟩
  · obtain ⟨hr, hr'⟩ := Lea.r_no (e := e) (a := a) (.inl h1)
    rw [hr, hr']
    go_enter Try.func9, Try.ntmps9
    go_wp2_with fail
    refine (lcheck_any m w).mono ?_
    rintro E w2 ⟨rfl, rfl⟩
    rw [Lea.ck_no h1]
    go_wp2_with fail
    refine (lout_any e a w).mono ?_
    rintro E w2 ⟨rfl, rfl⟩
    generalize Lea.oV e a = x
    generalize Lea.oE e a = y
    clear hr hr'
    go_wp2
    go_ret2
    exact ⟨rfl, rfl⟩

/-- How often Admit takes one more: k times, and no further. -/
theorem Lea.room_next {e a m : Int} (h1 : 1 ≤ m ∧ m ≤ 16) (h2 : Lea.In e a) (k : Nat) (hk : (k : Int) ≤ Lea.rV e a m) : (k : Int) < Lea.rV e a m ∧ Lea.ad (e + k) a m = 0 ∨ (k : Int) = Lea.rV e a m ∧ Lea.ad (e + k) a m ≠ 0 := by
  obtain ⟨h6, h7, h8, h9⟩ := h2
  rw [(Lea.r_in h1 ⟨h6, h7, h8, h9⟩).2] at hk ⊢
  unfold Lea.ad
  rw [if_pos h1]
  split at hk
  · rename_i h3
    rw [if_pos h3]
    refine .inr ⟨by omega, ?_⟩
    rw [if_pos ⟨by omega, by omega, by omega, by omega⟩, if_pos (by omega)]
    decide
  · rename_i h3
    rw [if_neg h3]
    split at hk
    · rename_i h4
      rw [if_pos h4, if_pos ⟨by omega, by omega, by omega, by omega⟩]
      by_cases h5 : (k : Int) = m - (e - a)
      · exact .inr ⟨h5, by rw [if_pos (by omega)]; decide⟩
      · exact .inl ⟨by omega, by rw [if_neg (by omega), if_neg (by omega)]⟩
    · rename_i h4
      rw [if_neg h4, if_pos ⟨by omega, by omega, by omega, by omega⟩]
      by_cases h5 : (k : Int) = 1048576 - e
      · exact .inr ⟨h5, by rw [if_neg (by omega), if_pos (by omega)]; decide⟩
      · exact .inl ⟨by omega, by rw [if_neg (by omega), if_neg (by omega)]⟩

theorem Lea.r_pos (e a m : Int) : 0 ≤ Lea.rV e a m ∧ Lea.rV e a m ≤ 1048576 := by
  unfold Lea.rV
  split
  · split
    · omega
    · split <;> omega
  · omega

set_option maxHeartbeats 1000000 in
theorem lroomR_any (e a m : Int) (w : World) : Calls Try.prog 14 #[.int .i64 e, .int .i64 a, .int .i64 m] w fun E w' => E = .returned (.tuple #[.int .i64 (Lea.rV e a m), .int .i64 (Lea.rE e a m)]) ∧ w = w' := by
  by_cases h1 : 1 ≤ m ∧ m ≤ 16
  · by_cases h2 : Lea.In e a
    · obtain ⟨o1, o2⟩ := Lea.o_in h2
      have hr := (Lea.r_in h1 h2).1
      have HN := hide (Lea.room_next h1 h2)
      have HP := hide (Lea.r_pos e a m)
      rw [hr]
      clear hr
      generalize Lea.rV e a m = R at HN HP ⊢
      go_enter Try.func14, Try.ntmps14
      go_wp2_with fail
      refine (lcheckR_any m w).mono ?_
      rintro E w2 ⟨rfl, rfl⟩
      rw [Lea.ck_in h1]
      go_wp2_with fail
      refine (loutR_any e a w).mono ?_
      rintro E w2 ⟨rfl, rfl⟩
      rw [o1, o2]
      obtain ⟨h6, h7, h8, h9⟩ := h2
      clear o1 o2 h1
      go_wp2
      go_loopw [9] (fun kv wr => ∃ k : Nat, kv = .int .i64 k ∧ (k : Int) ≤ R ∧ wr = w) (fun kv _ => R.toNat - (intOf kv).toNat)
      case atStart => exact ⟨0, rfl, by have := HP.out; omega, rfl⟩
      case round =>
        obtain ⟨k, rfl, hk, rfl⟩ := hrel
        have hk2 : (k : Int) ≤ 1048576 := by have := HP.out; omega
        rcases HN.out k hk with ⟨hlt, had⟩ | ⟨heq, had⟩
        · have HA := hide (ladmitR_any (e + k) a m wr)
          rw [had] at HA
          clear had
          go_wp2_with fail
          refine HA.out.mono ?_
          rintro E w2 ⟨rfl, rfl⟩
          go_wp2
          go_roundw
          case rel => exact ⟨k + 1, rfl, by omega, by trivial⟩
          case measure => simp [intOf]; omega
        · have HA := hide (ladmitR_any (e + k) a m wr)
          generalize Lea.ad (e + k) a m = z at HA had
          have HQ := hide heq
          clear heq
          have had2 : (z == 0) = false := by simpa using had
          clear had
          go_wp2_with fail
          refine HA.out.mono ?_
          rintro E w2 ⟨rfl, rfl⟩
          go_wp2
          go_ret2
          exact ⟨by show Ending.returned (.tuple #[.int .i64 (k : Int), .int .i64 0]) = _; rw [HQ.out], rfl⟩
    · obtain ⟨o1, o2⟩ := Lea.o_no h2
      obtain ⟨hr, hr'⟩ := Lea.r_no (m := m) (.inr h2)
      rw [hr, hr']
      go_enter Try.func14, Try.ntmps14
      go_wp2_with fail
      refine (lcheckR_any m w).mono ?_
      rintro E w2 ⟨rfl, rfl⟩
      rw [Lea.ck_in h1]
      go_wp2_with fail
      refine (loutR_any e a w).mono ?_
      rintro E w2 ⟨rfl, rfl⟩
      rw [o1, o2]
      go_wp2
      go_ret2
      exact ⟨rfl, rfl⟩
  · obtain ⟨hr, hr'⟩ := Lea.r_no (e := e) (a := a) (.inl h1)
    rw [hr, hr']
    go_enter Try.func14, Try.ntmps14
    go_wp2_with fail
    refine (lcheckR_any m w).mono ?_
    rintro E w2 ⟨rfl, rfl⟩
    rw [Lea.ck_no h1]
    clear hr hr'
    go_wp2
    go_ret2
    exact ⟨rfl, rfl⟩

set_option maxHeartbeats 1000000 in
theorem llives_any (w : World) : Calls Try.prog 10 #[] w fun E w' => E = .returned (.bool true) ∧ w = w' := by
  have o1 : Lea.oV 7 5 = 2 := by decide
  have o2 : Lea.oE 7 5 = 0 := by decide
  have a1 : Lea.ad 7 5 3 = 0 := by decide
  have a2 : Lea.ad 8 5 3 = 8 := by decide
  go_enter Try.func10, Try.ntmps10
  go_wp2_with fail
  refine (lout_any 7 5 w).mono ?_
  rintro E w2 ⟨rfl, rfl⟩
  rw [o1, o2]
  go_wp2_with fail
  refine (ladmit_any 7 5 3 w).mono ?_
  rintro E w2 ⟨rfl, rfl⟩
  rw [a1]
  go_wp2_with fail
  refine (ladmit_any 8 5 3 w).mono ?_
  rintro E w2 ⟨rfl, rfl⟩
  rw [a2]
  go_wp2
  go_ret
  exact ⟨rfl, rfl⟩

end Go.Proofs.Ytedljaokkpmhcaa
