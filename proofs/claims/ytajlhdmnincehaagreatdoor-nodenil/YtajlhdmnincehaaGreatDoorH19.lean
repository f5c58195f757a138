/- Texts of one layer, one behind the other. -/
import Derived.Test.YtajlhdmnincehaaGreatDoorH1
import Derived.Test.YtajlhdmnincehaaGreatDoorProg
/- The contracts of OverBytes and ApartBytes. -/
namespace Go.Proofs.YtajlhdmnincehaaGreatDoor
open Go.RowKit
set_option linter.unusedVariables false


/-- Go's complement of a byte, as the walk spells it. -/
def cpl (z : Int) : Int := bits BinOp.xor IntKind.u8 (if IntKind.u8.signed = true then -1 else IntKind.u8.max) z









/-- What the lists are, ahead of ApartBytes. -/
structure Lists (m bl base : Nat) (w : World) (vs : Nat → Value) (zs : Nat → List Int) : Prop where
  cell : ∀ i, i < m → w.cell? ⟨bl, i, none⟩ = some (vs i)
  own : ∀ i, i < m → Own .u8 5 base w (vs i) (zs i)
  apart : ∀ i j, i < m → j < m → i ≠ j → (vs i).ownBlock = none ∨ (vs i).ownBlock ≠ (vs j).ownBlock
  table : ∀ i, i < m → (vs i).ownBlock ≠ some bl
  lens : ∀ i, i < m → (zs i).length ≤ 150000000000000

/-- Behind the first loop: a copy of each. -/
structure Copies (m bl base : Nat) (w0 wr : World) (vs us : Nat → Value) (zs : Nat → List Int) (k : Nat) : Prop where
  cell : ∀ i, i < m → wr.cell? ⟨bl, i, none⟩ = some (vs i)
  was : ∀ i, i < m → wr.cell? ⟨w0.heap.size, i, none⟩ = some (us i)
  new : ∀ i, i < m → Own .u8 5 (w0.heap.size + 1) wr (us i) (zs i)
  done : ∀ i, i < k → i < m → Own .u8 5 base wr (vs i) ((zs i).map cpl)
  left : ∀ i, k ≤ i → i < m → Own .u8 5 base wr (vs i) (zs i)
  below : Below base w0 wr
  keep : ∀ g, g < w0.heap.size → (∀ i, i < m → (vs i).ownBlock ≠ some g) → wr.heap[g]? = w0.heap[g]?






/-- Two lists in a table. -/
def two {α : Type} (a b : α) : Nat → α | 0 => a | _ => b



end Go.Proofs.YtajlhdmnincehaaGreatDoor

/- The contract of Pick. -/
namespace Go.Proofs.YtajlhdmnincehaaGreatDoor
open Go.RowKit
set_option linter.unusedVariables false


def pk (x n : Int) : Int := if x.tmod n < 0 then x.tmod n + n else x.tmod n


end Go.Proofs.YtajlhdmnincehaaGreatDoor

/- The leash (package leash and the document's): what its functions answer, for all numbers. -/
namespace Go.Proofs.YtajlhdmnincehaaGreatDoor
open Go.RowKit
set_option linter.unusedVariables false

/-- A leash's error. -/
def Lea.ck (m : Int) : Int := if 1 ≤ m ∧ m ≤ 16 then 0 else 2

/-- A log's end and its acked position. -/
abbrev Lea.In (e a : Int) : Prop := 0 ≤ e ∧ e ≤ 1048576 ∧ 0 ≤ a ∧ a ≤ e

/-- Out's number. -/
def Lea.oV (e a : Int) : Int := if 0 ≤ e ∧ e ≤ 1048576 ∧ 0 ≤ a ∧ a ≤ e then e - a else 0

/-- Out's error. -/
def Lea.oE (e a : Int) : Int := if 0 ≤ e ∧ e ≤ 1048576 ∧ 0 ≤ a ∧ a ≤ e then 0 else 2

/-- Admit's answer. -/
def Lea.ad (e a m : Int) : Int := if 1 ≤ m ∧ m ≤ 16 then (if 0 ≤ e ∧ e ≤ 1048576 ∧ 0 ≤ a ∧ a ≤ e then (if m ≤ e - a then 8 else if e = 1048576 then 2 else 0) else 2) else 2




set_option maxHeartbeats 400000 in
theorem lcheck_any (m : Int) (w : World) : Calls Tryz.prog 45 #[.int .i64 m] w fun E w' => E = .returned (.int .i64 (Lea.ck m)) ∧ w = w' := by
  by_cases h1 : m < 1
  · rw [show Lea.ck m = 2 from if_neg (by omega)]
    go_enter Tryz.func45, Tryz.ntmps45
    go_wp2
    go_ret
    exact ⟨rfl, rfl⟩
  · by_cases h2 : 16 < m
    · rw [show Lea.ck m = 2 from if_neg (by omega)]
      go_enter Tryz.func45, Tryz.ntmps45
      go_wp2
      go_ret
      exact ⟨rfl, rfl⟩
    · rw [show Lea.ck m = 0 from if_pos (by omega)]
      go_enter Tryz.func45, Tryz.ntmps45
      go_wp2
      go_ret
      exact ⟨rfl, rfl⟩

set_option maxHeartbeats 1000000 in
theorem lout_any (e a : Int) (w : World) : Calls Tryz.prog 41 #[.int .i64 e, .int .i64 a] w fun E w' => E = .returned (.tuple #[.int .i64 (Lea.oV e a), .int .i64 (Lea.oE e a)]) ∧ w = w' := by
  by_cases h1 : e < 0
  · rw [show Lea.oV e a = 0 from if_neg (by omega), show Lea.oE e a = 2 from if_neg (by omega)]
    go_enter Tryz.func41, Tryz.ntmps41
    go_wp2
    go_ret2
    exact ⟨rfl, rfl⟩
  · by_cases h2 : 1048576 < e
    · rw [show Lea.oV e a = 0 from if_neg (by omega), show Lea.oE e a = 2 from if_neg (by omega)]
      go_enter Tryz.func41, Tryz.ntmps41
      go_wp2
      go_ret2
      exact ⟨rfl, rfl⟩
    · by_cases h3 : a < 0
      · rw [show Lea.oV e a = 0 from if_neg (by omega), show Lea.oE e a = 2 from if_neg (by omega)]
        go_enter Tryz.func41, Tryz.ntmps41
        go_wp2
        go_ret2
        exact ⟨rfl, rfl⟩
      · by_cases h4 : e < a
        · rw [show Lea.oV e a = 0 from if_neg (by omega), show Lea.oE e a = 2 from if_neg (by omega)]
          go_enter Tryz.func41, Tryz.ntmps41
          go_wp2
          go_ret2
          exact ⟨rfl, rfl⟩
        · rw [show Lea.oV e a = e - a from if_pos (by omega), show Lea.oE e a = 0 from if_pos (by omega)]
          go_enter Tryz.func41, Tryz.ntmps41
          go_wp2
          go_ret2
          exact ⟨rfl, rfl⟩

theorem Lea.o_in {e a : Int} (h : Lea.In e a) : Lea.oV e a = e - a ∧ Lea.oE e a = 0 := ⟨if_pos h, if_pos h⟩

theorem Lea.o_no {e a : Int} (h : ¬ Lea.In e a) : Lea.oV e a = 0 ∧ Lea.oE e a = 2 := ⟨if_neg h, if_neg h⟩

theorem Lea.ck_in {m : Int} (h : 1 ≤ m ∧ m ≤ 16) : Lea.ck m = 0 := if_pos h

theorem Lea.ck_no {m : Int} (h : ¬ (1 ≤ m ∧ m ≤ 16)) : Lea.ck m = 2 := if_neg h

set_option maxHeartbeats 1000000 in
theorem ladmit_any (e a m : Int) (w : World) : Calls Tryz.prog 52 #[.int .i64 e, .int .i64 a, .int .i64 m] w fun E w' => E = .returned (.int .i64 (Lea.ad e a m)) ∧ w = w' := by
  by_cases h1 : 1 ≤ m ∧ m ≤ 16
  · by_cases h2 : Lea.In e a
    · obtain ⟨o1, o2⟩ := Lea.o_in h2
      by_cases h3 : m ≤ e - a
      · rw [show Lea.ad e a m = 8 by unfold Lea.ad; rw [if_pos h1, if_pos h2, if_pos h3]]
        go_enter Tryz.func52, Tryz.ntmps52
        go_wp2_with fail
        refine (lcheck_any m w).mono ?_
        rintro E w2 ⟨rfl, rfl⟩
        rw [Lea.ck_in h1]
        go_wp2_with fail
        refine (lout_any e a w).mono ?_
        rintro E w2 ⟨rfl, rfl⟩
        rw [o1, o2]
        obtain ⟨h4, h5⟩ := h1
        obtain ⟨h6, h7, h8, h9⟩ := h2
        clear o1 o2
        go_wp2
        go_ret
        exact ⟨rfl, rfl⟩
      · by_cases h10 : e = 1048576
        · rw [show Lea.ad e a m = 2 by unfold Lea.ad; rw [if_pos h1, if_pos h2, if_neg h3, if_pos h10]]
          replace h10 : 1048576 ≤ e := by omega
          go_enter Tryz.func52, Tryz.ntmps52
          go_wp2_with fail
          refine (lcheck_any m w).mono ?_
          rintro E w2 ⟨rfl, rfl⟩
          rw [Lea.ck_in h1]
          go_wp2_with fail
          refine (lout_any e a w).mono ?_
          rintro E w2 ⟨rfl, rfl⟩
          rw [o1, o2]
          obtain ⟨h4, h5⟩ := h1
          obtain ⟨h6, h7, h8, h9⟩ := h2
          clear o1 o2
          go_wp2
          go_ret
          exact ⟨rfl, rfl⟩
        · rw [show Lea.ad e a m = 0 by unfold Lea.ad; rw [if_pos h1, if_pos h2, if_neg h3, if_neg h10]]
          have h11 : (e == 1048576) = false := by simpa using h10
          go_enter Tryz.func52, Tryz.ntmps52
          go_wp2_with fail
          refine (lcheck_any m w).mono ?_
          rintro E w2 ⟨rfl, rfl⟩
          rw [Lea.ck_in h1]
          go_wp2_with fail
          refine (lout_any e a w).mono ?_
          rintro E w2 ⟨rfl, rfl⟩
          rw [o1, o2]
          obtain ⟨h4, h5⟩ := h1
          obtain ⟨h6, h7, h8, h9⟩ := h2
          clear o1 o2
          go_wp2
          go_ret
          exact ⟨rfl, rfl⟩
    · obtain ⟨o1, o2⟩ := Lea.o_no h2
      rw [show Lea.ad e a m = 2 by unfold Lea.ad; rw [if_pos h1, if_neg h2]]
      go_enter Tryz.func52, Tryz.ntmps52
      go_wp2_with fail
      refine (lcheck_any m w).mono ?_
      rintro E w2 ⟨rfl, rfl⟩
      rw [Lea.ck_in h1]
      go_wp2_with fail
      refine (lout_any e a w).mono ?_
      rintro E w2 ⟨rfl, rfl⟩
      rw [o1, o2]
      go_wp2
      go_ret
      exact ⟨rfl, rfl⟩
  · rw [show Lea.ad e a m = 2 by unfold Lea.ad; rw [if_neg h1]]
    go_enter Tryz.func52, Tryz.ntmps52
    go_wp2_with fail
    refine (lcheck_any m w).mono ?_
    rintro E w2 ⟨rfl, rfl⟩
    rw [Lea.ck_no h1]
    go_wp2_with fail
    refine (lout_any e a w).mono ?_
    rintro E w2 ⟨rfl, rfl⟩
    generalize Lea.oV e a = x
    generalize Lea.oE e a = y
    go_wp2
    go_ret
    exact ⟨rfl, rfl⟩






end Go.Proofs.YtajlhdmnincehaaGreatDoor
