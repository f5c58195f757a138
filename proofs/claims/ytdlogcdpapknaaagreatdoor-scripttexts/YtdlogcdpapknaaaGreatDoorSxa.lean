/- Package script (layer 25): the variable names, kindOf, shapeOf. -/
import Derived.Test.YtdlogcdpapknaaaGreatDoorZB
import Derived.Test.YtdlogcdpapknaaaGreatDoorZE
import Derived.Test.YtdlogcdpapknaaaGreatDoorZF
namespace Go.Proofs.YtdlogcdpapknaaaGreatDoor
open Go.RowKit
set_option linter.unusedVariables false
set_option maxRecDepth 100000

/-- What the variable names holds at a place. -/
def nmA (k : Nat) : ByteArray := if k = 0 then ⟨#[]⟩ else ⟨(Sct.nm k).toArray⟩

/-- The variable names. -/
def Nms (w : World) : Prop := ∀ k : Nat, k < 13 → w.cell? ⟨0, k, none⟩ = some (.string (nmA k))

theorem Nms.lt {w : World} (h : Nms w) : 0 < w.heap.size := by
  rcases Nat.eq_zero_or_pos w.heap.size with h0 | h1
  · have := h 0 (by omega)
    simp [World.cell?, h0] at this
  · exact h1
theorem Nms.below {w w' : World} {n : Nat} (h : Nms w) (hb : Below n w w') (hn : 0 < n) : Nms w' := fun k hk => (hb.cell (p := ⟨0, k, none⟩) hn).trans (h k hk)

/-- The kind of a first word. -/
def kd (l : List UInt8) : Int :=
  if l = Sct.nm 1 then 1 else if l = Sct.nm 2 then 2 else if l = Sct.nm 3 then 3 else if l = Sct.nm 4 then 4 else if l = Sct.nm 5 then 5 else if l = Sct.nm 6 then 6 else
  if l = Sct.nm 7 then 7 else if l = Sct.nm 8 then 8 else if l = Sct.nm 9 then 9 else if l = Sct.nm 10 then 10 else if l = Sct.nm 11 then 11 else if l = Sct.nm 12 then 12 else 0

theorem kd_bounds (l : List UInt8) : 0 ≤ kd l ∧ kd l ≤ 12 := by
  unfold kd
  repeat' split
  all_goals omega
theorem kd_nm {k : Int} (h : 1 ≤ k ∧ k ≤ 12) : kd (Sct.nm k) = k := by
  obtain rfl | rfl | rfl | rfl | rfl | rfl | rfl | rfl | rfl | rfl | rfl | rfl : k = 1 ∨ k = 2 ∨ k = 3 ∨ k = 4 ∨ k = 5 ∨ k = 6 ∨ k = 7 ∨ k = 8 ∨ k = 9 ∨ k = 10 ∨ k = 11 ∨ k = 12 := by omega
  all_goals decide
theorem nm_kd {l : List UInt8} (h : 1 ≤ kd l) : l = Sct.nm (kd l) := by
  revert h
  unfold kd
  repeat' split
  all_goals first
    | (intro _; assumption)
    | (intro h; omega)

theorem nm_idx (i : Nat) (h : i < 13) (wx : World) : (Instr.index 105 (.agg #[.string (nmA 0), .string (nmA 1), .string (nmA 2), .string (nmA 3), .string (nmA 4), .string (nmA 5), .string (nmA 6), .string (nmA 7), .string (nmA 8), .string (nmA 9), .string (nmA 10), .string (nmA 11), .string (nmA 12)]) (.int .i64 i)).run Tryz.prog wx = .ok (.string (nmA i)) wx := by
  obtain rfl | rfl | rfl | rfl | rfl | rfl | rfl | rfl | rfl | rfl | rfl | rfl | rfl : i = 0 ∨ i = 1 ∨ i = 2 ∨ i = 3 ∨ i = 4 ∨ i = 5 ∨ i = 6 ∨ i = 7 ∨ i = 8 ∨ i = 9 ∨ i = 10 ∨ i = 11 ∨ i = 12 := by omega
  all_goals rfl

theorem nmA_l (k : Nat) : (nmA k).data.toList = if k = 0 then [] else Sct.nm k := by unfold nmA; split <;> rfl
theorem str_ne {a b : ByteArray} (h : a ≠ b) : (a.toList == b.toList) = false := by
  rw [Lib.toList_data, Lib.toList_data]
  simp only [beq_eq_false_iff_ne, ne_eq]
  exact fun e => h (Sct.ba_ext e)
theorem kd_of {i : Nat} {s : ByteArray} (hi : i < 13) (h : nmA i = s) : kd s.data.toList = i := by
  rw [← h, nmA_l]
  obtain rfl | h1 : i = 0 ∨ 1 ≤ i := by omega
  · decide
  · rw [if_neg (by omega)]
    exact kd_nm ⟨by omega, by omega⟩
theorem kd_no {s : ByteArray} (h : ∀ j : Nat, j < 13 → nmA j ≠ s) : kd s.data.toList = 0 := by
  obtain ⟨b0, b1⟩ := kd_bounds s.data.toList
  rcases (show kd s.data.toList = 0 ∨ 1 ≤ kd s.data.toList by omega) with e | e
  · exact e
  · exfalso
    have hl := nm_kd e
    refine h (kd s.data.toList).toNat (by omega) (Sct.ba_ext ?_)
    rw [nmA_l, if_neg (by omega), show (((kd s.data.toList).toNat : Nat) : Int) = kd s.data.toList by omega]
    exact hl.symm

set_option maxHeartbeats 8000000 in
theorem kindOf_any (s : ByteArray) (w : World) (hv : Nms w) : Calls Tryz.prog 52 #[.string s] w fun E w' => E = .returned (.int .i64 (kd s.data.toList)) ∧ w = w' := by
  have c0 := hv 0 (by omega); have c1 := hv 1 (by omega); have c2 := hv 2 (by omega); have c3 := hv 3 (by omega); have c4 := hv 4 (by omega); have c5 := hv 5 (by omega); have c6 := hv 6 (by omega)
  have c7 := hv 7 (by omega); have c8 := hv 8 (by omega); have c9 := hv 9 (by omega); have c10 := hv 10 (by omega); have c11 := hv 11 (by omega); have c12 := hv 12 (by omega)
  clear hv
  go_enter Tryz.func52, Tryz.ntmps52
  go_wp2
  go_loop [6] (fun iv => ∃ i : Nat, i ≤ 13 ∧ iv = .int .i64 i ∧ Hid (∀ j : Nat, j < i → nmA j ≠ s)) (fun iv => 13 - (intOf iv).toNat)
  case atStart => exact ⟨0, by omega, rfl, hide fun j hj => by omega⟩
  case round =>
    obtain ⟨i, hi, rfl, HN⟩ := hrel
    by_cases hlt : i < 13
    · have hlt' : (i : Int) < 13 := by omega
      have hX := nm_idx i hlt
      by_cases he : nmA i = s
      · have R : Hid (kd s.data.toList = i) := hide (kd_of hlt he)
        subst he
        clear HN
        go_wp2
        go_ret
        exact ⟨by rw [R.out]; rfl, rfl⟩
      · have hq := str_ne he
        have HN2 : Hid (∀ j : Nat, j < i + 1 → nmA j ≠ s) := hide fun j hj => by
          rcases (show j < i ∨ j = i by omega) with h | h
          · exact HN.out j h
          · rw [h]; exact he
        clear HN he
        go_wp2
        go_round
        case rel => exact ⟨i + 1, by omega, by go_num, HN2⟩
        case measure => simp [intOf]; omega
    · have hlt' : ¬ (i : Int) < 13 := by omega
      obtain rfl : i = 13 := by omega
      have R : Hid (kd s.data.toList = 0) := hide (kd_no HN.out)
      clear HN
      go_wp2
      go_ret
      exact ⟨by rw [R.out]; rfl, rfl⟩

/-- What the lines of a kind have: how great a node, a number, a second one may be; a key, ops. -/
def shNode (k : Int) : Int := if Sct.hu k then 1 else 0
def shN (k : Int) : Int := if Sct.hn k then 999999999 else 0
def shT (k : Int) : Int := if Sct.ht k then 999999999 else 0
def shV (k : Int) : Value := .agg #[.int .i64 (shNode k), .int .i64 (shN k), .int .i64 (shT k), .bool (Sct.hk k), .bool (Sct.ho k)]

theorem kind_of12 {k : Int} (h : 0 ≤ k ∧ k ≤ 12) : k = 0 ∨ k = 1 ∨ k = 2 ∨ k = 3 ∨ k = 4 ∨ k = 5 ∨ k = 6 ∨ k = 7 ∨ k = 8 ∨ k = 9 ∨ k = 10 ∨ k = 11 ∨ k = 12 := by omega

set_option maxHeartbeats 8000000 in
theorem shapeOf_any (k : Int) (w : World) (h : 0 ≤ k ∧ k ≤ 12) : Calls Tryz.prog 40 #[.int .i64 k] w fun E w' => E = .returned (shV k) ∧ Below w.heap.size w w' := by
  obtain ⟨v, hv⟩ : ∃ v, shV k = v := ⟨_, rfl⟩
  have HV := hide hv
  rw [hv]
  clear hv
  rcases kind_of12 h with rfl | rfl | rfl | rfl | rfl | rfl | rfl | rfl | rfl | rfl | rfl | rfl | rfl
  all_goals
    go_enter Tryz.func40, Tryz.ntmps40
    go_wp2
  all_goals
    refine bodyPost_ret (v := v) (by
      rw [← HV.out]
      simp [results, Tryz.results40, go_sem]
      rfl) rfl ?_
    exact ⟨rfl, ((Below.refl _ w).alloc (Nat.le_refl _) _).alloc (by simp) _⟩

end Go.Proofs.YtdlogcdpapknaaaGreatDoor
