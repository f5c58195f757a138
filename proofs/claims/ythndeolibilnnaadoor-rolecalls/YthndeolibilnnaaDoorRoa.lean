/- The mathematics of roles: how one page follows another one. No program. -/
import Derived.Test.YthndeolibilnnaaDoorPm
namespace Go.Proofs.YthndeolibilnnaaDoor
set_option linter.unusedVariables false
namespace Rol
open Pm (Pg chk no Ok)

/-- Promote. -/
def prE (x : Pg) (n : Int) : Int := if chk x = 0 then (if n < 0 ∨ 1048576 < n then 2 else if x.r = 1 then 10 else if x.r = 3 then 9 else if x.e = 1048576 then 2 else 0) else chk x
def pr (x : Pg) (n : Int) : Pg := if prE x n = 0 then ⟨x.e + 1, 1, n, 0, 0, 0⟩ else no

/-- Hear. -/
def heE (x : Pg) (n : Int) : Int := if chk x = 0 then (if n < 1 ∨ 1048576 < n then 2 else 0) else chk x
def heB (x : Pg) (n : Int) : Bool := decide (heE x n = 0) && decide (x.e < n)
def he (x : Pg) (n : Int) : Pg := if heE x n = 0 then (if x.e < n then ⟨n, 3, 0, 1, 0, 0⟩ else x) else no

/-- Fork. -/
def fkE (x : Pg) (n m : Int) : Int := if chk x = 0 then (if n < 0 ∨ 1048576 < n ∨ m < 0 ∨ 1073741824 < m then 2 else if x.p = 1 then 0 else 15) else chk x
def fk (x : Pg) (n m : Int) : Pg := if fkE x n m = 0 then ⟨x.e, x.r, x.a, 2, n, m⟩ else no

/-- File and Cut. -/
def nxE (x : Pg) (p : Int) : Int := if chk x = 0 then (if x.p = p then 0 else 15) else chk x
def nx (x : Pg) (p q : Int) : Pg := if nxE x p = 0 then ⟨x.e, x.r, x.a, q, x.f, x.b⟩ else no

/-- Rejoin. -/
def rj (x : Pg) : Pg := if nxE x 4 = 0 then ⟨x.e, 2, 0, 0, 0, 0⟩ else no

/-- Acked. -/
def akE (x : Pg) (n : Int) : Int := if chk x = 0 then (if n < 0 ∨ 1048576 < n then 2 else if x.r = 1 then 0 else 15) else chk x
def akB (x : Pg) (n : Int) : Bool := decide (akE x n = 0) && decide (x.a < n)
def ak (x : Pg) (n : Int) : Pg := if akE x n = 0 then (if x.a < n then ⟨x.e, x.r, n, x.p, x.f, x.b⟩ else x) else no

/-- Writes, Reads. -/
def wrE (x : Pg) : Int := if chk x = 0 then (if x.r = 2 then 11 else if x.r = 3 then 9 else 0) else chk x
def rdE (x : Pg) : Int := if chk x = 0 then (if x.r = 3 then 9 else 0) else chk x

theorem prE_zero {x : Pg} {n : Int} (h : prE x n = 0) : Ok x ∧ 0 ≤ n ∧ n ≤ 1048576 ∧ x.r = 2 ∧ x.e < 1048576 := by
  unfold prE at h
  split at h
  · rename_i hc
    have ho := Pm.chk_iff.1 hc
    obtain ⟨h1, h2, h3, h4, _⟩ := Pm.ok_nums ho
    split at h
    · simp at h
    · split at h
      · simp at h
      · split at h
        · simp at h
        · split at h
          · simp at h
          · exact ⟨ho, by omega, by omega, by omega, by omega⟩
  · rename_i hc
    exact absurd h hc

theorem heE_zero {x : Pg} {n : Int} (h : heE x n = 0) : Ok x ∧ 1 ≤ n ∧ n ≤ 1048576 := by
  unfold heE at h
  split at h
  · rename_i hc
    split at h
    · simp at h
    · exact ⟨Pm.chk_iff.1 hc, by omega, by omega⟩
  · rename_i hc
    exact absurd h hc

theorem fkE_zero {x : Pg} {n m : Int} (h : fkE x n m = 0) : Ok x ∧ 0 ≤ n ∧ n ≤ 1048576 ∧ 0 ≤ m ∧ m ≤ 1073741824 ∧ x.p = 1 := by
  unfold fkE at h
  split at h
  · rename_i hc
    split at h
    · simp at h
    · split at h
      · exact ⟨Pm.chk_iff.1 hc, by omega, by omega, by omega, by omega, by assumption⟩
      · simp at h
  · rename_i hc
    exact absurd h hc

theorem nxE_zero {x : Pg} {p : Int} (h : nxE x p = 0) : Ok x ∧ x.p = p := by
  unfold nxE at h
  split at h
  · rename_i hc
    split at h
    · exact ⟨Pm.chk_iff.1 hc, by assumption⟩
    · simp at h
  · rename_i hc
    exact absurd h hc

theorem akE_zero {x : Pg} {n : Int} (h : akE x n = 0) : Ok x ∧ 0 ≤ n ∧ n ≤ 1048576 ∧ x.r = 1 := by
  unfold akE at h
  split at h
  · rename_i hc
    split at h
    · simp at h
    · split at h
      · exact ⟨Pm.chk_iff.1 hc, by omega, by omega, by assumption⟩
      · simp at h
  · rename_i hc
    exact absurd h hc

/-- What a page of a phase is. -/
theorem ok_phase {x : Pg} (h : Ok x) : (x.p = 0 → x.r = 1 ∨ x.r = 2) ∧ (x.p ≠ 0 → x.r = 3 ∧ x.a = 0) ∧ (x.p = 1 → x.f = 0 ∧ x.b = 0) ∧ (x.r = 1 → x.p = 0 ∧ x.f = 0 ∧ x.b = 0) ∧ (x.r = 2 → x.a = 0 ∧ x.p = 0 ∧ x.f = 0 ∧ x.b = 0) := by
  obtain ⟨_, h⟩ := h
  rcases h with h | h | h | h <;> refine ⟨?_, ?_, ?_, ?_, ?_⟩ <;> intro q <;> omega

/-- May a page follow another one? -/
def Way (x y : Pg) : Prop :=
  y = x ∨ (y.r = 1 ∧ (x.r = 2 ∧ y.e = x.e + 1 ∨ x.r = 1 ∧ y.e = x.e ∧ x.a < y.a)) ∨ (y.r = 2 ∧ x.r = 3 ∧ x.p = 4 ∧ y.e = x.e) ∨ (y.r = 3 ∧ y.p = 1 ∧ x.e < y.e) ∨ (y.r = 3 ∧ y.p ≠ 1 ∧ x.r = 3 ∧ y.e = x.e ∧ y.p = x.p + 1 ∧ (x.p = 1 ∨ y.f = x.f ∧ y.b = x.b))

theorem pr_way {x : Pg} {n : Int} (h : prE x n = 0) : Ok (pr x n) ∧ x.e ≤ (pr x n).e ∧ Way x (pr x n) := by
  obtain ⟨h1, h2, h3, h4, h5⟩ := prE_zero h
  obtain ⟨k1, k2, _⟩ := Pm.ok_nums h1
  unfold pr
  rw [if_pos h]
  exact ⟨⟨⟨by show 1 ≤ x.e + 1; omega, by show x.e + 1 ≤ 1048576; omega, h2, h3, by simp, by simp, by simp, by simp⟩, .inl ⟨rfl, rfl, rfl, rfl⟩⟩, by show x.e ≤ x.e + 1; omega, .inr (.inl ⟨rfl, .inl ⟨h4, rfl⟩⟩)⟩

theorem he_way {x : Pg} {n : Int} (h : heE x n = 0) : Ok (he x n) ∧ x.e ≤ (he x n).e ∧ Way x (he x n) := by
  obtain ⟨h1, h2, h3⟩ := heE_zero h
  unfold he
  rw [if_pos h]
  split
  · rename_i hlt
    exact ⟨⟨⟨h2, h3, by simp, by simp, by simp, by simp, by simp, by simp⟩, .inr (.inr (.inl ⟨rfl, rfl, rfl, rfl, rfl⟩))⟩, by show x.e ≤ n; omega, .inr (.inr (.inr (.inl ⟨rfl, rfl, hlt⟩)))⟩
  · exact ⟨h1, Int.le_refl _, .inl rfl⟩

theorem rj_way {x : Pg} (h : nxE x 4 = 0) : Ok (rj x) ∧ x.e ≤ (rj x).e ∧ Way x (rj x) := by
  obtain ⟨h1, h2⟩ := nxE_zero h
  obtain ⟨k1, k2, _⟩ := Pm.ok_nums h1
  obtain ⟨_, q2, _⟩ := ok_phase h1
  unfold rj
  rw [if_pos h]
  exact ⟨⟨⟨k1, k2, by simp, by simp, by simp, by simp, by simp, by simp⟩, .inr (.inl ⟨rfl, rfl, rfl, rfl, rfl⟩)⟩, Int.le_refl _, .inr (.inr (.inl ⟨rfl, (q2 (by omega)).1, h2, rfl⟩))⟩

theorem fk_way {x : Pg} {n m : Int} (h : fkE x n m = 0) : Ok (fk x n m) ∧ x.e ≤ (fk x n m).e ∧ Way x (fk x n m) := by
  obtain ⟨h1, h2, h3, h4, h5, h6⟩ := fkE_zero h
  obtain ⟨k1, k2, _⟩ := Pm.ok_nums h1
  obtain ⟨_, q2, _⟩ := ok_phase h1
  obtain ⟨r1, r2⟩ := q2 (by omega)
  unfold fk
  rw [if_pos h]
  exact ⟨⟨⟨k1, k2, by show 0 ≤ x.a; omega, by show x.a ≤ 1048576; omega, h2, h3, h4, h5⟩, .inr (.inr (.inr ⟨r1, r2, by simp, by simp⟩))⟩, Int.le_refl _, .inr (.inr (.inr (.inr ⟨r1, by simp, r1, rfl, by show (2 : Int) = x.p + 1; omega, .inl h6⟩)))⟩

theorem nx_way {x : Pg} {p q : Int} (h : nxE x p = 0) (hp : 2 ≤ p) (hq : q = p + 1) (hq4 : q ≤ 4) : Ok (nx x p q) ∧ x.e ≤ (nx x p q).e ∧ Way x (nx x p q) := by
  obtain ⟨h1, h2⟩ := nxE_zero h
  obtain ⟨k1, k2, _, _, k5, k6, _, _, k9, k10, k11, k12⟩ := Pm.ok_nums h1
  obtain ⟨_, q2, _⟩ := ok_phase h1
  obtain ⟨r1, r2⟩ := q2 (by omega)
  unfold nx
  rw [if_pos h]
  exact ⟨⟨⟨k1, k2, k5, k6, k9, k10, k11, k12⟩, .inr (.inr (.inr ⟨r1, r2, by show 2 ≤ q; omega, hq4⟩))⟩, Int.le_refl _, .inr (.inr (.inr (.inr ⟨r1, by show q ≠ 1; omega, r1, rfl, by show q = x.p + 1; omega, .inr ⟨rfl, rfl⟩⟩)))⟩

theorem ak_way {x : Pg} {n : Int} (h : akE x n = 0) : Ok (ak x n) ∧ x.e ≤ (ak x n).e ∧ Way x (ak x n) := by
  obtain ⟨h1, h2, h3, h4⟩ := akE_zero h
  obtain ⟨k1, k2, _⟩ := Pm.ok_nums h1
  obtain ⟨_, _, _, q4, _⟩ := ok_phase h1
  obtain ⟨a1, a2, a3⟩ := q4 h4
  unfold ak
  rw [if_pos h]
  split
  · rename_i hlt
    refine ⟨⟨⟨k1, k2, h2, h3, ?_, ?_, ?_, ?_⟩, .inl ⟨h4, a1, a2, a3⟩⟩, Int.le_refl _, .inr (.inl ⟨h4, .inr ⟨h4, rfl, hlt⟩⟩)⟩ <;> first | (show 0 ≤ x.f; omega) | (show x.f ≤ 1048576; omega) | (show 0 ≤ x.b; omega) | (show x.b ≤ 1073741824; omega)
  · exact ⟨h1, Int.le_refl _, .inl rfl⟩

end Rol
end Go.Proofs.YthndeolibilnnaaDoor
