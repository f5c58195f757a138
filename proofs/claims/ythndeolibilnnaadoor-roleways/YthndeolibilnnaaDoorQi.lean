/- The contracts of the document's Check. -/
import Derived.Test.YthndeolibilnnaaDoorQsp
import Derived.Deep.CutRange
namespace Go.Proofs.YthndeolibilnnaaDoor
open Go.RowKit
set_option linter.unusedVariables false

/-- The phase tells a fork. -/
abbrev Knw (x : Pm.Pg) : Prop := x.p = 2 ∨ x.p = 3 ∨ x.p = 4

theorem is_bool {p : Prop} [Decidable p] (h : p) : Value.bool true = .bool (decide p) := by rw [decide_eq_true h]
theorem no_bool {p : Prop} [Decidable p] (h : ¬ p) : Value.bool false = .bool (decide p) := by rw [decide_eq_false h]

set_option maxRecDepth 100000 in
set_option maxHeartbeats 4000000 in
theorem checkR_any (x : Pm.Pg) (w : World) (hx : FitP x) :
    Calls Tryd.prog 37 #[vp x] w fun E w' => E = .returned (.int .i64 (Pm.chk x)) ∧ Below w.heap.size w w' := by
  unfold vp
  obtain ⟨w1, hw1, sz1, bel1, hB⟩ := blk_step w #[.int .i64 x.e, .int .u8 x.r, .int .i64 x.a, .int .u8 x.p, .int .i64 x.f, .int .i64 x.b] 25
  obtain ⟨c0, c1, c2, c3, c4, c5⟩ := six_of hB
  obtain ⟨g1, g2, g3, g4, g5, g6, g7, g8, g9, g10, g11, g12⟩ := hx
  obtain ⟨ch, hch⟩ : ∃ c, Pm.chk x = c := ⟨_, rfl⟩
  rw [hch]
  have HC := hide hch
  clear hB hch
  go_enter Tryd.func37, Tryd.ntmps37
  go_upto_region 1 with fail
  go_cut [3] from 5 to 42 (fun v3 wx => v3 = .bool (decide (Pm.Bnd x)) ∧ wx = w1)
  case first =>
    by_cases k0 : 1 ≤ x.e
    rotate_left
    · go_wp2_with fail
      go_meet
      exact ⟨no_bool (fun h => by unfold Pm.Bnd at h; omega), rfl⟩
    by_cases k1 : x.e ≤ 1048576
    rotate_left
    · go_wp2_with fail
      go_meet
      exact ⟨no_bool (fun h => by unfold Pm.Bnd at h; omega), rfl⟩
    by_cases k2 : 0 ≤ x.a
    rotate_left
    · go_wp2_with fail
      go_meet
      exact ⟨no_bool (fun h => by unfold Pm.Bnd at h; omega), rfl⟩
    by_cases k3 : x.a ≤ 1048576
    rotate_left
    · go_wp2_with fail
      go_meet
      exact ⟨no_bool (fun h => by unfold Pm.Bnd at h; omega), rfl⟩
    by_cases k4 : 0 ≤ x.f
    rotate_left
    · go_wp2_with fail
      go_meet
      exact ⟨no_bool (fun h => by unfold Pm.Bnd at h; omega), rfl⟩
    by_cases k5 : x.f ≤ 1048576
    rotate_left
    · go_wp2_with fail
      go_meet
      exact ⟨no_bool (fun h => by unfold Pm.Bnd at h; omega), rfl⟩
    by_cases k6 : 0 ≤ x.b
    rotate_left
    · go_wp2_with fail
      go_meet
      exact ⟨no_bool (fun h => by unfold Pm.Bnd at h; omega), rfl⟩
    by_cases k7 : x.b ≤ 1073741824
    rotate_left
    · go_wp2_with fail
      go_meet
      exact ⟨no_bool (fun h => by unfold Pm.Bnd at h; omega), rfl⟩
    go_wp2_with fail
    go_meet
    exact ⟨is_bool (by unfold Pm.Bnd; omega), rfl⟩
  case rest =>
  obtain ⟨hc3, hwc⟩ := hcut
  subst hc3
  rw [hwc]
  clear hwc
  go_upto_region 2 with fail
  go_cut [4] from 43 to 55 (fun v4 wx => v4 = .bool (decide (Knw x)) ∧ wx = w1)
  case first =>
    by_cases k2 : x.p = 2
    · have k2' : (x.p == 2) = true := by simp [k2]
      have hk : Knw x := .inl k2
      clear k2
      go_wp2_with fail
      go_meet
      exact ⟨is_bool hk, rfl⟩
    have k2' : (x.p == 2) = false := by simp [k2]
    by_cases k3 : x.p = 3
    · have k3' : (x.p == 3) = true := by simp [k3]
      have hk : Knw x := .inr (.inl k3)
      clear k2 k3
      go_wp2_with fail
      go_meet
      exact ⟨is_bool hk, rfl⟩
    have k3' : (x.p == 3) = false := by simp [k3]
    by_cases k4 : x.p = 4
    · have k4' : (x.p == 4) = true := by simp [k4]
      have hk : Knw x := .inr (.inr k4)
      clear k2 k3 k4
      go_wp2_with fail
      go_meet
      exact ⟨is_bool hk, rfl⟩
    have k4' : (x.p == 4) = false := by simp [k4]
    have hk : ¬ Knw x := by unfold Knw; omega
    go_wp2_with fail
    go_meet
    exact ⟨no_bool hk, rfl⟩
  case rest =>
  obtain ⟨hc4, hwc⟩ := hcut
  subst hc4
  rw [hwc]
  clear hwc
  by_cases hF : Pm.Bnd x
  rotate_left
  · have q : ch = 2 := by rw [← HC.out]; exact Pm.chk_no (fun h => hF h.1)
    rw [decide_eq_false hF]
    subst q
    clear HC hF
    go_wp2
    go_ret
    exact ⟨rfl, bel1⟩
  rw [decide_eq_true hF]
  have HF := hide hF
  clear hF
  by_cases hK : Knw x
  · rw [decide_eq_true hK]
    unfold Knw at hK
    have p0' : (x.p == 0) = false := by simp; omega
    have pp : 2 ≤ x.p := by omega
    have p0n : (x.p != 0) = true := by simp; omega
    by_cases r1 : x.r = 1
    · have r1' : (x.r == 1) = true := by simp [r1]
      have r1n : (x.r != 1) = false := by simp [r1]
      have r1l : 1 ≤ x.r := by omega
      have r1u : x.r ≤ 1 := by omega
      have q : ch = 2 := by rw [← HC.out]; exact Pm.chk_no (fun h => by have h1 := h.2; unfold Pm.Own at h1; omega)
      subst q
      clear HC HF r1
      go_wp2
      go_ret
      exact ⟨rfl, bel1⟩
    have r1' : (x.r == 1) = false := by simp [r1]
    have r1n : (x.r != 1) = true := by simp [r1]
    by_cases a0 : x.a = 0
    rotate_left
    · have a0' : (x.a == 0) = false := by simp [a0]
      have a0n : (x.a != 0) = true := by simp [a0]
      have q : ch = 2 := by rw [← HC.out]; exact Pm.chk_no (fun h => by have h1 := h.2; unfold Pm.Own at h1; omega)
      subst q
      clear HC HF 
      go_wp2
      go_ret
      exact ⟨rfl, bel1⟩
    have a0' : (x.a == 0) = true := by simp [a0]
    have a0n : (x.a != 0) = false := by simp [a0]
    have a0l : 0 ≤ x.a := by omega
    have a0u : x.a ≤ 0 := by omega
    by_cases r2 : x.r = 2
    · have r2' : (x.r == 2) = true := by simp [r2]
      have r2n : (x.r != 2) = false := by simp [r2]
      have r2l : 2 ≤ x.r := by omega
      have r2u : x.r ≤ 2 := by omega
      have q : ch = 2 := by rw [← HC.out]; exact Pm.chk_no (fun h => by have h1 := h.2; unfold Pm.Own at h1; omega)
      subst q
      clear HC HF a0 r2
      go_wp2
      go_ret
      exact ⟨rfl, bel1⟩
    have r2' : (x.r == 2) = false := by simp [r2]
    have r2n : (x.r != 2) = true := by simp [r2]
    by_cases r3 : x.r = 3
    · have r3' : (x.r == 3) = true := by simp [r3]
      have r3n : (x.r != 3) = false := by simp [r3]
      have r3l : 3 ≤ x.r := by omega
      have r3u : x.r ≤ 3 := by omega
      have q : ch = 0 := by rw [← HC.out]; exact Pm.chk_ok ⟨HF.out, by unfold Pm.Own; omega⟩
      subst q
      clear HC HF a0 r3
      go_wp2
      go_ret
      exact ⟨rfl, bel1⟩
    have r3' : (x.r == 3) = false := by simp [r3]
    have r3n : (x.r != 3) = true := by simp [r3]
    have q : ch = 2 := by rw [← HC.out]; exact Pm.chk_no (fun h => by have h1 := h.2; unfold Pm.Own at h1; omega)
    subst q
    clear HC HF a0
    go_wp2
    go_ret
    exact ⟨rfl, bel1⟩
  rw [decide_eq_false hK]
  unfold Knw at hK
  by_cases r1 : x.r = 1
  · have r1' : (x.r == 1) = true := by simp [r1]
    have r1n : (x.r != 1) = false := by simp [r1]
    have r1l : 1 ≤ x.r := by omega
    have r1u : x.r ≤ 1 := by omega
    by_cases f0 : x.f = 0
    rotate_left
    · have f0' : (x.f == 0) = false := by simp [f0]
      have f0n : (x.f != 0) = true := by simp [f0]
      have q : ch = 2 := by rw [← HC.out]; exact Pm.chk_no (fun h => by have h1 := h.2; unfold Pm.Own at h1; omega)
      subst q
      clear HC HF r1
      go_wp2
      go_ret
      exact ⟨rfl, bel1⟩
    have f0' : (x.f == 0) = true := by simp [f0]
    have f0n : (x.f != 0) = false := by simp [f0]
    have f0l : 0 ≤ x.f := by omega
    have f0u : x.f ≤ 0 := by omega
    by_cases b0 : x.b = 0
    rotate_left
    · have b0' : (x.b == 0) = false := by simp [b0]
      have b0n : (x.b != 0) = true := by simp [b0]
      have q : ch = 2 := by rw [← HC.out]; exact Pm.chk_no (fun h => by have h1 := h.2; unfold Pm.Own at h1; omega)
      subst q
      clear HC HF r1 f0
      go_wp2
      go_ret
      exact ⟨rfl, bel1⟩
    have b0' : (x.b == 0) = true := by simp [b0]
    have b0n : (x.b != 0) = false := by simp [b0]
    have b0l : 0 ≤ x.b := by omega
    have b0u : x.b ≤ 0 := by omega
    by_cases p0 : x.p = 0
    · have p0' : (x.p == 0) = true := by simp [p0]
      have p0n : (x.p != 0) = false := by simp [p0]
      have p0l : 0 ≤ x.p := by omega
      have p0u : x.p ≤ 0 := by omega
      have q : ch = 0 := by rw [← HC.out]; exact Pm.chk_ok ⟨HF.out, by unfold Pm.Own; omega⟩
      subst q
      clear HC HF r1 f0 b0 p0
      go_wp2
      go_ret
      exact ⟨rfl, bel1⟩
    have p0' : (x.p == 0) = false := by simp [p0]
    have p0n : (x.p != 0) = true := by simp [p0]
    have q : ch = 2 := by rw [← HC.out]; exact Pm.chk_no (fun h => by have h1 := h.2; unfold Pm.Own at h1; omega)
    subst q
    clear HC HF r1 f0 b0
    go_wp2
    go_ret
    exact ⟨rfl, bel1⟩
  have r1' : (x.r == 1) = false := by simp [r1]
  have r1n : (x.r != 1) = true := by simp [r1]
  by_cases a0 : x.a = 0
  rotate_left
  · have a0' : (x.a == 0) = false := by simp [a0]
    have a0n : (x.a != 0) = true := by simp [a0]
    have q : ch = 2 := by rw [← HC.out]; exact Pm.chk_no (fun h => by have h1 := h.2; unfold Pm.Own at h1; omega)
    subst q
    clear HC HF 
    go_wp2
    go_ret
    exact ⟨rfl, bel1⟩
  have a0' : (x.a == 0) = true := by simp [a0]
  have a0n : (x.a != 0) = false := by simp [a0]
  have a0l : 0 ≤ x.a := by omega
  have a0u : x.a ≤ 0 := by omega
  by_cases f0 : x.f = 0
  rotate_left
  · have f0' : (x.f == 0) = false := by simp [f0]
    have f0n : (x.f != 0) = true := by simp [f0]
    have q : ch = 2 := by rw [← HC.out]; exact Pm.chk_no (fun h => by have h1 := h.2; unfold Pm.Own at h1; omega)
    subst q
    clear HC HF a0
    go_wp2
    go_ret
    exact ⟨rfl, bel1⟩
  have f0' : (x.f == 0) = true := by simp [f0]
  have f0n : (x.f != 0) = false := by simp [f0]
  have f0l : 0 ≤ x.f := by omega
  have f0u : x.f ≤ 0 := by omega
  by_cases b0 : x.b = 0
  rotate_left
  · have b0' : (x.b == 0) = false := by simp [b0]
    have b0n : (x.b != 0) = true := by simp [b0]
    have q : ch = 2 := by rw [← HC.out]; exact Pm.chk_no (fun h => by have h1 := h.2; unfold Pm.Own at h1; omega)
    subst q
    clear HC HF a0 f0
    go_wp2
    go_ret
    exact ⟨rfl, bel1⟩
  have b0' : (x.b == 0) = true := by simp [b0]
  have b0n : (x.b != 0) = false := by simp [b0]
  have b0l : 0 ≤ x.b := by omega
  have b0u : x.b ≤ 0 := by omega
  by_cases r2 : x.r = 2
  · have r2' : (x.r == 2) = true := by simp [r2]
    have r2n : (x.r != 2) = false := by simp [r2]
    have r2l : 2 ≤ x.r := by omega
    have r2u : x.r ≤ 2 := by omega
    by_cases p0 : x.p = 0
    · have p0' : (x.p == 0) = true := by simp [p0]
      have p0n : (x.p != 0) = false := by simp [p0]
      have p0l : 0 ≤ x.p := by omega
      have p0u : x.p ≤ 0 := by omega
      have q : ch = 0 := by rw [← HC.out]; exact Pm.chk_ok ⟨HF.out, by unfold Pm.Own; omega⟩
      subst q
      clear HC HF a0 f0 b0 r2 p0
      go_wp2
      go_ret
      exact ⟨rfl, bel1⟩
    have p0' : (x.p == 0) = false := by simp [p0]
    have p0n : (x.p != 0) = true := by simp [p0]
    have q : ch = 2 := by rw [← HC.out]; exact Pm.chk_no (fun h => by have h1 := h.2; unfold Pm.Own at h1; omega)
    subst q
    clear HC HF a0 f0 b0 r2
    go_wp2
    go_ret
    exact ⟨rfl, bel1⟩
  have r2' : (x.r == 2) = false := by simp [r2]
  have r2n : (x.r != 2) = true := by simp [r2]
  by_cases r3 : x.r = 3
  · have r3' : (x.r == 3) = true := by simp [r3]
    have r3n : (x.r != 3) = false := by simp [r3]
    have r3l : 3 ≤ x.r := by omega
    have r3u : x.r ≤ 3 := by omega
    by_cases p1 : x.p = 1
    · have p1' : (x.p == 1) = true := by simp [p1]
      have p1n : (x.p != 1) = false := by simp [p1]
      have p1l : 1 ≤ x.p := by omega
      have p1u : x.p ≤ 1 := by omega
      have q : ch = 0 := by rw [← HC.out]; exact Pm.chk_ok ⟨HF.out, by unfold Pm.Own; omega⟩
      subst q
      clear HC HF a0 f0 b0 r3 p1
      go_wp2
      go_ret
      exact ⟨rfl, bel1⟩
    have p1' : (x.p == 1) = false := by simp [p1]
    have p1n : (x.p != 1) = true := by simp [p1]
    have q : ch = 2 := by rw [← HC.out]; exact Pm.chk_no (fun h => by have h1 := h.2; unfold Pm.Own at h1; omega)
    subst q
    clear HC HF a0 f0 b0 r3
    go_wp2
    go_ret
    exact ⟨rfl, bel1⟩
  have r3' : (x.r == 3) = false := by simp [r3]
  have r3n : (x.r != 3) = true := by simp [r3]
  have q : ch = 2 := by rw [← HC.out]; exact Pm.chk_no (fun h => by have h1 := h.2; unfold Pm.Own at h1; omega)
  subst q
  clear HC HF a0 f0 b0
  go_wp2
  go_ret
  exact ⟨rfl, bel1⟩

end Go.Proofs.YthndeolibilnnaaDoor
