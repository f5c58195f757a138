/- The contracts of inBounds, hasItsOwn, Check (the program's); the package's variable 'most'. -/
import Derived.Test.YthndeolibilnnaaDoorQa
namespace Go.Proofs.YthndeolibilnnaaDoor
open Go.RowKit
set_option linter.unusedVariables false

/-- The variable 'most' holds what its text lays. -/
def Mst (w : World) : Prop := Six w 0 (.int .i64 1048576) (.int .i64 3) (.int .i64 1048576) (.int .i64 4) (.int .i64 1048576) (.int .i64 1073741824)

theorem Mst.pos {w : World} (h : Mst w) : 0 < w.heap.size := by
  have := h.c0
  rcases Nat.lt_or_ge 0 w.heap.size with h' | h'
  · exact h'
  · have : w.heap[0]? = none := Array.getElem?_eq_none (by omega)
    have h0 := h.c0
    simp [World.cell?, this] at h0

theorem Mst.below {w w' : World} (h : Mst w) (b : Below w.heap.size w w') : Mst w' := by
  have hp := h.pos
  have e : ∀ j, w'.cell? ⟨0, j, none⟩ = w.cell? ⟨0, j, none⟩ := fun j => b.cell (p := ⟨0, j, none⟩) hp
  exact ⟨(e 0).trans h.c0, (e 1).trans h.c1, (e 2).trans h.c2, (e 3).trans h.c3, (e 4).trans h.c4, (e 5).trans h.c5⟩

theorem Mst.drewN {w : World} (h : Mst w) (m : Nat) : Mst (w.drewN m) := h.below (below_drewN (Below.refl _ _) m)

/-- The greatest of each. -/
def mst : List Int := [1048576, 3, 1048576, 4, 1048576, 1073741824]

def Up (x : Pm.Pg) (k : Nat) : Prop := ∀ i, i < k → 0 ≤ (Pm.nums x).getD i 0 ∧ (Pm.nums x).getD i 0 ≤ mst.getD i 0

theorem Up.next {x : Pm.Pg} {k : Nat} (h : Up x k) (h0 : 0 ≤ (Pm.nums x).getD k 0) (h1 : (Pm.nums x).getD k 0 ≤ mst.getD k 0) : Up x (k + 1) := by
  intro i hi
  by_cases e : i = k
  · subst e; exact ⟨h0, h1⟩
  · exact h i (by omega)

def upx (x : Pm.Pg) : Bool := decide (0 ≤ x.e ∧ x.e ≤ 1048576 ∧ 0 ≤ x.r ∧ x.r ≤ 3 ∧ 0 ≤ x.a ∧ x.a ≤ 1048576 ∧ 0 ≤ x.p ∧ x.p ≤ 4 ∧ 0 ≤ x.f ∧ x.f ≤ 1048576 ∧ 0 ≤ x.b ∧ x.b ≤ 1073741824)

theorem upx_iff {x : Pm.Pg} : upx x = true ↔ Up x 6 := by
  unfold upx
  rw [decide_eq_true_iff]
  refine ⟨fun h i hi => ?_, fun h => ?_⟩
  · obtain rfl | rfl | rfl | rfl | rfl | rfl : i = 0 ∨ i = 1 ∨ i = 2 ∨ i = 3 ∨ i = 4 ∨ i = 5 := by omega
    all_goals simp [Pm.nums, mst]; omega
  · have h0 := h 0 (by omega); have h1 := h 1 (by omega); have h2 := h 2 (by omega); have h3 := h 3 (by omega); have h4 := h 4 (by omega); have h5 := h 5 (by omega)
    simp [Pm.nums, mst] at h0 h1 h2 h3 h4 h5
    omega

theorem upx_no {x : Pm.Pg} (h : ¬ Up x 6) : upx x = false := by
  cases hu : upx x with
  | false => rfl
  | true => exact absurd (upx_iff.1 hu) h

theorem up_six {x : Pm.Pg} (h : Up x 6) : 0 ≤ x.e ∧ x.e ≤ 1048576 ∧ 0 ≤ x.r ∧ x.r ≤ 3 ∧ 0 ≤ x.a ∧ x.a ≤ 1048576 ∧ 0 ≤ x.p ∧ x.p ≤ 4 ∧ 0 ≤ x.f ∧ x.f ≤ 1048576 ∧ 0 ≤ x.b ∧ x.b ≤ 1073741824 := by
  have h0 := h 0 (by omega); have h1 := h 1 (by omega); have h2 := h 2 (by omega); have h3 := h 3 (by omega); have h4 := h 4 (by omega); have h5 := h 5 (by omega)
  simp [Pm.nums, mst] at h0 h1 h2 h3 h4 h5
  omega

theorem ret_bool {a b : Bool} (h : b = a) : Ending.returned (.bool a) = .returned (.bool b) := by rw [h]

theorem Tryd.idx0 (a b c d e f : Int) (w : World) : (Instr.index 57 (.agg #[.int .i64 a, .int .i64 b, .int .i64 c, .int .i64 d, .int .i64 e, .int .i64 f]) (.int .i64 0)).run Tryd.prog w = .ok (.int .i64 a) w := by kernel_rfl
theorem Tryd.idx1 (a b c d e f : Int) (w : World) : (Instr.index 57 (.agg #[.int .i64 a, .int .i64 b, .int .i64 c, .int .i64 d, .int .i64 e, .int .i64 f]) (.int .i64 1)).run Tryd.prog w = .ok (.int .i64 b) w := by kernel_rfl
theorem Tryd.idx2 (a b c d e f : Int) (w : World) : (Instr.index 57 (.agg #[.int .i64 a, .int .i64 b, .int .i64 c, .int .i64 d, .int .i64 e, .int .i64 f]) (.int .i64 2)).run Tryd.prog w = .ok (.int .i64 c) w := by kernel_rfl
theorem Tryd.idx3 (a b c d e f : Int) (w : World) : (Instr.index 57 (.agg #[.int .i64 a, .int .i64 b, .int .i64 c, .int .i64 d, .int .i64 e, .int .i64 f]) (.int .i64 3)).run Tryd.prog w = .ok (.int .i64 d) w := by kernel_rfl
theorem Tryd.idx4 (a b c d e f : Int) (w : World) : (Instr.index 57 (.agg #[.int .i64 a, .int .i64 b, .int .i64 c, .int .i64 d, .int .i64 e, .int .i64 f]) (.int .i64 4)).run Tryd.prog w = .ok (.int .i64 e) w := by kernel_rfl
theorem Tryd.idx5 (a b c d e f : Int) (w : World) : (Instr.index 57 (.agg #[.int .i64 a, .int .i64 b, .int .i64 c, .int .i64 d, .int .i64 e, .int .i64 f]) (.int .i64 5)).run Tryd.prog w = .ok (.int .i64 f) w := by kernel_rfl

set_option maxHeartbeats 1000000 in
theorem inBounds_any (x : Pm.Pg) (w : World) (hx : FitP x) (hm : Mst w) :
    Calls Tryd.prog 39 #[vn x] w fun E w' => E = .returned (.bool (upx x)) ∧ Below w.heap.size w w' := by
  unfold vn
  obtain ⟨g1, g2, g3, g4, g5, g6, g7, g8, g9, g10, g11, g12⟩ := hx
  obtain ⟨w1, hw1, sz1, bel1, hB⟩ := blk_step w #[.int .i64 x.e, .int .i64 x.r, .int .i64 x.a, .int .i64 x.p, .int .i64 x.f, .int .i64 x.b] 57
  obtain ⟨c0, c1, c2, c3, c4, c5⟩ := six_of hB
  obtain ⟨m0, m1, m2, m3, m4, m5⟩ := hm.below bel1
  obtain ⟨r, hr⟩ : ∃ r, upx x = r := ⟨_, rfl⟩
  rw [hr]
  have HR := hide hr
  clear hB hr hm
  go_enter Tryd.func39, Tryd.ntmps39
  go_wp2
  go_loop [6] (fun kk => ∃ k : Nat, k ≤ 6 ∧ kk = .int .i64 k ∧ Hid (Up x k)) (fun kk => 7 - (intOf kk).toNat)
  case atStart => exact ⟨0, by omega, rfl, fun i hi => by omega⟩
  case round =>
    obtain ⟨k, hk, rfl, hu⟩ := hrel
    rcases (show k = 0 ∨ k = 1 ∨ k = 2 ∨ k = 3 ∨ k = 4 ∨ k = 5 ∨ k = 6 by omega) with rfl | rfl | rfl | rfl | rfl | rfl | rfl
    · have hix := Tryd.idx0 x.e x.r x.a x.p x.f x.b
      by_cases hlo : x.e < 0
      · have hbad : ¬ Up x 6 := fun h => by have := (up_six h); omega
        go_wp2
        go_ret
        exact ⟨ret_bool (by rw [← HR.out]; exact upx_no hbad), bel1⟩
      · by_cases hhi : 1048576 < x.e
        · have hbad : ¬ Up x 6 := fun h => by have := (up_six h); omega
          go_wp2
          go_ret
          exact ⟨ret_bool (by rw [← HR.out]; exact upx_no hbad), bel1⟩
        · have hn : Hid (Up x 1) := hu.out.next (by simp [Pm.nums]; omega) (by simp [Pm.nums, mst]; omega)
          go_wp2
          go_round
          case rel => exact ⟨1, by omega, rfl, hn⟩
          case measure => simp [intOf]
    · have hix := Tryd.idx1 x.e x.r x.a x.p x.f x.b
      by_cases hlo : x.r < 0
      · have hbad : ¬ Up x 6 := fun h => by have := (up_six h); omega
        go_wp2
        go_ret
        exact ⟨ret_bool (by rw [← HR.out]; exact upx_no hbad), bel1⟩
      · by_cases hhi : 3 < x.r
        · have hbad : ¬ Up x 6 := fun h => by have := (up_six h); omega
          go_wp2
          go_ret
          exact ⟨ret_bool (by rw [← HR.out]; exact upx_no hbad), bel1⟩
        · have hn : Hid (Up x 2) := hu.out.next (by simp [Pm.nums]; omega) (by simp [Pm.nums, mst]; omega)
          go_wp2
          go_round
          case rel => exact ⟨2, by omega, rfl, hn⟩
          case measure => simp [intOf]
    · have hix := Tryd.idx2 x.e x.r x.a x.p x.f x.b
      by_cases hlo : x.a < 0
      · have hbad : ¬ Up x 6 := fun h => by have := (up_six h); omega
        go_wp2
        go_ret
        exact ⟨ret_bool (by rw [← HR.out]; exact upx_no hbad), bel1⟩
      · by_cases hhi : 1048576 < x.a
        · have hbad : ¬ Up x 6 := fun h => by have := (up_six h); omega
          go_wp2
          go_ret
          exact ⟨ret_bool (by rw [← HR.out]; exact upx_no hbad), bel1⟩
        · have hn : Hid (Up x 3) := hu.out.next (by simp [Pm.nums]; omega) (by simp [Pm.nums, mst]; omega)
          go_wp2
          go_round
          case rel => exact ⟨3, by omega, rfl, hn⟩
          case measure => simp [intOf]
    · have hix := Tryd.idx3 x.e x.r x.a x.p x.f x.b
      by_cases hlo : x.p < 0
      · have hbad : ¬ Up x 6 := fun h => by have := (up_six h); omega
        go_wp2
        go_ret
        exact ⟨ret_bool (by rw [← HR.out]; exact upx_no hbad), bel1⟩
      · by_cases hhi : 4 < x.p
        · have hbad : ¬ Up x 6 := fun h => by have := (up_six h); omega
          go_wp2
          go_ret
          exact ⟨ret_bool (by rw [← HR.out]; exact upx_no hbad), bel1⟩
        · have hn : Hid (Up x 4) := hu.out.next (by simp [Pm.nums]; omega) (by simp [Pm.nums, mst]; omega)
          go_wp2
          go_round
          case rel => exact ⟨4, by omega, rfl, hn⟩
          case measure => simp [intOf]
    · have hix := Tryd.idx4 x.e x.r x.a x.p x.f x.b
      by_cases hlo : x.f < 0
      · have hbad : ¬ Up x 6 := fun h => by have := (up_six h); omega
        go_wp2
        go_ret
        exact ⟨ret_bool (by rw [← HR.out]; exact upx_no hbad), bel1⟩
      · by_cases hhi : 1048576 < x.f
        · have hbad : ¬ Up x 6 := fun h => by have := (up_six h); omega
          go_wp2
          go_ret
          exact ⟨ret_bool (by rw [← HR.out]; exact upx_no hbad), bel1⟩
        · have hn : Hid (Up x 5) := hu.out.next (by simp [Pm.nums]; omega) (by simp [Pm.nums, mst]; omega)
          go_wp2
          go_round
          case rel => exact ⟨5, by omega, rfl, hn⟩
          case measure => simp [intOf]
    · have hix := Tryd.idx5 x.e x.r x.a x.p x.f x.b
      by_cases hlo : x.b < 0
      · have hbad : ¬ Up x 6 := fun h => by have := (up_six h); omega
        go_wp2
        go_ret
        exact ⟨ret_bool (by rw [← HR.out]; exact upx_no hbad), bel1⟩
      · by_cases hhi : 1073741824 < x.b
        · have hbad : ¬ Up x 6 := fun h => by have := (up_six h); omega
          go_wp2
          go_ret
          exact ⟨ret_bool (by rw [← HR.out]; exact upx_no hbad), bel1⟩
        · have hn : Hid (Up x 6) := hu.out.next (by simp [Pm.nums]; omega) (by simp [Pm.nums, mst]; omega)
          go_wp2
          go_round
          case rel => exact ⟨6, by omega, rfl, hn⟩
          case measure => simp [intOf]
    · have hg := hu.out
      go_wp2
      go_ret
      exact ⟨ret_bool (by rw [← HR.out]; exact upx_iff.2 hg), bel1⟩

theorem put_at {V : World} {R : Nat} {t : TypeId} {cs : Array Value} (hR : V.heap[R]? = some (.cells cs t (0, 0))) (j : Nat) (u : Value) :
    ∃ V', V.setCell ⟨R, j, none⟩ u = V' ∧ V'.heap[R]? = some (.cells (cs.setIfInBounds j u) t (0, 0)) ∧ V.grownBy V' (some R) ∧ V.frozen? ⟨R, j, none⟩ = false :=
  ⟨_, rfl, set_cells hR j u, grown_setCell _ _ _, blk_froz hR j⟩

end Go.Proofs.YthndeolibilnnaaDoor
