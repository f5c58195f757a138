/- Texts of one layer, one behind the other. -/
import Derived.Test.YtajlhdmnincehaaGreatDoorH2
import Derived.Test.YtajlhdmnincehaaGreatDoorH19
import Derived.WalkMore
/- The contracts of inBounds, hasItsOwn, Check (the program's); the package's variable 'most'. -/
namespace Go.Proofs.YtajlhdmnincehaaGreatDoor
open Go.RowKit
set_option linter.unusedVariables false

/-- The variable 'most' holds what its text lays. -/
def Mst (w : World) : Prop := Six w 0 (.int .i64 1048576) (.int .i64 3) (.int .i64 1048576) (.int .i64 4) (.int .i64 1048576) (.int .i64 1073741824)

theorem Mst.pos {w : World} (h : Mst w) : 0 < w.heap.size := by
  have := h.c0
  rcases Nat.lt_or_ge 0 w.heap.size with h' | h'
  · exact h'
  · have : w.heap[0]? = none := Array.getElem?_eq_none (by omega)
    have h0 := h.c0
    simp [World.cell?, this] at h0

theorem Mst.below {w w' : World} (h : Mst w) (b : Below w.heap.size w w') : Mst w' := by
  have hp := h.pos
  have e : ∀ j, w'.cell? ⟨0, j, none⟩ = w.cell? ⟨0, j, none⟩ := fun j => b.cell (p := ⟨0, j, none⟩) hp
  exact ⟨(e 0).trans h.c0, (e 1).trans h.c1, (e 2).trans h.c2, (e 3).trans h.c3, (e 4).trans h.c4, (e 5).trans h.c5⟩


/-- The greatest of each. -/
def mst : List Int := [1048576, 3, 1048576, 4, 1048576, 1073741824]

def Up (x : Pm.Pg) (k : Nat) : Prop := ∀ i, i < k → 0 ≤ (Pm.nums x).getD i 0 ∧ (Pm.nums x).getD i 0 ≤ mst.getD i 0

theorem Up.next {x : Pm.Pg} {k : Nat} (h : Up x k) (h0 : 0 ≤ (Pm.nums x).getD k 0) (h1 : (Pm.nums x).getD k 0 ≤ mst.getD k 0) : Up x (k + 1) := by
  intro i hi
  by_cases e : i = k
  · subst e; exact ⟨h0, h1⟩
  · exact h i (by omega)

def upx (x : Pm.Pg) : Bool := decide (0 ≤ x.e ∧ x.e ≤ 1048576 ∧ 0 ≤ x.r ∧ x.r ≤ 3 ∧ 0 ≤ x.a ∧ x.a ≤ 1048576 ∧ 0 ≤ x.p ∧ x.p ≤ 4 ∧ 0 ≤ x.f ∧ x.f ≤ 1048576 ∧ 0 ≤ x.b ∧ x.b ≤ 1073741824)

theorem upx_iff {x : Pm.Pg} : upx x = true ↔ Up x 6 := by
  unfold upx
  rw [decide_eq_true_iff]
  refine ⟨fun h i hi => ?_, fun h => ?_⟩
  · obtain rfl | rfl | rfl | rfl | rfl | rfl : i = 0 ∨ i = 1 ∨ i = 2 ∨ i = 3 ∨ i = 4 ∨ i = 5 := by omega
    all_goals simp [Pm.nums, mst]; omega
  · have h0 := h 0 (by omega); have h1 := h 1 (by omega); have h2 := h 2 (by omega); have h3 := h 3 (by omega); have h4 := h 4 (by omega); have h5 := h 5 (by omega)
    simp [Pm.nums, mst] at h0 h1 h2 h3 h4 h5
    omega

theorem upx_no {x : Pm.Pg} (h : ¬ Up x 6) : upx x = false := by
  cases hu : upx x with
  | false => rfl
  | true => exact absurd (upx_iff.1 hu) h

theorem up_six {x : Pm.Pg} (h : Up x 6) : 0 ≤ x.e ∧ x.e ≤ 1048576 ∧ 0 ≤ x.r ∧ x.r ≤ 3 ∧ 0 ≤ x.a ∧ x.a ≤ 1048576 ∧ 0 ≤ x.p ∧ x.p ≤ 4 ∧ 0 ≤ x.f ∧ x.f ≤ 1048576 ∧ 0 ≤ x.b ∧ x.b ≤ 1073741824 := by
  have h0 := h 0 (by omega); have h1 := h 1 (by omega); have h2 := h 2 (by omega); have h3 := h 3 (by omega); have h4 := h 4 (by omega); have h5 := h 5 (by omega)
  simp [Pm.nums, mst] at h0 h1 h2 h3 h4 h5
  omega

theorem ret_bool {a b : Bool} (h : b = a) : Ending.returned (.bool a) = .returned (.bool b) := by rw [h]

theorem Tryz.idx0 (a b c d e f : Int) (w : World) : (Instr.index 144 (.agg #[.int .i64 a, .int .i64 b, .int .i64 c, .int .i64 d, .int .i64 e, .int .i64 f]) (.int .i64 0)).run Tryz.prog w = .ok (.int .i64 a) w := by kernel_rfl
theorem Tryz.idx1 (a b c d e f : Int) (w : World) : (Instr.index 144 (.agg #[.int .i64 a, .int .i64 b, .int .i64 c, .int .i64 d, .int .i64 e, .int .i64 f]) (.int .i64 1)).run Tryz.prog w = .ok (.int .i64 b) w := by kernel_rfl
theorem Tryz.idx2 (a b c d e f : Int) (w : World) : (Instr.index 144 (.agg #[.int .i64 a, .int .i64 b, .int .i64 c, .int .i64 d, .int .i64 e, .int .i64 f]) (.int .i64 2)).run Tryz.prog w = .ok (.int .i64 c) w := by kernel_rfl
theorem Tryz.idx3 (a b c d e f : Int) (w : World) : (Instr.index 144 (.agg #[.int .i64 a, .int .i64 b, .int .i64 c, .int .i64 d, .int .i64 e, .int .i64 f]) (.int .i64 3)).run Tryz.prog w = .ok (.int .i64 d) w := by kernel_rfl
theorem Tryz.idx4 (a b c d e f : Int) (w : World) : (Instr.index 144 (.agg #[.int .i64 a, .int .i64 b, .int .i64 c, .int .i64 d, .int .i64 e, .int .i64 f]) (.int .i64 4)).run Tryz.prog w = .ok (.int .i64 e) w := by kernel_rfl
theorem Tryz.idx5 (a b c d e f : Int) (w : World) : (Instr.index 144 (.agg #[.int .i64 a, .int .i64 b, .int .i64 c, .int .i64 d, .int .i64 e, .int .i64 f]) (.int .i64 5)).run Tryz.prog w = .ok (.int .i64 f) w := by kernel_rfl

set_option maxHeartbeats 1000000 in
theorem inBounds_any (x : Pm.Pg) (w : World) (hx : FitP x) (hm : Mst w) :
    Calls Tryz.prog 105 #[vn x] w fun E w' => E = .returned (.bool (upx x)) ∧ Below w.heap.size w w' := by
  unfold vn
  obtain ⟨g1, g2, g3, g4, g5, g6, g7, g8, g9, g10, g11, g12⟩ := hx
  obtain ⟨w1, hw1, sz1, bel1, hB⟩ := blk_step w #[.int .i64 x.e, .int .i64 x.r, .int .i64 x.a, .int .i64 x.p, .int .i64 x.f, .int .i64 x.b] 144
  obtain ⟨c0, c1, c2, c3, c4, c5⟩ := six_of hB
  obtain ⟨m0, m1, m2, m3, m4, m5⟩ := hm.below bel1
  obtain ⟨r, hr⟩ : ∃ r, upx x = r := ⟨_, rfl⟩
  rw [hr]
  have HR := hide hr
  clear hB hr hm
  go_enter Tryz.func105, Tryz.ntmps105
  go_wp2
  go_loop [6] (fun kk => ∃ k : Nat, k ≤ 6 ∧ kk = .int .i64 k ∧ Hid (Up x k)) (fun kk => 7 - (intOf kk).toNat)
  case atStart => exact ⟨0, by omega, rfl, fun i hi => by omega⟩
  case round =>
    obtain ⟨k, hk, rfl, hu⟩ := hrel
    rcases (show k = 0 ∨ k = 1 ∨ k = 2 ∨ k = 3 ∨ k = 4 ∨ k = 5 ∨ k = 6 by omega) with rfl | rfl | rfl | rfl | rfl | rfl | rfl
    · have hix := Tryz.idx0 x.e x.r x.a x.p x.f x.b
      by_cases hlo : x.e < 0
      · have hbad : ¬ Up x 6 := fun h => by have := (up_six h); omega
        go_wp2
        go_ret
        exact ⟨ret_bool (by rw [← HR.out]; exact upx_no hbad), bel1⟩
      · by_cases hhi : 1048576 < x.e
        · have hbad : ¬ Up x 6 := fun h => by have := (up_six h); omega
          go_wp2
          go_ret
          exact ⟨ret_bool (by rw [← HR.out]; exact upx_no hbad), bel1⟩
        · have hn : Hid (Up x 1) := hu.out.next (by simp [Pm.nums]; omega) (by simp [Pm.nums, mst]; omega)
          go_wp2
          go_round
          case rel => exact ⟨1, by omega, rfl, hn⟩
          case measure => simp [intOf]
    · have hix := Tryz.idx1 x.e x.r x.a x.p x.f x.b
      by_cases hlo : x.r < 0
      · have hbad : ¬ Up x 6 := fun h => by have := (up_six h); omega
        go_wp2
        go_ret
        exact ⟨ret_bool (by rw [← HR.out]; exact upx_no hbad), bel1⟩
      · by_cases hhi : 3 < x.r
        · have hbad : ¬ Up x 6 := fun h => by have := (up_six h); omega
          go_wp2
          go_ret
          exact ⟨ret_bool (by rw [← HR.out]; exact upx_no hbad), bel1⟩
        · have hn : Hid (Up x 2) := hu.out.next (by simp [Pm.nums]; omega) (by simp [Pm.nums, mst]; omega)
          go_wp2
          go_round
          case rel => exact ⟨2, by omega, rfl, hn⟩
          case measure => simp [intOf]
    · have hix := Tryz.idx2 x.e x.r x.a x.p x.f x.b
      by_cases hlo : x.a < 0
      · have hbad : ¬ Up x 6 := fun h => by have := (up_six h); omega
        go_wp2
        go_ret
        exact ⟨ret_bool (by rw [← HR.out]; exact upx_no hbad), bel1⟩
      · by_cases hhi : 1048576 < x.a
        · have hbad : ¬ Up x 6 := fun h => by have := (up_six h); omega
          go_wp2
          go_ret
          exact ⟨ret_bool (by rw [← HR.out]; exact upx_no hbad), bel1⟩
        · have hn : Hid (Up x 3) := hu.out.next (by simp [Pm.nums]; omega) (by simp [Pm.nums, mst]; omega)
          go_wp2
          go_round
          case rel => exact ⟨3, by omega, rfl, hn⟩
          case measure => simp [intOf]
    · have hix := Tryz.idx3 x.e x.r x.a x.p x.f x.b
      by_cases hlo : x.p < 0
      · have hbad : ¬ Up x 6 := fun h => by have := (up_six h); omega
        go_wp2
        go_ret
        exact ⟨ret_bool (by rw [← HR.out]; exact upx_no hbad), bel1⟩
      · by_cases hhi : 4 < x.p
        · have hbad : ¬ Up x 6 := fun h => by have := (up_six h); omega
          go_wp2
          go_ret
          exact ⟨ret_bool (by rw [← HR.out]; exact upx_no hbad), bel1⟩
        · have hn : Hid (Up x 4) := hu.out.next (by simp [Pm.nums]; omega) (by simp [Pm.nums, mst]; omega)
          go_wp2
          go_round
          case rel => exact ⟨4, by omega, rfl, hn⟩
          case measure => simp [intOf]
    · have hix := Tryz.idx4 x.e x.r x.a x.p x.f x.b
      by_cases hlo : x.f < 0
      · have hbad : ¬ Up x 6 := fun h => by have := (up_six h); omega
        go_wp2
        go_ret
        exact ⟨ret_bool (by rw [← HR.out]; exact upx_no hbad), bel1⟩
      · by_cases hhi : 1048576 < x.f
        · have hbad : ¬ Up x 6 := fun h => by have := (up_six h); omega
          go_wp2
          go_ret
          exact ⟨ret_bool (by rw [← HR.out]; exact upx_no hbad), bel1⟩
        · have hn : Hid (Up x 5) := hu.out.next (by simp [Pm.nums]; omega) (by simp [Pm.nums, mst]; omega)
          go_wp2
          go_round
          case rel => exact ⟨5, by omega, rfl, hn⟩
          case measure => simp [intOf]
    · have hix := Tryz.idx5 x.e x.r x.a x.p x.f x.b
      by_cases hlo : x.b < 0
      · have hbad : ¬ Up x 6 := fun h => by have := (up_six h); omega
        go_wp2
        go_ret
        exact ⟨ret_bool (by rw [← HR.out]; exact upx_no hbad), bel1⟩
      · by_cases hhi : 1073741824 < x.b
        · have hbad : ¬ Up x 6 := fun h => by have := (up_six h); omega
          go_wp2
          go_ret
          exact ⟨ret_bool (by rw [← HR.out]; exact upx_no hbad), bel1⟩
        · have hn : Hid (Up x 6) := hu.out.next (by simp [Pm.nums]; omega) (by simp [Pm.nums, mst]; omega)
          go_wp2
          go_round
          case rel => exact ⟨6, by omega, rfl, hn⟩
          case measure => simp [intOf]
    · have hg := hu.out
      go_wp2
      go_ret
      exact ⟨ret_bool (by rw [← HR.out]; exact upx_iff.2 hg), bel1⟩

theorem put_at {V : World} {R : Nat} {t : TypeId} {cs : Array Value} (hR : V.heap[R]? = some (.cells cs t (0, 0))) (j : Nat) (u : Value) :
    ∃ V', V.setCell ⟨R, j, none⟩ u = V' ∧ V'.heap[R]? = some (.cells (cs.setIfInBounds j u) t (0, 0)) ∧ V.grownBy V' (some R) ∧ V.frozen? ⟨R, j, none⟩ = false :=
  ⟨_, rfl, set_cells hR j u, grown_setCell _ _ _, blk_froz hR j⟩

end Go.Proofs.YtajlhdmnincehaaGreatDoor

/- The contracts of hasItsOwn and Check (the program's). -/
namespace Go.Proofs.YtajlhdmnincehaaGreatDoor
open Go.RowKit
set_option linter.unusedVariables false

theorem own_1 {x : Pm.Pg} (h : x.r = 1) : (x.e == x.e && x.r == x.r && x.a == x.a && x.p == 0 && x.f == 0 && x.b == 0) = decide (Pm.Own x) := by
  rw [Bool.eq_iff_iff, decide_eq_true_iff]; unfold Pm.Own; simp only [Bool.and_eq_true, beq_iff_eq, true_and, and_true]; constructor <;> intro _ <;> omega
theorem own_2 {x : Pm.Pg} (h : x.r = 2) : (x.e == x.e && x.r == x.r && x.a == 0 && x.p == 0 && x.f == 0 && x.b == 0) = decide (Pm.Own x) := by
  rw [Bool.eq_iff_iff, decide_eq_true_iff]; unfold Pm.Own; simp only [Bool.and_eq_true, beq_iff_eq, true_and, and_true]; constructor <;> intro _ <;> omega
theorem own_3 {x : Pm.Pg} (h : x.r = 3) (h' : x.p = 1) : (x.e == x.e && x.r == x.r && x.a == 0 && x.p == x.p && x.f == 0 && x.b == 0) = decide (Pm.Own x) := by
  rw [Bool.eq_iff_iff, decide_eq_true_iff]; unfold Pm.Own; simp only [Bool.and_eq_true, beq_iff_eq, true_and, and_true]; constructor <;> intro _ <;> omega
theorem own_4 {x : Pm.Pg} (h : x.r = 3) (h' : x.p = 2 ∨ x.p = 3 ∨ x.p = 4) : (x.e == x.e && x.r == x.r && x.a == 0 && x.p == x.p && x.f == x.f && x.b == x.b) = decide (Pm.Own x) := by
  rw [Bool.eq_iff_iff, decide_eq_true_iff]; unfold Pm.Own; simp only [Bool.and_eq_true, beq_iff_eq, true_and, and_true]; constructor <;> intro _ <;> omega
theorem own_5 {x : Pm.Pg} (h : x.r = 3) (h2 : x.p ≠ 2) (h3 : x.p ≠ 3) (h4 : x.p ≠ 4) (h1 : x.p ≠ 1) : false = decide (Pm.Own x) := by
  symm; rw [decide_eq_false_iff_not]; unfold Pm.Own; omega
theorem own_6 {x : Pm.Pg} (h1 : x.r ≠ 1) (h2 : x.r ≠ 2) (h3 : x.r ≠ 3) : false = decide (Pm.Own x) := by
  symm; rw [decide_eq_false_iff_not]; unfold Pm.Own; omega

set_option maxHeartbeats 1000000 in
theorem hasItsOwn_any (x : Pm.Pg) (w : World) (hx : FitP x) :
    Calls Tryz.prog 107 #[vp x] w fun E w' => E = .returned (.bool (decide (Pm.Own x))) ∧ Below w.heap.size w w' := by
  unfold vp
  obtain ⟨g1, g2, g3, g4, g5, g6, g7, g8, g9, g10, g11, g12⟩ := hx
  obtain ⟨w1, hw1, sz1, bel1, hB⟩ := blk_step w #[.int .i64 x.e, .int .u8 x.r, .int .i64 x.a, .int .u8 x.p, .int .i64 x.f, .int .i64 x.b] 60
  obtain ⟨a0, a1, a2, a3, a4, a5⟩ := six_of hB
  obtain ⟨w2, hw2', hw2, sz2, bel2, hC, _⟩ := new6 w1 60 (.int .i64 0) (.int .u8 0) (.int .i64 0) (.int .u8 0) (.int .i64 0) (.int .i64 0) (.int .i64 x.e) (.int .u8 x.r) (.int .i64 0) (.int .u8 0) (.int .i64 0) (.int .i64 0)
  have hB2 := (bel2.block _ (blk_lt hB)).trans hB
  rw [sz1] at hC
  rw [sz1] at hw2'
  have bel := bel1.trans (bel2.mono (by omega))
  obtain ⟨c0, c1, c2, c3, c4, c5⟩ := six_of hB2
  obtain ⟨d0, d1, d2, d3, d4, d5⟩ := six_of hC
  have s2 : w2.setCell ⟨w.heap.size + 1, 2, none⟩ (.int .i64 0) = w2 := set_same hC (j := 2) rfl
  have s3 : w2.setCell ⟨w.heap.size + 1, 3, none⟩ (.int .u8 0) = w2 := set_same hC (j := 3) rfl
  have s4 : w2.setCell ⟨w.heap.size + 1, 4, none⟩ (.int .i64 0) = w2 := set_same hC (j := 4) rfl
  have s5 : w2.setCell ⟨w.heap.size + 1, 5, none⟩ (.int .i64 0) = w2 := set_same hC (j := 5) rfl
  have f2 := blk_froz hC 2
  have f3 := blk_froz hC 3
  have f4 := blk_froz hC 4
  have f5 := blk_froz hC 5
  obtain ⟨r, hr⟩ : ∃ r, decide (Pm.Own x) = r := ⟨_, rfl⟩
  rw [hr]
  have HR := hide hr
  clear hr
  go_enter Tryz.func107, Tryz.ntmps107
  by_cases h1 : x.r = 1
  · have h1' : (x.r == 1) = true := by simp [h1]
    obtain ⟨V, hV, bV, gV, _⟩ := put_at hC 2 (.int .i64 x.a)
    obtain ⟨e0, e1, e2, e3, e4, e5⟩ := six_of (show V.heap[w.heap.size + 1]? = some (.cells #[.int .i64 x.e, .int .u8 x.r, .int .i64 x.a, .int .u8 0, .int .i64 0, .int .i64 0] 60 (0, 0)) from bV)
    obtain ⟨k0, k1, k2, k3, k4, k5⟩ := six_of ((gV.block w.heap.size (by omega) (by simp)).trans hB2)
    have q := Tryz.eqlP x.e x.r x.a x.p x.f x.b x.e x.r x.a 0 0 0
    rw [own_1 h1, HR.out] at q
    have belV := below_put bel gV (by omega) (by omega)
    clear h1 hB hC hB2 bV gV bel bel1 bel2
    go_wp2
    go_ret
    exact ⟨rfl, belV⟩
  have h1' : (x.r == 1) = false := by simpa using h1
  by_cases h2 : x.r = 2
  · have h2' : (x.r == 2) = true := by simp [h2]
    have q := Tryz.eqlP x.e x.r x.a x.p x.f x.b x.e x.r 0 0 0 0
    rw [own_2 h2, HR.out] at q
    clear h1 h2 hB hC hB2 bel1 bel2
    go_wp2
    go_ret
    exact ⟨rfl, bel⟩
  have h2' : (x.r == 2) = false := by simpa using h2
  by_cases h3 : x.r = 3
  · have h3' : (x.r == 3) = true := by simp [h3]
    by_cases p1 : x.p = 1
    · have p1' : (x.p == 1) = true := by simp [p1]
      have p2' : (x.p == 2) = false := by simp; omega
      have p3' : (x.p == 3) = false := by simp; omega
      have p4' : (x.p == 4) = false := by simp; omega
      obtain ⟨V, hV, bV, gV, _⟩ := put_at hC 3 (.int .u8 x.p)
      obtain ⟨e0, e1, e2, e3, e4, e5⟩ := six_of (show V.heap[w.heap.size + 1]? = some (.cells #[.int .i64 x.e, .int .u8 x.r, .int .i64 0, .int .u8 x.p, .int .i64 0, .int .i64 0] 60 (0, 0)) from bV)
      obtain ⟨k0, k1, k2, k3, k4, k5⟩ := six_of ((gV.block w.heap.size (by omega) (by simp)).trans hB2)
      have q := Tryz.eqlP x.e x.r x.a x.p x.f x.b x.e x.r 0 x.p 0 0
      rw [own_3 h3 p1, HR.out] at q
      have belV := below_put bel gV (by omega) (by omega)
      clear h1 h2 h3 p1 hB hC hB2 bV gV bel bel1 bel2
      go_wp2
      go_ret
      exact ⟨rfl, belV⟩
    have p1' : (x.p == 1) = false := by simpa using p1
    by_cases pp : x.p = 2 ∨ x.p = 3 ∨ x.p = 4
    · obtain ⟨V4, hV4, bV4, gV4, _⟩ := put_at hC 4 (.int .i64 x.f)
      have b4 : V4.heap[w.heap.size + 1]? = some (.cells #[.int .i64 x.e, .int .u8 x.r, .int .i64 0, .int .u8 0, .int .i64 x.f, .int .i64 0] 60 (0, 0)) := bV4
      have hB4 := (gV4.block w.heap.size (by omega) (by simp)).trans hB2
      have sz4 := gV4.size
      obtain ⟨l0, l1, l2, l3, l4, l5⟩ := six_of hB4
      obtain ⟨y0, y1, y2, y3, y4, y5⟩ := six_of b4
      obtain ⟨V5, hV5, bV5, gV5, n5⟩ := put_at b4 5 (.int .i64 x.b)
      have b5 : V5.heap[w.heap.size + 1]? = some (.cells #[.int .i64 x.e, .int .u8 x.r, .int .i64 0, .int .u8 0, .int .i64 x.f, .int .i64 x.b] 60 (0, 0)) := bV5
      have hB5 := (gV5.block w.heap.size (by omega) (by simp)).trans hB4
      have bel4 := below_put bel gV4 (by omega) (by omega)
      have bel5 := below_put bel4 gV5 (by omega) (by omega)
      have sz5 := gV5.size
      obtain ⟨V, hV, bV, gV, n3⟩ := put_at (V := V5.drew) b5 3 (.int .u8 x.p)
      obtain ⟨e0, e1, e2, e3, e4, e5⟩ := six_of (show V.heap[w.heap.size + 1]? = some (.cells #[.int .i64 x.e, .int .u8 x.r, .int .i64 0, .int .u8 x.p, .int .i64 x.f, .int .i64 x.b] 60 (0, 0)) from bV)
      have szd : V5.drew.heap.size = V5.heap.size := rfl
      obtain ⟨k0, k1, k2, k3, k4, k5⟩ := six_of ((gV.block w.heap.size (by omega) (by simp)).trans hB5)
      have t3 : V5.drew.cell? ⟨w.heap.size, 3, none⟩ = some (.int .u8 x.p) := blk_cell (w := V5.drew) hB5 3 rfl
      have t33 : V5.drew.cell? ⟨w.heap.size + 1, 3, none⟩ = some (.int .u8 0) := blk_cell (w := V5.drew) b5 3 rfl
      have belV := below_put bel5.drew gV (by omega) (by omega)
      have HH := hide (And.intro hV (And.intro n3 (And.intro e0 (And.intro e1 (And.intro e2 (And.intro e3 (And.intro e4 (And.intro e5 (And.intro k0 (And.intro k1 (And.intro k2 (And.intro k3 (And.intro k4 (And.intro k5 (And.intro t3 t33)))))))))))))))
      clear hV n3 e0 e1 e2 e3 e4 e5 k0 k1 k2 k3 k4 k5 t3 t33 bV gV bel5
      have q := Tryz.eqlP x.e x.r x.a x.p x.f x.b x.e x.r 0 x.p x.f x.b
      rw [own_4 h3 pp, HR.out] at q
      rcases pp with pp | pp | pp
      · have p2' : (x.p == 2) = true := by simp [pp]
        clear h1 h2 h3 p1 pp hB hC hB2 bV4 gV4 b4 hB4 bV5 gV5 b5 hB5 bel bel1 bel2 bel4
        go_wp2
        go_region
        clear hV4 hV5 c0 c1 c2 c3 c4 c5 d0 d1 d2 d3 d4 d5 l0 l1 l2 l3 l4 l5 y0 y1 y2 y3 y4 y5 n5
        obtain ⟨hV, n3, e0, e1, e2, e3, e4, e5, k0, k1, k2, k3, k4, k5, t3, t33⟩ := HH.out
        clear HH
        go_wp2
        go_ret
        exact ⟨rfl, belV⟩
      · have p2' : (x.p == 2) = false := by simp; omega
        have p3' : (x.p == 3) = true := by simp [pp]
        clear h1 h2 h3 p1 pp hB hC hB2 bV4 gV4 b4 hB4 bV5 gV5 b5 hB5 bel bel1 bel2 bel4
        go_wp2
        go_region
        clear hV4 hV5 c0 c1 c2 c3 c4 c5 d0 d1 d2 d3 d4 d5 l0 l1 l2 l3 l4 l5 y0 y1 y2 y3 y4 y5 n5
        obtain ⟨hV, n3, e0, e1, e2, e3, e4, e5, k0, k1, k2, k3, k4, k5, t3, t33⟩ := HH.out
        clear HH
        go_wp2
        go_ret
        exact ⟨rfl, belV⟩
      · have p2' : (x.p == 2) = false := by simp; omega
        have p3' : (x.p == 3) = false := by simp; omega
        have p4' : (x.p == 4) = true := by simp [pp]
        clear h1 h2 h3 p1 pp hB hC hB2 bV4 gV4 b4 hB4 bV5 gV5 b5 hB5 bel bel1 bel2 bel4
        go_wp2
        go_region
        clear hV4 hV5 c0 c1 c2 c3 c4 c5 d0 d1 d2 d3 d4 d5 l0 l1 l2 l3 l4 l5 y0 y1 y2 y3 y4 y5 n5
        obtain ⟨hV, n3, e0, e1, e2, e3, e4, e5, k0, k1, k2, k3, k4, k5, t3, t33⟩ := HH.out
        clear HH
        go_wp2
        go_ret
        exact ⟨rfl, belV⟩
    · have p2' : (x.p == 2) = false := by simp; omega
      have p3' : (x.p == 3) = false := by simp; omega
      have p4' : (x.p == 4) = false := by simp; omega
      have q := own_5 h3 (by omega) (by omega) (by omega) p1
      rw [HR.out] at q
      subst q
      clear h1 h2 h3 p1 pp hB hC hB2 bel1 bel2 HR
      go_wp2
      go_ret
      exact ⟨rfl, bel⟩
  · have h3' : (x.r == 3) = false := by simpa using h3
    have q := own_6 h1 h2 h3
    rw [HR.out] at q
    subst q
    clear h1 h2 h3 hB hC hB2 bel1 bel2 HR
    go_wp2
    go_ret
    exact ⟨rfl, bel⟩

end Go.Proofs.YtajlhdmnincehaaGreatDoor

/- The contracts of Check and Encode (the program's). -/
namespace Go.Proofs.YtajlhdmnincehaaGreatDoor
open Go.RowKit
set_option linter.unusedVariables false

/-- What Check's three tests come to. -/
theorem chk_three (x : Pm.Pg) : (x.e < 1 → Pm.chk x = 2) ∧ (¬ Up x 6 → Pm.chk x = 2) ∧ (¬ Pm.Own x → Pm.chk x = 2) ∧ (¬ x.e < 1 → Up x 6 → Pm.Own x → Pm.chk x = 0) := by
  refine ⟨fun h => Pm.chk_no fun ho => ?_, fun h => Pm.chk_no fun ho => h ?_, fun h => Pm.chk_no fun ho => h ho.2, fun h1 h2 h3 => Pm.chk_ok ⟨?_, h3⟩⟩
  · have := Pm.ok_nums ho; omega
  · have := Pm.ok_nums ho
    intro i hi
    obtain rfl | rfl | rfl | rfl | rfl | rfl : i = 0 ∨ i = 1 ∨ i = 2 ∨ i = 3 ∨ i = 4 ∨ i = 5 := by omega
    all_goals simp [Pm.nums, mst]; omega
  · have := up_six h2
    unfold Pm.Bnd
    omega

set_option maxHeartbeats 1000000 in
theorem pgcheck_any (x : Pm.Pg) (w : World) (hx : FitP x) (hm : Mst w) :
    Calls Tryz.prog 54 #[vp x] w fun E w' => E = .returned (.int .i64 (Pm.chk x)) ∧ Below w.heap.size w w' := by
  obtain ⟨t1, t2, t3, t4⟩ := chk_three x
  obtain ⟨w1, hw1, sz1, bel1, hB⟩ := blk_step w #[.int .i64 x.e, .int .u8 x.r, .int .i64 x.a, .int .u8 x.p, .int .i64 x.f, .int .i64 x.b] 60
  have HV : Hid (vp x = .agg #[.int .i64 x.e, .int .u8 x.r, .int .i64 x.a, .int .u8 x.p, .int .i64 x.f, .int .i64 x.b]) := rfl
  obtain ⟨c0, c1, c2, c3, c4, c5⟩ := six_of hB
  have HB := hide hB
  have HM := hide (hm.below bel1)
  have g := hx
  obtain ⟨ch, hch⟩ : ∃ c, Pm.chk x = c := ⟨_, rfl⟩
  rw [hch] at t1 t2 t3 t4 ⊢
  have T1 := hide t1; have T2 := hide t2; have T3 := hide t3; have T4 := hide t4
  rw [HV.out]
  clear hB hm hch t1 t2 t3 t4
  obtain ⟨g1, g2, g3, g4, g5, g6, g7, g8, g9, g10, g11, g12⟩ := g
  have HX := hide hx
  clear hx
  go_enter Tryz.func54, Tryz.ntmps54
  by_cases h1 : x.e < 1
  · have q := T1.out h1
    subst q
    clear T1 T2 T3 T4
    go_wp2
    go_ret
    exact ⟨rfl, bel1⟩
  go_wp2_with fail
  refine (numbersOf_any x _ HX.out).mono ?_
  rintro E w2 ⟨rfl, bel2⟩
  have sz2 := bel2.size
  have hB2 := (bel2.block _ (by omega)).trans HB.out
  have HM2 := hide (HM.out.below bel2)
  have bel02 := bel1.trans (bel2.mono (by omega))
  have HB2 := hide hB2
  clear HB HM hB2 c0 c1 c2 c3 c4 c5
  go_wp2_with fail
  refine (inBounds_any x _ HX.out HM2.out).mono ?_
  rintro E w3 ⟨rfl, bel3⟩
  have sz3 := bel3.size
  have hB3 := (bel3.block _ (by omega)).trans HB2.out
  have bel03 := bel02.trans (bel3.mono (by omega))
  obtain ⟨c0, c1, c2, c3, c4, c5⟩ := six_of hB3
  clear HB2 hB3 bel1 bel2 bel3 bel02
  by_cases h2 : Up x 6
  · rw [upx_iff.2 h2]
    have H2 := hide h2
    clear h2
    go_wp2_with fail
    refine (hasItsOwn_any x _ HX.out).mono ?_
    rintro E w4 ⟨rfl, bel4⟩
    have bel04 := bel03.trans (bel4.mono (by omega))
    by_cases h3 : Pm.Own x
    · rw [decide_eq_true h3]
      have q := T4.out h1 H2.out h3
      subst q
      clear h3 T1 T2 T3 T4
      go_wp2
      go_ret
      exact ⟨rfl, bel04⟩
    · rw [decide_eq_false h3]
      have q := T3.out h3
      subst q
      clear h3 T1 T2 T3 T4
      go_wp2
      go_ret
      exact ⟨rfl, bel04⟩
  · rw [upx_no h2]
    have q := T2.out h2
    subst q
    clear h2 T1 T2 T3 T4
    go_wp2
    go_ret
    exact ⟨rfl, bel03⟩

end Go.Proofs.YtajlhdmnincehaaGreatDoor

/- The contract of Encode (the program's). -/
namespace Go.Proofs.YtajlhdmnincehaaGreatDoor
open Go.RowKit
set_option linter.unusedVariables false

/-- What Encode's bytes are. -/
def outP (x : Pm.Pg) : List Int := if Pm.Ok x then Pm.enc x else []

theorem out_ok {x : Pm.Pg} (h : Pm.Ok x) : outP x = Pm.enc x := if_pos h
theorem out_no {x : Pm.Pg} (h : ¬ Pm.Ok x) : outP x = [] := if_neg h





end Go.Proofs.YtajlhdmnincehaaGreatDoor

/- The contract of Decode (the program's). -/
namespace Go.Proofs.YtajlhdmnincehaaGreatDoor
open Go.RowKit
set_option linter.unusedVariables false

/-- In the midst of Decode: the page that is told is nothing yet, k numbers are read. -/
def DI (bs : List Int) (w wr : World) (x : Pm.Pg) (k : Nat) (a : Nat) : Prop :=
  wr.heap[w.heap.size]? = some (.cells #[.int .i64 0, .int .u8 0, .int .i64 0, .int .u8 0, .int .i64 0, .int .i64 0] 60 (0, 0)) ∧
  wr.heap[w.heap.size + 1]? = some (.cells #[.int .i64 x.e, .int .i64 x.r, .int .i64 x.a, .int .i64 x.p, .int .i64 x.f, .int .i64 x.b] 144 (0, 0)) ∧
  Below w.heap.size w wr ∧ Pm.encs ((Pm.nums x).take k) <+: bs ∧ a = (Pm.encs ((Pm.nums x).take k)).length ∧ Up x k









end Go.Proofs.YtajlhdmnincehaaGreatDoor

/- The contract of Last (the program's). -/
namespace Go.Proofs.YtajlhdmnincehaaGreatDoor
open Go.RowKit
set_option linter.unusedVariables false




/-- In the midst of Last. -/
def LI (bs : List Int) (w wr : World) (L : Nat) (z x : Pm.Pg) (a : Nat) : Prop :=
  wr.heap[w.heap.size]? = some (.cells #[.int .i64 0, .int .u8 0, .int .i64 0, .int .u8 0, .int .i64 0, .int .i64 0] 60 (0, 0)) ∧
  wr.heap[L]? = some (.cells #[.int .i64 x.e, .int .u8 x.r, .int .i64 x.a, .int .u8 x.p, .int .i64 x.f, .int .i64 x.b] 60 (0, 0)) ∧
  w.heap.size < L ∧ Below w.heap.size w wr ∧ Pm.Go bs z x a ∧ FitP x





end Go.Proofs.YtajlhdmnincehaaGreatDoor
