/- The contracts of hasItsOwn and Check (the program's). -/
import Derived.Test.YthndeolibilnnaaDoorQb
namespace Go.Proofs.YthndeolibilnnaaDoor
open Go.RowKit
set_option linter.unusedVariables false

theorem own_1 {x : Pm.Pg} (h : x.r = 1) : (x.e == x.e && x.r == x.r && x.a == x.a && x.p == 0 && x.f == 0 && x.b == 0) = decide (Pm.Own x) := by
  rw [Bool.eq_iff_iff, decide_eq_true_iff]; unfold Pm.Own; simp only [Bool.and_eq_true, beq_iff_eq, true_and, and_true]; constructor <;> intro _ <;> omega
theorem own_2 {x : Pm.Pg} (h : x.r = 2) : (x.e == x.e && x.r == x.r && x.a == 0 && x.p == 0 && x.f == 0 && x.b == 0) = decide (Pm.Own x) := by
  rw [Bool.eq_iff_iff, decide_eq_true_iff]; unfold Pm.Own; simp only [Bool.and_eq_true, beq_iff_eq, true_and, and_true]; constructor <;> intro _ <;> omega
theorem own_3 {x : Pm.Pg} (h : x.r = 3) (h' : x.p = 1) : (x.e == x.e && x.r == x.r && x.a == 0 && x.p == x.p && x.f == 0 && x.b == 0) = decide (Pm.Own x) := by
  rw [Bool.eq_iff_iff, decide_eq_true_iff]; unfold Pm.Own; simp only [Bool.and_eq_true, beq_iff_eq, true_and, and_true]; constructor <;> intro _ <;> omega
theorem own_4 {x : Pm.Pg} (h : x.r = 3) (h' : x.p = 2 ∨ x.p = 3 ∨ x.p = 4) : (x.e == x.e && x.r == x.r && x.a == 0 && x.p == x.p && x.f == x.f && x.b == x.b) = decide (Pm.Own x) := by
  rw [Bool.eq_iff_iff, decide_eq_true_iff]; unfold Pm.Own; simp only [Bool.and_eq_true, beq_iff_eq, true_and, and_true]; constructor <;> intro _ <;> omega
theorem own_5 {x : Pm.Pg} (h : x.r = 3) (h2 : x.p ≠ 2) (h3 : x.p ≠ 3) (h4 : x.p ≠ 4) (h1 : x.p ≠ 1) : false = decide (Pm.Own x) := by
  symm; rw [decide_eq_false_iff_not]; unfold Pm.Own; omega
theorem own_6 {x : Pm.Pg} (h1 : x.r ≠ 1) (h2 : x.r ≠ 2) (h3 : x.r ≠ 3) : false = decide (Pm.Own x) := by
  symm; rw [decide_eq_false_iff_not]; unfold Pm.Own; omega

set_option maxHeartbeats 1000000 in
theorem hasItsOwn_any (x : Pm.Pg) (w : World) (hx : FitP x) :
    Calls Tryd.prog 41 #[vp x] w fun E w' => E = .returned (.bool (decide (Pm.Own x))) ∧ Below w.heap.size w w' := by
  unfold vp
  obtain ⟨g1, g2, g3, g4, g5, g6, g7, g8, g9, g10, g11, g12⟩ := hx
  obtain ⟨w1, hw1, sz1, bel1, hB⟩ := blk_step w #[.int .i64 x.e, .int .u8 x.r, .int .i64 x.a, .int .u8 x.p, .int .i64 x.f, .int .i64 x.b] 25
  obtain ⟨a0, a1, a2, a3, a4, a5⟩ := six_of hB
  obtain ⟨w2, hw2', hw2, sz2, bel2, hC, _⟩ := new6 w1 25 (.int .i64 0) (.int .u8 0) (.int .i64 0) (.int .u8 0) (.int .i64 0) (.int .i64 0) (.int .i64 x.e) (.int .u8 x.r) (.int .i64 0) (.int .u8 0) (.int .i64 0) (.int .i64 0)
  have hB2 := (bel2.block _ (blk_lt hB)).trans hB
  rw [sz1] at hC
  rw [sz1] at hw2'
  have bel := bel1.trans (bel2.mono (by omega))
  obtain ⟨c0, c1, c2, c3, c4, c5⟩ := six_of hB2
  obtain ⟨d0, d1, d2, d3, d4, d5⟩ := six_of hC
  have s2 : w2.setCell ⟨w.heap.size + 1, 2, none⟩ (.int .i64 0) = w2 := set_same hC (j := 2) rfl
  have s3 : w2.setCell ⟨w.heap.size + 1, 3, none⟩ (.int .u8 0) = w2 := set_same hC (j := 3) rfl
  have s4 : w2.setCell ⟨w.heap.size + 1, 4, none⟩ (.int .i64 0) = w2 := set_same hC (j := 4) rfl
  have s5 : w2.setCell ⟨w.heap.size + 1, 5, none⟩ (.int .i64 0) = w2 := set_same hC (j := 5) rfl
  have f2 := blk_froz hC 2
  have f3 := blk_froz hC 3
  have f4 := blk_froz hC 4
  have f5 := blk_froz hC 5
  obtain ⟨r, hr⟩ : ∃ r, decide (Pm.Own x) = r := ⟨_, rfl⟩
  rw [hr]
  have HR := hide hr
  clear hr
  go_enter Tryd.func41, Tryd.ntmps41
  by_cases h1 : x.r = 1
  · have h1' : (x.r == 1) = true := by simp [h1]
    obtain ⟨V, hV, bV, gV, _⟩ := put_at hC 2 (.int .i64 x.a)
    obtain ⟨e0, e1, e2, e3, e4, e5⟩ := six_of (show V.heap[w.heap.size + 1]? = some (.cells #[.int .i64 x.e, .int .u8 x.r, .int .i64 x.a, .int .u8 0, .int .i64 0, .int .i64 0] 25 (0, 0)) from bV)
    obtain ⟨k0, k1, k2, k3, k4, k5⟩ := six_of ((gV.block w.heap.size (by omega) (by simp)).trans hB2)
    have q := Tryd.eqlP x.e x.r x.a x.p x.f x.b x.e x.r x.a 0 0 0
    rw [own_1 h1, HR.out] at q
    have belV := below_put bel gV (by omega) (by omega)
    clear h1 hB hC hB2 bV gV bel bel1 bel2
    go_wp2
    go_ret
    exact ⟨rfl, belV⟩
  have h1' : (x.r == 1) = false := by simpa using h1
  by_cases h2 : x.r = 2
  · have h2' : (x.r == 2) = true := by simp [h2]
    have q := Tryd.eqlP x.e x.r x.a x.p x.f x.b x.e x.r 0 0 0 0
    rw [own_2 h2, HR.out] at q
    clear h1 h2 hB hC hB2 bel1 bel2
    go_wp2
    go_ret
    exact ⟨rfl, bel⟩
  have h2' : (x.r == 2) = false := by simpa using h2
  by_cases h3 : x.r = 3
  · have h3' : (x.r == 3) = true := by simp [h3]
    by_cases p1 : x.p = 1
    · have p1' : (x.p == 1) = true := by simp [p1]
      have p2' : (x.p == 2) = false := by simp; omega
      have p3' : (x.p == 3) = false := by simp; omega
      have p4' : (x.p == 4) = false := by simp; omega
      obtain ⟨V, hV, bV, gV, _⟩ := put_at hC 3 (.int .u8 x.p)
      obtain ⟨e0, e1, e2, e3, e4, e5⟩ := six_of (show V.heap[w.heap.size + 1]? = some (.cells #[.int .i64 x.e, .int .u8 x.r, .int .i64 0, .int .u8 x.p, .int .i64 0, .int .i64 0] 25 (0, 0)) from bV)
      obtain ⟨k0, k1, k2, k3, k4, k5⟩ := six_of ((gV.block w.heap.size (by omega) (by simp)).trans hB2)
      have q := Tryd.eqlP x.e x.r x.a x.p x.f x.b x.e x.r 0 x.p 0 0
      rw [own_3 h3 p1, HR.out] at q
      have belV := below_put bel gV (by omega) (by omega)
      clear h1 h2 h3 p1 hB hC hB2 bV gV bel bel1 bel2
      go_wp2
      go_ret
      exact ⟨rfl, belV⟩
    have p1' : (x.p == 1) = false := by simpa using p1
    by_cases pp : x.p = 2 ∨ x.p = 3 ∨ x.p = 4
    · obtain ⟨V4, hV4, bV4, gV4, _⟩ := put_at hC 4 (.int .i64 x.f)
      have b4 : V4.heap[w.heap.size + 1]? = some (.cells #[.int .i64 x.e, .int .u8 x.r, .int .i64 0, .int .u8 0, .int .i64 x.f, .int .i64 0] 25 (0, 0)) := bV4
      have hB4 := (gV4.block w.heap.size (by omega) (by simp)).trans hB2
      have sz4 := gV4.size
      obtain ⟨l0, l1, l2, l3, l4, l5⟩ := six_of hB4
      obtain ⟨y0, y1, y2, y3, y4, y5⟩ := six_of b4
      obtain ⟨V5, hV5, bV5, gV5, n5⟩ := put_at b4 5 (.int .i64 x.b)
      have b5 : V5.heap[w.heap.size + 1]? = some (.cells #[.int .i64 x.e, .int .u8 x.r, .int .i64 0, .int .u8 0, .int .i64 x.f, .int .i64 x.b] 25 (0, 0)) := bV5
      have hB5 := (gV5.block w.heap.size (by omega) (by simp)).trans hB4
      have bel4 := below_put bel gV4 (by omega) (by omega)
      have bel5 := below_put bel4 gV5 (by omega) (by omega)
      have sz5 := gV5.size
      obtain ⟨V, hV, bV, gV, n3⟩ := put_at (V := V5.drew) b5 3 (.int .u8 x.p)
      obtain ⟨e0, e1, e2, e3, e4, e5⟩ := six_of (show V.heap[w.heap.size + 1]? = some (.cells #[.int .i64 x.e, .int .u8 x.r, .int .i64 0, .int .u8 x.p, .int .i64 x.f, .int .i64 x.b] 25 (0, 0)) from bV)
      have szd : V5.drew.heap.size = V5.heap.size := rfl
      obtain ⟨k0, k1, k2, k3, k4, k5⟩ := six_of ((gV.block w.heap.size (by omega) (by simp)).trans hB5)
      have t3 : V5.drew.cell? ⟨w.heap.size, 3, none⟩ = some (.int .u8 x.p) := blk_cell (w := V5.drew) hB5 3 rfl
      have t33 : V5.drew.cell? ⟨w.heap.size + 1, 3, none⟩ = some (.int .u8 0) := blk_cell (w := V5.drew) b5 3 rfl
      have belV := below_put bel5.drew gV (by omega) (by omega)
      have HH := hide (And.intro hV (And.intro n3 (And.intro e0 (And.intro e1 (And.intro e2 (And.intro e3 (And.intro e4 (And.intro e5 (And.intro k0 (And.intro k1 (And.intro k2 (And.intro k3 (And.intro k4 (And.intro k5 (And.intro t3 t33)))))))))))))))
      clear hV n3 e0 e1 e2 e3 e4 e5 k0 k1 k2 k3 k4 k5 t3 t33 bV gV bel5
      have q := Tryd.eqlP x.e x.r x.a x.p x.f x.b x.e x.r 0 x.p x.f x.b
      rw [own_4 h3 pp, HR.out] at q
      rcases pp with pp | pp | pp
      · have p2' : (x.p == 2) = true := by simp [pp]
        clear h1 h2 h3 p1 pp hB hC hB2 bV4 gV4 b4 hB4 bV5 gV5 b5 hB5 bel bel1 bel2 bel4
        go_wp2
        go_region
        clear hV4 hV5 c0 c1 c2 c3 c4 c5 d0 d1 d2 d3 d4 d5 l0 l1 l2 l3 l4 l5 y0 y1 y2 y3 y4 y5 n5
        obtain ⟨hV, n3, e0, e1, e2, e3, e4, e5, k0, k1, k2, k3, k4, k5, t3, t33⟩ := HH.out
        clear HH
        go_wp2
        go_ret
        exact ⟨rfl, belV⟩
      · have p2' : (x.p == 2) = false := by simp; omega
        have p3' : (x.p == 3) = true := by simp [pp]
        clear h1 h2 h3 p1 pp hB hC hB2 bV4 gV4 b4 hB4 bV5 gV5 b5 hB5 bel bel1 bel2 bel4
        go_wp2
        go_region
        clear hV4 hV5 c0 c1 c2 c3 c4 c5 d0 d1 d2 d3 d4 d5 l0 l1 l2 l3 l4 l5 y0 y1 y2 y3 y4 y5 n5
        obtain ⟨hV, n3, e0, e1, e2, e3, e4, e5, k0, k1, k2, k3, k4, k5, t3, t33⟩ := HH.out
        clear HH
        go_wp2
        go_ret
        exact ⟨rfl, belV⟩
      · have p2' : (x.p == 2) = false := by simp; omega
        have p3' : (x.p == 3) = false := by simp; omega
        have p4' : (x.p == 4) = true := by simp [pp]
        clear h1 h2 h3 p1 pp hB hC hB2 bV4 gV4 b4 hB4 bV5 gV5 b5 hB5 bel bel1 bel2 bel4
        go_wp2
        go_region
        clear hV4 hV5 c0 c1 c2 c3 c4 c5 d0 d1 d2 d3 d4 d5 l0 l1 l2 l3 l4 l5 y0 y1 y2 y3 y4 y5 n5
        obtain ⟨hV, n3, e0, e1, e2, e3, e4, e5, k0, k1, k2, k3, k4, k5, t3, t33⟩ := HH.out
        clear HH
        go_wp2
        go_ret
        exact ⟨rfl, belV⟩
    · have p2' : (x.p == 2) = false := by simp; omega
      have p3' : (x.p == 3) = false := by simp; omega
      have p4' : (x.p == 4) = false := by simp; omega
      have q := own_5 h3 (by omega) (by omega) (by omega) p1
      rw [HR.out] at q
      subst q
      clear h1 h2 h3 p1 pp hB hC hB2 bel1 bel2 HR
      go_wp2
      go_ret
      exact ⟨rfl, bel⟩
  · have h3' : (x.r == 3) = false := by simpa using h3
    have q := own_6 h1 h2 h3
    rw [HR.out] at q
    subst q
    clear h1 h2 h3 hB hC hB2 bel1 bel2 HR
    go_wp2
    go_ret
    exact ⟨rfl, bel⟩

end Go.Proofs.YthndeolibilnnaaDoor
