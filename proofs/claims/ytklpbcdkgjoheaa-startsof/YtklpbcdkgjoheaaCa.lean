/- The contracts of Check and Same: the program's, the document's, the laws'. -/
import Derived.Test.YtklpbcdkgjoheaaCk
import Derived.Test.YtklpbcdkgjoheaaBe
import Derived.Test.YtklpbcdkgjoheaaBs
import Derived.Test.YtklpbcdkgjoheaaBr
namespace Go.Proofs.Ytklpbcdkgjoheaa
open Go.RowKit
set_option linter.unusedVariables false

theorem inb_any (x : Int) (w : World) : Calls Try.prog 59 #[.int .i64 x] w fun E w' => E = .returned (.bool (decide (1 ≤ x ∧ x ≤ 1048576))) ∧ w = w' := by
  go_enter Try.func59, Try.ntmps59
  by_cases h1 : 1 ≤ x
  · by_cases h2 : x ≤ 1048576
    · go_wp2
      go_ret
      exact ⟨by simp [h1, h2], rfl⟩
    · go_wp2
      go_ret
      exact ⟨by simp; omega, rfl⟩
  · go_wp2
    go_ret
    exact ⟨by simp; omega, rfl⟩

set_option maxHeartbeats 400000 in
theorem ccheck_any (e n : Int) (v : Value) (l : List Bm.Ov) (w : World) (h : IsO w v l) (hf : FitO l) (hl : l.length ≤ 140737488355328) :
    Calls Try.prog 57 #[cmv e n v] w fun E w' => E = .returned (.int .i64 (Cm.chk e n l)) ∧ Below w.heap.size w w' := by
  unfold cmv
  obtain ⟨w1, hw1, sz1, bel1, hB⟩ := blk_step w #[.int .i64 e, .int .i64 n, v] 40
  have c0 := blk_cell hB 0 rfl
  have c1 := blk_cell hB 1 rfl
  have c2 := blk_cell hB 2 rfl
  have h1 := h.below bel1
  obtain ⟨ao, cap, rfl, _, _⟩ := h.shape
  clear hB
  go_enter Try.func57, Try.ntmps57
  by_cases he : 1 ≤ e ∧ e ≤ 1048576
  · have he' : decide (1 ≤ e ∧ e ≤ 1048576) = true := by simp [he]
    by_cases hn : 1 ≤ n ∧ n ≤ 1048576
    · have hn' : decide (1 ≤ n ∧ n ≤ 1048576) = true := by simp [hn]
      rw [Cm.chk_in ⟨he.1, he.2, hn.1, hn.2⟩]
      clear he hn
      go_wp2_with fail
      refine (inb_any e _).mono ?_
      rintro E w2 ⟨rfl, rfl⟩
      rw [he']
      go_wp2_with fail
      refine (inb_any n _).mono ?_
      rintro E w2 ⟨rfl, rfl⟩
      rw [hn']
      go_wp2_with fail
      refine (bcheck_any _ l _ h1 hf hl).mono ?_
      rintro E w3 ⟨rfl, bel3⟩
      have bel03 := bel1.trans (bel3.mono (by omega))
      go_wp2
      go_ret
      exact ⟨rfl, bel03⟩
    · have hn' : decide (1 ≤ n ∧ n ≤ 1048576) = false := by simpa using hn
      rw [Cm.chk_out (by omega)]
      clear he hn
      go_wp2_with fail
      refine (inb_any e _).mono ?_
      rintro E w2 ⟨rfl, rfl⟩
      rw [he']
      go_wp2_with fail
      refine (inb_any n _).mono ?_
      rintro E w2 ⟨rfl, rfl⟩
      rw [hn']
      go_wp2
      go_ret
      exact ⟨rfl, bel1⟩
  · have he' : decide (1 ≤ e ∧ e ≤ 1048576) = false := by simpa using he
    rw [Cm.chk_out (by omega)]
    clear he
    go_wp2_with fail
    refine (inb_any e _).mono ?_
    rintro E w2 ⟨rfl, rfl⟩
    rw [he']
    go_wp2
    go_ret
    exact ⟨rfl, bel1⟩

set_option maxHeartbeats 400000 in
theorem ccheckR_any (e n : Int) (v : Value) (l : List Bm.Ov) (w : World) (h : IsO w v l) (hf : FitO l) (hl : l.length ≤ 140737488355328) :
    Calls Try.prog 46 #[cmv e n v] w fun E w' => E = .returned (.int .i64 (Cm.chk e n l)) ∧ Below w.heap.size w w' := by
  unfold cmv
  obtain ⟨w1, hw1, sz1, bel1, hB⟩ := blk_step w #[.int .i64 e, .int .i64 n, v] 40
  have c0 := blk_cell hB 0 rfl
  have c1 := blk_cell hB 1 rfl
  have c2 := blk_cell hB 2 rfl
  have h1 := h.below bel1
  obtain ⟨ao, cap, rfl, _, _⟩ := h.shape
  clear hB
  go_enter Try.func46, Try.ntmps46
  by_cases hin : 1 ≤ e ∧ e ≤ 1048576 ∧ 1 ≤ n ∧ n ≤ 1048576
  · rw [Cm.chk_in hin]
    obtain ⟨g1, g2, g3, g4⟩ := hin
    go_wp2_with fail
    refine (bcheckR_any _ l _ h1 hf hl).mono ?_
    rintro E w3 ⟨rfl, bel3⟩
    have bel03 := bel1.trans (bel3.mono (by omega))
    go_wp2
    go_ret
    exact ⟨rfl, bel03⟩
  · rw [Cm.chk_out hin]
    by_cases g1 : e < 1
    · go_wp2
      go_ret
      exact ⟨rfl, bel1⟩
    · by_cases g2 : 1048576 < e
      · go_wp2
        go_ret
        exact ⟨rfl, bel1⟩
      · by_cases g3 : n < 1
        · go_wp2
          go_ret
          exact ⟨rfl, bel1⟩
        · have g4 : 1048576 < n := by omega
          go_wp2
          go_ret
          exact ⟨rfl, bel1⟩

/-- Whether two commits are the same. -/
def sameC (e n : Int) (l : List Bm.Ov) (e' n' : Int) (l' : List Bm.Ov) : Bool := (e == e') && ((n == n') && Bm.sameL l l')

theorem sameC_self (e n : Int) (l : List Bm.Ov) : sameC e n l e n l = true := by simp [sameC, Bm.sameL_self]

set_option maxHeartbeats 400000 in
theorem csameK_any (e n : Int) (v : Value) (l : List Bm.Ov) (e' n' : Int) (v' : Value) (l' : List Bm.Ov) (w : World) (h : IsO w v l) (h' : IsO w v' l') (hl : l.length ≤ 140737488355328) (hl' : l'.length ≤ 140737488355328) :
    Calls Try.prog 47 #[cmv e n v, cmv e' n' v'] w fun E w' => E = .returned (.bool (sameC e n l e' n' l')) ∧ Below w.heap.size w w' := by
  unfold cmv
  obtain ⟨w1, hw1, sz1, bel1, hB⟩ := blk_step w #[.int .i64 e, .int .i64 n, v] 40
  obtain ⟨w2, hw2, sz2, bel2, hC⟩ := blk_step w1 #[.int .i64 e', .int .i64 n', v'] 40
  rw [sz1] at hC
  have hB2 := (bel2.block _ (blk_lt hB)).trans hB
  have c0 := blk_cell hB2 0 rfl
  have c1 := blk_cell hB2 1 rfl
  have c2 := blk_cell hB2 2 rfl
  have d0 := blk_cell hC 0 rfl
  have d1 := blk_cell hC 1 rfl
  have d2 := blk_cell hC 2 rfl
  have bel02 : Below w.heap.size w w2 := bel1.trans (bel2.mono (by omega))
  have i1 := h.below bel02
  have i2 := h'.below bel02
  obtain ⟨ao, cap, rfl, _, _⟩ := h.shape
  obtain ⟨ao', cap', rfl, _, _⟩ := h'.shape
  clear hB hC hB2 bel1 bel2
  go_enter Try.func47, Try.ntmps47
  by_cases he : e = e'
  · have he' : (e == e') = true := by simp [he]
    by_cases hn : n = n'
    · have hn' : (n == n') = true := by simp [hn]
      have hs : sameC e n l e' n' l' = Bm.sameL l l' := by simp [sameC, he', hn']
      rw [hs]
      clear he hn hs
      go_wp2_with fail
      refine (sameO_any _ _ l l' _ i1 i2 hl hl').mono ?_
      rintro E w3 ⟨rfl, bel3⟩
      have bel03 := bel02.trans (bel3.mono (by omega))
      go_wp2
      go_ret
      exact ⟨rfl, bel03⟩
    · have hn' : (n == n') = false := by simpa using hn
      have hs : sameC e n l e' n' l' = false := by simp [sameC, hn']
      rw [hs]
      clear he hn hs
      go_wp2
      go_ret
      exact ⟨rfl, bel02⟩
  · have he' : (e == e') = false := by simpa using he
    have hs : sameC e n l e' n' l' = false := by simp [sameC, he']
    rw [hs]
    clear he hs
    go_wp2
    go_ret
    exact ⟨rfl, bel02⟩

end Go.Proofs.Ytklpbcdkgjoheaa
