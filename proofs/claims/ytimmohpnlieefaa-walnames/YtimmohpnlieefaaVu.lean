/- A wal that is none, or that nobody made. -/
import Derived.Test.YtimmohpnlieefaaVs
namespace Go.Proofs.Ytimmohpnlieefaa
open Go.RowKit
set_option linter.unusedVariables false

/-- None, or nobody's. -/
def NoW (w : World) (v : Value) : Prop := v = .pointer none ∨ ∃ p, v = .pointer (some ⟨p, 0, none⟩) ∧ w.heap[p]? = some (.cells #[.pointer none, .bool false, .slice none 0 0, .slice none 0 0] 50 (0, 0))

theorem NoW.below {w w' : World} {v : Value} (h : NoW w v) (hb : Below w.heap.size w w') : NoW w' v := by
  rcases h with h | ⟨p, h1, h2⟩
  · exact .inl h
  · exact .inr ⟨p, h1, (hb.block p (blk_lt h2)).trans h2⟩

theorem made_no (w : World) (v : Value) (h : NoW w v) : Calls Try.prog 52 #[v] w fun E w' => E = .returned (.bool false) ∧ w = w' := by
  rcases h with rfl | ⟨p, rfl, hB⟩
  · go_enter Try.func52, Try.ntmps52
    go_wp2
    go_ret
    exact ⟨rfl, rfl⟩
  · have c0 : w.cell? ⟨p, 0, none⟩ = some (.pointer none) := blk_cell hB 0 rfl
    clear hB
    go_enter Try.func52, Try.ntmps52
    go_wp2
    go_ret
    exact ⟨rfl, rfl⟩

theorem NoW.form {w : World} {v : Value} (h : NoW w v) : ∃ a, v = .pointer a := by
  rcases h with rfl | ⟨p, rfl, _⟩
  · exact ⟨_, rfl⟩
  · exact ⟨_, rfl⟩

theorem refuses_no (w : World) (v : Value) (h : NoW w v) : Calls Try.prog 41 #[v] w fun E w' => E = .returned (.int .i64 1) ∧ w = w' := by
  have HM := hide (made_no w v h)
  obtain ⟨a, rfl⟩ := h.form
  clear h
  go_enter Try.func41, Try.ntmps41
  go_wp2_with fail
  refine HM.out.mono ?_
  rintro E w1 ⟨rfl, rfl⟩
  go_wp2
  go_ret
  exact ⟨rfl, rfl⟩

theorem append_no (w : World) (v : Value) (e n : Int) (vo : Value) (ho : ∃ a k c, vo = .slice a k c) (h : NoW w v) : Calls Try.prog 11 #[v, .agg #[.int .i64 e, .int .i64 n, vo]] w fun E w' => E = .returned (.int .i64 1) ∧ Below w.heap.size w w' := by
  obtain ⟨w1, hw1, sz1, bel1, hB⟩ := blk_step w #[.int .i64 e, .int .i64 n, vo] 32
  have HM := hide (refuses_no w1 v (h.below bel1))
  obtain ⟨a, rfl⟩ := h.form
  obtain ⟨xa, xk, xc, rfl⟩ := ho
  clear h hB
  go_enter Try.func11, Try.ntmps11
  go_wp2_with fail
  refine HM.out.mono ?_
  rintro E w2 ⟨rfl, rfl⟩
  go_wp2
  go_ret
  exact ⟨rfl, bel1⟩

theorem sync_no (w : World) (v : Value) (h : NoW w v) : Calls Try.prog 21 #[v] w fun E w' => E = .returned (.int .i64 1) ∧ w = w' := by
  have HM := hide (refuses_no w v h)
  obtain ⟨a, rfl⟩ := h.form
  clear h
  go_enter Try.func21, Try.ntmps21
  go_wp2_with fail
  refine HM.out.mono ?_
  rintro E w1 ⟨rfl, rfl⟩
  go_wp2
  go_ret
  exact ⟨rfl, rfl⟩

theorem cut_no (w : World) (v : Value) (n : Int) (h : NoW w v) : Calls Try.prog 14 #[v, .int .i64 n] w fun E w' => E = .returned (.int .i64 1) ∧ w = w' := by
  have HM := hide (refuses_no w v h)
  obtain ⟨a, rfl⟩ := h.form
  clear h
  go_enter Try.func14, Try.ntmps14
  go_wp2_with fail
  refine HM.out.mono ?_
  rintro E w1 ⟨rfl, rfl⟩
  go_wp2
  go_ret
  exact ⟨rfl, rfl⟩

theorem end_no (w : World) (v : Value) (h : NoW w v) : Calls Try.prog 22 #[v] w fun E w' => E = .returned (.int .i64 0) ∧ w = w' := by
  have HM := hide (made_no w v h)
  obtain ⟨a, rfl⟩ := h.form
  clear h
  go_enter Try.func22, Try.ntmps22
  go_wp2_with fail
  refine HM.out.mono ?_
  rintro E w1 ⟨rfl, rfl⟩
  go_wp2
  go_ret
  exact ⟨rfl, rfl⟩

theorem epoch_no (w : World) (v : Value) (h : NoW w v) : Calls Try.prog 15 #[v] w fun E w' => E = .returned (.int .i64 0) ∧ w = w' := by
  have HM := hide (made_no w v h)
  obtain ⟨a, rfl⟩ := h.form
  clear h
  go_enter Try.func15, Try.ntmps15
  go_wp2_with fail
  refine HM.out.mono ?_
  rintro E w1 ⟨rfl, rfl⟩
  go_wp2
  go_ret
  exact ⟨rfl, rfl⟩

theorem starts_no (w : World) (v : Value) (h : NoW w v) : Calls Try.prog 23 #[v] w fun E w' => E = .returned (.slice none 0 0) ∧ w = w' := by
  have HM := hide (made_no w v h)
  obtain ⟨a, rfl⟩ := h.form
  clear h
  go_enter Try.func23, Try.ntmps23
  go_wp2_with fail
  refine HM.out.mono ?_
  rintro E w1 ⟨rfl, rfl⟩
  go_wp2
  go_ret
  exact ⟨rfl, rfl⟩

theorem from_no (w : World) (v : Value) (n m : Int) (h : NoW w v) : Calls Try.prog 24 #[v, .int .i64 n, .int .i64 m] w fun E w' => E = .returned (.slice none 0 0) ∧ w = w' := by
  have HM := hide (made_no w v h)
  obtain ⟨a, rfl⟩ := h.form
  clear h
  go_enter Try.func24, Try.ntmps24
  go_wp2_with fail
  refine HM.out.mono ?_
  rintro E w1 ⟨rfl, rfl⟩
  go_wp2
  go_ret
  exact ⟨rfl, rfl⟩

theorem length_no (w : World) (v : Value) (h : NoW w v) : Calls Try.prog 25 #[v] w fun E w' => E = .returned (.int .i64 0) ∧ w = w' := by
  have HM := hide (made_no w v h)
  obtain ⟨a, rfl⟩ := h.form
  clear h
  go_enter Try.func25, Try.ntmps25
  go_wp2_with fail
  refine HM.out.mono ?_
  rintro E w1 ⟨rfl, rfl⟩
  go_wp2
  go_ret
  exact ⟨rfl, rfl⟩

/-- A disk that is none, or nobody's. -/
def NoD (w : World) (v : Value) : Prop := v = .pointer none ∨ ∃ p, v = .pointer (some ⟨p, 0, none⟩) ∧ w.heap[p]? = some (.cells #[.bool false, .bool false, .int .i64 0, .slice none 0 0, .slice none 0 0, .slice none 0 0, .slice none 0 0, .slice none 0 0, .int .i64 0] 59 (0, 0))

theorem NoD.form {w : World} {v : Value} (h : NoD w v) : ∃ a, v = .pointer a := by
  rcases h with rfl | ⟨p, rfl, _⟩
  · exact ⟨_, rfl⟩
  · exact ⟨_, rfl⟩

theorem dmade_no (w : World) (v : Value) (h : NoD w v) : Calls Try.prog 67 #[v] w fun E w' => E = .returned (.bool false) ∧ w = w' := by
  rcases h with rfl | ⟨p, rfl, hB⟩
  · go_enter Try.func67, Try.ntmps67
    go_wp2
    go_ret
    exact ⟨rfl, rfl⟩
  · have c0 : w.cell? ⟨p, 0, none⟩ = some (.bool false) := blk_cell hB 0 rfl
    clear hB
    go_enter Try.func67, Try.ntmps67
    go_wp2
    go_ret
    exact ⟨rfl, rfl⟩

theorem drefuses_no (w : World) (v : Value) (h : NoD w v) : Calls Try.prog 65 #[v] w fun E w' => E = .returned (.int .i64 1) ∧ w = w' := by
  have HM := hide (dmade_no w v h)
  obtain ⟨a, rfl⟩ := h.form
  clear h
  go_enter Try.func65, Try.ntmps65
  go_wp2_with fail
  refine HM.out.mono ?_
  rintro E w1 ⟨rfl, rfl⟩
  go_wp2
  go_ret
  exact ⟨rfl, rfl⟩

theorem dread_no (w : World) (v : Value) (f : Int) (h : NoD w v) : Calls Try.prog 36 #[v, .int .i64 f] w fun E w' => E = .returned (.tuple #[.slice none 0 0, .int .i64 1]) ∧ w = w' := by
  have HM := hide (drefuses_no w v h)
  obtain ⟨a, rfl⟩ := h.form
  clear h
  go_enter Try.func36, Try.ntmps36
  go_wp2_with fail
  refine HM.out.mono ?_
  rintro E w1 ⟨rfl, rfl⟩
  go_wp2
  go_ret2
  exact ⟨rfl, rfl⟩

theorem open_no (w : World) (v : Value) (h : NoD w v) : Calls Try.prog 9 #[v] w fun E w' => E = .returned (.tuple #[.pointer none, .int .i64 1]) ∧ w = w' := by
  have HM := hide (dread_no w v 0 h)
  obtain ⟨a, rfl⟩ := h.form
  clear h
  go_enter Try.func9, Try.ntmps9
  go_wp2_with fail
  refine HM.out.mono ?_
  rintro E w1 ⟨rfl, rfl⟩
  go_wp2
  go_ret2
  exact ⟨rfl, rfl⟩

end Go.Proofs.Ytimmohpnlieefaa
