/- A disk that is nil, or that nobody made: each call of it. -/
import Derived.Test.YteklbnonikccaaaAo
namespace Go.Proofs.Yteklbnonikccaaa
open Go.RowKit Go.Shelf
set_option linter.unusedVariables false
attribute [local go_sem] Oper.semAt_some

/-- No disk, or one that nobody made. -/
def NoD (w : World) (v : Value) : Prop := v = .pointer none ∨ ∃ q, v = .pointer (some ⟨q, 0, none⟩) ∧ w.cell? ⟨q, 0, none⟩ = some (.bool false)

theorem NoD.below {w w' : World} {v : Value} (h : NoD w v) (hb : Below w.heap.size w w') : NoD w' v := by
  rcases h with h | ⟨q, h1, h2⟩
  · exact .inl h
  · exact .inr ⟨q, h1, (hb.cell (World.block_lt_of_cell? _ _ h2)).trans h2⟩

theorem madeN (v : Value) (w : World) (h : NoD w v) : Calls Try.prog 40 #[v] w fun E w' => E = .returned (.bool false) ∧ w = w' := by
  rcases h with rfl | ⟨q, rfl, hc⟩
  · go_enter Try.func40, Try.ntmps40
    go_wp2
    go_ret
    exact ⟨rfl, rfl⟩
  · go_enter Try.func40, Try.ntmps40
    go_wp2
    go_ret
    exact ⟨rfl, rfl⟩

theorem refN (v : Value) (w : World) (h : NoD w v) : Calls Try.prog 35 #[v] w fun E w' => E = .returned (.int .i64 1) ∧ w = w' := by
  have HN := hide (madeN v w h)
  clear h
  go_enter Try.func35, Try.ntmps35
  go_wp2_with fail
  refine HN.out.mono ?_
  rintro E w1 ⟨rfl, rfl⟩
  go_wp2
  go_ret
  exact ⟨rfl, rfl⟩

theorem pullN (v : Value) (w : World) (h : NoD w v) : Calls Try.prog 11 #[v] w fun E w' => E = .returned (.int .i64 1) ∧ w = w' := by
  have HN := hide (refN v w h)
  clear h
  go_enter Try.func11, Try.ntmps11
  go_wp2_with fail
  refine HN.out.mono ?_
  rintro E w1 ⟨rfl, rfl⟩
  go_wp2
  go_ret
  exact ⟨rfl, rfl⟩

theorem safeN (v : Value) (w : World) (h : NoD w v) : Calls Try.prog 34 #[v] w fun E w' => E = .returned (.int .i64 1) ∧ w = w' := by
  have HN := hide (refN v w h)
  clear h
  go_enter Try.func34, Try.ntmps34
  go_wp2_with fail
  refine HN.out.mono ?_
  rintro E w1 ⟨rfl, rfl⟩
  go_wp2
  go_ret
  exact ⟨rfl, rfl⟩

theorem syncN (v : Value) (w : World) (h : NoD w v) : Calls Try.prog 14 #[v] w fun E w' => E = .returned (.int .i64 1) ∧ w = w' := by
  have HN := hide (refN v w h)
  clear h
  go_enter Try.func14, Try.ntmps14
  go_wp2_with fail
  refine HN.out.mono ?_
  rintro E w1 ⟨rfl, rfl⟩
  go_wp2
  go_ret
  exact ⟨rfl, rfl⟩

theorem fuseN (v : Value) (n : Int) (w : World) (h : NoD w v) : Calls Try.prog 13 #[v, .int .i64 n] w fun E w' => E = .returned (.int .i64 1) ∧ w = w' := by
  have HN := hide (refN v w h)
  clear h
  go_enter Try.func13, Try.ntmps13
  go_wp2_with fail
  refine HN.out.mono ?_
  rintro E w1 ⟨rfl, rfl⟩
  go_wp2
  go_ret
  exact ⟨rfl, rfl⟩

theorem cutN (v : Value) (f n : Int) (w : World) (h : NoD w v) : Calls Try.prog 17 #[v, .int .i64 f, .int .i64 n] w fun E w' => E = .returned (.int .i64 1) ∧ w = w' := by
  have HN := hide (refN v w h)
  clear h
  go_enter Try.func17, Try.ntmps17
  go_wp2_with fail
  refine HN.out.mono ?_
  rintro E w1 ⟨rfl, rfl⟩
  go_wp2
  go_ret
  exact ⟨rfl, rfl⟩

theorem startN (v : Value) (k t : Int) (w : World) (h : NoD w v) : Calls Try.prog 12 #[v, .int .i64 k, .int .i64 t] w fun E w' => E = .returned (.int .i64 1) ∧ w = w' := by
  have HN := hide (madeN v w h)
  clear h
  go_enter Try.func12, Try.ntmps12
  go_wp2_with fail
  refine HN.out.mono ?_
  rintro E w1 ⟨rfl, rfl⟩
  go_wp2
  go_ret
  exact ⟨rfl, rfl⟩

theorem readN (v : Value) (f : Int) (w : World) (h : NoD w v) : Calls Try.prog 19 #[v, .int .i64 f] w fun E w' => E = .returned (.tuple #[.slice none 0 0, .int .i64 1]) ∧ w = w' := by
  have HN := hide (refN v w h)
  clear h
  go_enter Try.func19, Try.ntmps19
  go_wp2_with fail
  refine HN.out.mono ?_
  rintro E w1 ⟨rfl, rfl⟩
  go_wp2
  refine bodyPost_ret (results_tmp2 rfl _ _ _) rfl ?_
  exact ⟨rfl, rfl⟩

theorem onN (v : Value) (w : World) (h : NoD w v) : Calls Try.prog 15 #[v] w fun E w' => E = .returned (.bool false) ∧ w = w' := by
  have HN := hide (madeN v w h)
  clear h
  go_enter Try.func15, Try.ntmps15
  go_wp2_with fail
  refine HN.out.mono ?_
  rintro E w1 ⟨rfl, rfl⟩
  go_wp2
  go_ret
  exact ⟨rfl, rfl⟩

theorem pendN (v : Value) (w : World) (h : NoD w v) : Calls Try.prog 18 #[v] w fun E w' => E = .returned (.int .i64 0) ∧ w = w' := by
  have HN := hide (madeN v w h)
  clear h
  go_enter Try.func18, Try.ntmps18
  go_wp2_with fail
  refine HN.out.mono ?_
  rintro E w1 ⟨rfl, rfl⟩
  go_wp2
  go_ret
  exact ⟨rfl, rfl⟩

theorem stepsN (v : Value) (w : World) (h : NoD w v) : Calls Try.prog 16 #[v] w fun E w' => E = .returned (.int .i64 0) ∧ w = w' := by
  have HN := hide (madeN v w h)
  clear h
  go_enter Try.func16, Try.ntmps16
  go_wp2_with fail
  refine HN.out.mono ?_
  rintro E w1 ⟨rfl, rfl⟩
  go_wp2
  go_ret
  exact ⟨rfl, rfl⟩

theorem durN (v : Value) (f : Int) (w : World) (h : NoD w v) : Calls Try.prog 28 #[v, .int .i64 f] w fun E w' => E = .returned (.slice none 0 0) ∧ w = w' := by
  have HN := hide (madeN v w h)
  clear h
  go_enter Try.func28, Try.ntmps28
  go_wp2_with fail
  refine HN.out.mono ?_
  rintro E w1 ⟨rfl, rfl⟩
  go_wp2
  go_ret
  exact ⟨rfl, rfl⟩

set_option maxRecDepth 100000 in
set_option maxHeartbeats 2000000 in
theorem writeN (v : Value) (file : Int) (vb : Value) (w : World) (h : NoD w v) :
    Calls Try.prog 10 #[v, .int .i64 file, vb] w fun E w' => E = .returned (.int .i64 1) ∧ Below w.heap.size w w' := by
  have hone : ∃ q, v = .pointer q := by
    rcases h with h | ⟨q, h, _⟩
    · exact ⟨_, h⟩
    · exact ⟨_, h⟩
  obtain ⟨q, hq⟩ := hone
  obtain ⟨w1, hw1, sz1, bel1, B1⟩ := blk_step w #[v] 23
  obtain ⟨w2, hw2, sz2, bel2, B2⟩ := blk_step w1 #[.int .i64 file] 3
  obtain ⟨w3, hw3, sz3, bel3, B3⟩ := blk_step w2 #[.int .i64 0] 25
  rw [sz1] at B2 bel2
  rw [show w2.heap.size = w.heap.size + 2 by omega] at B3 bel3
  have bel03 : Below w.heap.size w w3 := (bel1.trans (bel2.mono (by omega))).trans (bel3.mono (by omega))
  have HR := hide (refN v w3 (h.below bel03))
  replace sz2 : w2.heap.size = w.heap.size + 2 := by omega
  replace sz3 : w3.heap.size = w.heap.size + 3 := by omega
  have C0 : w3.cell? ⟨w.heap.size, 0, none⟩ = some v := by
    have e1 := (bel2.block w.heap.size (by omega)).trans B1
    exact blk_cell ((bel3.block w.heap.size (by omega)).trans e1) 0 rfl
  have C2 : w3.cell? ⟨w.heap.size + 2, 0, none⟩ = some (.int .i64 0) := blk_cell B3 0 rfl
  have f2 := blk_froz B3 0
  have HE : Hid (Below w.heap.size w (w3.setCell ⟨w.heap.size + 2, 0, none⟩ (.int .i64 1)) ∧ (w3.setCell ⟨w.heap.size + 2, 0, none⟩ (.int .i64 1)).cell? ⟨w.heap.size + 2, 0, none⟩ = some (.int .i64 1)) := hide
    ⟨bel03.grown (grown_setCell w3 ⟨w.heap.size + 2, 0, none⟩ _) (by omega) fun k hk => by simp at hk; omega, blk_cell (set_cells B3 0 (.int .i64 1)) 0 (by simp)⟩
  subst hq
  clear h B1 B2 B3
  refine (callsIn_wide (n := 6)).1 ?_
  refine callsIn_of_wp_marks Try.func10 rfl trivial ?_ rfl
  simp only [Try.ntmps10, List.size_toArray, List.length_cons, List.length_nil, Nat.reduceAdd, Nat.reduceSub, Array.replicate_succ, Array.replicate_zero, List.push_toArray, List.append_toArray, List.nil_append, List.cons_append]
  gi_wp2_with fail
  refine ⟨trivial, (callsIn_wide.2 HR.out).mono ?_⟩
  rintro E w' ⟨rfl, rfl⟩
  gi_wp2
  obtain ⟨b6, c6⟩ := HE.out
  refine ⟨.int .i64 1, ?_, rfl, b6⟩
  simp [results, Try.results10, go_sem, c6]

set_option maxHeartbeats 4000000 in
theorem doneN (v : Value) (a : Aw) (vb : Value) (w : World) (h : NoD w v) (hk : I64 a.k) (hform : ∃ x n c, a.v = .slice x n c) :
    Calls Try.prog 23 #[v, .agg #[.int .i64 a.k, .int .i64 a.f, .int .i64 a.n, .int .i64 a.t, a.v], vb] w fun E w' => E = .returned (.int .i64 1) ∧ Below w.heap.size w w' := by
  obtain ⟨x, xn, xc, hav⟩ := hform
  obtain ⟨w1, hw1, sz1, bel1, hB⟩ := blk_step w #[.int .i64 a.k, .int .i64 a.f, .int .i64 a.n, .int .i64 a.t, a.v] 43
  have c0 : w1.cell? ⟨w.heap.size, 0, none⟩ = some (.int .i64 a.k) := blk_cell hB 0 rfl
  have c1 : w1.cell? ⟨w.heap.size, 1, none⟩ = some (.int .i64 a.f) := blk_cell hB 1 rfl
  have c2 : w1.cell? ⟨w.heap.size, 2, none⟩ = some (.int .i64 a.n) := blk_cell hB 2 rfl
  have c3 : w1.cell? ⟨w.heap.size, 3, none⟩ = some (.int .i64 a.t) := blk_cell hB 3 rfl
  have h1 := h.below bel1
  have PA := hide (pickx_any a.k 7 w1 (by omega) (by omega) hk)
  obtain ⟨q0, q1⟩ := pk_lt a.k 7 (by omega)
  have W := hide (writeN v a.f vb w1 h1)
  have C := hide (cutN v a.f a.n w1 h1)
  have S := hide (syncN v w1 h1)
  have FU := hide (fuseN v a.n w1 h1)
  have PU := hide (pullN v w1 h1)
  have ST := hide (startN v a.n a.t w1 h1)
  have SA := hide (safeN v w1 h1)
  rw [hav] at hw1 ⊢
  clear hB h h1 hav
  generalize pk a.k 7 = q at PA q0 q1
  go_enter Try.func23, Try.ntmps23
  go_wp2_with fail
  refine PA.out.mono ?_
  rintro E w' ⟨rfl, rfl⟩
  rcases (show q = 0 ∨ q = 1 ∨ q = 2 ∨ q = 3 ∨ q = 4 ∨ q = 5 ∨ q = 6 by omega) with rfl | rfl | rfl | rfl | rfl | rfl | rfl
  · go_wp2_with fail
    refine W.out.mono ?_
    rintro E w2 ⟨rfl, b2⟩
    have b3 := bel1.trans (b2.mono (by omega))
    go_wp2
    go_ret
    exact ⟨rfl, b3⟩
  · go_wp2_with fail
    refine C.out.mono ?_
    rintro E w2 ⟨rfl, rfl⟩
    go_wp2
    go_ret
    exact ⟨rfl, bel1⟩
  · go_wp2_with fail
    refine S.out.mono ?_
    rintro E w2 ⟨rfl, rfl⟩
    go_wp2
    go_ret
    exact ⟨rfl, bel1⟩
  · go_wp2_with fail
    refine FU.out.mono ?_
    rintro E w2 ⟨rfl, rfl⟩
    go_wp2
    go_ret
    exact ⟨rfl, bel1⟩
  · go_wp2_with fail
    refine PU.out.mono ?_
    rintro E w2 ⟨rfl, rfl⟩
    go_wp2
    go_ret
    exact ⟨rfl, bel1⟩
  · go_wp2_with fail
    refine ST.out.mono ?_
    rintro E w2 ⟨rfl, rfl⟩
    go_wp2
    go_ret
    exact ⟨rfl, bel1⟩
  · go_wp2_with fail
    refine SA.out.mono ?_
    rintro E w2 ⟨rfl, rfl⟩
    go_wp2
    go_ret
    exact ⟨rfl, bel1⟩

end Go.Proofs.Yteklbnonikccaaa
