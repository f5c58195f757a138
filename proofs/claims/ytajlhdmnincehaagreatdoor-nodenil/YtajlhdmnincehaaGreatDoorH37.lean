/- Texts of one layer, one behind the other. -/
import Derived.Test.YtajlhdmnincehaaGreatDoorH10
/- A disk that is nil, or that nobody made: it refuses. -/
namespace Go.Proofs.YtajlhdmnincehaaGreatDoor
open Go.RowKit Go.Shelf
set_option linter.unusedVariables false
attribute [local go_sem] Oper.semAt_some

/-- No disk, or one that nobody made. -/
def NoDk (w : World) (v : Value) : Prop := v = .pointer none ∨ ∃ q, v = .pointer (some ⟨q, 0, none⟩) ∧ w.cell? ⟨q, 0, none⟩ = some (.bool false)

theorem NoDk.below {w w' : World} {v : Value} (h : NoDk w v) (hb : Below w.heap.size w w') : NoDk w' v := by
  rcases h with h | ⟨q, h1, h2⟩
  · exact .inl h
  · exact .inr ⟨q, h1, (hb.cell (World.block_lt_of_cell? _ _ h2)).trans h2⟩

theorem madeK (v : Value) (w : World) (h : NoDk w v) : Calls Tryz.prog 90 #[v] w fun E w' => E = .returned (.bool false) ∧ w = w' := by
  rcases h with rfl | ⟨q, rfl, hc⟩
  · go_enter Tryz.func90, Tryz.ntmps90
    go_wp2
    go_ret
    exact ⟨rfl, rfl⟩
  · go_enter Tryz.func90, Tryz.ntmps90
    go_wp2
    go_ret
    exact ⟨rfl, rfl⟩

theorem refK (v : Value) (w : World) (h : NoDk w v) : Calls Tryz.prog 85 #[v] w fun E w' => E = .returned (.int .i64 1) ∧ w = w' := by
  have HN := hide (madeK v w h)
  clear h
  go_enter Tryz.func85, Tryz.ntmps85
  go_wp2_with fail
  refine HN.out.mono ?_
  rintro E w1 ⟨rfl, rfl⟩
  go_wp2
  go_ret
  exact ⟨rfl, rfl⟩

set_option maxRecDepth 100000 in
set_option maxHeartbeats 2000000 in
theorem writeK (v : Value) (file : Int) (vb : Value) (w : World) (h : NoDk w v) :
    Calls Tryz.prog 44 #[v, .int .i64 file, vb] w fun E w' => E = .returned (.int .i64 1) ∧ Below w.heap.size w w' := by
  have hone : ∃ q, v = .pointer q := by
    rcases h with h | ⟨q, h, _⟩
    · exact ⟨_, h⟩
    · exact ⟨_, h⟩
  obtain ⟨q, hq⟩ := hone
  obtain ⟨w1, hw1, sz1, bel1, B1⟩ := blk_step w #[v] 32
  obtain ⟨w2, hw2, sz2, bel2, B2⟩ := blk_step w1 #[.int .i64 file] 3
  obtain ⟨w3, hw3, sz3, bel3, B3⟩ := blk_step w2 #[.int .i64 0] 39
  rw [sz1] at B2 bel2
  rw [show w2.heap.size = w.heap.size + 2 by omega] at B3 bel3
  have bel03 : Below w.heap.size w w3 := (bel1.trans (bel2.mono (by omega))).trans (bel3.mono (by omega))
  have HR := hide (refK v w3 (h.below bel03))
  replace sz2 : w2.heap.size = w.heap.size + 2 := by omega
  replace sz3 : w3.heap.size = w.heap.size + 3 := by omega
  have C0 : w3.cell? ⟨w.heap.size, 0, none⟩ = some v := by
    have e1 := (bel2.block w.heap.size (by omega)).trans B1
    exact blk_cell ((bel3.block w.heap.size (by omega)).trans e1) 0 rfl
  have C2 : w3.cell? ⟨w.heap.size + 2, 0, none⟩ = some (.int .i64 0) := blk_cell B3 0 rfl
  have f2 := blk_froz B3 0
  have HE : Hid (Below w.heap.size w (w3.setCell ⟨w.heap.size + 2, 0, none⟩ (.int .i64 1)) ∧ (w3.setCell ⟨w.heap.size + 2, 0, none⟩ (.int .i64 1)).cell? ⟨w.heap.size + 2, 0, none⟩ = some (.int .i64 1)) := hide
    ⟨bel03.grown (grown_setCell w3 ⟨w.heap.size + 2, 0, none⟩ _) (by omega) fun k hk => by simp at hk; omega, blk_cell (set_cells B3 0 (.int .i64 1)) 0 (by simp)⟩
  subst hq
  clear h B1 B2 B3
  refine (callsIn_wide (n := 6)).1 ?_
  refine callsIn_of_wp_marks Tryz.func44 rfl trivial ?_ rfl
  simp only [Tryz.ntmps44, List.size_toArray, List.length_cons, List.length_nil, Nat.reduceAdd, Nat.reduceSub, Array.replicate_succ, Array.replicate_zero, List.push_toArray, List.append_toArray, List.nil_append, List.cons_append]
  gi_wp2_with fail
  refine ⟨trivial, (callsIn_wide.2 HR.out).mono ?_⟩
  rintro E w' ⟨rfl, rfl⟩
  gi_wp2
  obtain ⟨b6, c6⟩ := HE.out
  refine ⟨.int .i64 1, ?_, rfl, b6⟩
  simp [results, Tryz.results44, go_sem, c6]

end Go.Proofs.YtajlhdmnincehaaGreatDoor

/- The program's node (layer 23): New of no disk. -/
namespace Go.Proofs.YtajlhdmnincehaaGreatDoor
open Go.RowKit
set_option linter.unusedVariables false

/-- New of no disk. -/
theorem nnew_nil (u t : Int) (w : World) (v : Value) (hv : NoDk w v) : Calls Tryz.prog 19 #[.int .i64 u, .int .i64 t, v] w fun E w' => E = .returned (.tuple #[.pointer none, .int .i64 1]) ∧ Below w.heap.size w w' := by
  have WR := hide (writeK v 0 (.slice none 0 0) w hv)
  clear hv
  go_enter Tryz.func19, Tryz.ntmps19
  go_wp2_with fail
  refine WR.out.mono ?_
  rintro E w1 ⟨rfl, b1⟩
  have B := hide b1
  clear WR b1
  go_wp2
  go_ret2
  exact ⟨rfl, B.out⟩

end Go.Proofs.YtajlhdmnincehaaGreatDoor
