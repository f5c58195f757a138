/- The program's roles (layer 20): the table of steps, and the step of a page that is its own. -/
import Derived.Test.YthndeolibilnnaaDoorRoqb
import Derived.Deep.RegionHeld3
namespace Go.Proofs.YthndeolibilnnaaDoor
open Go.RowKit
set_option linter.unusedVariables false

theorem pinph_any (q : Int) (w : World) :
    Calls Tryd.prog 46 #[.int .u8 q] w fun E w' => E = .returned (.func (.func 49) #[] #[.pointer (some ⟨w.heap.size, 0, none⟩)]) ∧ w'.heap.size = w.heap.size + 1 ∧ w'.heap[w.heap.size]? = some (.cells #[.int .u8 q] 23 (0, 0)) ∧ Below w.heap.size w w' := by
  have hmf : ∀ (fn : Fn) (first cap : Array Value) (w : World), (Instr.makeFunc fn first cap).run Tryd.prog w = .ok (.func fn first cap) w := fun _ _ _ _ => rfl
  obtain ⟨w1, hw1, sz1, bel1, hP⟩ := blk_step w #[.int .u8 q] 23
  have R := hide (And.intro sz1 (And.intro hP bel1))
  clear sz1 hP bel1
  go_enter Tryd.func46, Tryd.ntmps46
  go_wp2
  go_ret
  exact ⟨rfl, R.out⟩

/-- The variables that the table's steps hold. -/
structure Tbl (B : Nat) (n b : Int) (w : World) : Prop where
  h0 : w.heap[B]? = some (.cells #[.int .i64 n] 3 (0, 0))
  h1 : w.heap[B + 1]? = some (.cells #[.int .i64 b] 3 (0, 0))
  h3 : w.heap[B + 3]? = some (.cells #[.int .u8 3] 23 (0, 0))
  h4 : w.heap[B + 4]? = some (.cells #[.int .u8 4] 23 (0, 0))

theorem Tbl.below {B : Nat} {n b : Int} {w w' : World} (h : Tbl B n b w) (k : Below w.heap.size w w') : Tbl B n b w' :=
  ⟨(k.block _ (blk_lt h.h0)).trans h.h0, (k.block _ (blk_lt h.h1)).trans h.h1, (k.block _ (blk_lt h.h3)).trans h.h3, (k.block _ (blk_lt h.h4)).trans h.h4⟩

/-- The table of steps. -/
def tblV (B : Nat) : Value := .agg #[.func (.func 43) #[] #[.pointer (some ⟨B, 0, none⟩)], .func (.func 44) #[] #[.pointer (some ⟨B, 0, none⟩)], .func (.func 45) #[] #[.pointer (some ⟨B, 0, none⟩), .pointer (some ⟨B + 1, 0, none⟩)], .func (.func 49) #[] #[.pointer (some ⟨B + 3, 0, none⟩)], .func (.func 49) #[] #[.pointer (some ⟨B + 4, 0, none⟩)], .func (.func 47) #[] #[], .func (.func 48) #[] #[.pointer (some ⟨B, 0, none⟩)]]

theorem put7 {V : World} {R : Nat} {t : TypeId} {u : Value} (hR : V.heap[R]? = some (.cells #[u, u, u, u, u, u, u] t (0, 0))) (a b c d e f g : Value) :
    ∃ V', ((((((V.setCell ⟨R, 0, none⟩ a).setCell ⟨R, 1, none⟩ b).setCell ⟨R, 2, none⟩ c).setCell ⟨R, 3, none⟩ d).setCell ⟨R, 4, none⟩ e).setCell ⟨R, 5, none⟩ f).setCell ⟨R, 6, none⟩ g = V' ∧ V'.heap[R]? = some (.cells #[a, b, c, d, e, f, g] t (0, 0)) ∧ V.grownBy V' (some R) := by
  have h0 : (V.setCell ⟨R, 0, none⟩ a).heap[R]? = some (.cells #[a, u, u, u, u, u, u] t (0, 0)) := set_cells hR 0 a
  have h1 : ((V.setCell ⟨R, 0, none⟩ a).setCell ⟨R, 1, none⟩ b).heap[R]? = some (.cells #[a, b, u, u, u, u, u] t (0, 0)) := set_cells h0 1 b
  have h2 : (((V.setCell ⟨R, 0, none⟩ a).setCell ⟨R, 1, none⟩ b).setCell ⟨R, 2, none⟩ c).heap[R]? = some (.cells #[a, b, c, u, u, u, u] t (0, 0)) := set_cells h1 2 c
  have h3 : ((((V.setCell ⟨R, 0, none⟩ a).setCell ⟨R, 1, none⟩ b).setCell ⟨R, 2, none⟩ c).setCell ⟨R, 3, none⟩ d).heap[R]? = some (.cells #[a, b, c, d, u, u, u] t (0, 0)) := set_cells h2 3 d
  have h4 : (((((V.setCell ⟨R, 0, none⟩ a).setCell ⟨R, 1, none⟩ b).setCell ⟨R, 2, none⟩ c).setCell ⟨R, 3, none⟩ d).setCell ⟨R, 4, none⟩ e).heap[R]? = some (.cells #[a, b, c, d, e, u, u] t (0, 0)) := set_cells h3 4 e
  have h5 : ((((((V.setCell ⟨R, 0, none⟩ a).setCell ⟨R, 1, none⟩ b).setCell ⟨R, 2, none⟩ c).setCell ⟨R, 3, none⟩ d).setCell ⟨R, 4, none⟩ e).setCell ⟨R, 5, none⟩ f).heap[R]? = some (.cells #[a, b, c, d, e, f, u] t (0, 0)) := set_cells h4 5 f
  have h : (((((((V.setCell ⟨R, 0, none⟩ a).setCell ⟨R, 1, none⟩ b).setCell ⟨R, 2, none⟩ c).setCell ⟨R, 3, none⟩ d).setCell ⟨R, 4, none⟩ e).setCell ⟨R, 5, none⟩ f).setCell ⟨R, 6, none⟩ g).heap[R]? = some (.cells #[a, b, c, d, e, f, g] t (0, 0)) := set_cells h5 6 g
  refine ⟨_, rfl, h, ?_⟩
  exact grown_trans (grown_trans (grown_trans (grown_trans (grown_trans (grown_trans (grown_setCell V ⟨R, 0, none⟩ a) (grown_setCell _ ⟨R, 1, none⟩ b)) (grown_setCell _ ⟨R, 2, none⟩ c)) (grown_setCell _ ⟨R, 3, none⟩ d)) (grown_setCell _ ⟨R, 4, none⟩ e)) (grown_setCell _ ⟨R, 5, none⟩ f)) (grown_setCell _ ⟨R, 6, none⟩ g)

set_option maxRecDepth 20000 in
set_option maxHeartbeats 1000000 in
theorem pchg_any (n b : Int) (w : World) :
    Calls Tryd.prog 36 #[.int .i64 n, .int .i64 b] w fun E w' => E = .returned (tblV w.heap.size) ∧ Tbl w.heap.size n b w' ∧ Below w.heap.size w w' := by
  have hmf : ∀ (fn : Fn) (first cap : Array Value) (w : World), (Instr.makeFunc fn first cap).run Tryd.prog w = .ok (.func fn first cap) w := fun _ _ _ _ => rfl
  have hsf : ∀ (a : Addr) (fn : Fn) (first cap : Array Value) (w : World), (store a (.func fn first cap)).run Tryd.prog w = stored Tryd.prog w a (.func fn first cap) .plain := fun a fn first cap w => run_store _ w a _ _ rfl
  obtain ⟨w1, hw1, sz1, bel1, hP1⟩ := blk_step w #[.int .i64 n] 3
  obtain ⟨w2, hw2, s2, bel2, hP2⟩ := blk_step w1 #[.int .i64 b] 3
  obtain ⟨w3, hw3, s3, bel3, hP3⟩ := blk_step w2 #[.nilFunc, .nilFunc, .nilFunc, .nilFunc, .nilFunc, .nilFunc, .nilFunc] 53
  have sz2 : w2.heap.size = w.heap.size + 2 := by omega
  have sz3 : w3.heap.size = w.heap.size + 3 := by omega
  rw [sz1] at hP2
  rw [sz2] at hP3
  have W3 := hide (And.intro ((bel3.block _ (by omega)).trans ((bel2.block _ (by omega)).trans hP1)) (And.intro ((bel3.block _ (by omega)).trans hP2) (And.intro hP3 (bel1.trans ((bel2.mono (by omega)).trans (bel3.mono (by omega)))))))
  have C3 := hide (pinph_any 3 w3)
  clear bel1 bel2 bel3 hP1 hP2 hP3 s2 s3
  go_enter Tryd.func36, Tryd.ntmps36
  go_wp2_with fail
  refine C3.out.mono ?_
  rintro E w4 ⟨rfl, s4, hP4, b4⟩
  have C4 := hide (pinph_any 4 w4)
  have W4 := hide (And.intro hP4 b4)
  have sz4 : w4.heap.size = w.heap.size + 4 := by omega
  clear C3 hP4 b4 s4
  go_wp2_with fail
  refine C4.out.mono ?_
  rintro E w5 ⟨rfl, sz5, hP5, b5⟩
  obtain ⟨p1, p2, p3, bw⟩ := W3.out
  obtain ⟨p4, b4⟩ := W4.out
  rw [sz4] at hP5
  rw [sz3] at p4
  have b35 := b4.trans (b5.mono (by omega))
  have q1 := (b35.block _ (by omega)).trans p1
  have q2 := (b35.block _ (by omega)).trans p2
  have q3 := (b35.block _ (by omega)).trans p3
  have q4 := (b5.block _ (by omega)).trans p4
  obtain ⟨Z, hZ, hZR, gZ⟩ := put7 q3 (.func (.func 43) #[] #[.pointer (some ⟨w.heap.size, 0, none⟩)]) (.func (.func 44) #[] #[.pointer (some ⟨w.heap.size, 0, none⟩)]) (.func (.func 45) #[] #[.pointer (some ⟨w.heap.size, 0, none⟩), .pointer (some ⟨w.heap.size + 1, 0, none⟩)]) (.func (.func 49) #[] #[.pointer (some ⟨w.heap.size + 3, 0, none⟩)]) (.func (.func 49) #[] #[.pointer (some ⟨w.heap.size + 4, 0, none⟩)]) (.func (.func 47) #[] #[]) (.func (.func 48) #[] #[.pointer (some ⟨w.heap.size, 0, none⟩)])

  have R : Hid (Tbl w.heap.size n b Z ∧ Below w.heap.size w Z) := hide ⟨⟨(gZ.block _ (by omega) (by simp)).trans q1, (gZ.block _ (by omega) (by simp)).trans q2, (gZ.block _ (by omega) (by simp)).trans q4, (gZ.block _ (by omega) (by simp)).trans hP5⟩, below_put (bw.trans (b35.mono (by omega))) gZ (by omega) (by omega)⟩
  have a0 : w5.cell? ⟨w.heap.size + 2, 0, none⟩ = some .nilFunc := blk_cell q3 0 rfl
  have f0 := blk_froz q3 0
  have z0 : Z.cell? ⟨w.heap.size + 2, 0, none⟩ = some (.func (.func 43) #[] #[.pointer (some ⟨w.heap.size, 0, none⟩)]) := blk_cell hZR 0 rfl
  have a1 : w5.cell? ⟨w.heap.size + 2, 1, none⟩ = some .nilFunc := blk_cell q3 1 rfl
  have f1 := blk_froz q3 1
  have z1 : Z.cell? ⟨w.heap.size + 2, 1, none⟩ = some (.func (.func 44) #[] #[.pointer (some ⟨w.heap.size, 0, none⟩)]) := blk_cell hZR 1 rfl
  have a2 : w5.cell? ⟨w.heap.size + 2, 2, none⟩ = some .nilFunc := blk_cell q3 2 rfl
  have f2 := blk_froz q3 2
  have z2 : Z.cell? ⟨w.heap.size + 2, 2, none⟩ = some (.func (.func 45) #[] #[.pointer (some ⟨w.heap.size, 0, none⟩), .pointer (some ⟨w.heap.size + 1, 0, none⟩)]) := blk_cell hZR 2 rfl
  have a3 : w5.cell? ⟨w.heap.size + 2, 3, none⟩ = some .nilFunc := blk_cell q3 3 rfl
  have f3 := blk_froz q3 3
  have z3 : Z.cell? ⟨w.heap.size + 2, 3, none⟩ = some (.func (.func 49) #[] #[.pointer (some ⟨w.heap.size + 3, 0, none⟩)]) := blk_cell hZR 3 rfl
  have a4 : w5.cell? ⟨w.heap.size + 2, 4, none⟩ = some .nilFunc := blk_cell q3 4 rfl
  have f4 := blk_froz q3 4
  have z4 : Z.cell? ⟨w.heap.size + 2, 4, none⟩ = some (.func (.func 49) #[] #[.pointer (some ⟨w.heap.size + 4, 0, none⟩)]) := blk_cell hZR 4 rfl
  have a5 : w5.cell? ⟨w.heap.size + 2, 5, none⟩ = some .nilFunc := blk_cell q3 5 rfl
  have f5 := blk_froz q3 5
  have z5 : Z.cell? ⟨w.heap.size + 2, 5, none⟩ = some (.func (.func 47) #[] #[]) := blk_cell hZR 5 rfl
  have a6 : w5.cell? ⟨w.heap.size + 2, 6, none⟩ = some .nilFunc := blk_cell q3 6 rfl
  have f6 := blk_froz q3 6
  have z6 : Z.cell? ⟨w.heap.size + 2, 6, none⟩ = some (.func (.func 48) #[] #[.pointer (some ⟨w.heap.size, 0, none⟩)]) := blk_cell hZR 6 rfl
  rw [sz4]
  clear p1 p2 p3 p4 q1 q2 q3 q4 b35 b4 b5 bw hP5 hZR gZ C4 W3 W4 sz5
  go_wp2
  refine bodyPost_ret (v := tblV w.heap.size) (by simp [results, Tryd.results36, go_sem, tblV, z0, z1, z2, z3, z4, z5, z6]) rfl ?_
  exact ⟨rfl, R.out⟩

theorem Tryd.idxT0 (f0 f1 f2 f3 f4 f5 f6 : Value) (w : World) : (Instr.index 53 (.agg #[f0, f1, f2, f3, f4, f5, f6]) (.int .i64 0)).run Tryd.prog w = .ok f0 w := by kernel_rfl
theorem Tryd.idxT1 (f0 f1 f2 f3 f4 f5 f6 : Value) (w : World) : (Instr.index 53 (.agg #[f0, f1, f2, f3, f4, f5, f6]) (.int .i64 1)).run Tryd.prog w = .ok f1 w := by kernel_rfl
theorem Tryd.idxT2 (f0 f1 f2 f3 f4 f5 f6 : Value) (w : World) : (Instr.index 53 (.agg #[f0, f1, f2, f3, f4, f5, f6]) (.int .i64 2)).run Tryd.prog w = .ok f2 w := by kernel_rfl
theorem Tryd.idxT3 (f0 f1 f2 f3 f4 f5 f6 : Value) (w : World) : (Instr.index 53 (.agg #[f0, f1, f2, f3, f4, f5, f6]) (.int .i64 3)).run Tryd.prog w = .ok f3 w := by kernel_rfl
theorem Tryd.idxT4 (f0 f1 f2 f3 f4 f5 f6 : Value) (w : World) : (Instr.index 53 (.agg #[f0, f1, f2, f3, f4, f5, f6]) (.int .i64 4)).run Tryd.prog w = .ok f4 w := by kernel_rfl
theorem Tryd.idxT5 (f0 f1 f2 f3 f4 f5 f6 : Value) (w : World) : (Instr.index 53 (.agg #[f0, f1, f2, f3, f4, f5, f6]) (.int .i64 5)).run Tryd.prog w = .ok f5 w := by kernel_rfl
theorem Tryd.idxT6 (f0 f1 f2 f3 f4 f5 f6 : Value) (w : World) : (Instr.index 53 (.agg #[f0, f1, f2, f3, f4, f5, f6]) (.int .i64 6)).run Tryd.prog w = .ok f6 w := by kernel_rfl

end Go.Proofs.YthndeolibilnnaaDoor
