/- The walk of DiskNil. -/
import Derived.Test.YteklbnonikccaaaNl
namespace Go.Proofs.Yteklbnonikccaaa
open Go.RowKit
set_option linter.unusedVariables false

set_option maxRecDepth 100000 in
set_option maxHeartbeats 8000000 in
theorem diskNil_walk (a : Aw) (w : World) (h : ActOk w a) :
    Calls Try.prog 5 #[.agg #[.int .i64 a.k, .int .i64 a.f, .int .i64 a.n, .int .i64 a.t, a.v]] w fun E w' => E = .returned (.bool true) ∧ Below w.heap.size w w' := by
  obtain ⟨x, xc, hav, _, _⟩ := h.1.shape
  have hk64 := h.2.1
  obtain ⟨w1, hw1, sz1, bel1, B1⟩ := blk_step w #[.int .i64 a.k, .int .i64 a.f, .int .i64 a.n, .int .i64 a.t, a.v] 43
  obtain ⟨w2, hw2, sz2, bel2, B2⟩ := blk_step w1 #[.bool false, .bool false, .int .i64 0, .slice none 0 0, .slice none 0 0, .slice none 0 0, .slice none 0 0, .slice none 0 0, .int .i64 0] 55
  obtain ⟨w3, hw3, sz3, bel3, B3⟩ := blk_step w2 #[.pointer none, .pointer (some ⟨w.heap.size + 1, 0, none⟩)] 23
  rw [sz1] at B2 bel2
  rw [show w2.heap.size = w.heap.size + 2 by omega] at B3 bel3
  replace sz2 : w2.heap.size = w.heap.size + 2 := by omega
  replace sz3 : w3.heap.size = w.heap.size + 3 := by omega
  have bel03 : Below w.heap.size w w3 := (bel1.trans (bel2.mono (by omega))).trans (bel3.mono (by omega))
  have D1 : w3.heap[w.heap.size]? = some (.cells #[.int .i64 a.k, .int .i64 a.f, .int .i64 a.n, .int .i64 a.t, a.v] 43 (0, 0)) := (bel3.block _ (by omega)).trans ((bel2.block _ (by omega)).trans B1)
  have D2 := (bel3.block (w.heap.size + 1) (by omega)).trans B2
  have N1 : Hid (NoD w3 (.pointer (some ⟨w.heap.size + 1, 0, none⟩))) := hide (.inr ⟨_, rfl, blk_cell D2 0 rfl⟩)
  have HD1 := hide D1
  have HD3 := hide B3
  have HAV := hide hav
  rw [hav] at hw1 ⊢
  clear h D1 D2 B1 B2 B3 hav
  go_enter Try.func5, Try.ntmps5
  go_wp2
  go_loopw [4, 5, 6, 7] (fun iv _ _ _ wr => ∃ k : Nat, k ≤ 2 ∧ iv = .int .i64 k ∧ Below w3.heap.size w3 wr) (fun iv _ _ _ _ => 2 - (intOf iv).toNat)
  case atStart => exact ⟨0, by omega, rfl, Below.refl _ _⟩
  case round =>
    obtain ⟨k, hk, rfl, bel⟩ := hrel
    rw [sz3] at bel
    have sz := bel.size
    have b3 := (bel.block (w.heap.size + 2) (by omega)).trans HD3.out
    have b1 := (bel.block w.heap.size (by omega)).trans HD1.out
    have x0 : wr.cell? ⟨w.heap.size + 2, 0, none⟩ = some (.pointer none) := blk_cell b3 0 rfl
    have x1 : wr.cell? ⟨w.heap.size + 2, 1, none⟩ = some (.pointer (some ⟨w.heap.size + 1, 0, none⟩)) := blk_cell b3 1 rfl
    have y0 : wr.cell? ⟨w.heap.size, 0, none⟩ = some (.int .i64 a.k) := blk_cell b1 0 rfl
    have y1 : wr.cell? ⟨w.heap.size, 1, none⟩ = some (.int .i64 a.f) := blk_cell b1 1 rfl
    have y2 : wr.cell? ⟨w.heap.size, 2, none⟩ = some (.int .i64 a.n) := blk_cell b1 2 rfl
    have y3 : wr.cell? ⟨w.heap.size, 3, none⟩ = some (.int .i64 a.t) := blk_cell b1 3 rfl
    have y4 : wr.cell? ⟨w.heap.size, 4, none⟩ = some a.v := blk_cell b1 4 rfl
    rw [HAV.out] at y4
    have Hb1 := hide b1
    clear b1 b3
    have NK : ∀ v, NoD wr v → Hid (Calls Try.prog 23 #[v, .agg #[.int .i64 a.k, .int .i64 a.f, .int .i64 a.n, .int .i64 a.t, .slice x a.bs.length xc], .slice x a.bs.length xc] wr fun E w' => E = .returned (.int .i64 1) ∧ Below wr.heap.size wr w') := fun v hv => hide (by
      have := doneN v a (.slice x a.bs.length xc) wr hv hk64 ⟨_, _, _, HAV.out⟩
      rw [HAV.out] at this
      exact this)
    rcases (show k = 0 ∨ k = 1 ∨ k = 2 by omega) with rfl | rfl | rfl
    · have N : Hid (NoD wr (.pointer none)) := hide (.inl rfl)
      have DN := NK _ N.out
      clear NK
      go_wp2_with fail
      refine (readN _ a.f wr N.out).mono ?_
      rintro E w' ⟨rfl, rfl⟩
      go_wp2_with fail
      refine DN.out.mono ?_
      rintro E wn ⟨rfl, bn⟩
      have z1 : wn.cell? ⟨w.heap.size, 1, none⟩ = some (.int .i64 a.f) := (bn.cell (p := ⟨w.heap.size, 1, none⟩) (by show w.heap.size < wr.heap.size; omega)).trans y1
      have N2 := hide (N.out.below bn)
      have cn : Below w3.heap.size w3 wn := by rw [sz3]; exact bel.trans (bn.mono (by omega))
      clear y0 y1 y2 y3 y4 x0 x1
      go_wp2_with (first
        | (go_at_call 15; refine (onN _ wn N2.out).mono ?_; rintro E w' ⟨rfl, rfl⟩)
        | (go_at_call 18; refine (pendN _ wn N2.out).mono ?_; rintro E w' ⟨rfl, rfl⟩)
        | (go_at_call 16; refine (stepsN _ wn N2.out).mono ?_; rintro E w' ⟨rfl, rfl⟩)
        | (go_at_call 28; refine (durN _ a.f wn N2.out).mono ?_; rintro E w' ⟨rfl, rfl⟩))
      go_roundw
      case rel => exact ⟨1, by omega, by go_num, cn⟩
      case measure => simp [intOf]
    · have N : Hid (NoD wr (.pointer (some ⟨w.heap.size + 1, 0, none⟩))) := hide (N1.out.below (by rw [sz3]; exact bel))
      have DN := NK _ N.out
      clear NK
      go_wp2_with fail
      refine (readN _ a.f wr N.out).mono ?_
      rintro E w' ⟨rfl, rfl⟩
      go_wp2_with fail
      refine DN.out.mono ?_
      rintro E wn ⟨rfl, bn⟩
      have z1 : wn.cell? ⟨w.heap.size, 1, none⟩ = some (.int .i64 a.f) := (bn.cell (p := ⟨w.heap.size, 1, none⟩) (by show w.heap.size < wr.heap.size; omega)).trans y1
      have N2 := hide (N.out.below bn)
      have cn : Below w3.heap.size w3 wn := by rw [sz3]; exact bel.trans (bn.mono (by omega))
      clear y0 y1 y2 y3 y4 x0 x1
      go_wp2_with (first
        | (go_at_call 15; refine (onN _ wn N2.out).mono ?_; rintro E w' ⟨rfl, rfl⟩)
        | (go_at_call 18; refine (pendN _ wn N2.out).mono ?_; rintro E w' ⟨rfl, rfl⟩)
        | (go_at_call 16; refine (stepsN _ wn N2.out).mono ?_; rintro E w' ⟨rfl, rfl⟩)
        | (go_at_call 28; refine (durN _ a.f wn N2.out).mono ?_; rintro E w' ⟨rfl, rfl⟩))
      go_roundw
      case rel => exact ⟨2, by omega, by go_num, cn⟩
      case measure => simp [intOf]
    · clear NK y0 y1 y2 y3 y4 x0 x1
      have cr : Below w.heap.size w wr := bel03.trans (bel.mono (by omega))
      go_wp2_with fail
      refine (lives_any wr).mono ?_
      rintro E wn ⟨rfl, bn⟩
      have cn : Below w.heap.size w wn := cr.trans (bn.mono cr.size)
      go_wp2
      go_ret
      exact ⟨rfl, cn⟩

end Go.Proofs.Yteklbnonikccaaa
