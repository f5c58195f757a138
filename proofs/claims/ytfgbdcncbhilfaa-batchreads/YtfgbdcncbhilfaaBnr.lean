/- The contract of the document's Read of a batch. -/
import Derived.Test.YtfgbdcncbhilfaaBn
namespace Go.Proofs.Ytfgbdcncbhilfaa
open Go.RowKit
set_option linter.unusedVariables false

set_option maxHeartbeats 1000000 in
theorem breadR_any (vb : Value) (bs : List Int) (w : World) (hb : Is .u8 w vb bs) (hl : bs.length ≤ 140737488355328) :
    Calls Try.prog 23 #[vb] w fun E w' => ∃ (vl : Value) (l : List Bm.Ov) (n e : Int), E = .returned (.tuple #[vl, .int .i64 n, .int .i64 e]) ∧ OwnO 47 w.heap.size w' vl l ∧ Bm.BRes bs l n e ∧ Below w.heap.size w w' := by
  obtain ⟨ao, cap, rfl, _, _⟩ := hb.shape
  obtain ⟨W1, hW1, sz1, bel1, blk1⟩ := blk_step w #[.slice ao bs.length cap, .int .i64 0, .bool false] 61
  have r1 : Rdr w W1 w.heap.size (.slice ao bs.length cap) bs 0 false := ⟨hb, by omega, bel1, blk1, by omega⟩
  clear blk1
  go_enter Try.func23, Try.ntmps23
  go_wp2_with fail
  refine (bnextR_any w W1 w.heap.size _ bs 0 false r1 hl).mono ?_
  rintro E w2 ⟨vl, l, a', bad', rfl, own2, r2, gr2, hN⟩
  have bel2 : Below w.heap.size w w2 := r2.2.2.1
  have own2' := own2.rebase (base' := w.heap.size) (by omega)
  have c1 := r2.cell1
  have c2 := r2.cell2
  have hN' : (bad' = false ∧ Bm.BRes bs l a' 0) ∨ (bad' = true ∧ l = [] ∧ Bm.BRes bs [] 0 5) := by
    rcases hN with ⟨h, _⟩ | ⟨_, h⟩
    · simp at h
    · simpa using h
  clear hN r1 r2 gr2 own2 hW1
  rcases hN' with ⟨rfl, hR⟩ | ⟨rfl, rfl, hR⟩
  · have HR := hide hR
    clear hR
    go_wp2_with fail
    go_quiet (fail)
    go_wp2
    refine bodyPost_ret (v := .tuple #[vl, .int .i64 (a' : Int), .int .i64 0]) (by simp [results, Try.results23, go_sem]) rfl ?_
    exact ⟨_, l, _, _, rfl, own2'.below (below_drewN (Below.refl _ _) nq), HR.out, below_drewN bel2 nq⟩
  · have HR := hide hR
    clear hR
    go_wp2
    refine bodyPost_ret (v := .tuple #[.slice none 0 0, .int .i64 0, .int .i64 5]) (by simp [results, Try.results23, go_sem]) rfl ?_
    exact ⟨_, [], _, _, rfl, OwnO.nil _ _ _, HR.out, bel2⟩

end Go.Proofs.Ytfgbdcncbhilfaa
