/- The walk of TableNames. -/
import Derived.Test.YtlfhpbiapnjghaaTx
namespace Go.Proofs.Ytlfhpbiapnjghaa
open Go.RowKit
open Bm (Ov)
set_option linter.unusedVariables false

def oC : Ov := ⟨true, ⟨#[99]⟩, ⟨#[51]⟩⟩
def oE : Ov := ⟨true, ⟨#[]⟩, ⟨#[]⟩⟩

theorem nm_aft : Tm.aft [oD, oB] [oC, oE] = [oD, oB] := by rfl
theorem nm_first : Bm.first [oC, oE] = 2 := by rfl
theorem nm_fit : FitO [oC, oE] := fun o ho => by
  simp at ho
  rcases ho with rfl | rfl <;> exact ⟨by decide, by decide⟩
theorem nm_c : gv [oD, oB] ⟨#[99]⟩ = ⟨#[]⟩ ∧ Tm.met [oD, oB] ⟨#[99]⟩ = false ∧ gp [oD, oB] ⟨#[99]⟩ = false := ⟨rfl, rfl, rfl⟩
theorem nm_live : Tm.live [oD, oB] = [oB] := rfl
theorem ne_nil2 (a b : Ov) : [a, b] ≠ [] := by simp

set_option maxHeartbeats 4000000 in
theorem tableNames_walk (w : World) : Calls Try.prog 3 #[] w fun E w' => E = .returned (.bool true) ∧ Below w.heap.size w w' := by
  go_enter Try.func3, Try.ntmps3
  go_wp2_with fail
  refine (lives_any w).mono ?_
  rintro E w0 ⟨rfl, b0⟩
  go_wp2_with fail
  refine (example_any w0).mono ?_
  rintro E w1 ⟨p, b, rfl, T1, b1⟩
  have hb0 := b0.size
  have B1 : Below w.heap.size w w1 := b0.trans (b1.mono hb0)
  have T1' := T1.mono hb0
  clear T1 b1
  obtain ⟨w2, hw2, sz2, b2, own2⟩ := ops_step 28 w1 #[.bool true, .string ⟨#[99]⟩, .string ⟨#[51]⟩, .bool true, .string ⟨#[]⟩, .string ⟨#[]⟩] 2 [oC, oE] rfl rfl (by decide)
  have X1 := hide (tapply_any p b w2 [oD, oB] _ [oC, oE] (T1'.below b2).tb own2.is nm_fit (by simp))
  rw [nm_aft, nm_first] at X1
  have B2 : Below w.heap.size w w2 := B1.trans (b2.mono B1.size)
  clear own2 b2
  go_wp2_with fail
  refine X1.out.mono ?_
  rintro E w3 ⟨rfl, T3', O3⟩
  have B3 : Below w.heap.size w w3 := B2.trans (O3.below (fun g hg => by have := T1'.lb; omega) B2.size)
  have T3 : Ht w.heap.size p b w3 [oD, oB] := ⟨T3', T1'.lp, T1'.lb⟩
  have X2 := hide (tget_any p b w3 _ ⟨#[99]⟩ T3' (by decide))
  rw [nm_c.1, nm_c.2.1, nm_c.2.2] at X2
  clear T3' O3 X1
  go_wp2_with fail
  refine X2.out.mono ?_
  rintro E w4 ⟨rfl, b4⟩
  have T4 := T3.below b4
  have B4 : Below w.heap.size w w4 := B3.trans (b4.mono B3.size)
  have X3 := hide (tlen_any p b w4 _ T4.tb)
  clear X2 b4
  go_wp2_with fail
  refine X3.out.mono ?_
  rintro E w5 ⟨rfl, rfl⟩
  have X4 := hide (llive_any (.pointer (some ⟨p, 0, none⟩)) w4 [oD, oB] (by decide) (tops_of T4.tb ex_fit2 (by decide)))
  rw [nm_live] at X4
  clear X3
  go_wp2_with fail
  refine X4.out.mono ?_
  rintro E w5 ⟨v, rfl, own5, b5⟩
  obtain ⟨w6, hw6, sz6, b6, own6⟩ := ops_step 28 w5 #[.bool true, .string ⟨#[98]⟩, .string ⟨#[50]⟩] 1 [oB] rfl rfl (by decide)
  have X5 := hide (sameO_any v _ _ _ w6 (own5.below b6).is own6.is (by decide) (by decide))
  have b46 : Below w4.heap.size w4 w6 := b5.trans (b6.mono b5.size)
  have T6 := T4.below b46
  have B6 : Below w.heap.size w w6 := B4.trans (b46.mono B4.size)
  rw [show Bm.sameL [oB] [oB] = true from rfl] at X5
  obtain ⟨ao, cap, hv, _, _⟩ := own5.is.shape
  subst hv
  clear X4 own5 own6 b5 b6 b46
  go_wp2_with fail
  refine X5.out.mono ?_
  rintro E w7 ⟨rfl, b7⟩
  have T7 := T6.below b7
  have B7 : Below w.heap.size w w7 := B6.trans (b7.mono B6.size)
  clear X5 b7
  go_wp2_with fail
  refine (example_any w7).mono ?_
  rintro E w8 ⟨p2, q2, rfl, U8, b8⟩
  have T8 := T7.below b8
  have B8 : Below w.heap.size w w8 := B7.trans (b8.mono B7.size)
  have X6 := hide (tsame_any p b p2 q2 w8 _ _ T8.tb U8.tb)
  rw [smt_self T8.tb.up] at X6
  clear b8 U8
  go_wp2_with fail
  refine X6.out.mono ?_
  rintro E w9 ⟨rfl, b9⟩
  have T9 := T8.below b9
  have B9 : Below w.heap.size w w9 := B8.trans (b9.mono B8.size)
  clear b9 X6
  go_wp2_with fail
  refine (tnew_any w9).mono ?_
  rintro E wa ⟨rfl, Ua, ba⟩
  have Ta := T9.below ba
  have Ba : Below w.heap.size w wa := B9.trans (ba.mono B9.size)
  have X7 := hide (tsame_any p b _ _ wa _ _ Ta.tb Ua)
  rw [smt_no Ta.tb.up Ua.up (ne_nil2 _ _)] at X7
  clear ba Ua
  go_wp2_with fail
  refine X7.out.mono ?_
  rintro E wb ⟨rfl, bb⟩
  have Tb' := Ta.below bb
  have Bb : Below w.heap.size w wb := Ba.trans (bb.mono Ba.size)
  clear bb X7
  go_wp2_with fail
  refine (tsame_no2 p b _ wb _ Tb'.tb (fun m => made_nil _)).mono ?_
  rintro E wc ⟨rfl, bc⟩
  have Bc : Below w.heap.size w wc := Bb.trans (bc.mono Bb.size)
  clear bc
  go_wp2
  go_ret
  exact ⟨rfl, Bc⟩

end Go.Proofs.Ytlfhpbiapnjghaa
