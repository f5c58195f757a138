/- The statement's own: the chapter's table (example), the chapter's first examples (lives). -/
import Derived.Test.YtlfhpbiapnjghaaTg
import Derived.Test.YtlfhpbiapnjghaaTs
import Derived.Test.YtlfhpbiapnjghaaBe
namespace Go.Proofs.Ytlfhpbiapnjghaa
open Go.RowKit
open Bm (Ov)
set_option linter.unusedVariables false

/-- A table whose blocks lie from base on. -/
structure Ht (base p b : Nat) (w : World) (t : List Ov) : Prop where
  tb : Tb p b w t
  lp : base ≤ p
  lb : base ≤ b

theorem Ht.below {base p b : Nat} {w w' : World} {t : List Ov} (h : Ht base p b w t) (hb : Below w.heap.size w w') : Ht base p b w' t := ⟨h.tb.below hb, h.lp, h.lb⟩
theorem Ht.mono {base base' p b : Nat} {w : World} {t : List Ov} (h : Ht base p b w t) (hb : base' ≤ base) : Ht base' p b w t := ⟨h.tb, Nat.le_trans hb h.lp, Nat.le_trans hb h.lb⟩

/-- What the law's 'all' and 'live' are of a table that New made. -/
theorem tops_of {p b : Nat} {w : World} {t : List Ov} (h : Tb p b w t) (hf : FitO t) (hn : t.length ≤ 1000000) : ∀ w1, Below w.heap.size w w1 → Calls Try.prog 37 #[.pointer (some ⟨p, 0, none⟩)] w1 fun E w' => ∃ v, E = .returned v ∧ OwnO 28 w1.heap.size w' v t ∧ Below w1.heap.size w1 w' := fun w1 hb => tops_any p b w1 t (h.below hb) hf hn

def oA : Ov := ⟨true, ⟨#[97]⟩, ⟨#[49]⟩⟩
def oB : Ov := ⟨true, ⟨#[98]⟩, ⟨#[50]⟩⟩
def oD : Ov := ⟨false, ⟨#[97]⟩, ⟨#[]⟩⟩

theorem ex_aft : Tm.aft [] [oA, oB, oD] = [oD, oB] := by rfl
theorem ex_first : Bm.first [oA, oB, oD] = 0 := by rfl
theorem ex_fit : FitO [oA, oB, oD] := fun o ho => by
  simp at ho
  rcases ho with rfl | rfl | rfl <;> exact ⟨by decide, by decide⟩
theorem ex_fit2 : FitO [oD, oB] := fun o ho => by
  simp at ho
  rcases ho with rfl | rfl <;> exact ⟨by decide, by decide⟩
theorem ex_a : gv [oD, oB] ⟨#[97]⟩ = ⟨#[]⟩ ∧ Tm.met [oD, oB] ⟨#[97]⟩ = true ∧ gp [oD, oB] ⟨#[97]⟩ = false := ⟨rfl, rfl, rfl⟩
theorem ex_b : gv [oD, oB] ⟨#[98]⟩ = ⟨#[50]⟩ ∧ Tm.met [oD, oB] ⟨#[98]⟩ = true ∧ gp [oD, oB] ⟨#[98]⟩ = true := ⟨rfl, rfl, rfl⟩

set_option maxHeartbeats 1000000 in
theorem example_any (w : World) : Calls Try.prog 9 #[] w fun E w' => ∃ p b, E = .returned (.pointer (some ⟨p, 0, none⟩)) ∧ Ht w.heap.size p b w' [oD, oB] ∧ Below w.heap.size w w' := by
  go_enter Try.func9, Try.ntmps9
  go_wp2_with fail
  refine (tnew_any w).mono ?_
  rintro E w1 ⟨rfl, T1, b1⟩
  obtain ⟨p, hp⟩ : ∃ p, w.heap.size + 1 = p := ⟨_, rfl⟩
  rw [hp] at T1 ⊢
  obtain ⟨w2, hw2, sz2, b2, own2⟩ := ops_step 28 w1 #[.bool true, .string ⟨#[97]⟩, .string ⟨#[49]⟩, .bool true, .string ⟨#[98]⟩, .string ⟨#[50]⟩, .bool false, .string ⟨#[97]⟩, .string ⟨#[]⟩] 3 [oA, oB, oD] rfl rfl (by decide)
  have X := hide (tapply_any p w.heap.size w2 [] _ [oA, oB, oD] (T1.below b2) own2.is ex_fit (by simp))
  have Hb := hide (b1.trans (b2.mono b1.size))
  rw [ex_aft, ex_first] at X
  clear T1 b1 b2 own2
  go_wp2_with fail
  refine X.out.mono ?_
  rintro E w3 ⟨rfl, T3, O3⟩
  have HE : Hid (Ht w.heap.size p w.heap.size w3 [oD, oB] ∧ Below w.heap.size w w3) := hide ⟨⟨T3, by omega, Nat.le_refl _⟩, Hb.out.trans (O3.below (fun g hg => by omega) Hb.out.size)⟩
  clear T3 O3
  go_wp2
  go_ret
  exact ⟨_, _, rfl, HE.out⟩

set_option maxHeartbeats 2000000 in
theorem lives_any (w : World) : Calls Try.prog 8 #[] w fun E w' => E = .returned (.bool true) ∧ Below w.heap.size w w' := by
  go_enter Try.func8, Try.ntmps8
  go_wp2_with fail
  refine (example_any w).mono ?_
  rintro E w1 ⟨p, b, rfl, T1, b1⟩
  have X1 := hide (tget_any p b w1 _ ⟨#[97]⟩ T1.tb (by decide))
  rw [ex_a.1, ex_a.2.1, ex_a.2.2] at X1
  go_wp2_with fail
  refine X1.out.mono ?_
  rintro E w2 ⟨rfl, b2⟩
  have T2 := T1.below b2
  have X2 := hide (tget_any p b w2 _ ⟨#[98]⟩ T2.tb (by decide))
  rw [ex_b.1, ex_b.2.1, ex_b.2.2] at X2
  clear X1
  go_wp2_with fail
  refine X2.out.mono ?_
  rintro E w3 ⟨rfl, b3⟩
  have T3 := T2.below b3
  have X3 := hide (tlen_any p b w3 _ T3.tb)
  clear X2
  go_wp2_with fail
  refine X3.out.mono ?_
  rintro E w4 ⟨rfl, rfl⟩
  have X4 := hide (lall_any (.pointer (some ⟨p, 0, none⟩)) w3 [oD, oB] 9 (by decide) (tops_of T3.tb ex_fit2 (by decide)))
  clear X3
  go_wp2_with fail
  refine X4.out.mono ?_
  rintro E w5 ⟨v, rfl, own5, b5⟩
  obtain ⟨w6, hw6, sz6, b6, own6⟩ := ops_step 28 w5 #[.bool false, .string ⟨#[97]⟩, .string ⟨#[]⟩, .bool true, .string ⟨#[98]⟩, .string ⟨#[50]⟩] 2 [oD, oB] rfl rfl (by decide)
  have X5 := hide (sameO_any v _ _ _ w6 (own5.below b6).is own6.is (by decide) (by decide))
  have HB := hide ((b1.trans (b2.mono b1.size)).trans (b3.mono (Nat.le_trans b1.size b2.size)))
  have HB2 := hide (HB.out.trans ((b5.mono HB.out.size).trans (b6.mono (Nat.le_trans HB.out.size b5.size))))
  rw [show Bm.sameL ([oD, oB].take 9) [oD, oB] = true from rfl] at X5
  obtain ⟨ao, cap, hv, _, _⟩ := own5.is.shape
  subst hv
  clear X4 own5 own6 b5 b6 b1 b2 b3 T1 T2 T3
  go_wp2_with fail
  refine X5.out.mono ?_
  rintro E w7 ⟨rfl, b7⟩
  have HB3 := hide (HB2.out.trans (b7.mono HB2.out.size))
  clear X5 b7
  go_wp2
  go_ret
  exact ⟨rfl, HB3.out⟩

end Go.Proofs.Ytlfhpbiapnjghaa
