/- The contracts of Encode: the program's, the document's; of the copy that slices.Clone makes of ops, and of Copy. -/
import Derived.Test.YtlfgffldoiedlaaCa
namespace Go.Proofs.Ytlfgffldoiedlaa
open Go.RowKit
set_option linter.unusedVariables false

set_option maxHeartbeats 400000 in
theorem cenc_any (e n : Int) (v : Value) (l : List Bm.Ov) (w : World) (h : IsO w v l) (hf : FitO l) (hl : l.length ≤ 140737488355328) :
    Calls Try.prog 15 #[cmv e n v] w fun E w' => ∃ vb, E = .returned (.tuple #[vb, .int .i64 (Cm.chk e n l)]) ∧ Own .u8 5 w.heap.size w' vb (Cm.out e n l) ∧ Below w.heap.size w w' := by
  unfold cmv
  obtain ⟨ch, hch⟩ : ∃ c, Cm.chk e n l = c := ⟨_, rfl⟩
  obtain ⟨ou, hou⟩ : ∃ c, Cm.out e n l = c := ⟨_, rfl⟩
  rw [hch, hou]
  have HC := hide hch
  have HO := hide hou
  clear hch hou
  obtain ⟨w1, hw1, sz1, bel1, hB⟩ := blk_step w #[.int .i64 e, .int .i64 n, v] 24
  have c0 := blk_cell hB 0 rfl
  have c1 := blk_cell hB 1 rfl
  have c2 := blk_cell hB 2 rfl
  have h1 := h.below bel1
  obtain ⟨ao, cap, rfl, _, _⟩ := h.shape
  have BB := hide hB
  clear hB
  go_enter Try.func15, Try.ntmps15
  go_wp2_with fail
  refine (ccheck_any e n _ l _ h1 hf hl).mono ?_
  rintro E w2 ⟨rfl, bel2⟩
  rw [HC.out]
  have sz2 := bel2.size
  have hB2 := (bel2.block _ (by omega)).trans BB.out
  have d0 := blk_cell hB2 0 rfl
  have d1 := blk_cell hB2 1 rfl
  have d2 := blk_cell hB2 2 rfl
  have h2 := h1.below bel2
  have bel02 := bel1.trans (bel2.mono (by omega))
  have B2 := hide hB2
  clear BB c0 c1 c2 hB2 bel1 bel2 h1
  by_cases hc : ch = 0
  · subst hc
    have hc := HC.out
    obtain ⟨g1, g2, g3, g4, g5⟩ := Cm.chk_zero hc
    have hO := HO.out
    rw [Cm.out_ok hc, Cm.encC] at hO
    replace HO := hide hO
    clear hO
    have hs1 := Cm.enc_small g2
    have hs2 := Cm.enc_small g4
    clear hc
    go_wp2_with fail
    refine (app_any _ [] e _ (Is.nil _ _) (by simp) (by omega) (by omega)).mono ?_
    rintro E w3 ⟨vb, rfl, own3, bel3⟩
    have sz3 := bel3.size
    have hB3 := (bel3.block _ (by omega)).trans B2.out
    have f1 := blk_cell hB3 1 rfl
    have h3 := h2.below bel3
    have bel03 := bel02.trans (bel3.mono (by omega))
    have B3 := hide hB3
    rw [List.nil_append] at own3
    clear B2 d0 d1 d2 hB3 bel3 h2 bel02
    go_wp2_with fail
    refine (app_any _ _ n _ own3.is (by omega) (by omega) (by omega)).mono ?_
    rintro E w4 ⟨vc, rfl, own4, bel4⟩
    have sz4 := bel4.size
    have hB4 := (bel4.block _ (by omega)).trans B3.out
    have q2 := blk_cell hB4 2 rfl
    have h4 := h3.below bel4
    have bel04 := bel03.trans (bel4.mono (by omega))
    clear B3 f1 hB4 bel4 h3 bel03 own3
    go_wp2_with fail
    refine (bapp_any _ _ _ l _ own4.is (by rw [List.length_append]; omega) h4 hf hl).mono ?_
    rintro E w5 ⟨vd, rfl, own5, bel5⟩
    rw [g5]
    rw [Bm.appB_ok g5, List.append_assoc, HO.out] at own5
    have own5' := own5.rebase (base' := w.heap.size) (by omega)
    have bel05 := bel04.trans (bel5.mono (by omega))
    clear own5 own4 h4 bel04 bel5
    go_wp2
    refine bodyPost_ret (v := .tuple #[vd, .int .i64 0]) (by simp [results, Try.results15, go_sem]) rfl ?_
    exact ⟨_, rfl, own5', bel05⟩
  · have hne : (ch == 0) = false := by simpa using hc
    have hO := HO.out
    rw [Cm.out_no (by rw [HC.out]; exact hc)] at hO
    subst hO
    clear hc
    go_wp2
    refine bodyPost_ret (v := .tuple #[.slice none 0 0, .int .i64 ch]) (by simp [results, Try.results15, go_sem]) rfl ?_
    exact ⟨_, rfl, Own.nil _ _ _ _, bel02⟩

set_option maxHeartbeats 400000 in
theorem cencR_any (e n : Int) (v : Value) (l : List Bm.Ov) (w : World) (h : IsO w v l) (hf : FitO l) (hl : l.length ≤ 140737488355328) :
    Calls Try.prog 16 #[cmv e n v] w fun E w' => ∃ vb, E = .returned (.tuple #[vb, .int .i64 (Cm.chk e n l)]) ∧ Own .u8 5 w.heap.size w' vb (Cm.out e n l) ∧ Below w.heap.size w w' := by
  unfold cmv
  obtain ⟨ch, hch⟩ : ∃ c, Cm.chk e n l = c := ⟨_, rfl⟩
  obtain ⟨ou, hou⟩ : ∃ c, Cm.out e n l = c := ⟨_, rfl⟩
  rw [hch, hou]
  have HC := hide hch
  have HO := hide hou
  clear hch hou
  obtain ⟨w1, hw1, sz1, bel1, hB⟩ := blk_step w #[.int .i64 e, .int .i64 n, v] 24
  have c0 := blk_cell hB 0 rfl
  have c1 := blk_cell hB 1 rfl
  have c2 := blk_cell hB 2 rfl
  have h1 := h.below bel1
  obtain ⟨ao, cap, rfl, _, _⟩ := h.shape
  have BB := hide hB
  clear hB
  go_enter Try.func16, Try.ntmps16
  go_wp2_with fail
  refine (ccheckR_any e n _ l _ h1 hf hl).mono ?_
  rintro E w2 ⟨rfl, bel2⟩
  rw [HC.out]
  have sz2 := bel2.size
  have hB2 := (bel2.block _ (by omega)).trans BB.out
  have d0 := blk_cell hB2 0 rfl
  have d1 := blk_cell hB2 1 rfl
  have d2 := blk_cell hB2 2 rfl
  have h2 := h1.below bel2
  have bel02 := bel1.trans (bel2.mono (by omega))
  have B2 := hide hB2
  clear BB c0 c1 c2 hB2 bel1 bel2 h1
  by_cases hc : ch = 0
  · subst hc
    have hc := HC.out
    obtain ⟨g1, g2, g3, g4, g5⟩ := Cm.chk_zero hc
    have hO := HO.out
    rw [Cm.out_ok hc, Cm.encC] at hO
    replace HO := hide hO
    clear hO
    have hs1 := Cm.enc_small g2
    have hs2 := Cm.enc_small g4
    clear hc
    go_wp2_with fail
    refine (putR_any _ [] e _ (Is.nil _ _) (by simp) (by omega) (by omega)).mono ?_
    rintro E w3 ⟨vb, rfl, own3, bel3⟩
    have sz3 := bel3.size
    have hB3 := (bel3.block _ (by omega)).trans B2.out
    have f1 := blk_cell hB3 1 rfl
    have h3 := h2.below bel3
    have bel03 := bel02.trans (bel3.mono (by omega))
    have B3 := hide hB3
    rw [List.nil_append] at own3
    clear B2 d0 d1 d2 hB3 bel3 h2 bel02
    go_wp2_with fail
    refine (putR_any _ _ n _ own3.is (by omega) (by omega) (by omega)).mono ?_
    rintro E w4 ⟨vc, rfl, own4, bel4⟩
    have sz4 := bel4.size
    have hB4 := (bel4.block _ (by omega)).trans B3.out
    have q2 := blk_cell hB4 2 rfl
    have h4 := h3.below bel4
    have bel04 := bel03.trans (bel4.mono (by omega))
    clear B3 f1 hB4 bel4 h3 bel03 own3
    go_wp2_with fail
    refine (bappR_any _ _ _ l _ own4.is (by rw [List.length_append]; omega) h4 hf hl).mono ?_
    rintro E w5 ⟨vd, rfl, own5, bel5⟩
    rw [g5]
    rw [Bm.appB_ok g5, List.append_assoc, HO.out] at own5
    have own5' := own5.rebase (base' := w.heap.size) (by omega)
    have bel05 := bel04.trans (bel5.mono (by omega))
    clear own5 own4 h4 bel04 bel5
    go_wp2
    refine bodyPost_ret (v := .tuple #[vd, .int .i64 0]) (by simp [results, Try.results16, go_sem]) rfl ?_
    exact ⟨_, rfl, own5', bel05⟩
  · have hne : (ch == 0) = false := by simpa using hc
    have hO := HO.out
    rw [Cm.out_no (by rw [HC.out]; exact hc)] at hO
    subst hO
    clear hc
    go_wp2
    refine bodyPost_ret (v := .tuple #[.slice none 0 0, .int .i64 ch]) (by simp [results, Try.results16, go_sem]) rfl ?_
    exact ⟨_, rfl, Own.nil _ _ _ _, bel02⟩

end Go.Proofs.Ytlfgffldoiedlaa
