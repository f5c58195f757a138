/- Texts of one layer, one behind the other. -/
import Derived.Test.YthmecljkackmbaaGreatZH1
import Derived.Test.YthmecljkackmbaaGreatZ11
import Derived.Test.YthmecljkackmbaaGreatZ9
/- The contract of the document's Encode of a run. -/
namespace Go.Proofs.YthmecljkackmbaaGreat
open Go.RowKit
open Bm (Ov)
set_option linter.unusedVariables false

set_option maxRecDepth 20000 in
set_option maxHeartbeats 2000000 in
theorem hencR_any (e n : Int) (v : Value) (l : List Ov) (w : World) (h : IsO w v l) (hf : FitO l) (hl : l.length ≤ 140737488355328) :
    Calls Tryz.prog 157 #[cmv e n v] w fun E w' => ∃ vb, E = .returned (.tuple #[vb, .int .i64 (Rn.chk e n l)]) ∧ Own .u8 5 w.heap.size w' vb (Rn.out e n l) ∧ Below w.heap.size w w' := by
  obtain ⟨w1, hw1, sz1, bel1, hB⟩ := blk_step w #[.int .i64 e, .int .i64 n, v] 93
  have c0 := blk_cell hB 0 rfl
  have c1 := blk_cell hB 1 rfl
  have c2 := blk_cell hB 2 rfl
  have HM := hide (hcheckR_any e n v l w1 (h.below bel1) hf hl)
  have HFULL := hide fun (h0 : 0 < l.length) => h.full h0
  unfold cmv at HM ⊢
  obtain ⟨ao, cap, rfl, _, _⟩ := h.shape
  obtain ⟨ch, hch⟩ : ∃ x, Rn.chk e n l = x := ⟨_, rfl⟩
  rw [hch] at HM ⊢
  have HA := hide hch
  have HF := hide hf
  obtain ⟨m, hmm⟩ : ∃ m, l.length = m := ⟨_, rfl⟩
  rw [hmm] at HFULL hl c2 hw1 HM ⊢
  have HN := hide hmm
  clear h hf hch hB hmm
  go_enter Tryz.func157, Tryz.ntmps157
  go_wp2_with fail
  refine HM.out.mono ?_
  rintro E w2 ⟨rfl, bel2⟩
  have sz2 := bel2.size
  have bel02 := bel1.trans (bel2.mono bel1.size)
  have CE : Hid (∀ W, Below w2.heap.size w2 W → W.cell? ⟨w.heap.size, 0, none⟩ = some (.int .i64 e) ∧ W.cell? ⟨w.heap.size, 1, none⟩ = some (.int .i64 n) ∧ W.cell? ⟨w.heap.size, 2, none⟩ = some (.slice ao m cap)) := hide fun W hb =>
    ⟨(hb.cell (p := ⟨w.heap.size, 0, none⟩) (show w.heap.size < w2.heap.size by omega)).trans ((bel2.cell (p := ⟨w.heap.size, 0, none⟩) (show w.heap.size < w1.heap.size by omega)).trans c0), (hb.cell (p := ⟨w.heap.size, 1, none⟩) (show w.heap.size < w2.heap.size by omega)).trans ((bel2.cell (p := ⟨w.heap.size, 1, none⟩) (show w.heap.size < w1.heap.size by omega)).trans c1),
      (hb.cell (p := ⟨w.heap.size, 2, none⟩) (show w.heap.size < w2.heap.size by omega)).trans ((bel2.cell (p := ⟨w.heap.size, 2, none⟩) (show w.heap.size < w1.heap.size by omega)).trans c2)⟩
  obtain ⟨d0, d1, d2⟩ := CE.out w2 (Below.refl _ _)
  clear c0 c1 c2 HM bel2
  by_cases h0 : ch = 0
  · subst h0
    have HZ := hide (Rn.chk_zero HA.out)
    obtain ⟨g1, g2, g3, g4, _⟩ := HZ.out
    rw [HN.out] at g1
    have hml : (m : Int) ≤ 1024 := by omega
    have HNM := hide (fun k => nmb_len (f := e) (u := n) (m := m) (by omega) g4 g1 k)
    go_wp2_with fail
    refine (putR_any (.slice none 0 0) [] e _ (Is.nil _ _) (by simp) (by omega) (by omega)).mono ?_
    rintro E w3 ⟨v3, rfl, own3, bel3⟩
    rw [List.nil_append] at own3
    have sz3 := bel3.size
    clear d0 d1 d2
    obtain ⟨d0, d1, d2⟩ := CE.out w3 bel3
    have q1 := HNM.out 1
    unfold nmb at q1
    go_wp2_with fail
    refine (putR_any v3 _ n _ own3.is (by omega) (by omega) (by omega)).mono ?_
    rintro E w4 ⟨v4, rfl, own4, bel4⟩
    have bel24 := bel3.trans (bel4.mono sz3)
    have sz4 := bel24.size
    clear d0 d1 d2 own3 bel3 bel4 q1
    obtain ⟨d0, d1, d2⟩ := CE.out w4 bel24
    have q2 := HNM.out 2
    unfold nmb at q2
    go_wp2_with fail
    refine (putR_any v4 _ m _ own4.is (by omega) (by omega) (by omega)).mono ?_
    rintro E w5 ⟨v5, rfl, own5, bel5⟩
    have bel25 := bel24.trans (bel5.mono sz4)
    have sz5 := bel5.size
    have own6 : Own .u8 5 w.heap.size w5 v5 (nmb e n m 3) := own5.rebase (base' := w.heap.size) (by omega)
    clear d0 d1 d2 own4 own5 bel5 bel24 q2
    have hq3 := HNM.out 3
    go_wp2
    go_loopw [5, 6] (fun bb kk wr => ∃ k : Nat, k ≤ m ∧ kk = .int .i64 k ∧ Own .u8 5 w.heap.size wr bb (nmb e n m 3 ++ Rn.ens (l.take k)) ∧ Below w2.heap.size w2 wr) (fun _ kk _ => m - (intOf kk).toNat)
    case atStart => exact ⟨0, by omega, rfl, by simpa [Rn.ens] using own6, bel25⟩
    case round =>
      obtain ⟨k, hk, rfl, ownk, belk⟩ := hrel
      have szk := belk.size
      have bel := bel02.trans (belk.mono bel02.size)
      have sz := bel.size
      obtain ⟨x0, x1, x2⟩ := CE.out wr belk
      by_cases hlt : k < m
      · obtain ⟨o, ho⟩ : ∃ o, l[k]? = some o := ⟨l[k]'(by have := HN.out; omega), by rw [List.getElem?_eq_getElem]⟩
        obtain ⟨b1, o1, cq, hvx, _, _, hB, hcell⟩ := HFULL.out (by omega)
        simp only [Value.slice.injEq, true_and] at hvx
        obtain ⟨rfl, rfl⟩ := hvx
        obtain ⟨c0, c1, c2⟩ := hcell k o ho
        have d0 := (bel.cell (p := ⟨b1, o1 + k * 3, none⟩) hB).trans c0
        have d1 := (bel.cell (p := ⟨b1, o1 + k * 3 + 1, none⟩) hB).trans c1
        have d2 := (bel.cell (p := ⟨b1, o1 + k * 3 + 2, none⟩) hB).trans c2
        have HO := hide ho
        clear c0 c1 c2 ho hcell
        have hlt' : (k : Int) < m := by omega
        obtain ⟨hk1, hv1⟩ := HF.out o (List.mem_of_getElem? HO.out)
        have hoc : o.c = 0 := Rn.may_c HZ.out.2.2.2.2 o (List.mem_of_getElem? HO.out)
        have hle2 : (Rn.ens (l.take k)).length ≤ 51 * 1024 := by
          have := Rn.ens_le (l := l.take k) fun q hq => Rn.may_c HZ.out.2.2.2.2 q (List.mem_of_mem_take hq)
          rw [List.length_take] at this
          omega
        have isk := ownk.is
        clear ownk
        go_wp2_with fail
        refine (oappR_any _ _ o.p o.k o.v _ isk (by rw [List.length_append]; omega) hk1 hv1).mono ?_
        rintro E w7 ⟨v7, rfl, own7, bel7⟩
        have hok : Om.chk o.p o.k.data.toList o.v.data.toList = 0 := hoc
        rw [Om.appd_ok hok, List.append_assoc] at own7
        rw [hok]
        have own8 : Own .u8 5 w.heap.size w7 v7 (nmb e n m 3 ++ Rn.ens (l.take (k + 1))) := by
          rw [ens_next HO.out]
          exact own7.rebase (by omega)
        have bel8 := belk.trans (bel7.mono szk)
        clear own7 bel7 isk hok hoc x0 x1 x2 d0 d1 d2
        go_wp2
        go_roundw
        case rel => exact ⟨k + 1, by omega, by go_num, own8, bel8⟩
        case measure => simp [intOf]; omega
      · have hlt' : ¬ (k : Int) < m := by omega
        have OW : Hid (Own .u8 5 w.heap.size wr u5 (Rn.out e n l)) := hide (by
          rw [Rn.out_ok HA.out, ← nmb_all, HN.out]
          rw [List.take_of_length_le (by have := HN.out; omega)] at ownk
          exact ownk)
        clear ownk
        go_wp2
        go_ret2
        exact ⟨_, rfl, OW.out, bel⟩
  · have hne : (ch != 0) = true := by simp [h0]
    have HO : Hid (Rn.out e n l = []) := hide (Rn.out_no (by rw [HA.out]; exact h0))
    go_wp2
    go_ret2
    exact ⟨_, rfl, by rw [HO.out]; exact Own.nil _ _ _ _, bel02⟩

end Go.Proofs.YthmecljkackmbaaGreat
