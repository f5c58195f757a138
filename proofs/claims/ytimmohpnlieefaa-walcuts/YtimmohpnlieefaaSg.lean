/- The contracts of starts' Of and Grown. -/
import Derived.Test.YtimmohpnlieefaaSf
namespace Go.Proofs.Ytimmohpnlieefaa
open Go.RowKit
set_option linter.unusedVariables false

theorem told_len : ∀ (l : List Cm.Cv) (ep : Int), (Sm.told ep l).length ≤ l.length
  | [], _ => by simp [Sm.told]
  | c :: r, ep => by
    have := told_len r c.e
    unfold Sm.told
    split
    · simp; omega
    · simp; omega

/-- What Of comes to. -/
def ofs (l : List Cm.Cv) : List Sm.S := if (Cm.fol 0 0 0 l).1 = 0 then Sm.told 0 l else []

theorem ofs_ok {l : List Cm.Cv} (h : (Cm.fol 0 0 0 l).1 = 0) : ofs l = Sm.told 0 l := if_pos h
theorem ofs_no {l : List Cm.Cv} (h : (Cm.fol 0 0 0 l).1 ≠ 0) : ofs l = [] := if_neg h

theorem cvs_next {r : List Cw} {k : Nat} {c : Cw} (h : r[k]? = some c) : cvs (r.take (k + 1)) = cvs (r.take k) ++ [c.c] := by
  unfold cvs
  rw [List.take_add_one, h]
  simp

set_option maxRecDepth 100000 in
set_option maxHeartbeats 2000000 in
theorem of_any (vl : Value) (r : List Cw) (w : World) (h : IsC w vl r) (hf : FitC r) (hl : r.length ≤ 1000000) :
    Calls Try.prog 35 #[vl] w fun E w' => ∃ v, E = .returned (.tuple #[v, flv (Cm.fol 0 0 0 (cvs r))]) ∧ OwnS w.heap.size w' v (ofs (cvs r)) ∧ Below w.heap.size w w' := by
  have hl2 : r.length ≤ 140737488355328 := by omega
  obtain ⟨ao, cap, hvl, hcap, hcm⟩ := h.1.shape
  subst hvl
  obtain ⟨w1, hw1, sz1, bel1, hR⟩ := blk_step w #[.int .i64 0, .int .i64 0] 71
  have X := hide (cfol_any 0 0 _ r w1 (h.below bel1) hf hl2)
  unfold flv at X ⊢
  have HOK := hide (ofs_ok (l := cvs r))
  have HNO := hide (ofs_no (l := cvs r))
  have HZ := hide (Cm.fol_at (cvs r) 0 0 0)
  have HGD := hide (Cm.fol_good (cvs r) 0 0 0)
  obtain ⟨fl, hfl⟩ : ∃ f, Cm.fol 0 0 0 (cvs r) = f := ⟨_, rfl⟩
  rw [hfl] at X HOK HNO HZ HGD ⊢
  obtain ⟨fe, fp⟩ := fl
  simp only at X HOK HNO HZ HGD ⊢
  clear hfl
  have HI := hide h
  have HR := hide hR
  clear h hR
  go_enter Try.func35, Try.ntmps35
  go_wp2_with fail
  refine X.out.mono ?_
  rintro E w2 ⟨rfl, bel2⟩
  have s2 := bel2.size
  obtain ⟨w3, hw3, hw3', sz3, bel3, hF, c0, c1⟩ := new_two w2 71 (.int .i64 0) (.int .i64 0) (.int .i64 fe) (.int .i64 fp)
  have bel13 : Below w1.heap.size w1 w3 := bel2.trans (bel3.mono s2)
  have bel03 : Below w.heap.size w w3 := bel1.trans (bel13.mono (by omega))
  have hR3 := (bel13.block w.heap.size (by omega)).trans HR.out
  have hnq := Try.neqF fe fp 0 0
  have hgd := Try.guardF
  have I3 := hide (HI.out.below bel03)
  have HF := hide hF
  clear X HR bel2 bel3 bel1 hF HI
  by_cases hfe : fe = 0
  · have hfp : fp = 0 := HZ.out hfe
    have hb : (!((fe == 0) && (fp == 0))) = false := by simp [hfe, hfp]
    rw [hb] at hnq
    have GD := hide (HGD.out.1 hfe)
    have HO := hide (HOK.out hfe)
    subst hfe hfp
    have g0 := blk_froz HF.out 0
    have g1 := blk_froz HF.out 1
    have y0 : w3.setCell ⟨w2.heap.size, 0, none⟩ (.int .i64 0) = w3 := set_same HF.out (j := 0) rfl
    have y1 : w3.setCell ⟨w2.heap.size, 1, none⟩ (.int .i64 0) = w3 := set_same HF.out (j := 1) rfl
    clear hb HOK HNO HZ HGD hf
    by_cases hz : r.length = 0
    · have hr : r = [] := List.eq_nil_of_length_eq_zero hz
      subst hr
      obtain ⟨V, hV, bV, gV, ⟨a0, a1⟩, ⟨f0, f1⟩, ⟨z0, z1⟩⟩ := res_two hR3 (.int .i64 0) (.int .i64 0)
      have belV := below_put bel03 gV (by omega) (by omega)
      clear bV gV hR3 I3 GD hl hl2 hz
      simp only [List.length_nil]
      go_wp2
      go_loopw [5, 16] (fun lv iv wr => lv = .slice none 0 0 ∧ iv = .int .i64 0 ∧ wr = w3) (fun _ _ _ => 0)
      case atStart => exact ⟨rfl, rfl, by first | rfl | rw [y0, y1]⟩
      case round =>
        obtain ⟨rfl, rfl, rfl⟩ := hrel
        go_wp2
        refine bodyPost_ret (v := .tuple #[.slice none 0 0, .agg #[.int .i64 0, .int .i64 0]]) (by simp [results, Try.results35, go_sem, z0, z1]) rfl ?_
        exact ⟨_, rfl, by rw [HO.out]; exact OwnG.nil _ _ _ _ _, belV⟩
    obtain ⟨b1, o1, cp, hvl, _, _, hB, hcell⟩ := I3.out.1.full (by omega)
    have hao : ao = some ⟨b1, o1, none⟩ := by simp at hvl; exact hvl.1
    subst hao
    have HIN := hide I3.out.2
    have HC := hide hcell
    have H3 := hide hR3
    generalize hn : r.length = n at *
    have HN := hide hn
    clear hvl hcell I3 hR3 hn hw1 hw3
    go_wp2
    go_loopw [5, 16] (fun lv iv wr => ∃ k : Nat, k ≤ n ∧ iv = .int .i64 k ∧ OwnS w3.heap.size wr lv (Sm.told 0 (cvs (r.take k))) ∧ Below w3.heap.size w3 wr) (fun _ iv _ => n - (intOf iv).toNat)
    case atStart => exact ⟨0, by omega, rfl, OwnG.nil _ _ _ _ _, by first | exact Below.refl _ _ | (rw [y0, y1]; exact Below.refl _ _)⟩
    case round =>
      obtain ⟨k, hk, rfl, own, bel⟩ := hrel
      have sz := bel.size
      by_cases hlt : k < n
      · obtain ⟨c, hc⟩ : ∃ c, r[k]? = some c := at_of (by have := HN.out; omega)
        obtain ⟨e0, e1, e2⟩ := HC.out k c hc
        have d0 := (bel.cell (p := ⟨b1, o1 + k * 3, none⟩) hB).trans e0
        have d1 := (bel.cell (p := ⟨b1, o1 + k * 3 + 1, none⟩) hB).trans e1
        have d2 := (bel.cell (p := ⟨b1, o1 + k * 3 + 2, none⟩) hB).trans e2
        obtain ⟨i1, _, _⟩ := HIN.out c (List.mem_of_getElem? hc)
        have HCD := hide (cvs_next hc)
        have hlt' : (k : Int) < n := by omega
        obtain ⟨ac, cc, hcv, _, _⟩ := i1.shape
        rw [hcv] at d2
        obtain ⟨V, hV, hV2, szV, belV, bC, q0, q1, q2⟩ := new_step wr 32 (.int .i64 0) (.int .i64 0) (.slice none 0 0) (.int .i64 c.e) (.int .i64 c.n) (.slice ac c.l.length cc)
        have ownV := ownS_below own belV
        have hln : (Sm.told 0 (cvs (r.take k))).length ≤ k := Nat.le_trans (told_len _ _) (by unfold cvs; rw [List.length_map, List.length_take]; omega)
        have HL : Hid (((Sm.told 0 (cvs (r.take k))).length + 1) * 16 ≤ 140737488355328) := hide (by omega)
        have HG : Hid (Sm.grw (Sm.told 0 (cvs (r.take k))) c.e c.n = Sm.told 0 (cvs (r.take (k + 1)))) := hide (by rw [HCD.out, Sm.told_grw]; rfl)
        have HB : Hid (w3.heap.size ≤ V.heap.size) := hide (by omega)
        generalize Sm.told 0 (cvs (r.take k)) = u at *
        clear e0 e1 e2 hc i1 hcv bC own hln HCD
        go_wp2_with fail
        refine (grow_any w3.heap.size _ u c.e c.n ac c.l.length cc V ownV HL.out HB.out).mono ?_
        rintro E w4 ⟨v4, rfl, own4, bel4⟩
        rw [HG.out] at own4
        have belA : Below w3.heap.size w3 w4 := (bel.trans (belV.mono (by omega))).trans bel4
        clear HG HL ownV bel belV bel4 hV hV2 q0 q1 q2 d0 d1 d2
        go_wp2
        go_roundw
        case rel => exact ⟨k + 1, by omega, by go_num, own4, belA⟩
        case measure => simp [intOf]; omega
      · have hlt' : ¬ (k : Int) < n := by omega
        have hrk : r.take k = r := List.take_of_length_le (by have := HN.out; omega)
        rw [hrk] at own
        have hRX := (bel.block w.heap.size (by omega)).trans H3.out
        obtain ⟨V, hV, bV, gV, ⟨a0, a1⟩, ⟨f0, f1⟩, ⟨z0, z1⟩⟩ := res_two hRX (.int .i64 0) (.int .i64 0)
        have belV := below_put (bel03.trans (bel.mono (by omega))) gV (by omega) (by omega)
        have ownA := own.agree (w' := V) fun b hb => gV.block b (OwnG.lt own b hb).2 (by have := OwnG.lt own b hb; simp; omega)
        have ownV := ownS_rebase (base' := w.heap.size) ownA (by omega)
        rw [← HO.out] at ownV
        have HV := hide ownV
        clear hRX bV gV bel own ownV ownA hrk
        go_wp2
        refine bodyPost_ret (v := .tuple #[_, .agg #[.int .i64 0, .int .i64 0]]) (by simp [results, Try.results35, go_sem, z0, z1]; rfl) rfl ?_
        exact ⟨_, rfl, HV.out, belV⟩
  · have hb : (!((fe == 0) && (fp == 0))) = true := by simp [hfe]
    rw [hb] at hnq
    have HO := hide (HNO.out hfe)
    obtain ⟨V, hV, bV, gV, ⟨a0, a1⟩, ⟨f0, f1⟩, ⟨z0, z1⟩⟩ := res_two hR3 (.int .i64 fe) (.int .i64 fp)
    have belV := below_put bel03 gV (by omega) (by omega)
    clear hb HOK HNO HZ HGD bV gV hR3 hfe I3
    go_wp2
    go_region
    go_wp2
    refine bodyPost_ret (v := .tuple #[.slice none 0 0, .agg #[.int .i64 fe, .int .i64 fp]]) (by simp [results, Try.results35, go_sem, z0, z1]) rfl ?_
    exact ⟨_, rfl, by rw [HO.out]; exact OwnG.nil _ _ _ _ _, belV.drew⟩

end Go.Proofs.Ytimmohpnlieefaa
