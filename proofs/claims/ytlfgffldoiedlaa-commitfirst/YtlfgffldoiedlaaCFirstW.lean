/- The walk of CommitFirst. -/
import Derived.Test.YtlfgffldoiedlaaCl
import Derived.Test.YtlfgffldoiedlaaCs
import Derived.Test.YtlfgffldoiedlaaCFollowsW
import Derived.Test.YtlfgffldoiedlaaPick
import Derived.Test.YtlfgffldoiedlaaFrc
namespace Go.Proofs.Ytlfgffldoiedlaa
open Go.RowKit
set_option linter.unusedVariables false

theorem last_next {r : List Cw} {k : Nat} {c : Cw} (h : r[k]? = some c) (ep : Int) : Cm.lastE ep ((cvs r).take (k + 1)) = c.e := by
  have h1 : (cvs r)[k]? = some c.c := by unfold cvs; rw [List.getElem?_map, h]; rfl
  obtain ⟨hk, he⟩ := List.getElem?_eq_some_iff.1 h1
  rw [List.take_succ_eq_append_getElem hk, (Cm.last_snoc _ _ ep 0).1, he]
  rfl

set_option maxRecDepth 100000 in
set_option maxHeartbeats 4000000 in
theorem commitFirst_walk (ep nu : Int) (vl : Value) (r : List Cw) (at' : Int) (w : World) (hep : (Lit.int .i64 ep).wf = true) (hnu : (Lit.int .i64 nu).wf = true) (h : IsC w vl r) (hf : FitC r) (hl : r.length * 40 ≤ 140737488351232) (hat : (Lit.int .i64 at').wf = true) :
    Calls Try.prog 8 #[.int .i64 ep, .int .i64 nu, vl, .int .i64 at'] w fun e w' => e = .returned (.bool true) ∧ Below w.heap.size w w' := by
  obtain ⟨ha1, ha2⟩ := in64 hat
  have hlenl := h.1.len_run Try.elemC
  have hgd := Try.guardF
  go_enter Try.func8, Try.ntmps8
  go_wp2_with fail
  refine (lives_any _).mono ?_
  rintro E w1 ⟨rfl, bel1⟩
  have sz1 := bel1.size
  obtain ⟨V, hV, szV, belV, bF, ⟨c0, c1⟩, ⟨f0, f1⟩, ⟨s0, s1⟩⟩ := none_step w1 30
  have bel0V := bel1.trans (belV.mono sz1)
  have hRF : w1.heap.size < V.heap.size := by omega
  have BF := hide bF
  clear bel1 belV bF
  by_cases h40 : 40 < r.length
  · have h40' : (40 : Int) < r.length := by omega
    go_wp2_with fail
    go_quiet (fail)
    go_wp2
    go_ret
    exact ⟨rfl, below_drewN bel0V _⟩
  have h40' : ¬ (40 : Int) < r.length := by omega
  have h40d : decide ((40 : Int) < r.length) = false := by simpa using h40'
  have hV0 := h.below bel0V
  rcases fol_two (cvs r) ep nu with ⟨hg, hfo⟩ | ⟨_, hfo⟩
  · have hnq := Try.neqF 0 0 0 0
    rw [show (!(((0 : Int) == 0) && ((0 : Int) == 0))) = false by decide] at hnq
    have X : Hid (∀ w', Below V.heap.size V w' → Calls Try.prog 12 #[.int .i64 ep, .int .i64 nu, vl] w' fun E w'' => E = .returned (.agg #[.int .i64 0, .int .i64 0]) ∧ Below w'.heap.size w' w'') := hide (fun w' hb => by
      have := cfol_any ep nu vl r w' (hV0.below hb) hf (by omega)
      rw [hfo] at this
      exact this)
    have HG := hide hg
    clear hfo hg hV0
    go_wp2_with fail
    go_region_held3 (fun w' => w'.cell? ⟨w1.heap.size, 0, none⟩ = some (.int .i64 0) ∧ w'.cell? ⟨w1.heap.size, 1, none⟩ = some (.int .i64 0)) (first | exact ⟨c0, c1⟩ | exact ⟨a0, a1⟩ | go_keep)
      (first
      | (go_at_call 12; refine (X.out _ ((Below.refl _ _).drew)).mono ?_; rintro E w2 ⟨rfl, bel2'⟩; have bel2 : Below V.heap.size V w2 := ((Below.refl _ _).drew).trans bel2'; have a0 := (bel2.cell (p := ⟨w1.heap.size, 0, none⟩) hRF).trans c0; have a1 := (bel2.cell (p := ⟨w1.heap.size, 1, none⟩) hRF).trans c1; clear bel2'))
    have sz2 := bel2.size
    have hcell : 0 < r.length → ∃ b1 o1 c1, vl = .slice (some ⟨b1, o1, none⟩) r.length c1 ∧ r.length ≤ c1 ∧ c1 ≤ maxLen ∧ b1 < w.heap.size ∧ ∀ i c, r[i]? = some c → w.cell? ⟨b1, o1 + i * 3, none⟩ = some (.int .i64 c.e) ∧ w.cell? ⟨b1, o1 + i * 3 + 1, none⟩ = some (.int .i64 c.n) ∧ w.cell? ⟨b1, o1 + i * 3 + 2, none⟩ = some c.v := by
      intro hp
      obtain ⟨b1, o1, c1, hv, q1, q2, hB, hc⟩ := h.1.full hp
      exact ⟨b1, o1, c1, hv, q1, q2, hB, hc⟩
    obtain ⟨ao, cap, hvl, _, _⟩ := h.1.shape
    have HH := hide h
    have HFIT := hide hf
    have HCELL := hide hcell
    have HLEN := hide hlenl
    clear h hf hcell X a0 a1 c0 c1 f0 f1 s0 s1 hlenl
    subst hvl
    go_wp2
    go_loopw [10, 11] (fun lv iv wr => ∃ (k : Nat) (L : Int), k ≤ r.length ∧ iv = .int .i64 k ∧ lv = .int .i64 L ∧ Hid (L = Cm.lastE ep ((cvs r).take k)) ∧ Below V.heap.size V wr) (fun _ iv _ => r.length - (intOf iv).toNat)
    case atStart => exact ⟨0, ep, by omega, rfl, rfl, hide (by simp [Cm.lastE]), bel2⟩
    case round =>
      obtain ⟨k, L, hk, rfl, rfl, HT, bel⟩ := hrel
      have sz := bel.size
      have bel0 : Below w.heap.size w wr := bel0V.trans (bel.mono (by omega))
      by_cases hlt : k < r.length
      · obtain ⟨b1, o1, cq, hvx, hc1, hc1m, hB, hcell⟩ := HCELL.out (by omega)
        simp only [Value.slice.injEq, true_and] at hvx
        obtain ⟨rfl, rfl⟩ := hvx
        obtain ⟨c, hc⟩ : ∃ c, r[k]? = some c := ⟨r[k], by rw [List.getElem?_eq_getElem]⟩
        obtain ⟨d0, d1, d2⟩ := row_at hcell bel0 hB hc
        have e0 := (bel.cell (p := ⟨w1.heap.size, 0, none⟩) hRF).trans (blk_cell BF.out 0 rfl)
        have e1 := (bel.cell (p := ⟨w1.heap.size, 1, none⟩) hRF).trans (blk_cell BF.out 1 rfl)
        have hmem := List.mem_of_getElem? hc
        have hcv : (cvs r)[k]? = some c.c := by unfold cvs; rw [List.getElem?_map, hc]; rfl
        obtain ⟨g1, g2, g3, _⟩ := Cm.good_at (cvs r) ep nu k c.c HG.out hcv
        have gk : Cm.Good ep nu (cvs (r.take k)) := by rw [cvs_take]; exact Cm.good_take HG.out k
        have gz : Cm.fol ep nu 0 (cvs (r.take k)) = (0, 0) := by
          have h1 := (Cm.fol_good _ ep nu 0).2 gk
          exact Prod.ext h1 (Cm.fol_at _ ep nu 0 h1)
        obtain ⟨m1, m2, m3, m4, _⟩ := Cm.chk_zero g1
        rw [← HT.out] at g3
        simp only [Cw.c] at g1 g2 g3 m1 m2 m3 m4
        have hwr := HH.out.below bel0
        have X2 : Hid (∀ w', Below wr.heap.size wr w' → Calls Try.prog 12 #[.int .i64 ep, .int .i64 nu, .slice (some ⟨b1, o1, none⟩) k cap] w' fun E w'' => E = .returned (.agg #[.int .i64 0, .int .i64 0]) ∧ Below w'.heap.size w' w'') := hide (fun w' hb => by
          have := cfol_any ep nu (.slice (some ⟨b1, o1, none⟩) k cap) (r.take k) w' ⟨(hwr.below hb).1.front k (by omega), (hwr.below hb).2.take k⟩ (HFIT.out.take k) (by rw [List.length_take]; omega)
          rw [gz] at this
          exact this)
        have X3 : Hid (∀ w', Below wr.heap.size wr w' → Calls Try.prog 10 #[.agg #[.int .i64 c.e, .int .i64 c.n, c.v]] w' fun E w'' => E = .returned (.int .i64 0) ∧ Below w'.heap.size w' w'') := hide (fun w' hb => by
          have hin := (hwr.below hb).2 c hmem
          have hfc := HFIT.out c hmem
          have := ccheck_any c.e c.n c.v c.l w' hin.1 hfc.1 (by have := hfc.2; omega)
          rw [g1] at this
          exact this)
        have HN := hide (last_next hc ep)
        have hlt' : (k : Int) < r.length := by omega
        have hk0 : (0 : Int) ≤ (k : Int) := by omega
        have hkc : (k : Int) ≤ (cap : Int) := by omega
        have hsl := run_frontC b1 o1 r.length cap k (by omega)
        have hw1 : IntKind.i64.wrap (c.n - 1) = c.n - 1 := wrap_i64_small _ (by omega) (by omega)
        have hw2 : IntKind.i64.wrap (c.n - 1 - (k : Int)) = c.n - 1 - (k : Int) := wrap_i64_small _ (by omega) (by omega)
        have hq1 : (c.n - 1 - (k : Int) != nu) = false := by simp; omega
        have hq2 : ¬ c.e < L := by omega
        have hq3 : decide (c.e < L) = false := by simpa using hq2
        have hBr : b1 < wr.heap.size := by omega
        have hFr : w1.heap.size < wr.heap.size := by omega
        clear hc hmem hcv g1 g2 g3 gk gz m1 m2 m3 m4 hwr hcell
        go_wp2_with fail
        go_region_held3 (fun w' => (w'.cell? ⟨b1, o1 + k * 3, none⟩ = some (.int .i64 c.e) ∧ w'.cell? ⟨b1, o1 + k * 3 + 1, none⟩ = some (.int .i64 c.n) ∧ w'.cell? ⟨b1, o1 + k * 3 + 2, none⟩ = some c.v) ∧ (w'.cell? ⟨w1.heap.size, 0, none⟩ = some (.int .i64 0) ∧ w'.cell? ⟨w1.heap.size, 1, none⟩ = some (.int .i64 0))) (first | exact ⟨⟨d0, d1, d2⟩, ⟨e0, e1⟩⟩ | exact ⟨⟨a0, a1, a2⟩, ⟨x0, x1⟩⟩ | exact ⟨⟨y0, y1, y2⟩, ⟨z0, z1⟩⟩ | go_keep)
          (first
          | (go_at_call 12; refine (X2.out _ ((Below.refl _ _).drew)).mono ?_; rintro E w3 ⟨rfl, bel3'⟩; have bel3 : Below wr.heap.size wr w3 := ((Below.refl _ _).drew).trans bel3'; have a0 := (bel3.cell (p := ⟨b1, o1 + k * 3, none⟩) hBr).trans d0; have a1 := (bel3.cell (p := ⟨b1, o1 + k * 3 + 1, none⟩) hBr).trans d1; have a2 := (bel3.cell (p := ⟨b1, o1 + k * 3 + 2, none⟩) hBr).trans d2; have x0 := (bel3.cell (p := ⟨w1.heap.size, 0, none⟩) hFr).trans e0; have x1 := (bel3.cell (p := ⟨w1.heap.size, 1, none⟩) hFr).trans e1; clear bel3')
          | (go_at_call 10; refine (X3.out _ bel3).mono ?_; rintro E w4 ⟨rfl, bel4'⟩; have bel4 : Below wr.heap.size wr w4 := bel3.trans (bel4'.mono bel3.size); have y0 := (bel4.cell (p := ⟨b1, o1 + k * 3, none⟩) hBr).trans d0; have y1 := (bel4.cell (p := ⟨b1, o1 + k * 3 + 1, none⟩) hBr).trans d1; have y2 := (bel4.cell (p := ⟨b1, o1 + k * 3 + 2, none⟩) hBr).trans d2; have z0 := (bel4.cell (p := ⟨w1.heap.size, 0, none⟩) hFr).trans e0; have z1 := (bel4.cell (p := ⟨w1.heap.size, 1, none⟩) hFr).trans e1; clear bel4'))
        have belR := bel.trans (bel4.mono (by omega))
        clear X2 X3 a0 a1 a2 x0 x1 d0 d1 d2 e0 e1 y1 y2 z0 z1 bel3 bel4 hsl hw1 hw2 hq1 hq2 hq3
        go_wp2
        go_roundw
        case rel => exact ⟨k + 1, c.e, by omega, by go_num, rfl, hide HN.out.symm, belR⟩
        case measure => simp [intOf]; omega
      · have hlt' : ¬ (k : Int) < r.length := by omega
        clear HT
        by_cases h2 : r.length < 2
        · have h2' : (r.length : Int) < 2 := by omega
          go_wp2
          go_ret
          exact ⟨rfl, bel0⟩
        · have h2' : ¬ (r.length : Int) < 2 := by omega
          go_wp2_with fail
          refine (pick_any at' ((r.length : Int) - 1) _ (by omega) (by omega) ha1 ha2).mono ?_
          rintro E w2 ⟨⟨p, hp, rfl⟩, rfl⟩
          obtain ⟨b1, o1, cq, hvx, hc1, hc1m, hB, hcell⟩ := HCELL.out (by omega)
          simp only [Value.slice.injEq, true_and] at hvx
          obtain ⟨rfl, rfl⟩ := hvx
          have hp1 : p + 1 < r.length := by omega
          have hwr := HH.out.below bel0
          have hsl := run_frontC b1 o1 r.length cap p (by omega)
          have hsb := run_backC b1 o1 r.length cap (p + 1) (by omega) (by omega)
          push_cast at hsb
          have hpc : (p : Int) ≤ (cap : Int) := by omega
          have hp0 : (0 : Int) ≤ (p : Int) := by omega
          have hpn : (p : Int) + 1 ≤ (r.length : Int) := by omega
          have hp10 : (0 : Int) ≤ (p : Int) + 1 := by omega
          have hptn : ((p : Int) + 1).toNat = p + 1 := by omega
          have hpw : IntKind.i64.wrap ((p : Int) + 1) = (p : Int) + 1 := wrap_i64_small _ (by omega) (by omega)
          have X4 : Hid (Calls Try.prog 32 #[.slice (some ⟨b1, o1, none⟩) p cap] wr.drew fun E w' => ∃ v, E = .returned v ∧ ∃ rs, OwnR 24 wr.heap.size w' v rs ∧ cvs rs = cvs (r.take p) ∧ CopyR wr.heap.size w' rs ∧ Below wr.drew.heap.size wr.drew w') := hide (by
            have hd := hwr.drewN 1
            refine (copyCs_any (.slice (some ⟨b1, o1, none⟩) p cap) (r.take p) wr.drew ⟨hd.1.front p (by omega), hd.2.take p⟩ (HFIT.out.take p) (by rw [List.length_take]; omega)).mono ?_
            rintro E w' ⟨v, rs, h1, h2, h3, h4, h5⟩
            exact ⟨v, h1, rs, h2, h3, h4, h5⟩)
          have hBK := hwr.1.back (p + 1) (by omega)
          have HBK := hide hBK
          have HIN := hide hwr.2
          have HDR := hide hwr.2.one
          clear hcell hBK hwr
          go_wp2_with fail
          go_region_law (first
            | (refine call_step rfl 32 #[.tmp 87] #[34] rfl Try.enters32 #[.slice (some ⟨b1, o1, none⟩) p cap] (by first | rfl | (simp [Act.eval]; done) | (simp [Act.eval, Act.put]; done)) X4.out ?_; rintro v4 w4 ⟨rs, own4, he4, cp4, bel4'⟩; have bel4 : Below wr.heap.size wr w4 := ((Below.refl _ _).drew).trans bel4')
            | (refine step_append_coms rfl (.tmp 88) (.tmp 92) 34 rfl 24 wr.heap.size Try.underlying34 Try.info24 v4 rs (by first | rfl | (simp [Act.eval]; done) | (simp [Act.eval, Act.put]; done)) own4 (.slice (some ⟨b1, o1 + (p + 1) * 3, none⟩) (r.length - (p + 1)) (cap - (p + 1))) (r.drop (p + 1)) (by first | rfl | (simp [Act.eval]; done) | (simp [Act.eval, Act.put]; done)) (HBK.out.below bel4) (fun c hc => HDR.out c (List.mem_of_mem_drop hc)) (by have := cvs_len he4; rw [List.length_take] at this; rw [List.length_drop]; omega) bel4.size ?_; intro v5 w5 own5 bel5 kp5))
          have bel45 : Below wr.heap.size wr w5 := bel4.trans bel5
          have hin5 : InC w5 (rs ++ r.drop (p + 1)) := ((cp4.keepT kp5).inC he4 (HIN.out.take p)).app ((HIN.out.drop (p + 1)).below bel45)
          have hfit5 : FitC (rs ++ r.drop (p + 1)) := (fit_same he4 (HFIT.out.take p)).app (HFIT.out.drop (p + 1))
          have hgap : Cm.fol ep nu 0 (cvs (rs ++ r.drop (p + 1))) = (15, (p : Int)) := by
            have e1 : cvs (rs ++ r.drop (p + 1)) = (cvs r).take p ++ (cvs r).drop (p + 1) := by
              rw [← cvs_take, ← he4]
              unfold cvs
              rw [List.map_append, List.map_drop]
            rw [e1]
            exact Cm.fol_gap HG.out p (by unfold cvs; rw [List.length_map]; omega)
          have hll : (rs ++ r.drop (p + 1)).length ≤ 140737488355328 := by
            have := cvs_len he4
            rw [List.length_take] at this
            rw [List.length_append, List.length_drop]
            omega
          have X5 : Hid (Calls Try.prog 12 #[.int .i64 ep, .int .i64 nu, v5] w5 fun E w'' => E = .returned (.agg #[.int .i64 15, .int .i64 p]) ∧ Below w5.heap.size w5 w'') := hide (by
            have := cfol_any ep nu v5 _ w5 ⟨own5.row, hin5⟩ hfit5 hll
            rw [hgap] at this
            exact this)
          have heq := Try.eqlF 15 p 15 p
          rw [show (((15 : Int) == 15) && ((p : Int) == (p : Int))) = true by simp] at heq
          have bel05 := bel0.trans (bel45.mono (by omega))
          clear hin5 hfit5 hgap hll own5 own4 he4 cp4 bel4 bel5 kp5 bel45 X4 hsl hsb bel
          go_wp2_with fail
          refine X5.out.mono ?_
          rintro E w6 ⟨rfl, bel6⟩
          have bel06 := bel05.trans (bel6.mono (by have := bel05.size; omega))
          clear X5 bel6
          go_wp2
          go_ret
          exact ⟨rfl, bel06⟩
  · obtain ⟨⟨fe, fp⟩, hff⟩ : ∃ f, Cm.fol ep nu 0 (cvs r) = f := ⟨_, rfl⟩
    rw [hff] at hfo
    have hnq := Try.neqF fe fp 0 0
    rw [show (!((fe == 0) && (fp == 0))) = true by simp [show fe ≠ 0 from hfo]] at hnq
    have X : Hid (∀ w', Below V.heap.size V w' → Calls Try.prog 12 #[.int .i64 ep, .int .i64 nu, vl] w' fun E w'' => E = .returned (.agg #[.int .i64 fe, .int .i64 fp]) ∧ Below w'.heap.size w' w'') := hide (fun w' hb => by
      have := cfol_any ep nu vl r w' (hV0.below hb) hf (by omega)
      rw [hff] at this
      exact this)
    clear hfo hff hV0
    go_wp2_with fail
    go_region_held3 (fun w' => w'.cell? ⟨w1.heap.size, 0, none⟩ = some (.int .i64 0) ∧ w'.cell? ⟨w1.heap.size, 1, none⟩ = some (.int .i64 0)) (first | exact ⟨c0, c1⟩ | exact ⟨a0, a1⟩ | go_keep)
      (first
      | (go_at_call 12; refine (X.out _ ((Below.refl _ _).drew)).mono ?_; rintro E w2 ⟨rfl, bel2'⟩; have bel2 : Below V.heap.size V w2 := ((Below.refl _ _).drew).trans bel2'; have a0 := (bel2.cell (p := ⟨w1.heap.size, 0, none⟩) hRF).trans c0; have a1 := (bel2.cell (p := ⟨w1.heap.size, 1, none⟩) hRF).trans c1; clear bel2'))
    go_wp2
    go_ret
    exact ⟨rfl, bel0V.trans (bel2.mono (by omega))⟩

end Go.Proofs.Ytlfgffldoiedlaa
