/- The walk of CommitBack. -/
import Derived.Test.YtlfgffldoiedlaaCl
import Derived.Test.YtlfgffldoiedlaaCs
import Derived.Test.YtlfgffldoiedlaaCFollowsW
namespace Go.Proofs.Ytlfgffldoiedlaa
open Go.RowKit
set_option linter.unusedVariables false

theorem fol_bool (l : List Cm.Cv) (ep nu : Int) : (((Cm.fol ep nu 0 l).1 == 0) && ((Cm.fol ep nu 0 l).2 == 0)) = true ↔ Cm.Good ep nu l := by
  rw [← Cm.fol_good l ep nu 0]
  constructor
  · intro h
    simp at h
    exact h.1
  · intro h
    have := Cm.fol_at l ep nu 0 h
    simp [h, this]

theorem both_bool (l m : List Cm.Cv) (ep nu : Int) : (((Cm.fol ep nu 0 (l ++ m)).1 == 0) && ((Cm.fol ep nu 0 (l ++ m)).2 == 0)) = ((((Cm.fol ep nu 0 l).1 == 0) && ((Cm.fol ep nu 0 l).2 == 0)) && (((Cm.fol (Cm.lastE ep l) (Cm.lastN nu l) 0 m).1 == 0) && ((Cm.fol (Cm.lastE ep l) (Cm.lastN nu l) 0 m).2 == 0))) := by
  rw [Bool.eq_iff_iff, fol_bool, Bool.and_eq_true, fol_bool, fol_bool, Cm.good_app]

theorem last_at {r : List Cw} {k : Nat} {c : Cw} (h : r[k]? = some c) (hk : r.length = k + 1) (ep nu : Int) : Cm.lastE ep (cvs r) = c.e ∧ Cm.lastN nu (cvs r) = c.n := by
  obtain ⟨h1, rfl⟩ := List.getElem?_eq_some_iff.1 h
  have e1 : r = r.take k ++ [r[k]] := by
    rw [← List.take_succ_eq_append_getElem h1, List.take_of_length_le (by omega)]
  have e2 : cvs r = cvs (r.take k) ++ [(r[k]).c] := by
    conv => lhs; rw [e1]
    unfold cvs
    rw [List.map_append]
    rfl
  rw [e2]
  exact Cm.last_snoc _ _ ep nu

set_option maxRecDepth 100000 in
set_option maxHeartbeats 8000000 in
theorem commitBack_walk (ep nu : Int) (vl : Value) (r : List Cw) (vm : Value) (s : List Cw) (vb : Value) (bs : List Int) (w : World) (hep : (Lit.int .i64 ep).wf = true) (hnu : (Lit.int .i64 nu).wf = true) (h : IsC w vl r) (hf : FitC r) (hl : r.length * 40 ≤ 140737488351232) (hm : IsC w vm s) (hfm : FitC s) (hlm : s.length * 40 ≤ 140737488351232) (hb : Is .u8 w vb bs) (hbl : bs.length * 1 ≤ 140737488351232) :
    Calls Try.prog 7 #[.int .i64 ep, .int .i64 nu, vl, vm, vb] w fun e w' => e = .returned (.bool true) ∧ Below w.heap.size w w' := by
  rw [Nat.mul_one] at hbl
  have hgd := Try.guardF
  obtain ⟨ao, cap, hvl, hcapl, _⟩ := h.1.shape
  obtain ⟨am, cpm, hvm, _, _⟩ := hm.1.shape
  have hcell : 0 < r.length → ∃ b1 o1 c1, vl = .slice (some ⟨b1, o1, none⟩) r.length c1 ∧ b1 < w.heap.size ∧ ∀ i c, r[i]? = some c → w.cell? ⟨b1, o1 + i * 3, none⟩ = some (.int .i64 c.e) ∧ w.cell? ⟨b1, o1 + i * 3 + 1, none⟩ = some (.int .i64 c.n) ∧ w.cell? ⟨b1, o1 + i * 3 + 2, none⟩ = some c.v := by
    intro hp
    obtain ⟨b1, o1, c1, hv, _, _, hB, hc⟩ := h.1.full hp
    exact ⟨b1, o1, c1, hv, hB, hc⟩
  subst hvl hvm
  have HH := hide h
  have HFIT := hide hf
  have HM := hide hm
  have HFM := hide hfm
  have HBB := hide hb
  have HCELL := hide hcell
  clear h hf hm hfm hb hcell hl hlm
  go_enter Try.func7, Try.ntmps7
  go_wp2_with fail
  refine (lives_any _).mono ?_
  rintro E w1 ⟨rfl, bel1⟩
  have sz1 := bel1.size
  by_cases h40 : 40 < r.length
  · have h40' : (40 : Int) < r.length := by omega
    go_wp2
    go_ret
    exact ⟨rfl, bel1⟩
  have h40' : ¬ (40 : Int) < r.length := by omega
  by_cases g40 : 40 < s.length
  · have g40' : (40 : Int) < s.length := by omega
    go_wp2
    go_ret
    exact ⟨rfl, bel1⟩
  have g40' : ¬ (40 : Int) < s.length := by omega
  go_wp2
  go_loopw [11] (fun iv wr => ∃ (k : Nat), k ≤ r.length ∧ iv = .int .i64 k ∧ Below w.heap.size w wr) (fun iv _ => r.length - (intOf iv).toNat)
  case atStart => exact ⟨0, by omega, rfl, bel1⟩
  case round =>
    clear bel1
    obtain ⟨k, hk, rfl, bel⟩ := hrel
    have sz := bel.size
    by_cases hlt : k < r.length
    · obtain ⟨b1, o1, cq, hvx, hB, hcell⟩ := HCELL.out (by omega)
      simp only [Value.slice.injEq, true_and] at hvx
      obtain ⟨rfl, rfl⟩ := hvx
      obtain ⟨c, hc⟩ : ∃ c, r[k]? = some c := ⟨r[k], by rw [List.getElem?_eq_getElem]⟩
      obtain ⟨e0, e1, e2⟩ := hcell k c hc
      obtain ⟨d0, d1, d2⟩ := row_at hcell bel hB hc
      have hmem := List.mem_of_getElem? hc
      have i2 := ((HH.out.2 c hmem).1).below bel
      obtain ⟨hfc, hlc⟩ := HFIT.out c hmem
      obtain ⟨acv, kcv, hcv, _, _⟩ := i2.shape
      rw [hcv] at i2 d2 e2
      have hlt' : (k : Int) < r.length := by omega
      have hk0 : (0 : Int) ≤ (k : Int) := by omega
      have HFC := hide hfc
      clear hc hmem hcell hcv
      go_wp2_with fail
      refine (cenc_any c.e c.n _ c.l _ i2 HFC.out (by omega)).mono ?_
      rintro E w2 ⟨va, rfl, owna, bel2⟩
      have sz2 := bel2.size
      have bel02 := bel.trans (bel2.mono (by omega))
      have iC := i2.below bel2
      clear d0 d1 d2 i2 bel bel2
      by_cases hck : Cm.chk c.e c.n c.l = 0
      · rw [hck]
        rw [Cm.out_ok hck] at owna
        have hsm := Cm.encC_small hck
        have HCK := hide hck
        clear hck
        go_wp2_with fail
        refine (cdec_any _ _ _ owna.is (by omega)).mono ?_
        rintro E w3 ⟨e3, n3, g3, v3, l3, rfl, own3, hR3, bel3⟩
        obtain ⟨rfl, rfl, rfl, rfl⟩ := Cm.cres_good HCK.out rfl hR3
        have hl8 := (Bm.chkL_zero (Cm.chk_zero HCK.out).2.2.2.2).2.1
        unfold cmv
        have sz3 := bel3.size
        obtain ⟨a3, k3, hv3, _, _⟩ := own3.is.shape
        subst hv3
        obtain ⟨V, hV, hV2, szV, belV, bC, x0, x1, x2⟩ := new_step w3 24 (.int .i64 0) (.int .i64 0) (.slice none 0 0) (.int .i64 c.e) (.int .i64 c.n) (.slice a3 c.l.length k3)
        have bel2V : Below w2.heap.size w2 V := bel3.trans (belV.mono (by omega))
        have bel0V := bel02.trans (bel2V.mono (by omega))
        have d0 := (bel0V.cell (p := ⟨b1, o1 + k * 3, none⟩) hB).trans e0
        have d1 := (bel0V.cell (p := ⟨b1, o1 + k * 3 + 1, none⟩) hB).trans e1
        have d2 := (bel0V.cell (p := ⟨b1, o1 + k * 3 + 2, none⟩) hB).trans e2
        have iV := iC.below bel2V
        have oV := own3.below belV
        have XS : Hid (∀ w', Below V.heap.size V w' → Calls Try.prog 20 #[.agg #[.int .i64 c.e, .int .i64 c.n, .slice a3 c.l.length k3], .agg #[.int .i64 c.e, .int .i64 c.n, .slice acv c.l.length kcv]] w' fun E w'' => E = .returned (.bool true) ∧ Below w'.heap.size w' w'') := hide (fun w' hb => by
          have := csame_any c.e c.n (.slice a3 c.l.length k3) c.l c.e c.n (.slice acv c.l.length kcv) c.l w' (oV.is.below hb) (iV.below hb) (by omega) (by omega)
          rw [sameC_self] at this
          exact this)
        have hBV : b1 < V.heap.size := by omega
        have hCV : w3.heap.size < V.heap.size := by omega
        clear hR3 own3 owna iC iV oV bel3 belV bel2V bel02 bC
        go_wp2_with fail
        go_region_held3 (fun w' => (w'.cell? ⟨w3.heap.size, 0, none⟩ = some (.int .i64 c.e) ∧ w'.cell? ⟨w3.heap.size, 1, none⟩ = some (.int .i64 c.n) ∧ w'.cell? ⟨w3.heap.size, 2, none⟩ = some (.slice a3 c.l.length k3)) ∧ (w'.cell? ⟨b1, o1 + k * 3, none⟩ = some (.int .i64 c.e) ∧ w'.cell? ⟨b1, o1 + k * 3 + 1, none⟩ = some (.int .i64 c.n) ∧ w'.cell? ⟨b1, o1 + k * 3 + 2, none⟩ = some (.slice acv c.l.length kcv))) (first | exact ⟨⟨x0, x1, x2⟩, ⟨d0, d1, d2⟩⟩ | exact ⟨⟨y0, y1, y2⟩, ⟨z0, z1, z2⟩⟩ | go_keep)
          (first
          | (go_at_call 20; refine (XS.out _ ((Below.refl _ _).drew)).mono ?_; rintro E w4 ⟨rfl, bel4'⟩; have bel4 : Below V.heap.size V w4 := ((Below.refl _ _).drew).trans bel4'; have y0 := (bel4.cell (p := ⟨w3.heap.size, 0, none⟩) hCV).trans x0; have y1 := (bel4.cell (p := ⟨w3.heap.size, 1, none⟩) hCV).trans x1; have y2 := (bel4.cell (p := ⟨w3.heap.size, 2, none⟩) hCV).trans x2; have z0 := (bel4.cell (p := ⟨b1, o1 + k * 3, none⟩) hBV).trans d0; have z1 := (bel4.cell (p := ⟨b1, o1 + k * 3 + 1, none⟩) hBV).trans d1; have z2 := (bel4.cell (p := ⟨b1, o1 + k * 3 + 2, none⟩) hBV).trans d2; clear bel4'))
        have belR := bel0V.trans (bel4.mono (by omega))
        clear x0 x1 x2 y0 y1 y2 z0 z1 z2 d0 d1 d2 XS bel4 bel0V hV hV2
        go_wp2
        go_roundw
        case rel => exact ⟨k + 1, by omega, by go_num, belR⟩
        case measure => simp [intOf]; omega
      · have hne : (Cm.chk c.e c.n c.l == 0) = false := by simpa using hck
        generalize Cm.chk c.e c.n c.l = ck at *
        clear hck owna iC
        go_wp2
        go_roundw
        case rel => exact ⟨k + 1, by omega, by go_num, bel02⟩
        case measure => simp [intOf]; omega
    · have hlt' : ¬ (k : Int) < r.length := by omega
      have hbX := HBB.out.below bel
      go_wp2_with fail
      refine (cdec_any _ bs _ hbX (by omega)).mono ?_
      rintro E w2 ⟨e, n, g, v2, l2, rfl, own2, hR, bel2⟩
      unfold cmv
      have sz2 := bel2.size
      obtain ⟨a2, k2, hv2, _, _⟩ := own2.is.shape
      subst hv2
      obtain ⟨V, hV, hV2, szV, belV, bC, x0, x1, x2⟩ := new_step w2 24 (.int .i64 0) (.int .i64 0) (.slice none 0 0) (.int .i64 e) (.int .i64 n) (.slice a2 l2.length k2)
      have bel0V := (bel.trans (bel2.mono (by omega))).trans (belV.mono (by omega))
      have own2V := own2.below belV
      clear bel bel2 belV own2 hbX bC
      rcases hR with ⟨rfl, hck, henc⟩ | ⟨rfl, rfl, rfl, rfl, _⟩
      · have hsm := Cm.encC_small hck
        have hfit := (small_of (Cm.chk_zero hck).2.2.2.2).fit
        have hl8 := (Bm.chkL_zero (Cm.chk_zero hck).2.2.2.2).2.1
        have HCK := hide hck
        have HEN := hide henc
        clear hck henc
        go_wp2_with fail
        refine (cenc_any e n _ l2 _ own2V.is hfit (by omega)).mono ?_
        rintro E w3 ⟨va, rfl, owna, bel3⟩
        rw [HCK.out]
        rw [Cm.out_ok HCK.out, HEN.out] at owna
        have sz3 := bel3.size
        have bel03 := bel0V.trans (bel3.mono (by omega))
        have hb3 := HBB.out.below bel03
        clear x0 x1 x2 own2V bel3 bel0V
        go_wp2_with fail
        refine (same_yes _ _ bs bs _ owna.is hb3 (by omega) rfl).mono ?_
        rintro E w4 ⟨rfl, bel4⟩
        have sz4 := bel4.size
        have belQ : Below w.heap.size w w4 := bel03.trans (bel4.mono (by omega))
        clear owna hb3 bel4 bel03 hV hV2 szV
        obtain ⟨Q, hQ, szQ, belq, bF, ⟨c0, c1⟩, ⟨f0, f1⟩, ⟨s0, s1⟩⟩ := none_step w4 30
        have szB := belQ.size
        have bel0Q := belQ.trans (belq.mono (by omega))
        have hRF : w4.heap.size < Q.heap.size := by omega
        have hrQ := HH.out.below bel0Q
        have hsQ := HM.out.below bel0Q
        have XC : Hid (Calls Try.prog 32 #[.slice ao r.length cap] Q.drew fun E w' => ∃ v, E = .returned v ∧ ∃ rs, OwnR 24 Q.heap.size w' v rs ∧ cvs rs = cvs r ∧ CopyR Q.heap.size w' rs ∧ Below Q.drew.heap.size Q.drew w') := hide (by
          refine (copyCs_any (.slice ao r.length cap) r Q.drew (hrQ.drewN 1) HFIT.out (by omega)).mono ?_
          rintro E w' ⟨v, rs, h1, h2, h3, h4, h5⟩
          exact ⟨v, h1, rs, h2, h3, h4, h5⟩)
        obtain ⟨⟨fe, fp⟩, hf1⟩ : ∃ f, Cm.fol ep nu 0 (cvs r ++ cvs s) = f := ⟨_, rfl⟩
        obtain ⟨⟨ge, gp⟩, hf2⟩ : ∃ f, Cm.fol ep nu 0 (cvs r) = f := ⟨_, rfl⟩
        obtain ⟨⟨he, hp⟩, hf3⟩ : ∃ f, Cm.fol (Cm.lastE ep (cvs r)) (Cm.lastN nu (cvs r)) 0 (cvs s) = f := ⟨_, rfl⟩
        have hbb := both_bool (cvs r) (cvs s) ep nu
        rw [hf1, hf2, hf3] at hbb
        simp only at hbb
        have q1 := Try.eqlF fe fp 0 0
        have q2 := Try.eqlF ge gp 0 0
        have q3 := Try.eqlF he hp 0 0
        rw [hbb] at q1
        generalize ((ge == 0) && (gp == 0)) = B1 at *
        generalize ((he == 0) && (hp == 0)) = B2 at *
        have HF1 := hide hf1
        have HF2 := hide hf2
        have HF3 := hide hf3
        have HRQ := hide hrQ
        have HSQ := hide hsQ
        clear hf1 hf2 hf3 hbb hrQ hsQ bF belq
        go_wp2_with fail
        go_region_held3 (fun w' => w'.cell? ⟨w4.heap.size, 0, none⟩ = some (.int .i64 0) ∧ w'.cell? ⟨w4.heap.size, 1, none⟩ = some (.int .i64 0)) (first | exact ⟨c0, c1⟩ | exact ⟨d0, d1⟩ | exact ⟨e0, e1⟩ | exact ⟨i0, i1⟩ | go_keep)
          (first
          | (refine call_step rfl 32 #[.tmp 89] #[34] rfl Try.enters32 #[.slice ao r.length cap] (by first | rfl | (simp [Act.eval]; done)) XC.out ?_; rintro v6 w6 ⟨rs, own6, he6, cp6, bel6'⟩; have bel6 : Below Q.heap.size Q w6 := ((Below.refl _ _).drew).trans bel6'; have d0 := (bel6.cell (p := ⟨w4.heap.size, 0, none⟩) hRF).trans c0; have d1 := (bel6.cell (p := ⟨w4.heap.size, 1, none⟩) hRF).trans c1)
          | (refine step_append_coms rfl (.tmp 90) (.tmp 91) 34 rfl 24 Q.heap.size Try.underlying34 Try.info24 v6 rs (by first | rfl | (simp [Act.eval]; done)) own6 (.slice am s.length cpm) s (by first | rfl | (simp [Act.eval]; done)) (HSQ.out.below bel6).1 (HSQ.out.2.one) (by have := cvs_len he6; omega) bel6.size ?_; intro v7 w7 own7 bel7 kp7; have belQ7 : Below Q.heap.size Q w7 := bel6.trans bel7; have e0 := (belQ7.cell (p := ⟨w4.heap.size, 0, none⟩) hRF).trans c0; have e1 := (belQ7.cell (p := ⟨w4.heap.size, 1, none⟩) hRF).trans c1)
          | (go_at_call 12; refine (show Calls Try.prog 12 #[.int .i64 ep, .int .i64 nu, v7] w7 (fun E w' => E = .returned (.agg #[.int .i64 fe, .int .i64 fp]) ∧ Below w7.heap.size w7 w') from (by have hx := cfol_any ep nu v7 (rs ++ s) w7 ⟨own7.row, ((cp6.keepT kp7).inC he6 HRQ.out.2).app (HSQ.out.2.below belQ7)⟩ ((fit_same he6 HFIT.out).app HFM.out) (by have := cvs_len he6; rw [List.length_append]; omega); rw [show cvs (rs ++ s) = cvs r ++ cvs s by rw [← he6]; unfold cvs; rw [List.map_append], HF1.out] at hx; exact hx)).mono ?_; rintro E w8 ⟨rfl, bel8'⟩; have bel8 : Below Q.heap.size Q w8 := belQ7.trans (bel8'.mono belQ7.size); have i0 := (bel8.cell (p := ⟨w4.heap.size, 0, none⟩) hRF).trans c0; have i1 := (bel8.cell (p := ⟨w4.heap.size, 1, none⟩) hRF).trans c1))
        have sz8 := bel8.size
        have hRF8 : w4.heap.size < w8.heap.size := by omega
        have X2 : Hid (∀ w', Below w8.heap.size w8 w' → Calls Try.prog 12 #[.int .i64 ep, .int .i64 nu, .slice ao r.length cap] w' fun E w'' => E = .returned (.agg #[.int .i64 ge, .int .i64 gp]) ∧ Below w'.heap.size w' w'') := hide (fun w' hb => by
          have := cfol_any ep nu _ r w' ((HRQ.out.below bel8).below hb) HFIT.out (by omega)
          rw [HF2.out] at this
          exact this)
        clear own6 own7 cp6 he6 kp7 bel6 bel7 belQ7 XC d0 d1 e0 e1 c0 c1 f0 f1 s0 s1 q1
        go_wp2_with fail
        go_region_held3 (fun w' => w'.cell? ⟨w4.heap.size, 0, none⟩ = some (.int .i64 0) ∧ w'.cell? ⟨w4.heap.size, 1, none⟩ = some (.int .i64 0)) (first | exact ⟨i0, i1⟩ | exact ⟨j0, j1⟩ | go_keep)
          (first
          | (go_at_call 12; refine (X2.out _ ((Below.refl _ _).drew)).mono ?_; rintro E w9 ⟨rfl, bel9'⟩; have bel9 : Below w8.heap.size w8 w9 := ((Below.refl _ _).drew).trans bel9'; have j0 := (bel9.cell (p := ⟨w4.heap.size, 0, none⟩) hRF8).trans i0; have j1 := (bel9.cell (p := ⟨w4.heap.size, 1, none⟩) hRF8).trans i1; clear bel9'))
        have belQ9 : Below Q.heap.size Q w9 := bel8.trans (bel9.mono (by omega))
        have bel09 := bel0Q.trans (belQ9.mono (by omega))
        have sz9 := bel9.size
        have hRF9 : w4.heap.size < w9.heap.size := by omega
        have HS9 := hide (HSQ.out.below belQ9)
        clear X2 bel8 bel9 belQ9 bel0Q i0 i1 q2
        by_cases hz : 0 < r.length
        · obtain ⟨b1, o1, cq, hvx, hB, hcell⟩ := HCELL.out hz
          simp only [Value.slice.injEq, true_and] at hvx
          obtain ⟨rfl, rfl⟩ := hvx
          obtain ⟨t, ht⟩ : ∃ t, r.length = t + 1 := ⟨r.length - 1, by omega⟩
          obtain ⟨c, hc⟩ : ∃ c, r[t]? = some c := ⟨r[t], by rw [List.getElem?_eq_getElem]⟩
          obtain ⟨le, ln⟩ := last_at hc ht ep nu
          obtain ⟨d0, d1, d2⟩ := row_at hcell bel09 hB hc
          have hf3 := HF3.out
          rw [le, ln] at hf3
          have hz' : (0 : Int) < (r.length : Int) := by omega
          have hsub : (r.length : Int) - 1 = (t : Int) := by omega
          have hwr : IntKind.i64.wrap ((r.length : Int) - 1) = (t : Int) := by rw [hsub]; exact wrap_i64_small _ (by omega) (by omega)
          have ht0 : (0 : Int) ≤ (t : Int) := by omega
          have htl : (t : Int) < (r.length : Int) := by omega
          have X3 : Hid (∀ w', Below w9.heap.size w9 w' → Calls Try.prog 12 #[.int .i64 c.e, .int .i64 c.n, .slice am s.length cpm] w' fun E w'' => E = .returned (.agg #[.int .i64 he, .int .i64 hp]) ∧ Below w'.heap.size w' w'') := hide (fun w' hb => by
            have := cfol_any c.e c.n _ s w' (HS9.out.below hb) HFM.out (by omega)
            rw [hf3] at this
            exact this)
          clear hcell hc le ln hf3 HF1 HF2 HF3 ht
          go_wp2_with fail
          go_quiet (fail)
          have belA : Below w9.heap.size w9 (w9.drewN nq) := below_drewN (Below.refl _ _) nq
          generalize hwA : w9.drewN nq = wA at *
          have k0 := (belA.cell (p := ⟨w4.heap.size, 0, none⟩) hRF9).trans j0
          have k1 := (belA.cell (p := ⟨w4.heap.size, 1, none⟩) hRF9).trans j1
          have szA := belA.size
          have hRFA : w4.heap.size < wA.heap.size := by omega
          clear d0 d1 d2 hsub hwr
          go_wp2_with fail
          go_region_held3 (fun w' => w'.cell? ⟨w4.heap.size, 0, none⟩ = some (.int .i64 0) ∧ w'.cell? ⟨w4.heap.size, 1, none⟩ = some (.int .i64 0)) (first | exact ⟨k0, k1⟩ | exact ⟨m0, m1⟩ | go_keep)
            (first
            | (go_at_call 12; refine (X3.out _ (belA.drew)).mono ?_; rintro E wB ⟨rfl, belB'⟩; have belB : Below wA.heap.size wA wB := ((Below.refl _ _).drew).trans belB'; have m0 := (belB.cell (p := ⟨w4.heap.size, 0, none⟩) hRFA).trans k0; have m1 := (belB.cell (p := ⟨w4.heap.size, 1, none⟩) hRFA).trans k1; clear belB'))
          have bel0B := (bel09.trans (belA.mono (by omega))).trans (belB.mono (by omega))
          clear X3 k0 k1 m0 m1 j0 j1 belA belB bel09
          cases B1 <;> cases B2
          all_goals
            go_wp2
            go_ret
            exact ⟨rfl, bel0B⟩
        · have hz' : ¬ (0 : Int) < (r.length : Int) := by omega
          have hr0 : r = [] := List.eq_nil_of_length_eq_zero (by omega)
          have hf3 : Cm.fol ep nu 0 (cvs s) = (he, hp) := by
            have := HF3.out
            rw [hr0] at this
            exact this
          have X3 : Hid (∀ w', Below w9.heap.size w9 w' → Calls Try.prog 12 #[.int .i64 ep, .int .i64 nu, .slice am s.length cpm] w' fun E w'' => E = .returned (.agg #[.int .i64 he, .int .i64 hp]) ∧ Below w'.heap.size w' w'') := hide (fun w' hb => by
            have := cfol_any ep nu _ s w' (HS9.out.below hb) HFM.out (by omega)
            rw [hf3] at this
            exact this)
          clear hr0 hf3 HF1 HF2 HF3
          go_wp2_with fail
          go_region_held3 (fun w' => w'.cell? ⟨w4.heap.size, 0, none⟩ = some (.int .i64 0) ∧ w'.cell? ⟨w4.heap.size, 1, none⟩ = some (.int .i64 0)) (first | exact ⟨j0, j1⟩ | exact ⟨m0, m1⟩ | go_keep)
            (first
            | (go_at_call 12; refine (X3.out _ ((Below.refl _ _).drew)).mono ?_; rintro E wB ⟨rfl, belB'⟩; have belB : Below w9.heap.size w9 wB := ((Below.refl _ _).drew).trans belB'; have m0 := (belB.cell (p := ⟨w4.heap.size, 0, none⟩) hRF9).trans j0; have m1 := (belB.cell (p := ⟨w4.heap.size, 1, none⟩) hRF9).trans j1; clear belB'))
          have bel0B := bel09.trans (belB.mono (by omega))
          clear X3 m0 m1 j0 j1 belB bel09
          cases B1 <;> cases B2
          all_goals
            go_wp2
            go_ret
            exact ⟨rfl, bel0B⟩
      · simp only [List.length_nil] at hV hV2 x2
        have belQ := bel0V
        clear bel0V own2V
        obtain ⟨Q, hQ, szQ, belq, bF, ⟨c0, c1⟩, ⟨f0, f1⟩, ⟨s0, s1⟩⟩ := none_step V 30
        have szB := belQ.size
        have bel0Q := belQ.trans (belq.mono (by omega))
        rw [szV] at bF c0 c1 f0 f1 s0 s1
        have hRF : (w2.heap.size+1) < Q.heap.size := by omega
        have hrQ := HH.out.below bel0Q
        have hsQ := HM.out.below bel0Q
        have XC : Hid (Calls Try.prog 32 #[.slice ao r.length cap] Q.drew fun E w' => ∃ v, E = .returned v ∧ ∃ rs, OwnR 24 Q.heap.size w' v rs ∧ cvs rs = cvs r ∧ CopyR Q.heap.size w' rs ∧ Below Q.drew.heap.size Q.drew w') := hide (by
          refine (copyCs_any (.slice ao r.length cap) r Q.drew (hrQ.drewN 1) HFIT.out (by omega)).mono ?_
          rintro E w' ⟨v, rs, h1, h2, h3, h4, h5⟩
          exact ⟨v, h1, rs, h2, h3, h4, h5⟩)
        obtain ⟨⟨fe, fp⟩, hf1⟩ : ∃ f, Cm.fol ep nu 0 (cvs r ++ cvs s) = f := ⟨_, rfl⟩
        obtain ⟨⟨ge, gp⟩, hf2⟩ : ∃ f, Cm.fol ep nu 0 (cvs r) = f := ⟨_, rfl⟩
        obtain ⟨⟨he, hp⟩, hf3⟩ : ∃ f, Cm.fol (Cm.lastE ep (cvs r)) (Cm.lastN nu (cvs r)) 0 (cvs s) = f := ⟨_, rfl⟩
        have hbb := both_bool (cvs r) (cvs s) ep nu
        rw [hf1, hf2, hf3] at hbb
        simp only at hbb
        have q1 := Try.eqlF fe fp 0 0
        have q2 := Try.eqlF ge gp 0 0
        have q3 := Try.eqlF he hp 0 0
        rw [hbb] at q1
        generalize ((ge == 0) && (gp == 0)) = B1 at *
        generalize ((he == 0) && (hp == 0)) = B2 at *
        have HF1 := hide hf1
        have HF2 := hide hf2
        have HF3 := hide hf3
        have HRQ := hide hrQ
        have HSQ := hide hsQ
        clear hf1 hf2 hf3 hbb hrQ hsQ bF belq
        go_wp2_with fail
        go_region_held3 (fun w' => w'.cell? ⟨(w2.heap.size+1), 0, none⟩ = some (.int .i64 0) ∧ w'.cell? ⟨(w2.heap.size+1), 1, none⟩ = some (.int .i64 0)) (first | exact ⟨c0, c1⟩ | exact ⟨d0, d1⟩ | exact ⟨e0, e1⟩ | exact ⟨i0, i1⟩ | go_keep)
          (first
          | (refine call_step rfl 32 #[.tmp 89] #[34] rfl Try.enters32 #[.slice ao r.length cap] (by first | rfl | (simp [Act.eval]; done)) XC.out ?_; rintro v6 w6 ⟨rs, own6, he6, cp6, bel6'⟩; have bel6 : Below Q.heap.size Q w6 := ((Below.refl _ _).drew).trans bel6'; have d0 := (bel6.cell (p := ⟨(w2.heap.size+1), 0, none⟩) hRF).trans c0; have d1 := (bel6.cell (p := ⟨(w2.heap.size+1), 1, none⟩) hRF).trans c1)
          | (refine step_append_coms rfl (.tmp 90) (.tmp 91) 34 rfl 24 Q.heap.size Try.underlying34 Try.info24 v6 rs (by first | rfl | (simp [Act.eval]; done)) own6 (.slice am s.length cpm) s (by first | rfl | (simp [Act.eval]; done)) (HSQ.out.below bel6).1 (HSQ.out.2.one) (by have := cvs_len he6; omega) bel6.size ?_; intro v7 w7 own7 bel7 kp7; have belQ7 : Below Q.heap.size Q w7 := bel6.trans bel7; have e0 := (belQ7.cell (p := ⟨(w2.heap.size+1), 0, none⟩) hRF).trans c0; have e1 := (belQ7.cell (p := ⟨(w2.heap.size+1), 1, none⟩) hRF).trans c1)
          | (go_at_call 12; refine (show Calls Try.prog 12 #[.int .i64 ep, .int .i64 nu, v7] w7 (fun E w' => E = .returned (.agg #[.int .i64 fe, .int .i64 fp]) ∧ Below w7.heap.size w7 w') from (by have hx := cfol_any ep nu v7 (rs ++ s) w7 ⟨own7.row, ((cp6.keepT kp7).inC he6 HRQ.out.2).app (HSQ.out.2.below belQ7)⟩ ((fit_same he6 HFIT.out).app HFM.out) (by have := cvs_len he6; rw [List.length_append]; omega); rw [show cvs (rs ++ s) = cvs r ++ cvs s by rw [← he6]; unfold cvs; rw [List.map_append], HF1.out] at hx; exact hx)).mono ?_; rintro E w8 ⟨rfl, bel8'⟩; have bel8 : Below Q.heap.size Q w8 := belQ7.trans (bel8'.mono belQ7.size); have i0 := (bel8.cell (p := ⟨(w2.heap.size+1), 0, none⟩) hRF).trans c0; have i1 := (bel8.cell (p := ⟨(w2.heap.size+1), 1, none⟩) hRF).trans c1))
        have sz8 := bel8.size
        have hRF8 : (w2.heap.size+1) < w8.heap.size := by omega
        have X2 : Hid (∀ w', Below w8.heap.size w8 w' → Calls Try.prog 12 #[.int .i64 ep, .int .i64 nu, .slice ao r.length cap] w' fun E w'' => E = .returned (.agg #[.int .i64 ge, .int .i64 gp]) ∧ Below w'.heap.size w' w'') := hide (fun w' hb => by
          have := cfol_any ep nu _ r w' ((HRQ.out.below bel8).below hb) HFIT.out (by omega)
          rw [HF2.out] at this
          exact this)
        clear own6 own7 cp6 he6 kp7 bel6 bel7 belQ7 XC d0 d1 e0 e1 c0 c1 f0 f1 s0 s1 q1
        go_wp2_with fail
        go_region_held3 (fun w' => w'.cell? ⟨(w2.heap.size+1), 0, none⟩ = some (.int .i64 0) ∧ w'.cell? ⟨(w2.heap.size+1), 1, none⟩ = some (.int .i64 0)) (first | exact ⟨i0, i1⟩ | exact ⟨j0, j1⟩ | go_keep)
          (first
          | (go_at_call 12; refine (X2.out _ ((Below.refl _ _).drew)).mono ?_; rintro E w9 ⟨rfl, bel9'⟩; have bel9 : Below w8.heap.size w8 w9 := ((Below.refl _ _).drew).trans bel9'; have j0 := (bel9.cell (p := ⟨(w2.heap.size+1), 0, none⟩) hRF8).trans i0; have j1 := (bel9.cell (p := ⟨(w2.heap.size+1), 1, none⟩) hRF8).trans i1; clear bel9'))
        have belQ9 : Below Q.heap.size Q w9 := bel8.trans (bel9.mono (by omega))
        have bel09 := bel0Q.trans (belQ9.mono (by omega))
        have sz9 := bel9.size
        have hRF9 : (w2.heap.size+1) < w9.heap.size := by omega
        have HS9 := hide (HSQ.out.below belQ9)
        clear X2 bel8 bel9 belQ9 bel0Q i0 i1 q2
        by_cases hz : 0 < r.length
        · obtain ⟨b1, o1, cq, hvx, hB, hcell⟩ := HCELL.out hz
          simp only [Value.slice.injEq, true_and] at hvx
          obtain ⟨rfl, rfl⟩ := hvx
          obtain ⟨t, ht⟩ : ∃ t, r.length = t + 1 := ⟨r.length - 1, by omega⟩
          obtain ⟨c, hc⟩ : ∃ c, r[t]? = some c := ⟨r[t], by rw [List.getElem?_eq_getElem]⟩
          obtain ⟨le, ln⟩ := last_at hc ht ep nu
          obtain ⟨d0, d1, d2⟩ := row_at hcell bel09 hB hc
          have hf3 := HF3.out
          rw [le, ln] at hf3
          have hz' : (0 : Int) < (r.length : Int) := by omega
          have hsub : (r.length : Int) - 1 = (t : Int) := by omega
          have hwr : IntKind.i64.wrap ((r.length : Int) - 1) = (t : Int) := by rw [hsub]; exact wrap_i64_small _ (by omega) (by omega)
          have ht0 : (0 : Int) ≤ (t : Int) := by omega
          have htl : (t : Int) < (r.length : Int) := by omega
          have X3 : Hid (∀ w', Below w9.heap.size w9 w' → Calls Try.prog 12 #[.int .i64 c.e, .int .i64 c.n, .slice am s.length cpm] w' fun E w'' => E = .returned (.agg #[.int .i64 he, .int .i64 hp]) ∧ Below w'.heap.size w' w'') := hide (fun w' hb => by
            have := cfol_any c.e c.n _ s w' (HS9.out.below hb) HFM.out (by omega)
            rw [hf3] at this
            exact this)
          clear hcell hc le ln hf3 HF1 HF2 HF3 ht
          go_wp2_with fail
          go_quiet (fail)
          have belA : Below w9.heap.size w9 (w9.drewN nq) := below_drewN (Below.refl _ _) nq
          generalize hwA : w9.drewN nq = wA at *
          have k0 := (belA.cell (p := ⟨(w2.heap.size+1), 0, none⟩) hRF9).trans j0
          have k1 := (belA.cell (p := ⟨(w2.heap.size+1), 1, none⟩) hRF9).trans j1
          have szA := belA.size
          have hRFA : (w2.heap.size+1) < wA.heap.size := by omega
          clear d0 d1 d2 hsub hwr
          go_wp2_with fail
          go_region_held3 (fun w' => w'.cell? ⟨(w2.heap.size+1), 0, none⟩ = some (.int .i64 0) ∧ w'.cell? ⟨(w2.heap.size+1), 1, none⟩ = some (.int .i64 0)) (first | exact ⟨k0, k1⟩ | exact ⟨m0, m1⟩ | go_keep)
            (first
            | (go_at_call 12; refine (X3.out _ (belA.drew)).mono ?_; rintro E wB ⟨rfl, belB'⟩; have belB : Below wA.heap.size wA wB := ((Below.refl _ _).drew).trans belB'; have m0 := (belB.cell (p := ⟨(w2.heap.size+1), 0, none⟩) hRFA).trans k0; have m1 := (belB.cell (p := ⟨(w2.heap.size+1), 1, none⟩) hRFA).trans k1; clear belB'))
          have bel0B := (bel09.trans (belA.mono (by omega))).trans (belB.mono (by omega))
          clear X3 k0 k1 m0 m1 j0 j1 belA belB bel09
          cases B1 <;> cases B2
          all_goals
            go_wp2
            go_ret
            exact ⟨rfl, bel0B⟩
        · have hz' : ¬ (0 : Int) < (r.length : Int) := by omega
          have hr0 : r = [] := List.eq_nil_of_length_eq_zero (by omega)
          have hf3 : Cm.fol ep nu 0 (cvs s) = (he, hp) := by
            have := HF3.out
            rw [hr0] at this
            exact this
          have X3 : Hid (∀ w', Below w9.heap.size w9 w' → Calls Try.prog 12 #[.int .i64 ep, .int .i64 nu, .slice am s.length cpm] w' fun E w'' => E = .returned (.agg #[.int .i64 he, .int .i64 hp]) ∧ Below w'.heap.size w' w'') := hide (fun w' hb => by
            have := cfol_any ep nu _ s w' (HS9.out.below hb) HFM.out (by omega)
            rw [hf3] at this
            exact this)
          clear hr0 hf3 HF1 HF2 HF3
          go_wp2_with fail
          go_region_held3 (fun w' => w'.cell? ⟨(w2.heap.size+1), 0, none⟩ = some (.int .i64 0) ∧ w'.cell? ⟨(w2.heap.size+1), 1, none⟩ = some (.int .i64 0)) (first | exact ⟨j0, j1⟩ | exact ⟨m0, m1⟩ | go_keep)
            (first
            | (go_at_call 12; refine (X3.out _ ((Below.refl _ _).drew)).mono ?_; rintro E wB ⟨rfl, belB'⟩; have belB : Below w9.heap.size w9 wB := ((Below.refl _ _).drew).trans belB'; have m0 := (belB.cell (p := ⟨(w2.heap.size+1), 0, none⟩) hRF9).trans j0; have m1 := (belB.cell (p := ⟨(w2.heap.size+1), 1, none⟩) hRF9).trans j1; clear belB'))
          have bel0B := bel09.trans (belB.mono (by omega))
          clear X3 m0 m1 j0 j1 belB bel09
          cases B1 <;> cases B2
          all_goals
            go_wp2
            go_ret
            exact ⟨rfl, bel0B⟩

end Go.Proofs.Ytlfgffldoiedlaa
