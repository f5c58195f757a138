/- The walk of TableFold. -/
import Derived.Test.YtlfhpbiapnjghaaTv
import Derived.Test.YtlfhpbiapnjghaaFrk
import Derived.BigQuiet
namespace Go.Proofs.Ytlfhpbiapnjghaa
open Go.RowKit
open Bm (Ov)
set_option linter.unusedVariables false

/-- Three tables that New has just made, one behind the other. -/
theorem three_new {w0 w1 w2 w3 : World} (A : Tb (w0.heap.size + 1) w0.heap.size w1 []) (b1 : Below w0.heap.size w0 w1) (B : Tb (w1.heap.size + 1) w1.heap.size w2 []) (b2 : Below w1.heap.size w1 w2) (C : Tb (w2.heap.size + 1) w2.heap.size w3 []) (b3 : Below w2.heap.size w2 w3) :
    Tb (w0.heap.size + 1) w0.heap.size w3 [] ∧ Tb (w1.heap.size + 1) w1.heap.size w3 [] ∧ Below w0.heap.size w0 w3 ∧ w0.heap.size + 2 ≤ w1.heap.size ∧ w1.heap.size + 2 ≤ w2.heap.size ∧ w2.heap.size + 2 ≤ w3.heap.size := by
  have q1 := A.plt
  have q2 := B.plt
  have q3 := C.plt
  have b23 : Below w1.heap.size w1 w3 := b2.trans (b3.mono (by omega))
  exact ⟨A.below b23, B.below b3, b1.trans (b23.mono (by omega)), by omega, by omega, by omega⟩

set_option maxRecDepth 100000 in
set_option maxHeartbeats 8000000 in
theorem tableFold_walk (v : Value) (r : List Rw) (at_ : Int) (w : World) (h : IsLL w v r) (hf : FitL r) (hr : r.length * 24 ≤ 140737488351232) (hat : (Lit.int .i64 at_).wf = true) :
    Calls Try.prog 6 #[v, .int .i64 at_] w fun E w' => E = .returned (.bool true) ∧ Below w.heap.size w w' := by
  have HL := hide h
  obtain ⟨ao, cap, hv, hcap, hcm⟩ := h.1.shape
  subst hv
  have HF := hide hf
  have HI := hide (i64_of hat)
  clear h hf hat
  go_enter Try.func6, Try.ntmps6
  go_wp2_with fail
  refine (lives_any w).mono ?_
  rintro E w0 ⟨rfl, b0⟩
  have X0 := hide (tsmall_any _ r w0 (HL.out.below b0) (by omega))
  go_wp2_with fail
  refine X0.out.mono ?_
  rintro E wx ⟨hor, rfl⟩
  rcases hor with rfl | ⟨rfl, HS⟩
  · clear X0
    go_wp2
    go_ret
    exact ⟨rfl, b0⟩
  clear X0
  go_wp2_with fail
  refine (tnew_any w0).mono ?_
  rintro E w1 ⟨rfl, A1, b1⟩
  go_wp2_with fail
  refine (tnew_any w1).mono ?_
  rintro E w2 ⟨rfl, B1, b2⟩
  go_wp2_with fail
  refine (tnew_any w2).mono ?_
  rintro E w3 ⟨rfl, C3, b3⟩
  obtain ⟨A3, B3, b03, z1, z2, z3⟩ := three_new A1 b1 B1 b2 C3 b3
  have B0w : Below w.heap.size w w3 := b0.trans (b03.mono b0.size)
  have zw := b0.size
  clear A1 B1 b1 b2 b3 b03 b0
  obtain ⟨pa, hpa⟩ : ∃ pa, w0.heap.size + 1 = pa := ⟨_, rfl⟩
  obtain ⟨ba, hba⟩ : ∃ ba, w0.heap.size = ba := ⟨_, rfl⟩
  obtain ⟨pb, hpb⟩ : ∃ pb, w1.heap.size + 1 = pb := ⟨_, rfl⟩
  obtain ⟨bb, hbb⟩ : ∃ bb, w1.heap.size = bb := ⟨_, rfl⟩
  obtain ⟨pc, hpc⟩ : ∃ pc, w2.heap.size + 1 = pc := ⟨_, rfl⟩
  obtain ⟨bc, hbc⟩ : ∃ bc, w2.heap.size = bc := ⟨_, rfl⟩
  rw [hpa, hba] at A3
  rw [hpb, hbb] at B3
  rw [hpc, hbc] at C3
  rw [hpa, hpb, hpc]
  have ORD : Hid (w.heap.size ≤ ba ∧ ba < pa ∧ pa < bb ∧ bb < pb ∧ pb < bc ∧ bc < pc ∧ pc < w3.heap.size) := hide (by omega)
  clear hpa hba hpb hbb hpc hbc z1 z2 z3 zw
  have HA3 := hide A3
  have HB3 := hide B3
  have HC3 := hide C3
  have HBw := hide B0w
  clear A3 B3 C3 B0w
  obtain ⟨n, hnn⟩ : ∃ n, r.length = n := ⟨_, rfl⟩
  rw [hnn] at hcap hr ⊢
  have HN := hide hnn
  have HFULL := hide fun (h0 : 0 < r.length) => HL.out.full h0
  rw [hnn] at HFULL
  clear hnn
  go_wp2
  go_loopw [9, 8] (fun i ov wr => ∃ (k : Nat), k ≤ n ∧ i = .int .i64 k ∧ Hid (OwnO 28 w3.heap.size wr ov (flat (r.take k))) ∧ Hid (Tb pa ba wr (Tm.app [] (flat (r.take k)))) ∧ Hid (∀ o ∈ flat (r.take k), o.c = 0) ∧ Hid (Out (fun g => g = ba) w3 wr)) (fun i _ _ => n - (intOf i).toNat)
  case atStart => exact ⟨0, by omega, rfl, hide (OwnO.nil _ _ _), HA3, hide (fun o ho => by simp [flat] at ho), hide (Out.refl _ _)⟩
  case round =>
    obtain ⟨k, hk, rfl, HOW, HTA, HOK, HOUT⟩ := hrel
    have HBr : Hid (Below w.heap.size w wr) := hide (HBw.out.trans (HOUT.out.below (fun g hg => by have := ORD.out; omega) HBw.out.size))
    by_cases hlt : k < n
    · obtain ⟨a, ha⟩ : ∃ a, r[k]? = some a := ⟨r[k]'(by have := HN.out; omega), by rw [List.getElem?_eq_getElem]⟩
      obtain ⟨b1, o1, cq, hvx, _, _, hB, hcell⟩ := HFULL.out (by have := HN.out; omega)
      simp only [Value.slice.injEq, true_and] at hvx
      obtain ⟨rfl, rfl⟩ := hvx
      have hc0 := hcell k a ha
      have hma := List.mem_of_getElem? ha
      have isa := HL.out.2 a hma
      obtain ⟨av, ac, hav, _, _⟩ := isa.shape
      have hn40 := HS.out.1 a hma
      have hfl := flat_len HS.out k
      have hal := Tm.app_len (flat (r.take k)) []
      have HNX := hide (flat_next ha)
      have HCE : Hid (∀ W, Below w.heap.size w W → W.cell? ⟨b1, o1 + k, none⟩ = some (.slice av a.l.length ac) ∧ IsO W (.slice av a.l.length ac) a.l) := hide fun W hb => ⟨by rw [← hav]; exact (hb.cell (p := ⟨b1, o1 + k, none⟩) hB).trans hc0, by rw [← hav]; exact isa.below hb⟩
      have X1 := hide (tapply_any pa ba wr _ _ a.l HTA.out (HCE.out wr HBr.out).2 (HF.out a hma) (by simp at hal; omega))
      have e1 := (HCE.out wr HBr.out).1
      have hlt' : (k : Int) < n := by omega
      have hk0 : (0 : Int) ≤ (k : Int) := by omega
      simp only [List.length_nil, Nat.zero_add] at hal
      clear hcell hc0 isa hav ha
      go_wp2_with fail
      refine X1.out.mono ?_
      rintro E wa ⟨rfl, Ta, Oa⟩
      have HBa : Hid (Below w.heap.size w wa) := hide (HBr.out.trans (Oa.below (fun g hg => by have := ORD.out; omega) HBr.out.size))
      rcases Bm.first_two a.l with h0 | h2
      · rw [h0]
        have HO1 : Hid (OwnO 28 w3.heap.size wa _ (flat (r.take k))) := hide (HOW.out.out Oa (fun g hg => by have := ORD.out; omega))
        have HZ := hide (Bm.first_zero h0)
        rw [aft_ok HZ.out] at Ta
        have HT1 := hide Ta
        have HO3 := hide (HOUT.out.trans Oa fun g hg => .inl hg)
        obtain ⟨e2, is2⟩ := HCE.out wa HBa.out
        have ow := HO1.out
        obtain ⟨fk, hfk⟩ : ∃ fk, flat (r.take k) = fk := ⟨_, rfl⟩
        rw [hfk] at ow hfl
        have hlen : (fk.length + a.l.length) * 40 ≤ 140737488355328 := by omega
        have hz : w3.heap.size ≤ wa.heap.size := HO3.out.size
        have HFK := hide hfk
        clear Ta Oa h0 e1 X1 hfk HO1 HOW HTA HOUT HBr
        go_wp2_with (at_builtin; refine wpList_append_ops rfl (.tmp 34) (.tmp 38) 33 rfl 28 w3.heap.size Try.underlying33 Try.info28 _ fk rfl ow _ a.l rfl is2 hlen hz ?_)
        rintro v1 wb ho1 hb1 _
        have R1 : Hid (OwnO 28 w3.heap.size wb v1 (flat (r.take (k + 1)))) := hide (by rw [HNX.out, HFK.out]; exact ho1)
        have R2 : Hid (Tb pa ba wb (Tm.app [] (flat (r.take (k + 1))))) := hide (by
          have o := ORD.out
          rw [HNX.out, Tm.app_app]
          exact HT1.out.agree (hb1.block pa (by omega)) (hb1.block ba (by omega)))
        have R3 : Hid (∀ o ∈ flat (r.take (k + 1)), o.c = 0) := hide (by
          rw [HNX.out]
          intro o ho
          rcases List.mem_append.1 ho with ho | ho
          · exact HOK.out o ho
          · exact HZ.out o ho)
        have R4 : Hid (Out (fun g => g = ba) w3 wb) := hide (HO3.out.trans (Out.of_base (F := fun g => w3.heap.size ≤ g) hb1 (fun g h1 _ => h1)) fun g hg => .inr hg)
        clear ho1 hb1 ow is2 e2 HT1 HO3 HOK
        go_wp2
        go_roundw
        case rel => exact ⟨k + 1, by omega, by go_num, R1, R2, R3, R4⟩
        case measure => simp [intOf]; omega
      · rw [h2]
        clear X1 e1 Ta Oa
        go_wp2
        go_ret
        exact ⟨rfl, HBa.out⟩
    · have hlt' : ¬ (k : Int) < n := by omega
      obtain ⟨F, hF⟩ : ∃ F, flat (r.take k) = F := ⟨_, rfl⟩
      have hFl := flat_len HS.out k
      have hFf := flat_fit HF.out k
      rw [hF] at HOW HTA HOK hFl hFf
      have HUT := hide (Tm.up_app F (t := []) List.Pairwise.nil)
      have hTl := Tm.app_len F []
      have hTf : FitO (Tm.app [] F) := fit_app List.Pairwise.nil fit_nil hFf
      have hTok : ∀ o ∈ Tm.app [] F, o.c = 0 := fun o ho => by
        rcases Tm.mem_app F o List.Pairwise.nil ho with h1 | h1
        · simp at h1
        · exact HOK.out o h1
      have hTs := Tm.app_self HUT.out
      obtain ⟨T, hT⟩ : ∃ T, Tm.app [] F = T := ⟨_, rfl⟩
      rw [hT] at HTA HUT hTl hTf hTok hTs
      simp only [List.length_nil, Nat.zero_add] at hTl
      have HFF := hide hFf
      have HTF := hide hTf
      have HTOK := hide hTok
      have X1 := hide (tapply_any pb bb wr [] _ F (HB3.out.out HOUT.out (by have := ORD.out; omega) (by have := ORD.out; omega)) HOW.out.is hFf (by show 0 + F.length ≤ _; omega))
      rw [aft_ok HOK.out, Bm.first_all HOK.out, hT] at X1
      obtain ⟨oao, ocap, hov, _, _⟩ := HOW.out.is.shape
      obtain ⟨m, hm⟩ : ∃ m, F.length = m := ⟨_, rfl⟩
      rw [hm] at hov hFl hTl
      subst hov
      have HTT : Hid (T.take m = T) := hide (List.take_of_length_le hTl)
      have HM := hide hm
      have HT := hide hT
      have HTS := hide hTs
      clear hT hTf hTok hFf hm hTs hF
      go_wp2_with fail
      refine X1.out.mono ?_
      rintro E wa ⟨rfl, Tb1, Oa⟩
      have HA1 := hide (HTA.out.out Oa (by have := ORD.out; omega) (by have := ORD.out; omega))
      have HB1 := hide Tb1
      have HOa := hide Oa
      have HC1 := hide ((HC3.out.out HOUT.out (by have := ORD.out; omega) (by have := ORD.out; omega)).out Oa (by have := ORD.out; omega) (by have := ORD.out; omega))
      have X2 := hide (lall_any (.pointer (some ⟨pa, 0, none⟩)) wa T m (by omega) (tops_of HA1.out HTF.out (by omega)))
      rw [HTT.out] at X2
      clear X1 Tb1 Oa HTA
      go_wp2_with fail
      refine X2.out.mono ?_
      rintro E wb ⟨v2, rfl, own2, b2⟩
      have HA2 := hide (HA1.out.below b2)
      have HB2 := hide (HB1.out.below b2)
      have HOb := hide (HOa.out.trans (Out.of_below (F := fun g => g = bb) b2) fun g hg => .inl hg)
      have X3 := hide (tapply_any pc bc wb [] v2 T (HC1.out.below b2) own2.is HTF.out (by show 0 + T.length ≤ _; omega))
      rw [aft_ok HTOK.out, Bm.first_all HTOK.out, HTS.out] at X3
      obtain ⟨v2a, v2c, hv2, _, _⟩ := own2.is.shape
      subst hv2
      clear X2 own2 b2 HA1 HB1 HC1 HOa
      go_wp2_with fail
      refine X3.out.mono ?_
      rintro E wc ⟨rfl, Tc1, Oc⟩
      have HA3' := hide (HA2.out.out Oc (by have := ORD.out; omega) (by have := ORD.out; omega))
      have HB3' := hide (HB2.out.out Oc (by have := ORD.out; omega) (by have := ORD.out; omega))
      have HC3' := hide Tc1
      have HOc : Hid (Out (fun g => g = bb ∨ g = bc) wr wc) := hide ((HOb.out.mono (G := fun g => g = bb ∨ g = bc) fun g hg => .inl (.inl hg)).trans Oc fun g hg => .inl (.inr hg))
      have X4 := hide (tsame_any pa ba pb bb wc T T HA3'.out HB3'.out)
      rw [smt_self HUT.out] at X4
      clear X3 Tc1 Oc HA2 HB2 HOb
      go_wp2_with fail
      refine X4.out.mono ?_
      rintro E wd ⟨rfl, b4⟩
      have HA4 := hide (HA3'.out.below b4)
      have HC4 := hide (HC3'.out.below b4)
      have HOd := hide (HOc.out.trans (Out.of_below (F := fun g => g = bb) b4) fun g hg => .inl (.inl hg))
      have X5 := hide (tsame_any pa ba pc bc wd T T HA4.out HC4.out)
      rw [smt_self HUT.out] at X5
      clear X4 b4 HA3' HB3' HC3' HOc
      go_wp2_with fail
      refine X5.out.mono ?_
      rintro E we ⟨rfl, b5⟩
      have HA5 := hide (HA4.out.below b5)
      have HOe := hide (HOd.out.trans (Out.of_below (F := fun g => g = bb) b5) fun g hg => .inl (.inl hg))
      have HBe : Hid (Below w.heap.size w we) := hide (HBr.out.trans (HOe.out.below (fun g hg => by have := ORD.out; omega) HBr.out.size))
      have HRow := hide (HOW.out.out HOe.out fun g hg => by have := ORD.out; omega)
      clear X5 b5 HA4 HC4 HOd HOW HOUT HBr
      by_cases hm2 : m < 2
      · have hm2' : (m : Int) < 2 := by omega
        go_wp2
        go_ret
        exact ⟨rfl, HBe.out⟩
      · have hm2' : ¬ (m : Int) < 2 := by omega
        obtain ⟨g, hg⟩ : ∃ g, oao = some ⟨g, 0, none⟩ := by
          rcases HRow.out.2 with ⟨hv, hz⟩ | ⟨g, cp, cur, hv, _⟩
          · have := HM.out
            omega
          · simp only [Value.slice.injEq] at hv
            exact ⟨g, hv.1⟩
        subst hg
        have X6 := hide (pickx_any at_ ((m : Int) - 1) we (by omega) (by omega) HI.out)
        obtain ⟨hp1, hp2⟩ := pk_lt at_ ((m : Int) - 1) (by omega)
        obtain ⟨q, hq⟩ : ∃ q : Nat, pk at_ ((m : Int) - 1) = q := ⟨(pk at_ ((m : Int) - 1)).toNat, by omega⟩
        rw [hq] at X6 hp1 hp2
        have hqm : q + 1 < m := by omega
        clear hq hp1 hp2
        go_wp2_with fail
        refine X6.out.mono ?_
        rintro E wf ⟨rfl, rfl⟩
        obtain ⟨x, hx⟩ : ∃ x, F[q]? = some x := ⟨F[q]'(by have := HM.out; omega), by rw [List.getElem?_eq_getElem]⟩
        obtain ⟨y, hy⟩ : ∃ y, F[q + 1]? = some y := ⟨F[q + 1]'(by have := HM.out; omega), by rw [List.getElem?_eq_getElem]⟩
        have HX := hide hx
        have HY := hide hy
        obtain ⟨⟨c0, c1, c2⟩, f0, f1, f2⟩ := own_at HRow.out HM.out q x hx
        obtain ⟨⟨d0, d1, d2⟩, g0, g1, g2⟩ := own_at HRow.out HM.out (q + 1) y hy
        clear hx hy X6
        have hq1 : (q : Int) < m := by omega
        have hq2 : (q : Int) + 1 < m := by omega
        obtain ⟨al, hal⟩ : ∃ al, (x.k.toList == y.k.toList) = al := ⟨_, rfl⟩
        go_wp2_with fail
        go_quiet (fail)
        obtain ⟨wg, hwg⟩ : ∃ wg, we.drewN nq = wg := ⟨_, rfl⟩
        have bg : Below we.heap.size we wg := by rw [← hwg]; exact below_drewN (Below.refl _ _) _
        rw [hwg]
        have HA6 := hide (HA5.out.below bg)
        have HR6 := hide (HRow.out.below bg)
        have HB6 := hide (HBe.out.trans (bg.mono HBe.out.size))
        clear c0 c1 c2 f0 f1 f2 d0 d1 d2 g0 g1 g2 hwg bg HA5 HRow HBe
        obtain ⟨⟨c0, c1, c2⟩, f0, f1, f2⟩ := own_at HR6.out HM.out q x HX.out
        obtain ⟨⟨d0, d1, d2⟩, g0, g1, g2⟩ := own_at HR6.out HM.out (q + 1) y HY.out
        go_wp2_with fail
        go_region
        obtain ⟨W7, hW7, ow7, gr7⟩ := own_put HR6.out HM.out q (by omega) y
        obtain ⟨W8, hW8, ow8, gr8⟩ := own_put ow7 (by rw [List.length_set]; exact HM.out) (q + 1) (by omega) x
        rw [hW7, hW8]
        obtain ⟨wh, hwh⟩ : ∃ wh, W8.drew = wh := ⟨_, rfl⟩
        rw [hwh]
        have bh : Below W8.heap.size W8 wh := by rw [← hwh]; exact below_drewN (Below.refl _ _) 1
        have gr := grown_trans gr7 gr8
        have hg3 := (HR6.out.block g rfl).1
        have HA8 := hide ((HA6.out.agree (gr.block pa HA6.out.plt (by simp; have := ORD.out; omega)) (gr.block ba HA6.out.blt (by simp; have := ORD.out; omega))).below bh)
        have HR8 : Hid (OwnO 28 w3.heap.size wh (.slice (some ⟨g, 0, none⟩) m ocap) (swp F q x y)) := hide (ow8.below bh)
        have HB8 : Hid (Below w.heap.size w wh) := hide (by
          have hz := HB6.out.size
          have b1 : Below w.heap.size w W8 := HB6.out.grown gr hz fun j hj => by simp at hj; have := ORD.out; omega
          exact b1.trans (bh.mono b1.size))
        have HFS : Hid (FitO (swp F q x y)) := hide fun o ho => HFF.out o (swp_mem HX.out HY.out o ho)
        have HOS : Hid (∀ o ∈ swp F q x y, o.c = 0) := hide fun o ho => HOK.out o (swp_mem HX.out HY.out o ho)
        have HAL : Hid (al = false → Tm.app [] (swp F q x y) = T) := hide fun h0 => by
          rw [swp_app HX.out HY.out fun e => by rw [Tm.eqk, e, h0] at hal; simp at hal]
          exact HT.out
        have hSl : (swp F q x y).length ≤ 1200 := by rw [swp_len, HM.out]; exact hFl
        clear c0 c1 c2 f0 f1 f2 d0 d1 d2 g0 g1 g2 ow7 ow8 gr7 gr8 gr hW7 hW8 hwh bh hal
        go_wp2_with fail
        refine (tnew_any wh).mono ?_
        rintro E wi ⟨rfl, D1, b1⟩
        have HA9 := hide (HA8.out.below b1)
        obtain ⟨pd, hpd⟩ : ∃ pd, wh.heap.size + 1 = pd := ⟨_, rfl⟩
        obtain ⟨bd, hbd⟩ : ∃ bd, wh.heap.size = bd := ⟨_, rfl⟩
        have hda := HA8.out.plt
        have hdb := HA8.out.blt
        have hdw := HB8.out.size
        rw [hpd] at D1 ⊢
        have X7 := hide (tapply_any pd wh.heap.size wi [] _ (swp F q x y) D1 (HR8.out.below b1).is HFS.out (by show 0 + (swp F q x y).length ≤ _; omega))
        rw [aft_ok HOS.out, Bm.first_all HOS.out] at X7
        have HBi := hide (HB8.out.trans (b1.mono HB8.out.size))
        clear D1 b1 HA8
        go_wp2_with fail
        refine X7.out.mono ?_
        rintro E wj ⟨rfl, D2, Oj⟩
        have HBj : Hid (Below w.heap.size w wj) := hide (HBi.out.trans (Oj.below (fun g hg => by omega) HBi.out.size))
        have HAj := hide (HA9.out.out Oj (by omega) (by omega))
        have HDj := hide D2
        clear X7 D2 Oj
        cases al
        · rw [HAL.out rfl] at HDj
          have X8 := hide (tsame_any pa ba pd _ wj T T HAj.out HDj.out)
          rw [smt_self HUT.out] at X8
          go_wp2_with fail
          refine X8.out.mono ?_
          rintro E wk ⟨rfl, b8⟩
          have HBk := hide (HBj.out.trans (b8.mono HBj.out.size))
          clear X8 b8
          go_wp2
          go_ret
          exact ⟨rfl, HBk.out⟩
        · go_wp2
          go_ret
          exact ⟨rfl, HBj.out⟩

end Go.Proofs.Ytlfhpbiapnjghaa
