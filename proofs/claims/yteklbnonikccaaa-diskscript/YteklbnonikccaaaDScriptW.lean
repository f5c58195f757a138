/- The walk of DiskScript. -/
import Derived.Test.YteklbnonikccaaaSr
import Derived.Deep.RegionHeld3
namespace Go.Proofs.Yteklbnonikccaaa
open Go.RowKit Go.Shelf
set_option linter.unusedVariables false

set_option maxRecDepth 100000 in
set_option maxHeartbeats 32000000 in
theorem diskScript_walk (v : Value) (l : List Aw) (w : World) (h : IsA w v l) (hl : l.length * 56 ≤ 140737488351232) :
    Calls Try.prog 4 #[v] w fun E w' => E = .returned (.bool true) ∧ Below w.heap.size w w' := by
  obtain ⟨ao, cap, hv, hcap, hcm⟩ := h.1.shape
  have H := hide h
  subst hv
  clear h
  go_enter Try.func4, Try.ntmps4
  go_wp2_with fail
  refine (lives_any w).mono ?_
  rintro E wb ⟨rfl, b1⟩
  have s1 := b1.size
  have H1 := hide (H.out.below b1)
  go_wp2_with fail
  refine (small_any _ l wb H1.out (by omega)).mono ?_
  rintro E wb' ⟨rfl, rfl⟩
  cases hsm : smallA l
  · go_wp2
    go_ret
    exact ⟨rfl, b1⟩
  · obtain ⟨hl100, hl400⟩ := smallA_len hsm
    clear hsm
    go_wp2_with fail
    refine (new_any wb).mono ?_
    rintro E w2 ⟨rfl, K0, b2⟩
    have K0 := hide K0
    go_wp2_with fail
    refine (new_any w2).mono ?_
    rintro E w3 ⟨rfl, K1, b3⟩
    have K1 := hide K1
    go_wp2_with fail
    refine (newR_any w3).mono ?_
    rintro E w4 ⟨rfl, L0, b4⟩
    have L0 := hide L0
    go_wp2_with fail
    refine (newR_any w4).mono ?_
    rintro E w5 ⟨rfl, L1, b5⟩
    have L1 := hide L1
    obtain ⟨wA, wB, V1, V2, V3, V4, hwA, szA, hwB, hV1, hV2, hV3, hV4, ⟨f0, f0'⟩, ⟨f1, f1'⟩, ⟨f2, f2'⟩, ⟨f3, f3'⟩, ⟨f4, f4'⟩, ⟨f5, f5'⟩, hD, hR, bV⟩ := two_arrays w5 37 40 (.pointer (some ⟨wb.heap.size, 0, none⟩)) (.pointer (some ⟨w2.heap.size, 0, none⟩)) (.pointer (some ⟨w3.heap.size, 0, none⟩)) (.pointer (some ⟨w4.heap.size, 0, none⟩)) (.pointer none)
    obtain ⟨I4', c4, hlt5⟩ := si_start K0.out b2 K1.out b3 L0.out b4 L1.out b5 bV hD hR
    have I4 := hide I4'
    clear I4' K0 K1 L0 L1 b2 b3 b4 b5 hD hR bV
    go_wp2
    clear f0 f0' f1 f1' f2 f2' f3 f3' f4 f4' f5 f5' hwA hwB hV1 hV2 hV3 hV4 szA
    go_loopw [5, 6, 7] (fun iv _ _ wr => ∃ k : Nat, k ≤ l.length ∧ iv = .int .i64 k ∧ Below wb.heap.size wb wr ∧ Hid (SI wb.heap.size w5.heap.size (w5.heap.size + 1) wb.heap.size w3.heap.size w2.heap.size w4.heap.size k wr)) (fun iv _ _ _ => l.length - (intOf iv).toNat)
    case atStart => exact ⟨0, by omega, rfl, c4, I4⟩
    case round =>
      clear c4 I4
      obtain ⟨k, hk, rfl, bel, I⟩ := hrel
      have sz := bel.size
      obtain ⟨st0, st1, G, Q, hBig0, hBig1⟩ := I.out
      have HQ := hide Q
      have HBig0 := hide hBig0
      have HBig1 := hide hBig1
      clear Q hBig0 hBig1
      by_cases hlt : k < l.length
      · have HAr := hide (H1.out.below bel)
        obtain ⟨bb, oo, cq, hvx, _, _, hbb, hcell⟩ := H1.out.full (by omega)
        simp only [Value.slice.injEq, true_and] at hvx
        obtain ⟨rfl, rfl⟩ := hvx
        obtain ⟨a, ha⟩ : ∃ a, l[k]? = some a := ⟨l[k], by rw [List.getElem?_eq_getElem]⟩
        have C := hcell k a ha
        have hmem := List.mem_of_getElem? ha
        have hbs := hl400 a hmem
        have aok1 := H1.out.2 a hmem
        obtain ⟨av, ac, hav, _, _⟩ := aok1.1.shape
        rw [hav] at C
        have Cr : C5 bb oo a (.slice av a.bs.length ac) k wr := C5.below C bel hbb
        have e4 : wr.cell? ⟨bb, oo + k * 5 + 4, none⟩ = some (.slice av a.bs.length ac) := Cr.2.2.2.2
        have hlt' : (k : Int) < l.length := by omega
        have hkz : (0 : Int) ≤ (k : Int) := by omega
        have HAV := hide hav
        have HIS1 := hide aok1.1
        have HI := hide aok1.2
        have HCr := hide Cr
        have HLN := hide (lent_any a.v a.bs wr (aok1.1.stay (fun h0 => aok1.1.lt h0) bel) (by omega))
        rw [hav] at HLN
        have LN : Hid (Calls Try.prog 22 #[.slice av a.bs.length ac] wr fun e w' => ∃ bf cf, e = .returned (.slice (some ⟨bf, 0, none⟩) (a.bs.length + 3) cf) ∧ a.bs.length + 3 ≤ cf ∧ Own .u8 5 wr.heap.size w' (.slice (some ⟨bf, 0, none⟩) (a.bs.length + 3) cf) (a.bs ++ [201, 202, 203]) ∧ Below wr.heap.size wr w' ∧ wr.heap.size ≤ bf ∧ bf < w'.heap.size) := hide (by
          refine HLN.out.mono ?_
          rintro E w' ⟨v, rfl, own, b⟩
          have hln : (a.bs ++ [201, 202, 203]).length = a.bs.length + 3 := by simp
          rcases own.2.2 with ⟨_, hn⟩ | ⟨g, cap, cur, hv, hg, _, hc, _⟩
          · omega
          · rw [hln] at hv hc
            subst hv
            exact ⟨g, cap, rfl, hc, own, b, (own.block g rfl).1, (own.block g rfl).2⟩)
        clear hcell ha hav hmem aok1 C Cr I HLN
        by_cases h3 : k % 3 = 2
        · have h3' : ((k : Int).tmod 3 == 2) = true := by
            rw [Int.tmod_eq_emod_of_nonneg (by omega)]
            simp
            omega
          go_wp2_with fail
          refine LN.out.mono ?_
          rintro E wl ⟨bf, cf, rfl, hcf, own, bl, hbf, hbl⟩
          have szl := bl.size
          have hDw := blk_lt HQ.out.bD
          have hRw := blk_lt HQ.out.bR
          have OWN := hide own
          have bd : Below wl.heap.size wl wl.drew := (Below.refl _ _).drew
          have bbl : Below wb.heap.size wb wl := bel.trans (bl.mono sz)
          have ISF : Hid (Is .u8 wl (.slice (some ⟨bf, 0, none⟩) a.bs.length cf) a.bs) := hide (by
            have h0 := own.is
            rw [show a.bs.length + 3 = (a.bs ++ [201, 202, 203]).length by simp] at h0
            have h1 := h0.cut a.bs.length (by simp)
            rw [List.take_left' rfl] at h1
            exact h1)
          have HBN : Hid (∀ i, i < 4 → ¬ G i bf) := hide fun i hi hG => by have := HQ.out.lt i hi bf hG; omega
          have HC5 : Hid (C5 bb oo a (.slice av a.bs.length ac) k wl) := hide (HCr.out.below bl (by omega))
          have ISA : Hid (∀ w5', Below wb.heap.size wl w5' → Is .u8 w5' a.v a.bs) := hide fun w5' B => HIS1.out.stay (fun h0 => HIS1.out.lt h0) (bbl.trans B)
          have hcf' : (a.bs.length : Int) ≤ cf := by omega
          have hln0 : (0 : Int) ≤ (a.bs.length : Int) := by omega
          clear own e4
          have HBs : Big 100000000 800000 st1 := HBig1.out.mono (by omega) (by omega)
          have HB' := hide (big_act HBig1.out a HI.out.2.2.1 hbs)
          have hDN := hide (done_any w2.heap.size (G 2) a (.slice (some ⟨bf, 0, none⟩) a.bs.length cf) wl.drew st1 ((HQ.out.a1.below bl).below bd) HI.out ⟨_, _, _, HAV.out⟩ (ISF.out.drewN 1) (fun _ g hg hG => by simp [Value.ownBlock] at hg; subst hg; exact HBN.out 2 (by omega) hG) hbs HBs)
          have hMN := hide (fun (y5 : World) (G5 : Nat → Nat → Prop) (h5 : Dk w4.heap.size (G5 3) y5 st1) (i5 : Is .u8 y5 a.v a.bs) (n5 : 0 < a.bs.length → ∀ g, a.v.ownBlock = some g → ¬ G5 3 g) => meant_any w4.heap.size (G5 3) a y5 st1 h5 HI.out i5 n5 hbs HBs)
          generalize actR st1 a a.bs = rr at HB' hDN hMN
          obtain ⟨e, st'⟩ := rr
          simp only at HB' hDN hMN
          have DN : Hid (Calls Try.prog 23 #[.pointer (some ⟨w2.heap.size, 0, none⟩), .agg #[.int .i64 a.k, .int .i64 a.f, .int .i64 a.n, .int .i64 a.t, .slice av a.bs.length ac], .slice (some ⟨bf, 0, none⟩) a.bs.length cf] wl.drew fun E y5 => E = .returned (.int .i64 e) ∧ SQ wb.heap.size w5.heap.size (w5.heap.size + 1) wb.heap.size w3.heap.size w2.heap.size w4.heap.size bf wl y5 st0 st0 st' st1 ∧ C7 w5.heap.size (w5.heap.size + 1) bb oo w2.heap.size w4.heap.size 1 a (.slice av a.bs.length ac) k y5) := hide (by
            have h0 := hDN.out
            rw [HAV.out] at h0
            refine h0.mono ?_
            rintro E y5 ⟨rfl, s5⟩
            have q5 := SQ.step2 (HQ.out.below bl) HBN.out rfl hbl (Below.refl _ _) (by omega) (PStep.pre bd s5)
            refine ⟨rfl, q5, ?_⟩
            obtain ⟨G5, Q5, _, _, B5⟩ := q5
            exact ⟨blk_cell Q5.bD 1 rfl, blk_cell Q5.bR 1 rfl, HC5.out.below B5 hbb⟩)
          have MN : Hid (∀ y5, SQ wb.heap.size w5.heap.size (w5.heap.size + 1) wb.heap.size w3.heap.size w2.heap.size w4.heap.size bf wl y5 st0 st0 st' st1 → Calls Try.prog 24 #[.pointer (some ⟨w4.heap.size, 0, none⟩), .agg #[.int .i64 a.k, .int .i64 a.f, .int .i64 a.n, .int .i64 a.t, .slice av a.bs.length ac]] y5 fun E y6 => E = .returned (.int .i64 e) ∧ SQ wb.heap.size w5.heap.size (w5.heap.size + 1) wb.heap.size w3.heap.size w2.heap.size w4.heap.size bf wl y6 st0 st0 st' st' ∧ C7 w5.heap.size (w5.heap.size + 1) bb oo w2.heap.size w4.heap.size 1 a (.slice av a.bs.length ac) k y6) := hide (by
            rintro y5 ⟨G5, Q5, n5, h5, B5⟩
            have z5 : wb.heap.size ≤ y5.heap.size := Nat.le_trans (by omega) B5.size
            have h0 := hMN.out y5 G5 Q5.b1 (ISA.out y5 B5) (fun hz g hg hG => by have := HIS1.out.lt hz g hg; have := Q5.ge 3 (by omega) g hG; omega)
            rw [HAV.out] at h0
            refine h0.mono ?_
            rintro E y6 ⟨rfl, s6⟩
            have q6 := SQ.step3 Q5 n5 h5 (Nat.lt_of_lt_of_le hbl B5.size) B5 z5 s6
            refine ⟨rfl, q6, ?_⟩
            obtain ⟨G6, Q6, _, _, B6⟩ := q6
            exact ⟨blk_cell Q6.bD 1 rfl, blk_cell Q6.bR 1 rfl, HC5.out.below B6 hbb⟩)
          have KN : Hid (∀ y6, SQ wb.heap.size w5.heap.size (w5.heap.size + 1) wb.heap.size w3.heap.size w2.heap.size w4.heap.size bf wl y6 st0 st0 st' st' → Calls Try.prog 25 #[.slice (some ⟨bf, 0, none⟩) (a.bs.length + 3) cf, .slice av a.bs.length ac] y6 fun E y7 => E = .returned (.bool true) ∧ SQ wb.heap.size w5.heap.size (w5.heap.size + 1) wb.heap.size w3.heap.size w2.heap.size w4.heap.size bf wl y7 st0 st0 st' st' ∧ C7 w5.heap.size (w5.heap.size + 1) bb oo w2.heap.size w4.heap.size 1 a (.slice av a.bs.length ac) k y7) := hide (by
            rintro y6 ⟨G6, Q6, n6, h6, B6⟩
            have h0 := kept_yes (.slice (some ⟨bf, 0, none⟩) (a.bs.length + 3) cf) a.v a.bs _ y6 (OWN.out.is.agree fun g hg => by simp [Value.ownBlock] at hg; subst hg; exact h6) (ISA.out y6 B6) (by omega) rfl
            rw [HAV.out] at h0
            refine h0.mono ?_
            rintro E y7 ⟨rfl, b7⟩
            have B7 := B6.trans (b7.mono (Nat.le_trans (show wb.heap.size ≤ wl.heap.size by omega) B6.size))
            have Q7 := Q6.below b7
            exact ⟨rfl, ⟨G6, Q7, n6, (b7.block bf (Nat.lt_of_lt_of_le hbl B6.size)).trans h6, B7⟩, blk_cell Q7.bD 1 rfl, blk_cell Q7.bR 1 rfl, HC5.out.below B7 hbb⟩)
          have x0 : wl.cell? ⟨w5.heap.size, 1, none⟩ = some (.pointer (some ⟨w2.heap.size, 0, none⟩)) := blk_cell (HQ.out.below bl).bD 1 rfl
          have x1 : wl.cell? ⟨(w5.heap.size + 1), 1, none⟩ = some (.pointer (some ⟨w4.heap.size, 0, none⟩)) := blk_cell (HQ.out.below bl).bR 1 rfl
          obtain ⟨x2, x3, x4, x5, x6⟩ := HC5.out
          clear hDN hMN HBs
          go_wp2_with fail
          go_region_held3 (fun w' => w'.cell? ⟨w5.heap.size, 1, none⟩ = some (.pointer (some ⟨w2.heap.size, 0, none⟩)) ∧ w'.cell? ⟨(w5.heap.size + 1), 1, none⟩ = some (.pointer (some ⟨w4.heap.size, 0, none⟩)) ∧ w'.cell? ⟨bb, oo + k * 5, none⟩ = some (.int .i64 a.k) ∧ w'.cell? ⟨bb, oo + k * 5 + 1, none⟩ = some (.int .i64 a.f) ∧ w'.cell? ⟨bb, oo + k * 5 + 2, none⟩ = some (.int .i64 a.n) ∧ w'.cell? ⟨bb, oo + k * 5 + 3, none⟩ = some (.int .i64 a.t) ∧ w'.cell? ⟨bb, oo + k * 5 + 4, none⟩ = some (.slice av a.bs.length ac)) (first | exact ⟨x0, x1, x2, x3, x4, x5, x6⟩ | exact Y5.out | exact Y6.out | exact Y7.out | go_keep)
            (first
            | (have hp := S6; go_at_call 25; refine (KN.out y6 S6.out).mono ?_; rintro E y7 ⟨rfl, S7', Y7'⟩; have S7 := hide S7'; have Y7 := hide Y7'; clear S7' Y7')
            | (have hp := S5; go_at_call 24; refine (MN.out y5 S5.out).mono ?_; rintro E y6 ⟨rfl, S6', Y6'⟩; have S6 := hide S6'; have Y6 := hide Y6'; clear S6' Y6')
            | (go_at_call 23; refine DN.out.mono ?_; rintro E y5 ⟨rfl, S5', Y5'⟩; have S5 := hide S5'; have Y5 := hide Y5'; clear S5' Y5'))
          obtain ⟨G7, Q7, n7, h7, B7⟩ := S7.out
          have OW7 : Own .u8 5 wr.heap.size y7 (.slice (some ⟨bf, 0, none⟩) (a.bs.length + 3) cf) (a.bs ++ [201, 202, 203]) := OWN.out.agree fun g hg => by simp [Value.ownBlock] at hg; subst hg; exact h7
          have HQ7 := hide Q7
          have HOW7 := hide OW7
          have HN7 := hide n7
          have HB7 := hide B7
          have szl7 := B7.size
          clear Q7 OW7 n7 h7 B7 x0 x1 x2 x3 x4 x5 x6 DN MN KN Y5 Y6 Y7 S5 S6
          go_wp2_with fail
          refine (over_any _ _ wr.heap.size y7 HOW7.out).mono ?_
          rintro E y8 ⟨rfl, _, gr8⟩
          have o8 : Out (fun g => g = bf) y7 y8 := Out.of_grown gr8 fun g hg => by simp [Value.ownBlock] at hg; exact hg.symm
          have Q8 := HQ7.out.out o8 (fun i hi g hG e => HN7.out i hi (e ▸ hG)) (by omega) (by omega)
          have sz8 := o8.size
          have c8 : Below wb.heap.size wb y8 := ((bel.trans (bl.mono sz)).trans HB7.out).trans (o8.below (fun g hg => by omega) (by omega))
          have HQ8 := hide Q8
          have y0 : y8.cell? ⟨w5.heap.size, 0, none⟩ = some (.pointer (some ⟨wb.heap.size, 0, none⟩)) := blk_cell Q8.bD 0 rfl
          have y1 : y8.cell? ⟨w5.heap.size, 1, none⟩ = some (.pointer (some ⟨w2.heap.size, 0, none⟩)) := blk_cell Q8.bD 1 rfl
          have y2 : y8.cell? ⟨(w5.heap.size + 1), 0, none⟩ = some (.pointer (some ⟨w3.heap.size, 0, none⟩)) := blk_cell Q8.bR 0 rfl
          have y3 : y8.cell? ⟨(w5.heap.size + 1), 1, none⟩ = some (.pointer (some ⟨w4.heap.size, 0, none⟩)) := blk_cell Q8.bR 1 rfl
          have Z0 := hide (show Big 100000000 800000 st0 from ((HBig0.out.mono (by omega) (by omega)) : Big (400 * (k + 1)) (8 * (k + 1)) st0).mono (by omega) (by omega))
          have Z1 := hide (show Big 100000000 800000 st' from (HB'.out : Big (400 * (k + 1)) (8 * (k + 1)) st').mono (by omega) (by omega))
          clear gr8 o8 Q8
          go_wp2_with fail
          refine (sameD_any wb.heap.size w3.heap.size (G7 0) (G7 1) y8 st0 HQ8.out.a0 HQ8.out.b0 Z0.out).mono ?_
          rintro E y9 ⟨rfl, b9⟩
          have hDl : w5.heap.size < y8.heap.size := World.block_lt_of_cell? _ _ y0
          have hRl : (w5.heap.size + 1) < y8.heap.size := World.block_lt_of_cell? _ _ y2
          have u1 := (b9.cell (p := ⟨w5.heap.size, 1, none⟩) hDl).trans y1
          have u3 := (b9.cell (p := ⟨(w5.heap.size + 1), 1, none⟩) hRl).trans y3
          clear y0 y1 y2 y3
          go_wp2_with fail
          refine (sameD_any w2.heap.size w4.heap.size (G7 2) (G7 3) y9 st' (HQ8.out.a1.below b9) (HQ8.out.b1.below b9) Z1.out).mono ?_
          rintro E y10 ⟨rfl, b10⟩
          have b810 : Below y8.heap.size y8 y10 := b9.trans (b10.mono b9.size)
          have cJ : Below wb.heap.size wb y10 := c8.trans (b810.mono (by have := c8.size; omega))
          have J : Hid (SI wb.heap.size w5.heap.size (w5.heap.size + 1) wb.heap.size w3.heap.size w2.heap.size w4.heap.size (k + 1) y10) := hide ⟨_, _, _, HQ8.out.below b810, (HBig0.out.mono (by omega) (by omega)), HB'.out⟩
          clear u1 u3 b9 b10 b810 c8
          go_wp2
          go_roundw
          case rel => exact ⟨k + 1, by omega, by go_num, cJ, J⟩
          case measure => simp [intOf]; omega
        · have h3' : ((k : Int).tmod 3 == 2) = false := by
            rw [Int.tmod_eq_emod_of_nonneg (by omega)]
            simp
            omega
          go_wp2_with fail
          refine LN.out.mono ?_
          rintro E wl ⟨bf, cf, rfl, hcf, own, bl, hbf, hbl⟩
          have szl := bl.size
          have hDw := blk_lt HQ.out.bD
          have hRw := blk_lt HQ.out.bR
          have OWN := hide own
          have bd : Below wl.heap.size wl wl.drew := (Below.refl _ _).drew
          have bbl : Below wb.heap.size wb wl := bel.trans (bl.mono sz)
          have ISF : Hid (Is .u8 wl (.slice (some ⟨bf, 0, none⟩) a.bs.length cf) a.bs) := hide (by
            have h0 := own.is
            rw [show a.bs.length + 3 = (a.bs ++ [201, 202, 203]).length by simp] at h0
            have h1 := h0.cut a.bs.length (by simp)
            rw [List.take_left' rfl] at h1
            exact h1)
          have HBN : Hid (∀ i, i < 4 → ¬ G i bf) := hide fun i hi hG => by have := HQ.out.lt i hi bf hG; omega
          have HC5 : Hid (C5 bb oo a (.slice av a.bs.length ac) k wl) := hide (HCr.out.below bl (by omega))
          have ISA : Hid (∀ w5', Below wb.heap.size wl w5' → Is .u8 w5' a.v a.bs) := hide fun w5' B => HIS1.out.stay (fun h0 => HIS1.out.lt h0) (bbl.trans B)
          have hcf' : (a.bs.length : Int) ≤ cf := by omega
          have hln0 : (0 : Int) ≤ (a.bs.length : Int) := by omega
          clear own e4
          have HBs : Big 100000000 800000 st0 := HBig0.out.mono (by omega) (by omega)
          have HB' := hide (big_act HBig0.out a HI.out.2.2.1 hbs)
          have hDN := hide (done_any wb.heap.size (G 0) a (.slice (some ⟨bf, 0, none⟩) a.bs.length cf) wl.drew st0 ((HQ.out.a0.below bl).below bd) HI.out ⟨_, _, _, HAV.out⟩ (ISF.out.drewN 1) (fun _ g hg hG => by simp [Value.ownBlock] at hg; subst hg; exact HBN.out 0 (by omega) hG) hbs HBs)
          have hMN := hide (fun (y5 : World) (G5 : Nat → Nat → Prop) (h5 : Dk w3.heap.size (G5 1) y5 st0) (i5 : Is .u8 y5 a.v a.bs) (n5 : 0 < a.bs.length → ∀ g, a.v.ownBlock = some g → ¬ G5 1 g) => meant_any w3.heap.size (G5 1) a y5 st0 h5 HI.out i5 n5 hbs HBs)
          generalize actR st0 a a.bs = rr at HB' hDN hMN
          obtain ⟨e, st'⟩ := rr
          simp only at HB' hDN hMN
          have DN : Hid (Calls Try.prog 23 #[.pointer (some ⟨wb.heap.size, 0, none⟩), .agg #[.int .i64 a.k, .int .i64 a.f, .int .i64 a.n, .int .i64 a.t, .slice av a.bs.length ac], .slice (some ⟨bf, 0, none⟩) a.bs.length cf] wl.drew fun E y5 => E = .returned (.int .i64 e) ∧ SQ wb.heap.size w5.heap.size (w5.heap.size + 1) wb.heap.size w3.heap.size w2.heap.size w4.heap.size bf wl y5 st' st0 st1 st1 ∧ C7 w5.heap.size (w5.heap.size + 1) bb oo wb.heap.size w3.heap.size 0 a (.slice av a.bs.length ac) k y5) := hide (by
            have h0 := hDN.out
            rw [HAV.out] at h0
            refine h0.mono ?_
            rintro E y5 ⟨rfl, s5⟩
            have q5 := SQ.step0 (HQ.out.below bl) HBN.out rfl hbl (Below.refl _ _) (by omega) (PStep.pre bd s5)
            refine ⟨rfl, q5, ?_⟩
            obtain ⟨G5, Q5, _, _, B5⟩ := q5
            exact ⟨blk_cell Q5.bD 0 rfl, blk_cell Q5.bR 0 rfl, HC5.out.below B5 hbb⟩)
          have MN : Hid (∀ y5, SQ wb.heap.size w5.heap.size (w5.heap.size + 1) wb.heap.size w3.heap.size w2.heap.size w4.heap.size bf wl y5 st' st0 st1 st1 → Calls Try.prog 24 #[.pointer (some ⟨w3.heap.size, 0, none⟩), .agg #[.int .i64 a.k, .int .i64 a.f, .int .i64 a.n, .int .i64 a.t, .slice av a.bs.length ac]] y5 fun E y6 => E = .returned (.int .i64 e) ∧ SQ wb.heap.size w5.heap.size (w5.heap.size + 1) wb.heap.size w3.heap.size w2.heap.size w4.heap.size bf wl y6 st' st' st1 st1 ∧ C7 w5.heap.size (w5.heap.size + 1) bb oo wb.heap.size w3.heap.size 0 a (.slice av a.bs.length ac) k y6) := hide (by
            rintro y5 ⟨G5, Q5, n5, h5, B5⟩
            have z5 : wb.heap.size ≤ y5.heap.size := Nat.le_trans (by omega) B5.size
            have h0 := hMN.out y5 G5 Q5.b0 (ISA.out y5 B5) (fun hz g hg hG => by have := HIS1.out.lt hz g hg; have := Q5.ge 1 (by omega) g hG; omega)
            rw [HAV.out] at h0
            refine h0.mono ?_
            rintro E y6 ⟨rfl, s6⟩
            have q6 := SQ.step1 Q5 n5 h5 (Nat.lt_of_lt_of_le hbl B5.size) B5 z5 s6
            refine ⟨rfl, q6, ?_⟩
            obtain ⟨G6, Q6, _, _, B6⟩ := q6
            exact ⟨blk_cell Q6.bD 0 rfl, blk_cell Q6.bR 0 rfl, HC5.out.below B6 hbb⟩)
          have KN : Hid (∀ y6, SQ wb.heap.size w5.heap.size (w5.heap.size + 1) wb.heap.size w3.heap.size w2.heap.size w4.heap.size bf wl y6 st' st' st1 st1 → Calls Try.prog 25 #[.slice (some ⟨bf, 0, none⟩) (a.bs.length + 3) cf, .slice av a.bs.length ac] y6 fun E y7 => E = .returned (.bool true) ∧ SQ wb.heap.size w5.heap.size (w5.heap.size + 1) wb.heap.size w3.heap.size w2.heap.size w4.heap.size bf wl y7 st' st' st1 st1 ∧ C7 w5.heap.size (w5.heap.size + 1) bb oo wb.heap.size w3.heap.size 0 a (.slice av a.bs.length ac) k y7) := hide (by
            rintro y6 ⟨G6, Q6, n6, h6, B6⟩
            have h0 := kept_yes (.slice (some ⟨bf, 0, none⟩) (a.bs.length + 3) cf) a.v a.bs _ y6 (OWN.out.is.agree fun g hg => by simp [Value.ownBlock] at hg; subst hg; exact h6) (ISA.out y6 B6) (by omega) rfl
            rw [HAV.out] at h0
            refine h0.mono ?_
            rintro E y7 ⟨rfl, b7⟩
            have B7 := B6.trans (b7.mono (Nat.le_trans (show wb.heap.size ≤ wl.heap.size by omega) B6.size))
            have Q7 := Q6.below b7
            exact ⟨rfl, ⟨G6, Q7, n6, (b7.block bf (Nat.lt_of_lt_of_le hbl B6.size)).trans h6, B7⟩, blk_cell Q7.bD 0 rfl, blk_cell Q7.bR 0 rfl, HC5.out.below B7 hbb⟩)
          have x0 : wl.cell? ⟨w5.heap.size, 0, none⟩ = some (.pointer (some ⟨wb.heap.size, 0, none⟩)) := blk_cell (HQ.out.below bl).bD 0 rfl
          have x1 : wl.cell? ⟨(w5.heap.size + 1), 0, none⟩ = some (.pointer (some ⟨w3.heap.size, 0, none⟩)) := blk_cell (HQ.out.below bl).bR 0 rfl
          obtain ⟨x2, x3, x4, x5, x6⟩ := HC5.out
          clear hDN hMN HBs
          go_wp2_with fail
          go_region_held3 (fun w' => w'.cell? ⟨w5.heap.size, 0, none⟩ = some (.pointer (some ⟨wb.heap.size, 0, none⟩)) ∧ w'.cell? ⟨(w5.heap.size + 1), 0, none⟩ = some (.pointer (some ⟨w3.heap.size, 0, none⟩)) ∧ w'.cell? ⟨bb, oo + k * 5, none⟩ = some (.int .i64 a.k) ∧ w'.cell? ⟨bb, oo + k * 5 + 1, none⟩ = some (.int .i64 a.f) ∧ w'.cell? ⟨bb, oo + k * 5 + 2, none⟩ = some (.int .i64 a.n) ∧ w'.cell? ⟨bb, oo + k * 5 + 3, none⟩ = some (.int .i64 a.t) ∧ w'.cell? ⟨bb, oo + k * 5 + 4, none⟩ = some (.slice av a.bs.length ac)) (first | exact ⟨x0, x1, x2, x3, x4, x5, x6⟩ | exact Y5.out | exact Y6.out | exact Y7.out | go_keep)
            (first
            | (have hp := S6; go_at_call 25; refine (KN.out y6 S6.out).mono ?_; rintro E y7 ⟨rfl, S7', Y7'⟩; have S7 := hide S7'; have Y7 := hide Y7'; clear S7' Y7')
            | (have hp := S5; go_at_call 24; refine (MN.out y5 S5.out).mono ?_; rintro E y6 ⟨rfl, S6', Y6'⟩; have S6 := hide S6'; have Y6 := hide Y6'; clear S6' Y6')
            | (go_at_call 23; refine DN.out.mono ?_; rintro E y5 ⟨rfl, S5', Y5'⟩; have S5 := hide S5'; have Y5 := hide Y5'; clear S5' Y5'))
          obtain ⟨G7, Q7, n7, h7, B7⟩ := S7.out
          have OW7 : Own .u8 5 wr.heap.size y7 (.slice (some ⟨bf, 0, none⟩) (a.bs.length + 3) cf) (a.bs ++ [201, 202, 203]) := OWN.out.agree fun g hg => by simp [Value.ownBlock] at hg; subst hg; exact h7
          have HQ7 := hide Q7
          have HOW7 := hide OW7
          have HN7 := hide n7
          have HB7 := hide B7
          have szl7 := B7.size
          clear Q7 OW7 n7 h7 B7 x0 x1 x2 x3 x4 x5 x6 DN MN KN Y5 Y6 Y7 S5 S6
          go_wp2_with fail
          refine (over_any _ _ wr.heap.size y7 HOW7.out).mono ?_
          rintro E y8 ⟨rfl, _, gr8⟩
          have o8 : Out (fun g => g = bf) y7 y8 := Out.of_grown gr8 fun g hg => by simp [Value.ownBlock] at hg; exact hg.symm
          have Q8 := HQ7.out.out o8 (fun i hi g hG e => HN7.out i hi (e ▸ hG)) (by omega) (by omega)
          have sz8 := o8.size
          have c8 : Below wb.heap.size wb y8 := ((bel.trans (bl.mono sz)).trans HB7.out).trans (o8.below (fun g hg => by omega) (by omega))
          have HQ8 := hide Q8
          have y0 : y8.cell? ⟨w5.heap.size, 0, none⟩ = some (.pointer (some ⟨wb.heap.size, 0, none⟩)) := blk_cell Q8.bD 0 rfl
          have y1 : y8.cell? ⟨w5.heap.size, 1, none⟩ = some (.pointer (some ⟨w2.heap.size, 0, none⟩)) := blk_cell Q8.bD 1 rfl
          have y2 : y8.cell? ⟨(w5.heap.size + 1), 0, none⟩ = some (.pointer (some ⟨w3.heap.size, 0, none⟩)) := blk_cell Q8.bR 0 rfl
          have y3 : y8.cell? ⟨(w5.heap.size + 1), 1, none⟩ = some (.pointer (some ⟨w4.heap.size, 0, none⟩)) := blk_cell Q8.bR 1 rfl
          have Z0 := hide (show Big 100000000 800000 st' from (HB'.out : Big (400 * (k + 1)) (8 * (k + 1)) st').mono (by omega) (by omega))
          have Z1 := hide (show Big 100000000 800000 st1 from ((HBig1.out.mono (by omega) (by omega)) : Big (400 * (k + 1)) (8 * (k + 1)) st1).mono (by omega) (by omega))
          clear gr8 o8 Q8
          go_wp2_with fail
          refine (sameD_any wb.heap.size w3.heap.size (G7 0) (G7 1) y8 st' HQ8.out.a0 HQ8.out.b0 Z0.out).mono ?_
          rintro E y9 ⟨rfl, b9⟩
          have hDl : w5.heap.size < y8.heap.size := World.block_lt_of_cell? _ _ y0
          have hRl : (w5.heap.size + 1) < y8.heap.size := World.block_lt_of_cell? _ _ y2
          have u1 := (b9.cell (p := ⟨w5.heap.size, 1, none⟩) hDl).trans y1
          have u3 := (b9.cell (p := ⟨(w5.heap.size + 1), 1, none⟩) hRl).trans y3
          clear y0 y1 y2 y3
          go_wp2_with fail
          refine (sameD_any w2.heap.size w4.heap.size (G7 2) (G7 3) y9 st1 (HQ8.out.a1.below b9) (HQ8.out.b1.below b9) Z1.out).mono ?_
          rintro E y10 ⟨rfl, b10⟩
          have b810 : Below y8.heap.size y8 y10 := b9.trans (b10.mono b9.size)
          have cJ : Below wb.heap.size wb y10 := c8.trans (b810.mono (by have := c8.size; omega))
          have J : Hid (SI wb.heap.size w5.heap.size (w5.heap.size + 1) wb.heap.size w3.heap.size w2.heap.size w4.heap.size (k + 1) y10) := hide ⟨_, _, _, HQ8.out.below b810, HB'.out, (HBig1.out.mono (by omega) (by omega))⟩
          clear u1 u3 b9 b10 b810 c8
          go_wp2
          go_roundw
          case rel => exact ⟨k + 1, by omega, by go_num, cJ, J⟩
          case measure => simp [intOf]; omega
      · have hlt' : ¬ (k : Int) < l.length := by omega
        have HB0 : Hid (Big 100000000 800000 st0) := hide (HBig0.out.mono (by omega) (by omega))
        have Z1 : Hid (∀ f, (st0.sure f).length + Dm.bulk st0.wait ≤ 140737488355000) := hide fun f => by have := HB0.out.1.1 f; omega
        have z2 : st0.wait.length ≤ 1000000 := by have := HB0.out.1.2.1; omega
        clear I HBig0 HBig1
        obtain ⟨we, rfl⟩ : ∃ x, x = wr := ⟨wr, rfl⟩
        go_wp2
        go_loopw [8, 9, 10, 11] (fun vv iv _ _ wq => ∃ (q : Nat) (xs : List Value) (zs : List (List Int)), q ≤ 4 ∧ iv = .int .i64 q ∧ xs.length = 2 * q ∧ Below we.heap.size we wq ∧ Hid (RI we.heap.size wq vv xs zs)) (fun _ iv _ _ _ => 4 - (intOf iv).toNat)
        case atStart => exact ⟨0, [], [], by omega, rfl, rfl, Below.refl _ _, hide (RI.nil _ _)⟩
        case round =>
          obtain ⟨q, xs, zs, hq, rfl, hxl, bq, J⟩ := hrel
          have szq := bq.size
          have Qq := HQ.out.below bq
          have y0 : wr.cell? ⟨w5.heap.size, 0, none⟩ = some (.pointer (some ⟨wb.heap.size, 0, none⟩)) := blk_cell Qq.bD 0 rfl
          have hDl := blk_lt Qq.bD
          by_cases hq4 : q < 4
          · have hq4' : (q : Int) < 4 := by omega
            have hq0' : (0 : Int) ≤ (q : Int) := by omega
            have HA0 := hide Qq.a0
            have hrl := rdB_len HB0.out q
            have hdl := duB_len HB0.out q
            clear Qq
            go_wp2_with fail
            refine (read_any _ (G 0) wr st0 q HA0.out Z1.out z2).mono ?_
            rintro E wx ⟨u1, rfl, own1, bx⟩
            have szx := bx.size
            have y1 := (bx.cell (p := ⟨w5.heap.size, 0, none⟩) hDl).trans y0
            obtain ⟨a1, k1, hu1, _, _⟩ := own1.is.shape
            have HO1 := hide own1
            clear own1 y0
            subst hu1
            go_wp2_with fail
            refine (durable_any _ (G 0) wx st0 q (HA0.out.below bx) Z1.out).mono ?_
            rintro E wy ⟨u2, rfl, own2, bY⟩
            have szy := bY.size
            obtain ⟨a2, k2, hu2, _, _⟩ := own2.is.shape
            have HO2 := hide own2
            clear own2 y1
            subst hu2
            generalize rdB st0 q = r1 at HO1 hrl
            generalize duB st0 q = r2 at HO2 hdl
            obtain ⟨wz, hwz, szz, bz, rowz⟩ := rows_step (fun u : Value => [u]) 1 (fun _ => rfl) 27 wy #[.slice a1 r1.length k1, .slice a2 r2.length k2] 2 [.slice a1 r1.length k1, .slice a2 r2.length k2] rfl rfl (by decide)
            have bqz : Below wr.heap.size wr wz := (bx.trans (bY.mono szx)).trans (bz.mono (by omega))
            have RZ := hide (J.out.below bqz).row
            have ROWZ := hide rowz.row
            have hone : Hid (∀ u ∈ gcells (fun u : Value => [u]) [Value.slice a1 r1.length k1, Value.slice a2 r2.length k2], u.oneCell' = true) := hide (by
              intro u hu
              simp [gcells] at hu
              rcases hu with rfl | rfl <;> rfl)
            clear rowz
            go_wp2_with (at_builtin; refine wpList_append_rows (fun u : Value => [u]) 1 24 (fun _ => rfl) (by decide) (by decide) (.slice none 0 0) rfl rfl (.tmp 100) (.tmp 106) 49 rfl 27 we.heap.size Try.underlying49 Try.info27 _ xs rfl RZ.out _ [.slice a1 r1.length k1, .slice a2 r2.length k2] rfl ROWZ.out hone.out (by simp; omega) (by omega) ?_)
            intro v' w' own' gr'
            have J' := hide (RI.app (s1 := wx.heap.size) J.out bqz szq ((HO1.out.below bY).below bz) (fun b hb => (HO1.out.block b hb).2) szx (HO2.out.below bz) hrl hdl own' gr')
            have b' : Below we.heap.size we w' := (bq.trans (bqz.mono szq)).grown gr' (by omega) fun g hg => (RZ.out.lt g hg).1
            clear own' gr' RZ ROWZ hone J
            go_wp2
            go_roundw
            case rel => exact ⟨q + 1, _, _, by omega, by go_num, by simp; omega, b', J'⟩
            case measure => simp [intOf]; omega
          · obtain rfl : q = 4 := by omega
            obtain ⟨bl, cl, hvv, hcl, L⟩ := J.out.lists (by omega)
            rw [hxl] at hvv hcl L
            have HL := hide L
            subst hvv
            clear L J Qq y0
            go_wp2_with fail
            refine (apart_keeps 8 bl cl we.heap.size _ _ wr (by omega) (by omega) szq HL.out (by omega)).mono ?_
            rintro E wx ⟨rfl, bx, _⟩
            have Qx := HQ.out.below (bq.trans bx)
            have y0 : wx.cell? ⟨w5.heap.size, 0, none⟩ = some (.pointer (some ⟨wb.heap.size, 0, none⟩)) := blk_cell Qx.bD 0 rfl
            have y1 : wx.cell? ⟨w5.heap.size + 1, 0, none⟩ = some (.pointer (some ⟨w3.heap.size, 0, none⟩)) := blk_cell Qx.bR 0 rfl
            have HQx := hide Qx
            clear Qx HL
            go_wp2_with fail
            refine (sameD_any _ _ (G 0) (G 1) wx st0 HQx.out.a0 HQx.out.b0 HB0.out).mono ?_
            rintro E wy ⟨rfl, bY⟩
            have szx := (bq.trans bx).size
            have bF : Below w.heap.size w wy := b1.trans ((bel.trans (((bq.trans bx).trans (bY.mono szx)).mono sz)).mono s1)
            clear y0 y1
            go_wp2
            go_ret
            exact ⟨rfl, bF⟩

end Go.Proofs.Yteklbnonikccaaa
