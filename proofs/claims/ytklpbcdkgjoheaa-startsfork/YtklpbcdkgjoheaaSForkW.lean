/- StartsFork: the walk. -/
import Derived.Test.YtklpbcdkgjoheaaSq8
import Derived.Deep.CutRange
namespace Go.Proofs.Ytklpbcdkgjoheaa
open Go.RowKit
set_option linter.unusedVariables false

set_option maxRecDepth 100000 in
set_option maxHeartbeats 8000000 in
theorem startsFork_walk (va : Value) (cs : List Bool) (vb : Value) (os : List Bool) (vc : Value) (ts : List Bool) (w : World) (h0 : RowG bolc w va cs) (l0 : cs.length * 1 ≤ 140737488351232) (h1 : RowG bolc w vb os) (l1 : os.length * 1 ≤ 140737488351232) (h2 : RowG bolc w vc ts) (l2 : ts.length * 1 ≤ 140737488351232) :
    Calls Try.prog 6 #[va, vb, vc] w fun e w' => e = .returned (.bool true) ∧ Below w.heap.size w w' := by
  obtain ⟨a0, c0, hv0, k0, _⟩ := h0.shape
  obtain ⟨a1, c1, hv1, k1, _⟩ := h1.shape
  obtain ⟨a2, c2, hv2, k2, _⟩ := h2.shape
  subst hv0 hv1 hv2
  have H0 := hide h0
  have H1 := hide h1
  have H2 := hide h2
  clear h0 h1 h2
  go_enter Try.func6, Try.ntmps6
  go_wp2_with fail
  refine (lives_any w).mono ?_
  rintro E w1 ⟨rfl, bel1⟩
  by_cases g0 : 40 < cs.length
  · have g0' : (40 : Int) < (cs.length : Int) := by omega
    go_wp2
    go_ret
    exact ⟨rfl, bel1⟩
  by_cases g1 : 40 < os.length
  · have g0' : ¬ (40 : Int) < (cs.length : Int) := by omega
    have g1' : (40 : Int) < (os.length : Int) := by omega
    go_wp2
    go_ret
    exact ⟨rfl, bel1⟩
  by_cases g2 : 40 < ts.length
  · have g0' : ¬ (40 : Int) < (cs.length : Int) := by omega
    have g1' : ¬ (40 : Int) < (os.length : Int) := by omega
    have g2' : (40 : Int) < (ts.length : Int) := by omega
    go_wp2
    go_ret
    exact ⟨rfl, bel1⟩
  have g0' : ¬ (40 : Int) < (cs.length : Int) := by omega
  have g1' : ¬ (40 : Int) < (os.length : Int) := by omega
  have g2' : ¬ (40 : Int) < (ts.length : Int) := by omega
  have H01 := hide (H0.out.below bel1)
  have H11 := hide (H1.out.below bel1)
  have H21 := hide (H2.out.below bel1)
  have B0 : Hid (cs.length ≤ 40) := hide (by omega)
  have B1 : Hid (os.length ≤ 40) := hide (by omega)
  have B2 : Hid (ts.length ≤ 40) := hide (by omega)
  generalize hm : cs.length = m at *
  generalize hn1 : os.length = n1 at *
  generalize hn2 : ts.length = n2 at *
  have HM := hide hm
  have HN1 := hide hn1
  have HN2 := hide hn2
  clear hm hn1 hn2 H0 H1 H2 g0 g1 g2
  go_wp2_with fail
  refine (log_any (.slice none 0 0) [] 1 _ cs w1 (IsC.nil _) (fun c hc => by simp at hc) (by decide) H01.out (by rw [HM.out]; exact B0.out) (by decide) (by decide)).mono ?_
  rintro E w2 ⟨v7, rc, rfl, isc, fitc, ec, bel2⟩
  have EC : Hid (cvs rc = lg 1 0 cs) := hide (by rw [ec]; rfl)
  have lc : rc.length = m := by rw [← cvs_lenk, EC.out, lg_len, HM.out]
  have hlb := lg_last cs 1 0
  rw [← EC.out, HM.out] at hlb
  obtain ⟨EE, hEE⟩ : ∃ x, x = Cm.lastE 1 (cvs rc) := ⟨_, rfl⟩
  rw [← hEE] at hlb
  have HE := hide hEE
  have hm40 := B0.out
  have he1 : 1 ≤ EE := by omega
  have he2 : EE ≤ 81 := by omega
  have bel02 : Below w.heap.size w w2 := bel1.trans (bel2.mono bel1.size)
  have H12 := hide (H11.out.below bel2)
  have H22 := hide (H21.out.below bel2)
  obtain ⟨ac, cc, hv7, hcc, _⟩ := isc.1.shape
  subst hv7
  rw [lc] at isc ⊢
  have ISC := hide isc
  have FC := hide fitc
  have LC := hide lc
  clear ec lc hlb hEE isc fitc H01 H11 H21 bel1 bel2
  go_upto_if 51 with fail
  go_cut [8] from 32 to 58 (fun v8 wx => v8 = .int .i64 EE ∧ wx = w2)
  case first =>
    by_cases hm0 : 0 < m
    · obtain ⟨b1, o1, cp, hv, _, _, hB, hcell⟩ := ISC.out.1.full (by rw [LC.out]; exact hm0)
      have har : ac = some ⟨b1, o1, none⟩ := by simp at hv; exact hv.1
      subst har
      obtain ⟨k, rfl⟩ : ∃ k, m = k + 1 := ⟨m - 1, by omega⟩
      obtain ⟨c, hc⟩ : ∃ c, rc[k]? = some c := at_of (by rw [LC.out]; omega)
      obtain ⟨e0, e1, e2⟩ := hcell k c hc
      have hEc : EE = c.e := by rw [HE.out]; exact last_at hc (by rw [LC.out])
      have z1 : (0 : Int) < (((k + 1 : Nat) : Int)) := by omega
      have z2 : (((k + 1 : Nat) : Int)) - 1 = (k : Int) := by omega
      have z3 : (k : Int) < (((k + 1 : Nat) : Int)) := by omega
      rw [← hEc] at e0
      clear hv hcell hc e1 e2 hEc
      go_wp2_with fail
      go_meet
      exact ⟨rfl, rfl⟩
    · have hm0' : ¬ (0 : Int) < (m : Int) := by omega
      have hE1 : EE = 1 := by
        rw [HE.out, List.eq_nil_of_length_eq_zero (show rc.length = 0 by rw [LC.out]; omega)]
        rfl
      go_wp2_with fail
      go_meet
      exact ⟨by rw [hE1], rfl⟩
  case rest =>
    obtain ⟨rfl, hwc⟩ := hcut
    subst hwc
    go_wp2_with fail
    refine (log_any _ rc (EE + 100) _ os _ ISC.out FC.out (by rw [LC.out]; omega) H12.out (by rw [HN1.out]; exact B1.out) (by omega) (by omega)).mono ?_
    rintro E w3 ⟨v9, ra, rfl, isa, fita, ea, bel3⟩
    have belw := bel02.trans (bel3.mono bel02.size)
    replace ISC := hide (ISC.out.below bel3)
    replace H22 := hide (H22.out.below bel3)
    have ISA := hide isa
    have FA := hide fita
    have EA := hide ea
    clear bel3 isa fita ea H12 bel02
    go_wp2_with fail
    refine (log_any _ rc (EE + 101) _ ts w3 ISC.out FC.out (by rw [LC.out]; omega) H22.out (by rw [HN2.out]; exact B2.out) (by omega) (by omega)).mono ?_
    rintro E w4 ⟨v10, rb, rfl, isb, fitb, eb, bel4⟩
    replace ISC := hide (ISC.out.below bel4)
    replace ISA := hide (ISA.out.below bel4)
    replace belw := belw.trans (bel4.mono belw.size)
    have ISB := hide isb
    have FB := hide fitb
    obtain ⟨th, lb⟩ := three_of EC.out HE.out EA.out eb (by rw [HM.out]; exact B0.out) (by rw [HN1.out]; exact B1.out) (by rw [HN2.out]; exact B2.out)
    rw [HM.out, HN1.out] at th
    rw [HM.out, HN2.out] at lb
    obtain ⟨na, hna⟩ : ∃ x, m + n1 = x := ⟨_, rfl⟩
    obtain ⟨nb, hnb⟩ : ∃ x, m + n2 = x := ⟨_, rfl⟩
    rw [hna] at th
    rw [hnb] at lb
    have TH := hide th
    have LB := hide lb
    have LA := hide th.la
    have hn1b := B1.out
    have hn2b := B2.out
    have hna80 : na ≤ 80 := by omega
    have hnb80 : nb ≤ 80 := by omega
    have hmna : m ≤ na := by omega
    obtain ⟨aa, ca, hv9, hca, _⟩ := ISA.out.1.shape
    obtain ⟨ab, cb, hv10, hcb, _⟩ := ISB.out.1.shape
    subst hv9 hv10
    rw [LA.out] at ISA hca ⊢
    rw [LB.out] at ISB hcb ⊢
    clear bel4 isb fitb eb EA H22 th lb hna hnb HM HN1 HN2 B0 B1 B2 EC
    go_wp2_with fail
    refine (of_good _ ra w4 ISA.out FA.out (by rw [LA.out]; omega) TH.out.ga).mono ?_
    rintro E w5 ⟨v11, f1, p1, rfl, F1, own11, bel5⟩
    obtain ⟨w6, hw6, hw6', sz6, bel6, hF6, q0, q1⟩ := new_two w5 44 (.int .i64 0) (.int .i64 0) (.int .i64 f1) (.int .i64 p1)
    have RA := hide own11.row
    have bel56 : Below w4.heap.size w4 w6 := bel5.trans (bel6.mono bel5.size)
    replace RA := hide (RA.out.below bel6)
    replace ISC := hide (ISC.out.below bel56)
    replace ISA := hide (ISA.out.below bel56)
    replace ISB := hide (ISB.out.below bel56)
    replace belw := belw.trans (bel56.mono belw.size)
    have BA := hide hF6
    have s6 : w5.heap.size < w6.heap.size := by omega
    clear bel5 bel6 bel56 own11 hF6 q0 q1
    go_wp2_with fail
    refine (of_good _ rb w6 ISB.out FB.out (by rw [LB.out]; omega) TH.out.gb).mono ?_
    rintro E w7 ⟨v13, f2, p2, rfl, F2, own13, bel7⟩
    obtain ⟨w8, hw8, hw8', sz8, bel8, hF8, q0, q1⟩ := new_two w7 44 (.int .i64 0) (.int .i64 0) (.int .i64 f2) (.int .i64 p2)
    have RB := hide own13.row
    have bel78 : Below w6.heap.size w6 w8 := bel7.trans (bel8.mono bel7.size)
    replace RB := hide (RB.out.below bel8)
    replace BA := hide ((bel78.block w5.heap.size s6).trans BA.out)
    replace ISC := hide (ISC.out.below bel78)
    replace ISA := hide (ISA.out.below bel78)
    replace RA := hide (RA.out.below bel78)
    replace belw := belw.trans (bel78.mono belw.size)
    have BB := hide hF8
    have s8 : w7.heap.size < w8.heap.size := by omega
    have s68 := bel78.size
    clear bel7 bel8 bel78 own13 hF8 q0 q1 ISB FB
    go_wp2_with fail
    refine (of_good _ rc w8 ISC.out FC.out (by rw [LC.out]; omega) TH.out.gc).mono ?_
    rintro E w9 ⟨v15, f3, p3, rfl, F3, own15, bel9⟩
    obtain ⟨w10, hw10, hw10', sz10, bel10, hF10, q0, q1⟩ := new_two w9 44 (.int .i64 0) (.int .i64 0) (.int .i64 f3) (.int .i64 p3)
    have RC := hide own15.row
    have bel910 : Below w8.heap.size w8 w10 := bel9.trans (bel10.mono bel9.size)
    replace RC := hide (RC.out.below bel10)
    have hBA := (bel910.block w5.heap.size (by omega)).trans BA.out
    have hBB := (bel910.block w7.heap.size s8).trans BB.out
    have x0 := blk_cell hBA 0 rfl
    have x1 := blk_cell hBA 1 rfl
    have y0 := blk_cell hBB 0 rfl
    have y1 := blk_cell hBB 1 rfl
    replace ISC := hide (ISC.out.below bel910)
    replace ISA := hide (ISA.out.below bel910)
    replace RA := hide (RA.out.below bel910)
    replace RB := hide (RB.out.below bel910)
    replace belw := belw.trans (bel910.mono belw.size)
    have n1 := Try.neqF f1 p1 0 0
    have n2 := Try.neqF f2 p2 0 0
    have n3 := Try.neqF f3 p3 0 0
    have hgd := Try.guardF
    rw [show (!((f1 == 0) && (p1 == 0))) = false by rw [F1.out.1, F1.out.2]; rfl] at n1
    rw [show (!((f2 == 0) && (p2 == 0))) = false by rw [F2.out.1, F2.out.2]; rfl] at n2
    rw [show (!((f3 == 0) && (p3 == 0))) = false by rw [F3.out.1, F3.out.2]; rfl] at n3
    have LTA : Hid ((Sm.told 0 (cvs ra)).length ≤ 80) := hide (Nat.le_trans (told_len _ _) (by rw [cvs_lenk, LA.out]; omega))
    have LTB : Hid ((Sm.told 0 (cvs rb)).length ≤ 80) := hide (Nat.le_trans (told_len _ _) (by rw [cvs_lenk, LB.out]; omega))
    have LTC : Hid ((Sm.told 0 (cvs rc)).length ≤ 80) := hide (Nat.le_trans (told_len _ _) (by rw [cvs_lenk, LC.out]; omega))
    have AB := TH.out.ab
    have BA2 := TH.out.ba
    have AC := TH.out.ac
    rw [LA.out, LB.out] at AB BA2
    rw [LA.out, LC.out] at AC
    have HAB := hide AB
    have HBA := hide BA2
    have HAC := hide AC
    clear bel9 bel10 bel910 own15 hF10 BA BB hBA hBB F1 F2 F3 AB BA2 AC s6 s8 s68
    go_wp2_with fail
    refine (sfork_any v11 v13 _ _ na nb w10 RA.out RB.out (by have := LTA.out; omega) (by have := LTB.out; omega)).mono ?_
    rintro E w11 ⟨n, rfl, hfr, bel11⟩
    obtain rfl := HAB.out.2 n hfr
    rw [HAB.out.1]
    replace ISC := hide (ISC.out.below bel11)
    replace ISA := hide (ISA.out.below bel11)
    replace RA := hide (RA.out.below bel11)
    replace RB := hide (RB.out.below bel11)
    replace RC := hide (RC.out.below bel11)
    replace belw := belw.trans (bel11.mono belw.size)
    clear bel11 hfr HAB hw10 hw10' x0 x1 y0 y1 q0 q1
    go_wp2_with fail
    refine (sfork_any v13 v11 _ _ nb na w11 RB.out RA.out (by have := LTB.out; omega) (by have := LTA.out; omega)).mono ?_
    rintro E w12 ⟨n, rfl, hfr, bel12⟩
    obtain rfl := HBA.out.2 n hfr
    rw [HBA.out.1]
    replace ISC := hide (ISC.out.below bel12)
    replace ISA := hide (ISA.out.below bel12)
    replace RA := hide (RA.out.below bel12)
    replace RC := hide (RC.out.below bel12)
    replace belw := belw.trans (bel12.mono belw.size)
    clear bel12 hfr HBA RB
    go_wp2_with fail
    refine (sfork_any v11 v15 _ _ na m w12 RA.out RC.out (by have := LTA.out; omega) (by have := LTC.out; omega)).mono ?_
    rintro E w13 ⟨n, rfl, hfr, bel13⟩
    obtain rfl := HAC.out.2 n hfr
    rw [HAC.out.1]
    replace ISC := hide (ISC.out.below bel13)
    replace ISA := hide (ISA.out.below bel13)
    replace RA := hide (RA.out.below bel13)
    replace RC := hide (RC.out.below bel13)
    replace belw := belw.trans (bel13.mono belw.size)
    clear bel13 hfr HAC
    obtain ⟨t1, t2, t3⟩ := at_in TH.out.ga (p := m) (by rw [LA.out]; exact hmna)
    rw [LA.out] at t1 t2
    rw [TH.out.ca] at t2
    go_wp2_with fail
    refine (trim_any v11 _ na m w13 RA.out (by have := LTA.out; omega)).mono ?_
    rintro E w14 ⟨v23, rfl, own23, bel14⟩
    rw [t1]
    rw [t2] at own23
    have R23 := hide own23.row
    replace ISC := hide (ISC.out.below bel14)
    replace ISA := hide (ISA.out.below bel14)
    replace RA := hide (RA.out.below bel14)
    replace RC := hide (RC.out.below bel14)
    replace belw := belw.trans (bel14.mono belw.size)
    clear bel14 own23 t1 t2 t3
    go_wp2_with fail
    refine (sameS_yes v23 v15 _ w14 R23.out RC.out (by have := LTC.out; omega)).mono ?_
    rintro E w15' ⟨rfl, m15, hw15⟩
    have bel15 : Below w14.heap.size w14 w15' := by rw [hw15]; exact below_drewN (Below.refl _ _) m15
    clear hw15
    obtain ⟨w15, h15⟩ : ∃ x, x = w15' := ⟨_, rfl⟩
    rw [← h15] at bel15 ⊢
    clear h15
    replace ISA := hide (ISA.out.below bel15)
    replace RA := hide (RA.out.below bel15)
    replace RC := hide (RC.out.below bel15)
    replace belw := belw.trans (bel15.mono belw.size)
    have LA2 := LA.out
    clear bel15 R23 ISC hw6 hw6' hw8 hw8' n1 n2 n3 hgd LA2
    go_wp2
    go_loopw [25] (fun iv wr => ∃ k : Nat, k ≤ na + 1 ∧ iv = .int .i64 k ∧ Below w15.heap.size w15 wr) (fun iv _ => na + 1 - (intOf iv).toNat)
    case atStart => exact ⟨0, by omega, rfl, Below.refl _ _⟩
    case round =>
      obtain ⟨k, hk, rfl, bel⟩ := hrel
      have sz := bel.size
      by_cases hlt : k ≤ na
      · obtain ⟨t1, _, t3⟩ := at_in TH.out.ga (p := k) (by rw [LA.out]; exact hlt)
        rw [LA.out] at t1 t3
        have hlt' : (k : Int) ≤ na := by omega
        have X := at_any v11 _ na k wr (RA.out.below bel) (by have := LTA.out; omega)
        rw [t1, t3] at X
        rcases Nat.eq_zero_or_pos k with hk0 | hk0
        · rw [show Sm.epo (k : Int) 0 (Sm.told 0 (cvs ra)) = 0 by rw [hk0]; exact at_zero TH.out.ga] at X
          have XX := hide X
          have z1 : ¬ (0 : Int) < (k : Int) := by omega
          clear X t1 t3 hk0
          go_wp2_with fail
          refine XX.out.mono ?_
          rintro E w16 ⟨rfl, bel16⟩
          have bel17 := bel.trans (bel16.mono (by omega))
          clear XX bel bel16
          go_wp2
          go_roundw
          case rel => exact ⟨k + 1, by omega, by go_num, bel17⟩
          case measure => simp [intOf]; omega
        · obtain ⟨q, hq⟩ : ∃ q, k = q + 1 := ⟨k - 1, by omega⟩
          obtain ⟨c, hc⟩ : ∃ c, ra[q]? = some c := at_of (by rw [LA.out]; omega)
          rw [show Sm.epo (k : Int) 0 (Sm.told 0 (cvs ra)) = c.e by rw [hq, show (((q + 1 : Nat) : Int)) = (q : Int) + 1 by omega]; exact at_more TH.out.ga hc] at X
          have XX := hide X
          obtain ⟨b1, o1, cp, hv, _, _, hB, hcell⟩ := ISA.out.1.full (by rw [LA.out]; omega)
          have har : aa = some ⟨b1, o1, none⟩ := by simp at hv; exact hv.1
          subst har
          obtain ⟨e0, e1, e2⟩ := hcell q c hc
          have HE0 := hide e0
          have z1 : (0 : Int) < (k : Int) := by omega
          have z2 : (k : Int) - 1 = (q : Int) := by omega
          have z3 : (q : Int) < na := by omega
          clear X t1 t3 hv hcell hc e0 e1 e2 hq
          go_wp2_with fail
          refine XX.out.mono ?_
          rintro E w16 ⟨rfl, bel16⟩
          have bel17 := bel.trans (bel16.mono (by omega))
          have d0 := (bel17.cell (p := ⟨b1, o1 + q * 3, none⟩) hB).trans HE0.out
          clear XX bel bel16 HE0
          go_wp2
          go_roundw
          case rel => exact ⟨k + 1, by omega, by go_num, bel17⟩
          case measure => simp [intOf]; omega
      · have hlt' : ¬ (k : Int) ≤ na := by omega
        have belr := belw.trans (bel.mono belw.size)
        by_cases hmn : na = m
        · have hmn' : ((na : Int) == (m : Int)) = true := by simp [hmn]
          go_wp2
          go_ret
          exact ⟨rfl, belr⟩
        have hmn' : ((na : Int) == (m : Int)) = false := by simp; omega
        obtain ⟨b1, o1, cp, hv, _, _, hB, hcell⟩ := ISA.out.1.full (by rw [LA.out]; omega)
        have har : aa = some ⟨b1, o1, none⟩ := by simp at hv; exact hv.1
        subst har
        obtain ⟨c, hc⟩ : ∃ c, ra[m]? = some c := at_of (by rw [LA.out]; omega)
        obtain ⟨e0, e1, e2⟩ := hcell m c hc
        have d0 := (bel.cell (p := ⟨b1, o1 + m * 3, none⟩) hB).trans e0
        have d1 := (bel.cell (p := ⟨b1, o1 + m * 3 + 1, none⟩) hB).trans e1
        have d2 := (bel.cell (p := ⟨b1, o1 + m * 3 + 2, none⟩) hB).trans e2
        have hmem := List.mem_of_getElem? hc
        obtain ⟨i1, i2, i3⟩ := ISA.out.2 c hmem
        have i4 := i1.below bel
        obtain ⟨hfc, hlc⟩ := FA.out c hmem
        obtain ⟨ac', cc', hcv, _, _⟩ := i4.shape
        obtain ⟨g1, g2⟩ := grow_round TH.out.ga hc
        rw [TH.out.ca] at g1 g2
        have X := grown_any v15 (Sm.told 0 (cvs rc)) m c.e c.n c.v c.l wr (RC.out.below bel) (by have := LTC.out; omega) i4 hfc hlc i2 i3
        rw [g1, g2] at X
        unfold cmv at X
        rw [hcv] at X d2
        have XX := hide X
        have hlr : (ra.take (m + 1)).length = m + 1 := by rw [List.length_take, LA.out]; omega
        obtain ⟨t1, t2, t3⟩ := at_in (good_of TH.out.ga (m + 1)) (p := m) (by rw [hlr]; omega)
        rw [hlr, show (((m + 1 : Nat) : Int)) = (m : Int) + 1 by omega] at t1 t2
        rw [List.take_take, Nat.min_eq_left (by omega), TH.out.ca] at t2
        have T1 := hide t1
        have T2 := hide t2
        have LTR : Hid ((Sm.told 0 (cvs (ra.take (m + 1)))).length ≤ 80) := hide (Nat.le_trans (told_len _ _) (by rw [cvs_lenk, hlr]; omega))
        have RCr := hide (RC.out.below bel)
        have z3 : (m : Int) < na := by omega
        clear X g1 g2 hcv i1 i2 i3 i4 hfc hlc hmem hc e0 e1 e2 hv hcell hlr t1 t2 t3 bel belw ISA RA RC
        go_wp2_with fail
        refine XX.out.mono ?_
        rintro E w16 ⟨v29, rfl, own29, bel16⟩
        replace RCr := hide (RCr.out.below bel16)
        replace belr := belr.trans (bel16.mono belr.size)
        have R29 := hide own29.row
        clear XX own29 bel16 d0 d1 d2
        go_wp2_with fail
        refine (trim_any v29 _ ((m : Int) + 1) m w16 R29.out (by have := LTR.out; omega)).mono ?_
        rintro E w17 ⟨v30, rfl, own30, bel17⟩
        rw [T1.out]
        rw [T2.out] at own30
        replace RCr := hide (RCr.out.below bel17)
        replace belr := belr.trans (bel17.mono belr.size)
        have R30 := hide own30.row
        clear own30 bel17 R29
        go_wp2_with fail
        refine (sameS_yes v30 v15 _ w17 R30.out RCr.out (by have := LTC.out; omega)).mono ?_
        rintro E w18 ⟨rfl, m18, rfl⟩
        go_wp2
        go_ret
        exact ⟨rfl, below_drewN belr _⟩

end Go.Proofs.Ytklpbcdkgjoheaa
