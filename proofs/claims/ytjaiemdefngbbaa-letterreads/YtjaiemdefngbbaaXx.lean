/- The contract of the document's Decode: a ship, a hello; as a whole. -/
import Derived.Test.YtjaiemdefngbbaaXw
namespace Go.Proofs.Ytjaiemdefngbbaa
open Go.RowKit
set_option linter.unusedVariables false

set_option maxRecDepth 100000 in
set_option maxHeartbeats 2000000 in
theorem decodeR_2 (vb : Value) (bs : List Int) (w : World) (hb : Is .u8 w vb bs) (hl : bs.length ≤ 100000000000000) (m' : Mm.Msg) (g : Int) (hD : Mm.Dc bs m' g) (a1 : Nat) (b1 : Bool) (S1 : SStep bs 3 0 false 2 a1 b1) :
    Calls Try.prog 22 #[vb] w (DecR w m' g) := by
  obtain ⟨xo, xn, xc, hvb⟩ := hb.form
  subst hvb
  obtain ⟨w1, hw1, sz1, bel1, hZ⟩ := blk_step w #[.int .i64 0, .int .i64 0, .int .u8 0, .int .i64 0, .slice none 0 0, .int .i64 0, .int .i64 0, .slice none 0 0] 30
  obtain ⟨w2, hw2, sz2, bel2, hG⟩ := blk_step w1 #[.slice xo xn xc, .int .i64 0, .bool false] 72
  rw [sz1] at hG
  have bel02 : Below w.heap.size w w2 := bel1.trans (bel2.mono (by omega))
  have r2 : Rdr w w2 (w.heap.size + 1) (.slice xo xn xc) bs 0 false := ⟨hb, by omega, bel02, hG, by omega⟩
  have Z2 : Hid (MAt w2 w.heap.size mno) := hide ((bel2.block w.heap.size (by omega)).trans hZ)
  obtain ⟨u2, a2, b2, S2⟩ := sstep_is bs 1048576 a1 b1
  have hu2 := sstep_max S2
  have G2 : Hid (Mm.Go bs [2, (u2 : Int)] a2 b2) := hide (Mm.go_step (Mm.go_step (Mm.go_start bs) S1 Mm.nx_0) S2 (Mm.nx_1 _))
  have HD := hide hD
  have C1 := hide (rsmall_at w w2 (w.heap.size + 1) _ bs 0 false 3 2 a1 b1 r2 hl (by omega) S1)
  have X2 := hide S2
  clear hb hZ hG hD S1 S2 bel1 bel2 r2
  go_enter Try.func22, Try.ntmps22
  go_wp2_with fail
  refine C1.out.mono ?_
  rintro E w3 ⟨rfl, H3⟩
  have sz3 := H3.out.2.size
  have C2 := hide (rsmall_at w w3 (w.heap.size + 1) _ bs a1 b1 1048576 u2 a2 b2 H3.out.1 hl (by omega) X2.out)
  have Z3 : Hid (MAt w3 w.heap.size mno) := hide ((H3.out.2.block w.heap.size (by omega) (by simp)).trans Z2.out)
  clear C1 hw1 hw2 Z2
  go_wp2_with fail
  refine C2.out.mono ?_
  rintro E w4 ⟨rfl, H4⟩
  have sz4 := H4.out.2.size
  have Z4 : Hid (MAt w4 w.heap.size mno) := hide ((H4.out.2.block w.heap.size (by omega) (by simp)).trans Z3.out)
  obtain ⟨wA, hwA', hwA, szA', belA, hM, _⟩ := new8 w4 30 (.int .i64 0) (.int .i64 0) (.int .u8 0) (.int .i64 0) (.slice none 0 0) (.int .i64 0) (.int .i64 0) (.slice none 0 0) (.int .i64 2) (.int .i64 u2) (.int .u8 0) (.int .i64 0) (.slice none 0 0) (.int .i64 0) (.int .i64 0) (.slice none 0 0)
  have DA : Hid (DkS w4.heap.size w wA (.slice xo xn xc) bs a2 b2 ⟨2, u2, 0, 0, .slice none 0 0, [], 0, 0, .slice none 0 0, []⟩) := hide ⟨H4.out.1.below belA, hM, Z4.out.below belA, by omega⟩
  have OA : Hid (OwnM (w4.heap.size + 1) wA mno) := hide (OwnM.no _ _)
  have szA : w4.heap.size + 1 ≤ wA.heap.size := by omega
  have t2 : wA.setCell ⟨w4.heap.size, 2, none⟩ (.int .u8 0) = wA := set_same hM (j := 2) rfl
  have t3 : wA.setCell ⟨w4.heap.size, 3, none⟩ (.int .i64 0) = wA := set_same hM (j := 3) rfl
  have t4 : wA.setCell ⟨w4.heap.size, 4, none⟩ (.slice none 0 0) = wA := set_same hM (j := 4) rfl
  have t5 : wA.setCell ⟨w4.heap.size, 5, none⟩ (.int .i64 0) = wA := set_same hM (j := 5) rfl
  have t6 : wA.setCell ⟨w4.heap.size, 6, none⟩ (.int .i64 0) = wA := set_same hM (j := 6) rfl
  have t7 : wA.setCell ⟨w4.heap.size, 7, none⟩ (.slice none 0 0) = wA := set_same hM (j := 7) rfl
  have f2 := blk_froz hM 2
  have f3 := blk_froz hM 3
  have f4 := blk_froz hM 4
  have f5 := blk_froz hM 5
  have f6 := blk_froz hM 6
  have f7 := blk_froz hM 7
  obtain ⟨c0, c1, c2, c3, c4, c5, c6, c7⟩ := ei_of hM
  have szw : w.heap.size + 2 ≤ w4.heap.size := by omega
  clear C2 H3 H4 Z3 Z4 belA hM szA'
  obtain ⟨u3, a3, b3, S3⟩ := sstep_is bs 1048576 a2 b2
  obtain ⟨u4, a4, b4, S4⟩ := sstep_is bs 1048576 a3 b3
  have hu3 := sstep_max S3
  have hu4 := sstep_max S4
  have X3 := hide S3
  have X4 := hide S4
  have G4 : Hid (Mm.Go bs [2, (u2 : Int), (u3 : Int), (u4 : Int)] a4 b4) := hide (Mm.go_step (Mm.go_step G2.out S3 (Mm.nx_22 _)) S4 (Mm.nx_23 _ _))
  clear S3 S4
  have C5 := hide (rsmall_at w wA (w.heap.size + 1) _ bs a2 b2 1048576 u3 a3 b3 DA.out.r hl (by omega) X3.out)
  go_wp2_with fail
  refine C5.out.mono ?_
  rintro E w5 ⟨rfl, H5⟩
  have D5 := hide (DA.out.step H5.out.1 H5.out.2)
  have O5 := hide (OA.out.rd H5.out.2 (by omega))
  have szs5 := H5.out.2.size
  clear hwA' hwA t2 t3 t4 t5 t6 t7 f2 f3 f4 f5 f6 f7 c0 c1 c2 c3 c4 c5 c6 c7
  clear DA OA
  obtain ⟨x5, hx5⟩ : ∃ V, w5.setCell ⟨w4.heap.size, 5, none⟩ (.int .i64 u3) = V := ⟨_, rfl⟩
  have E5 : Hid (DkS w4.heap.size w x5 (.slice xo xn xc) bs a3 b3 (sm2 u2 u3 0 (.slice none 0 0) [])) := hide (by rw [← hx5]; exact D5.out.put 5 _ _ rfl)
  have P5 : Hid (OwnM (w4.heap.size + 1) x5 mno) := hide (by rw [← hx5]; exact O5.out.setM 5 _)
  have szp5 : w4.heap.size + 1 ≤ x5.heap.size := E5.out.m.lt
  obtain ⟨c0, c1, c2, c3, c4, c5, c6, c7⟩ := ei_of D5.out.m
  have f5 := D5.out.fm 5
  clear C5 H5 D5 O5
  have C6 := hide (rsmall_at w x5 (w.heap.size + 1) _ bs a3 b3 1048576 u4 a4 b4 E5.out.r hl (by omega) X4.out)
  go_wp2_with fail
  refine C6.out.mono ?_
  rintro E w6 ⟨rfl, H6⟩
  have D6 := hide (E5.out.step H6.out.1 H6.out.2)
  have O6 := hide (P5.out.rd H6.out.2 (by omega))
  have szs6 := H6.out.2.size
  clear c0 c1 c2 c3 c4 c5 c6 c7 f5 hx5 E5 P5
  obtain ⟨x6, hx6⟩ : ∃ V, w6.setCell ⟨w4.heap.size, 6, none⟩ (.int .i64 u4) = V := ⟨_, rfl⟩
  have E6 : Hid (DkS w4.heap.size w x6 (.slice xo xn xc) bs a4 b4 (sm2 u2 u3 u4 (.slice none 0 0) [])) := hide (by rw [← hx6]; exact D6.out.put 6 _ _ rfl)
  have P6 : Hid (OwnM (w4.heap.size + 1) x6 mno) := hide (by rw [← hx6]; exact O6.out.setM 6 _)
  have szp6 : w4.heap.size + 1 ≤ x6.heap.size := E6.out.m.lt
  obtain ⟨c0, c1, c2, c3, c4, c5, c6, c7⟩ := ei_of D6.out.m
  have f6 := D6.out.fm 6
  clear C6 H6 D6 O6
  have C7 := hide (commitsR_any w x6 (w.heap.size + 1) _ bs a4 b4 E6.out.r hl (u2 : Int) (u3 : Int) (u4 : Int) G4.out)
  go_wp2_with fail
  refine C7.out.mono ?_
  rintro E w7 ⟨v7, cs, a5, b5, nn, rfl, H7⟩
  have D7 := hide (E6.out.step H7.out.2.1 H7.out.2.2.1)
  have sz7 := H7.out.2.2.1.size
  have S7 : Hid (ShS (w4.heap.size + 1) w7 v7 cs) := hide ⟨H7.out.1.c.rebase (by omega), fun c hc => (H7.out.1.o c hc).rebase (by omega), H7.out.1.i, H7.out.1.ap, H7.out.1.f⟩
  obtain ⟨xa, xl, xd, hv7⟩ : ∃ x y z, v7 = .slice x y z := by
    obtain ⟨x, z, hv, _, _⟩ := S7.out.c.row.shape
    exact ⟨x, _, z, hv⟩
  subst hv7
  have G7 : Hid (Mm.GoC bs [2, (u2 : Int), (u3 : Int), (u4 : Int), (nn : Int)] (cvs cs) a5 b5 ∧ (b5 = false → cs.length = nn) ∧ cs.length ≤ 4) := hide H7.out.2.2.2
  clear c0 c1 c2 c3 c4 c5 c6 c7 f6 hx6 E6 P6 C7 H7
  obtain ⟨x7, hx7⟩ : ∃ V, w7.setCell ⟨w4.heap.size, 7, none⟩ (.slice xa xl xd) = V := ⟨_, rfl⟩
  have E7 : Hid (DkS w4.heap.size w x7 (.slice xo xn xc) bs a5 b5 (sm2 u2 u3 u4 (.slice xa xl xd) cs)) := hide (by rw [← hx7]; exact D7.out.put 7 _ _ rfl)
  have P7 : Hid (ShS (w4.heap.size + 1) x7 (.slice xa xl xd) cs) := hide (by rw [← hx7]; exact S7.out.out (F := fun i => i = w4.heap.size) (Out.of_grown (grown_setCell w7 ⟨w4.heap.size, 7, none⟩ (.slice xa xl xd)) (fun i hi => by simpa using hi.symm)) (fun i hi => by omega))
  have szp7 : w4.heap.size + 1 ≤ x7.heap.size := E7.out.m.lt
  obtain ⟨c0, c1, c2, c3, c4, c5, c6, c7⟩ := ei_of D7.out.m
  have f7 := D7.out.fm 7
  obtain ⟨mm, hmm⟩ : ∃ mm : Mw, mm = sm2 u2 u3 u4 (.slice xa xl xd) cs := ⟨_, rfl⟩
  obtain ⟨ao2, cap2, hvc, _, _⟩ := P7.out.c.row.shape
  have HVS : Hid (mm.vs = .slice none mm.ss.length 0) := hide (by rw [hmm]; rfl)
  have HVC : Hid (mm.vc = .slice ao2 mm.cs.length cap2) := hide (by rw [hmm]; exact hvc)
  have FM : Hid (FitM mm) := hide (by rw [hmm]; exact fit_nums (k := 2) (r := 0) (n := 0) (by omega) hu2 (by omega) (by omega) hu3 hu4 (by simp) P7.out.f (by have := G7.out.2.2; omega))
  have RD : Hid (Rdd bs mm.m a5 b5) := hide (by
    rw [hmm]
    refine .inl ⟨?_, fun hb => ?_⟩
    · rw [Mm.hd_2 rfl]
      show Mm.GoC bs [2, (u2 : Int), (u3 : Int), (u4 : Int), ((cvs cs).length : Int)] (cvs cs) a5 b5
      rcases G7.out.1 with ⟨h2, h3⟩ | h2
      · rw [show (((cvs cs).length : Int)) = (nn : Int) by rw [cvs_length, G7.out.2.1 h2]]
        exact G7.out.1
      · exact .inr h2
    · rcases G7.out.1 with ⟨_, h, h', _⟩ | ⟨h, _⟩
      · refine ⟨?_, .inr (.inl ⟨rfl, rfl, rfl, rfl, h'⟩)⟩
        rw [Mm.hd_2 rfl]
        show ∀ z ∈ [2, (u2 : Int), (u3 : Int), (u4 : Int), ((cvs cs).length : Int)], 0 ≤ z
        rw [show (((cvs cs).length : Int)) = (nn : Int) by rw [cvs_length, G7.out.2.1 hb]]
        exact h
      · rw [hb] at h; simp at h)
  have DM : Hid (DkS w4.heap.size w x7 (.slice xo xn xc) bs a5 b5 mm) := hide (by rw [hmm]; exact E7.out)
  have OM : Hid (OwnM (w4.heap.size + 1) x7 mm) := hide (by rw [hmm]; exact own_sm P7.out)
  clear hmm E7 P7 D7 S7 hvc G7
  go_wp2_with fail
  refine (rdone_any w x7 (w.heap.size + 1) _ bs a5 b5 DM.out.r).mono ?_
  rintro E wt ⟨rfl, mq, rfl⟩
  have belT : Below x7.heap.size x7 (x7.drewN mq) := below_drewN (Below.refl _ _) mq
  generalize hwt : x7.drewN mq = wt at *
  have DT := hide (DM.out.below belT)
  have OT := hide (OM.out.below belT)
  have szt := belT.size
  have bel0t : Below w.heap.size w wt := DT.out.r.2.2.1
  have HEn := hide (rd_end RD.out)
  clear hwt belT
  have NO : Hid (¬ (b5 = false ∧ a5 = bs.length ∧ Mm.Ok mm.m) → m' = Mm.no ∧ g = 5) := hide fun h => by
    rcases HEn.out with ⟨h1, _⟩ | ⟨_, h2⟩
    · exact absurd h1 h
    · exact Mm.dc_one HD.out h2
  by_cases hd : b5 = false ∧ a5 = bs.length
  · have hdd : (!b5 && decide (a5 = bs.length)) = true := by rw [hd.1, hd.2]; simp
    rw [hdd]
    have HDD := hide hd
    obtain ⟨c, hc⟩ : ∃ c, Mm.Ck mm.m c := by
      by_cases h : Mm.Ok mm.m
      · exact ⟨0, .inl ⟨rfl, h⟩⟩
      · exact ⟨2, .inr ⟨rfl, h⟩⟩
    have HC := hide hc
    have XX := hide (mcheckR_any mm c wt OT.out.is FM.out hc)
    rw [mv_eq HVS.out HVC.out] at XX
    obtain ⟨q0, q1, q2, q3, q4, q5, q6, q7⟩ := DT.out.m.ei' HVS.out HVC.out
    clear hc hd hdd
    go_wp2_with fail
    refine XX.out.mono ?_
    rintro E wu ⟨rfl, belu⟩
    have szu := belu.size
    have DU := hide (DT.out.below belu)
    have bel0u := bel0t.trans (belu.mono (by omega))
    have OU := hide (OT.out.below belu)
    clear XX q0 q1 q2 q3 q4 q5 q6 q7
    obtain ⟨q0, q1, q2, q3, q4, q5, q6, q7⟩ := DU.out.m.ei' HVS.out HVC.out
    rcases HC.out with ⟨hc0, hok⟩ | ⟨hc2, hok⟩
    · subst hc0
      obtain ⟨Y, hY, bY, gY, ⟨a0, a1', a2', a3', a4', a5', a6', a7'⟩, fr, ⟨y0, y1, y2, y3, y4, y5, y6, y7⟩⟩ := put8 (show wu.heap[w.heap.size]? = some (.cells #[.int .i64 0, .int .i64 0, .int .u8 0, .int .i64 0, .slice none 0 0, .int .i64 0, .int .i64 0, .slice none 0 0] 30 (0, 0)) from DU.out.z) (.int .i64 mm.k) (.int .i64 mm.e) (.int .u8 mm.r) (.int .i64 mm.n) (.slice none mm.ss.length 0) (.int .i64 mm.f) (.int .i64 mm.p) (.slice ao2 mm.cs.length cap2)
      have f0 := fr 0; have f1 := fr 1; have f2 := fr 2; have f3 := fr 3; have f4 := fr 4; have f5 := fr 5; have f6 := fr 6; have f7 := fr 7
      have belY := below_put bel0u gY (Nat.le_refl _) (by omega)
      have OY := ((OU.out.out (F := fun i => i = w.heap.size) (Out.of_grown gY (fun i hi => by simpa using hi.symm)) (fun i hi => by omega)).rebase (base' := w.heap.size) (by omega))
      have hres : mm.m = m' ∧ (0 : Int) = g := by
        rcases HEn.out with ⟨_, h2⟩ | ⟨h1, _⟩
        · exact Mm.dc_one h2 HD.out
        · exact (h1 ⟨HDD.out.1, HDD.out.2, hok⟩).elim
      obtain ⟨hmm, rfl⟩ := hres
      have HZZ : Hid (mm.m = m' ∧ OwnM w.heap.size Y mm ∧ FitM mm ∧ Below w.heap.size w Y) := hide ⟨hmm, OY, FM.out, belY⟩
      have HMV := hide (mv_eq HVS.out HVC.out)
      clear hok hmm OY belY gY bY fr OU bel0u NO HEn HD
      go_wp2
      refine bodyPost_ret (v := .tuple #[.agg #[.int .i64 mm.k, .int .i64 mm.e, .int .u8 mm.r, .int .i64 mm.n, .slice none mm.ss.length 0, .int .i64 mm.f, .int .i64 mm.p, .slice ao2 mm.cs.length cap2], .int .i64 0]) (by simp [results, Try.results22, go_sem, y0, y1, y2, y3, y4, y5, y6, y7]) rfl ?_
      exact ⟨mm, by rw [HMV.out], HZZ⟩
    · subst hc2
      obtain ⟨rfl, rfl⟩ := NO.out fun h => hok h.2.2
      obtain ⟨Y, hY, bY, gY, ⟨a0, a1', a2', a3', a4', a5', a6', a7'⟩, fr, ⟨y0, y1, y2, y3, y4, y5, y6, y7⟩⟩ := put8 (show wu.heap[w.heap.size]? = some (.cells #[.int .i64 0, .int .i64 0, .int .u8 0, .int .i64 0, .slice none 0 0, .int .i64 0, .int .i64 0, .slice none 0 0] 30 (0, 0)) from DU.out.z) (.int .i64 0) (.int .i64 0) (.int .u8 0) (.int .i64 0) (.slice none 0 0) (.int .i64 0) (.int .i64 0) (.slice none 0 0)
      have f0 := fr 0; have f1 := fr 1; have f2 := fr 2; have f3 := fr 3; have f4 := fr 4; have f5 := fr 5; have f6 := fr 6; have f7 := fr 7
      have HZZ := dec_no (below_put bel0u gY (Nat.le_refl _) (by omega))
      clear hok gY bY fr OU bel0u NO HEn HD
      go_wp2
      refine bodyPost_ret (v := .tuple #[.agg #[.int .i64 0, .int .i64 0, .int .u8 0, .int .i64 0, .slice none 0 0, .int .i64 0, .int .i64 0, .slice none 0 0], .int .i64 5]) (by simp [results, Try.results22, go_sem, y0, y1, y2, y3, y4, y5, y6, y7]) rfl ?_
      exact ⟨mno, rfl, HZZ⟩
  · have hdd : (!b5 && decide (a5 = bs.length)) = false := by
      rcases Bool.eq_false_or_eq_true b5 with h | h
      · rw [h]; rfl
      · rw [h]; simpa using fun e => hd ⟨h, e⟩
    rw [hdd]
    obtain ⟨rfl, rfl⟩ := NO.out fun h => hd ⟨h.1, h.2.1⟩
    obtain ⟨Y, hY, bY, gY, ⟨a0, a1', a2', a3', a4', a5', a6', a7'⟩, fr, ⟨y0, y1, y2, y3, y4, y5, y6, y7⟩⟩ := put8 (show wt.heap[w.heap.size]? = some (.cells #[.int .i64 0, .int .i64 0, .int .u8 0, .int .i64 0, .slice none 0 0, .int .i64 0, .int .i64 0, .slice none 0 0] 30 (0, 0)) from DT.out.z) (.int .i64 0) (.int .i64 0) (.int .u8 0) (.int .i64 0) (.slice none 0 0) (.int .i64 0) (.int .i64 0) (.slice none 0 0)
    have f0 := fr 0; have f1 := fr 1; have f2 := fr 2; have f3 := fr 3; have f4 := fr 4; have f5 := fr 5; have f6 := fr 6; have f7 := fr 7
    have HZZ := dec_no (below_put bel0t gY (Nat.le_refl _) (by omega))
    clear hd hdd gY bY fr OT bel0t NO HEn HD
    go_wp2
    refine bodyPost_ret (v := .tuple #[.agg #[.int .i64 0, .int .i64 0, .int .u8 0, .int .i64 0, .slice none 0 0, .int .i64 0, .int .i64 0, .slice none 0 0], .int .i64 5]) (by simp [results, Try.results22, go_sem, y0, y1, y2, y3, y4, y5, y6, y7]) rfl ?_
    exact ⟨mno, rfl, HZZ⟩

set_option maxRecDepth 100000 in
set_option maxHeartbeats 2000000 in
theorem decodeR_1 (vb : Value) (bs : List Int) (w : World) (hb : Is .u8 w vb bs) (hl : bs.length ≤ 100000000000000) (m' : Mm.Msg) (g : Int) (hD : Mm.Dc bs m' g) (a1 : Nat) (b1 : Bool) (S1 : SStep bs 3 0 false 1 a1 b1) :
    Calls Try.prog 22 #[vb] w (DecR w m' g) := by
  obtain ⟨xo, xn, xc, hvb⟩ := hb.form
  subst hvb
  obtain ⟨w1, hw1, sz1, bel1, hZ⟩ := blk_step w #[.int .i64 0, .int .i64 0, .int .u8 0, .int .i64 0, .slice none 0 0, .int .i64 0, .int .i64 0, .slice none 0 0] 30
  obtain ⟨w2, hw2, sz2, bel2, hG⟩ := blk_step w1 #[.slice xo xn xc, .int .i64 0, .bool false] 72
  rw [sz1] at hG
  have bel02 : Below w.heap.size w w2 := bel1.trans (bel2.mono (by omega))
  have r2 : Rdr w w2 (w.heap.size + 1) (.slice xo xn xc) bs 0 false := ⟨hb, by omega, bel02, hG, by omega⟩
  have Z2 : Hid (MAt w2 w.heap.size mno) := hide ((bel2.block w.heap.size (by omega)).trans hZ)
  obtain ⟨u2, a2, b2, S2⟩ := sstep_is bs 1048576 a1 b1
  have hu2 := sstep_max S2
  have G2 : Hid (Mm.Go bs [1, (u2 : Int)] a2 b2) := hide (Mm.go_step (Mm.go_step (Mm.go_start bs) S1 Mm.nx_0) S2 (Mm.nx_1 _))
  have HD := hide hD
  have C1 := hide (rsmall_at w w2 (w.heap.size + 1) _ bs 0 false 3 1 a1 b1 r2 hl (by omega) S1)
  have X2 := hide S2
  clear hb hZ hG hD S1 S2 bel1 bel2 r2
  go_enter Try.func22, Try.ntmps22
  go_wp2_with fail
  refine C1.out.mono ?_
  rintro E w3 ⟨rfl, H3⟩
  have sz3 := H3.out.2.size
  have C2 := hide (rsmall_at w w3 (w.heap.size + 1) _ bs a1 b1 1048576 u2 a2 b2 H3.out.1 hl (by omega) X2.out)
  have Z3 : Hid (MAt w3 w.heap.size mno) := hide ((H3.out.2.block w.heap.size (by omega) (by simp)).trans Z2.out)
  clear C1 hw1 hw2 Z2
  go_wp2_with fail
  refine C2.out.mono ?_
  rintro E w4 ⟨rfl, H4⟩
  have sz4 := H4.out.2.size
  have Z4 : Hid (MAt w4 w.heap.size mno) := hide ((H4.out.2.block w.heap.size (by omega) (by simp)).trans Z3.out)
  obtain ⟨wA, hwA', hwA, szA', belA, hM, _⟩ := new8 w4 30 (.int .i64 0) (.int .i64 0) (.int .u8 0) (.int .i64 0) (.slice none 0 0) (.int .i64 0) (.int .i64 0) (.slice none 0 0) (.int .i64 1) (.int .i64 u2) (.int .u8 0) (.int .i64 0) (.slice none 0 0) (.int .i64 0) (.int .i64 0) (.slice none 0 0)
  have DA : Hid (DkS w4.heap.size w wA (.slice xo xn xc) bs a2 b2 ⟨1, u2, 0, 0, .slice none 0 0, [], 0, 0, .slice none 0 0, []⟩) := hide ⟨H4.out.1.below belA, hM, Z4.out.below belA, by omega⟩
  have OA : Hid (OwnM (w4.heap.size + 1) wA mno) := hide (OwnM.no _ _)
  have szA : w4.heap.size + 1 ≤ wA.heap.size := by omega
  have t2 : wA.setCell ⟨w4.heap.size, 2, none⟩ (.int .u8 0) = wA := set_same hM (j := 2) rfl
  have t3 : wA.setCell ⟨w4.heap.size, 3, none⟩ (.int .i64 0) = wA := set_same hM (j := 3) rfl
  have t4 : wA.setCell ⟨w4.heap.size, 4, none⟩ (.slice none 0 0) = wA := set_same hM (j := 4) rfl
  have t5 : wA.setCell ⟨w4.heap.size, 5, none⟩ (.int .i64 0) = wA := set_same hM (j := 5) rfl
  have t6 : wA.setCell ⟨w4.heap.size, 6, none⟩ (.int .i64 0) = wA := set_same hM (j := 6) rfl
  have t7 : wA.setCell ⟨w4.heap.size, 7, none⟩ (.slice none 0 0) = wA := set_same hM (j := 7) rfl
  have f2 := blk_froz hM 2
  have f3 := blk_froz hM 3
  have f4 := blk_froz hM 4
  have f5 := blk_froz hM 5
  have f6 := blk_froz hM 6
  have f7 := blk_froz hM 7
  obtain ⟨c0, c1, c2, c3, c4, c5, c6, c7⟩ := ei_of hM
  have szw : w.heap.size + 2 ≤ w4.heap.size := by omega
  clear C2 H3 H4 Z3 Z4 belA hM szA'
  obtain ⟨u3, a3, b3, S3⟩ := sstep_is bs 3 a2 b2
  obtain ⟨u4, a4, b4, S4⟩ := sstep_is bs 1048576 a3 b3
  obtain ⟨nn, a5, b5, S5⟩ := sstep_is bs 1048576 a4 b4
  have hu3 := sstep_max S3
  have hu4 := sstep_max S4
  have hu5 := sstep_max S5
  have X3 := hide S3
  have X4 := hide S4
  have X5 := hide S5
  have G5 : Hid (Mm.Go bs ([1, (u2 : Int), (u3 : Int), (u4 : Int), (nn : Int)] ++ Mm.fl []) a5 b5) := hide (by
    have := Mm.go_step (Mm.go_step (Mm.go_step G2.out S3 (Mm.nx_12 _)) S4 (Mm.nx_13 _ _)) S5 (Mm.nx_14 _ _ _)
    simpa [Mm.fl] using this)
  have hwr : IntKind.u8.wrap (u3 : Int) = u3 := by
    unfold IntKind.wrap
    simp [IntKind.bits, IntKind.signed]
    omega
  clear S3 S4 S5
  have C5 := hide (rsmall_at w wA (w.heap.size + 1) _ bs a2 b2 3 u3 a3 b3 DA.out.r hl (by omega) X3.out)
  go_wp2_with fail
  refine C5.out.mono ?_
  rintro E w5 ⟨rfl, H5⟩
  have D5 := hide (DA.out.step H5.out.1 H5.out.2)
  have O5 := hide (OA.out.rd H5.out.2 (by omega))
  have szs5 := H5.out.2.size
  clear hwA' hwA t2 t3 t4 t5 t6 t7 f2 f3 f4 f5 f6 f7 c0 c1 c2 c3 c4 c5 c6 c7
  clear DA OA
  obtain ⟨x5, hx5⟩ : ∃ V, w5.setCell ⟨w4.heap.size, 2, none⟩ (.int .u8 u3) = V := ⟨_, rfl⟩
  have E5 : Hid (DkS w4.heap.size w x5 (.slice xo xn xc) bs a3 b3 (hm1 u2 u3 0 (.slice none 0 0) [])) := hide (by rw [← hx5]; exact D5.out.put 2 _ _ rfl)
  have P5 : Hid (OwnM (w4.heap.size + 1) x5 mno) := hide (by rw [← hx5]; exact O5.out.setM 2 _)
  have szp5 : w4.heap.size + 1 ≤ x5.heap.size := E5.out.m.lt
  obtain ⟨c0, c1, c2, c3, c4, c5, c6, c7⟩ := ei_of D5.out.m
  have f2 := D5.out.fm 2
  clear C5 H5 D5 O5
  have C6 := hide (rsmall_at w x5 (w.heap.size + 1) _ bs a3 b3 1048576 u4 a4 b4 E5.out.r hl (by omega) X4.out)
  go_wp2_with fail
  refine C6.out.mono ?_
  rintro E w6 ⟨rfl, H6⟩
  have D6 := hide (E5.out.step H6.out.1 H6.out.2)
  have O6 := hide (P5.out.rd H6.out.2 (by omega))
  have szs6 := H6.out.2.size
  clear c0 c1 c2 c3 c4 c5 c6 c7 f2 hx5 E5 P5
  obtain ⟨x6, hx6⟩ : ∃ V, w6.setCell ⟨w4.heap.size, 3, none⟩ (.int .i64 u4) = V := ⟨_, rfl⟩
  have E6 : Hid (DkS w4.heap.size w x6 (.slice xo xn xc) bs a4 b4 (hm1 u2 u3 u4 (.slice none 0 0) [])) := hide (by rw [← hx6]; exact D6.out.put 3 _ _ rfl)
  have P6 : Hid (OwnM (w4.heap.size + 1) x6 mno) := hide (by rw [← hx6]; exact O6.out.setM 3 _)
  have szp6 : w4.heap.size + 1 ≤ x6.heap.size := E6.out.m.lt
  obtain ⟨c0, c1, c2, c3, c4, c5, c6, c7⟩ := ei_of D6.out.m
  have f3 := D6.out.fm 3
  clear C6 H6 D6 O6
  have C7 := hide (rsmall_at w x6 (w.heap.size + 1) _ bs a4 b4 1048576 nn a5 b5 E6.out.r hl (by omega) X5.out)
  go_wp2_with fail
  refine C7.out.mono ?_
  rintro E w7 ⟨rfl, H7⟩
  have D7 := hide (E6.out.step H7.out.1 H7.out.2)
  have sz7 := H7.out.2.size
  clear c0 c1 c2 c3 c4 c5 c6 c7 f3 hx6 E6 P6 C7 H7
  go_wp2
  go_loopw [6] (fun lv wr => ∃ (left a : Nat) (bad : Bool) (vs : Value) (ss : List Sm.S), lv = .int .i64 left ∧ left ≤ 1048576 ∧ Hid (ss.length + left = nn) ∧ Hid (DkS w4.heap.size w wr (.slice xo xn xc) bs a bad (hm1 u2 u3 u4 vs ss) ∧ OwnS (w4.heap.size + 1) wr vs ss) ∧ Hid (Mm.Go bs ([1, (u2 : Int), (u3 : Int), (u4 : Int), (nn : Int)] ++ Mm.fl ss) a bad)) (fun lv _ => (intOf lv).toNat)
  case atStart => exact ⟨nn, a5, b5, _, [], rfl, hu5, hide (by simp), hide ⟨D7.out, OwnG.nil _ _ _ _ _⟩, G5⟩
  case round =>
    clear D7 G5
    obtain ⟨left, a, bad, vs, ss, rfl, hlf, HL, HR, HG⟩ := hrel
    have cbad := HR.out.1.r.cell2
    obtain ⟨xa, xl, xd, hvs⟩ : ∃ x y z, vs = .slice x y z := by
      obtain ⟨x, z, hv, _, _⟩ := HR.out.2.row.shape
      exact ⟨x, _, z, hv⟩
    subst hvs
    by_cases hcont : 0 < left ∧ bad = false
    · obtain ⟨hlt, rfl⟩ := hcont
      have hlt' : (0 : Int) < left := by omega
      obtain ⟨p, aa, ba, SA⟩ := sstep_is bs 1048576 a false
      obtain ⟨q, ab, bb, SB⟩ := sstep_is bs 1048576 aa ba
      have hp := sstep_max SA
      have hq := sstep_max SB
      have HG2 : Hid (Mm.Go bs ([1, (u2 : Int), (u3 : Int), (u4 : Int), (nn : Int)] ++ Mm.fl (ss ++ [((p : Int), (q : Int))])) ab bb) := hide (by
        have h1 := Mm.go_step HG.out SA (Mm.nx_15 _ _ _ _ _ (by rw [Mm.fl_len]; have := HL.out; omega))
        rw [List.append_assoc] at h1
        have h2 := Mm.go_step h1 SB (Mm.nx_15 _ _ _ _ _ (by rw [List.length_append, Mm.fl_len]; have := HL.out; simp; omega))
        rw [Mm.fl_app]
        simpa [Mm.fl] using h2)
      have RD1 := hide (HR.out.1.drewN 1)
      have OD1 : Hid (OwnS (w4.heap.size + 1) (wr.drewN 1) (.slice xa xl xd) ss) := hide (ownS_below HR.out.2 (below_drewN (Below.refl _ _) 1))
      have C1 := hide (rsmall_fn w (wr.drewN 1) (w.heap.size + 1) _ bs a false 1048576 p aa ba RD1.out.r hl (by omega) SA)
      have C2 := hide (fun (W : World) (k : Rdr w W (w.heap.size + 1) (.slice xo xn xc) bs aa ba) => rsmall_fn w W (w.heap.size + 1) _ bs aa ba 1048576 q ab bb k hl (by omega) SB)
      have cv : wr.cell? ⟨w4.heap.size, 4, none⟩ = some (.slice xa xl xd) := HR.out.1.m.ei.c4
      have hll := HL.out
      clear SA SB HG
      go_wp2_with fail
      go_region_law (first
        | (refine call_at rfl 46 #[.tmp 44, .const (.int .i64 1048576)] #[70, 3] rfl Try.enters46 #[.pointer (some ⟨w.heap.size + 1, 0, none⟩), .int .i64 1048576] (by simp [Act.eval, Act.put]) C1.out ?_; rintro v1 z1 ⟨rfl, H1⟩; have R1 := hide (RD1.out.step H1.out.1 H1.out.2); have O1 : Hid (OwnS (w4.heap.size + 1) z1 (.slice xa xl xd) ss) := hide ((own_hm (e := 0) (r := 0) (n := 0) OD1.out).rd H1.out.2 (by omega)).s; have cv1 : z1.cell? ⟨w4.heap.size, 4, none⟩ = some (.slice xa xl xd) := R1.out.m.ei.c4; clear H1)
        | (refine call_at rfl 46 #[.tmp 46, .const (.int .i64 1048576)] #[70, 3] rfl Try.enters46 #[.pointer (some ⟨w.heap.size + 1, 0, none⟩), .int .i64 1048576] (by simp [Act.eval]) (C2.out _ R1.out.r) ?_; rintro v2 z2 ⟨rfl, H2⟩; have R2 := hide (R1.out.step H2.out.1 H2.out.2); have O2 : Hid (OwnS (w4.heap.size + 1) z2 (.slice xa xl xd) ss) := hide ((own_hm (e := 0) (r := 0) (n := 0) O1.out).rd H2.out.2 (by omega)).s; have cv2 : z2.cell? ⟨w4.heap.size, 4, none⟩ = some (.slice xa xl xd) := R2.out.m.ei.c4; obtain ⟨z3, hz3, sz3', bel3, own3⟩ := sts_step z2 #[.int .i64 p, .int .i64 q] 1 [((p : Int), (q : Int))] rfl rfl (by simp [maxLen]); have R3 := hide (R2.out.below bel3); have O3 := hide (ownS_below O2.out bel3); have cv3 : z3.cell? ⟨w4.heap.size, 4, none⟩ = some (.slice xa xl xd) := R3.out.m.ei.c4; have RW3 := hide own3.row; have hl3 := R3.out.m.lt; clear H2 own3 bel3 sz3')
        | (refine step_append_rows stc 2 16 stc_len (by decide) (by decide) (.agg #[.int .i64 0, .int .i64 0]) rfl rfl (.tmp 43) (.tmp 49) 27 rfl 60 (w4.heap.size + 1) Try.underlying27 Try.info60 _ ss (by simp [Act.eval]) O3.out _ [((p : Int), (q : Int))] (by simp [Act.eval]) RW3.out (stc_one _) (by simp; omega) (by omega) ?_; intro v4 z4 own4 gr4; obtain ⟨ya, yl, yc, hv4⟩ : ∃ x y z, v4 = .slice x y z := (by obtain ⟨x, z, hv, _, _⟩ := own4.row.shape; exact ⟨x, _, z, hv⟩); subst hv4; have R4 := hide (R3.out.grown gr4 (fun g e => (O3.out.lt g e).1)); have O4 := hide own4; have cv4 : z4.cell? ⟨w4.heap.size, 4, none⟩ = some (.slice xa xl xd) := R4.out.m.ei.c4; have fr4 := R4.out.fm 4; clear own4 gr4))
      all_goals
        obtain ⟨z5, hz5⟩ : ∃ V, z4.setCell ⟨w4.heap.size, 4, none⟩ (.slice ya yl yc) = V := ⟨_, rfl⟩
        have R5 : Hid (DkS w4.heap.size w z5 (.slice xo xn xc) bs ab bb (hm1 u2 u3 u4 (.slice ya yl yc) (ss ++ [((p : Int), (q : Int))]))) := hide (by rw [← hz5]; exact R4.out.put 4 _ _ rfl)
        have O5 : Hid (OwnS (w4.heap.size + 1) z5 (.slice ya yl yc) (ss ++ [((p : Int), (q : Int))])) := hide (by rw [← hz5]; exact ((own_hm (e := 0) (r := 0) (n := 0) O4.out).setM 4 _).s)
        clear R4 O4 R3 O3 R2 O2 R1 O1 C1 C2 RD1 OD1
        go_wp2
        go_roundw
        case rel => exact ⟨left - 1, ab, bb, _, _, by rw [show ((left - 1 : Nat) : Int) = (left : Int) - 1 by omega], by omega, hide (by rw [List.length_append]; simp; omega), hide ⟨R5.out, O5.out⟩, HG2⟩
        case measure => simp [intOf]; omega
    · have hend : Hid (bad = false → left = 0) := hide fun h => by
        rcases Nat.eq_zero_or_pos left with e | e
        · exact e
        · exact absurd ⟨e, h⟩ hcont
      have hsl : ss.length ≤ 1048576 := by have := HL.out; omega
      obtain ⟨mm, hmm⟩ : ∃ mm : Mw, mm = hm1 u2 u3 u4 (.slice xa xl xd) ss := ⟨_, rfl⟩
      obtain ⟨ao, cap, hvs, _, _⟩ := HR.out.2.row.shape
      have HVS : Hid (mm.vs = .slice ao mm.ss.length cap) := hide (by rw [hmm]; exact hvs)
      have HVC : Hid (mm.vc = .slice none mm.cs.length 0) := hide (by rw [hmm]; rfl)
      have FM : Hid (FitM mm) := hide (by rw [hmm]; exact fit_nums (k := 1) (f := 0) (p := 0) (by omega) hu2 hu3 hu4 (by omega) (by omega) (by omega) (fun c hc => by simp at hc) (by simp))
      have RD : Hid (Rdd bs mm.m a bad) := hide (by
        rw [hmm]
        refine .inl ⟨?_, fun hb => ?_⟩
        · rw [Mm.hd_1 rfl]
          show Mm.GoC bs ([1, (u2 : Int), (u3 : Int), (u4 : Int), (ss.length : Int)] ++ Mm.fl ss) [] a bad
          rcases HG.out with ⟨h2, h3⟩ | h2
          · have hz := hend.out h2
            have hlz := HL.out
            rw [show ((ss.length : Int)) = (nn : Int) by omega]
            exact HG.out.c
          · exact .inr h2
        · refine ⟨?_, .inl ⟨rfl, rfl, rfl, rfl⟩⟩
          rw [Mm.hd_1 rfl]
          show ∀ z ∈ ([1, (u2 : Int), (u3 : Int), (u4 : Int), (ss.length : Int)] ++ Mm.fl ss), 0 ≤ z
          have hz := hend.out hb
          have hlz := HL.out
          rw [show ((ss.length : Int)) = (nn : Int) by omega]
          rcases HG.out with ⟨_, h, _⟩ | ⟨h, _⟩
          · exact h
          · rw [hb] at h; simp at h)
      have DM : Hid (DkS w4.heap.size w wr (.slice xo xn xc) bs a bad mm) := hide (by rw [hmm]; exact HR.out.1)
      have OM : Hid (OwnM (w4.heap.size + 1) wr mm) := hide (by rw [hmm]; exact own_hm HR.out.2)
      have szm : w4.heap.size + 1 ≤ wr.heap.size := DM.out.m.lt
      clear hmm hvs HG HR
      by_cases hz : left = 0
      · have hz' : ¬ (0 : Int) < left := by omega
        clear hcont
        go_wp2_with fail
        refine (rdone_any w wr (w.heap.size + 1) _ bs a bad DM.out.r).mono ?_
        rintro E wt ⟨rfl, mq, rfl⟩
        have belT : Below wr.heap.size wr (wr.drewN mq) := below_drewN (Below.refl _ _) mq
        generalize hwt : wr.drewN mq = wt at *
        have DT := hide (DM.out.below belT)
        have OT := hide (OM.out.below belT)
        have szt := belT.size
        have bel0t : Below w.heap.size w wt := DT.out.r.2.2.1
        have HEn := hide (rd_end RD.out)
        clear hwt belT
        have NO : Hid (¬ (bad = false ∧ a = bs.length ∧ Mm.Ok mm.m) → m' = Mm.no ∧ g = 5) := hide fun h => by
          rcases HEn.out with ⟨h1, _⟩ | ⟨_, h2⟩
          · exact absurd h1 h
          · exact Mm.dc_one HD.out h2
        by_cases hd : bad = false ∧ a = bs.length
        · have hdd : (!bad && decide (a = bs.length)) = true := by rw [hd.1, hd.2]; simp
          rw [hdd]
          have HDD := hide hd
          obtain ⟨c, hc⟩ : ∃ c, Mm.Ck mm.m c := by
            by_cases h : Mm.Ok mm.m
            · exact ⟨0, .inl ⟨rfl, h⟩⟩
            · exact ⟨2, .inr ⟨rfl, h⟩⟩
          have HC := hide hc
          have XX := hide (mcheckR_any mm c wt OT.out.is FM.out hc)
          rw [mv_eq HVS.out HVC.out] at XX
          obtain ⟨q0, q1, q2, q3, q4, q5, q6, q7⟩ := DT.out.m.ei' HVS.out HVC.out
          clear hc hd hdd
          go_wp2_with fail
          refine XX.out.mono ?_
          rintro E wu ⟨rfl, belu⟩
          have szu := belu.size
          have DU := hide (DT.out.below belu)
          have bel0u := bel0t.trans (belu.mono (by omega))
          have OU := hide (OT.out.below belu)
          clear XX q0 q1 q2 q3 q4 q5 q6 q7
          obtain ⟨q0, q1, q2, q3, q4, q5, q6, q7⟩ := DU.out.m.ei' HVS.out HVC.out
          rcases HC.out with ⟨hc0, hok⟩ | ⟨hc2, hok⟩
          · subst hc0
            obtain ⟨Y, hY, bY, gY, ⟨a0, a1', a2', a3', a4', a5', a6', a7'⟩, fr, ⟨y0, y1, y2, y3, y4, y5, y6, y7⟩⟩ := put8 (show wu.heap[w.heap.size]? = some (.cells #[.int .i64 0, .int .i64 0, .int .u8 0, .int .i64 0, .slice none 0 0, .int .i64 0, .int .i64 0, .slice none 0 0] 30 (0, 0)) from DU.out.z) (.int .i64 mm.k) (.int .i64 mm.e) (.int .u8 mm.r) (.int .i64 mm.n) (.slice ao mm.ss.length cap) (.int .i64 mm.f) (.int .i64 mm.p) (.slice none mm.cs.length 0)
            have f0 := fr 0; have f1 := fr 1; have f2 := fr 2; have f3 := fr 3; have f4 := fr 4; have f5 := fr 5; have f6 := fr 6; have f7 := fr 7
            have belY := below_put bel0u gY (Nat.le_refl _) (by omega)
            have OY := ((OU.out.out (F := fun i => i = w.heap.size) (Out.of_grown gY (fun i hi => by simpa using hi.symm)) (fun i hi => by omega)).rebase (base' := w.heap.size) (by omega))
            have hres : mm.m = m' ∧ (0 : Int) = g := by
              rcases HEn.out with ⟨_, h2⟩ | ⟨h1, _⟩
              · exact Mm.dc_one h2 HD.out
              · exact (h1 ⟨HDD.out.1, HDD.out.2, hok⟩).elim
            obtain ⟨hmm, rfl⟩ := hres
            have HZZ : Hid (mm.m = m' ∧ OwnM w.heap.size Y mm ∧ FitM mm ∧ Below w.heap.size w Y) := hide ⟨hmm, OY, FM.out, belY⟩
            have HMV := hide (mv_eq HVS.out HVC.out)
            clear hok hmm OY belY gY bY fr OU bel0u NO HEn HD
            go_wp2
            refine bodyPost_ret (v := .tuple #[.agg #[.int .i64 mm.k, .int .i64 mm.e, .int .u8 mm.r, .int .i64 mm.n, .slice ao mm.ss.length cap, .int .i64 mm.f, .int .i64 mm.p, .slice none mm.cs.length 0], .int .i64 0]) (by simp [results, Try.results22, go_sem, y0, y1, y2, y3, y4, y5, y6, y7]) rfl ?_
            exact ⟨mm, by rw [HMV.out], HZZ⟩
          · subst hc2
            obtain ⟨rfl, rfl⟩ := NO.out fun h => hok h.2.2
            obtain ⟨Y, hY, bY, gY, ⟨a0, a1', a2', a3', a4', a5', a6', a7'⟩, fr, ⟨y0, y1, y2, y3, y4, y5, y6, y7⟩⟩ := put8 (show wu.heap[w.heap.size]? = some (.cells #[.int .i64 0, .int .i64 0, .int .u8 0, .int .i64 0, .slice none 0 0, .int .i64 0, .int .i64 0, .slice none 0 0] 30 (0, 0)) from DU.out.z) (.int .i64 0) (.int .i64 0) (.int .u8 0) (.int .i64 0) (.slice none 0 0) (.int .i64 0) (.int .i64 0) (.slice none 0 0)
            have f0 := fr 0; have f1 := fr 1; have f2 := fr 2; have f3 := fr 3; have f4 := fr 4; have f5 := fr 5; have f6 := fr 6; have f7 := fr 7
            have HZZ := dec_no (below_put bel0u gY (Nat.le_refl _) (by omega))
            clear hok gY bY fr OU bel0u NO HEn HD
            go_wp2
            refine bodyPost_ret (v := .tuple #[.agg #[.int .i64 0, .int .i64 0, .int .u8 0, .int .i64 0, .slice none 0 0, .int .i64 0, .int .i64 0, .slice none 0 0], .int .i64 5]) (by simp [results, Try.results22, go_sem, y0, y1, y2, y3, y4, y5, y6, y7]) rfl ?_
            exact ⟨mno, rfl, HZZ⟩
        · have hdd : (!bad && decide (a = bs.length)) = false := by
            rcases Bool.eq_false_or_eq_true bad with h | h
            · rw [h]; rfl
            · rw [h]; simpa using fun e => hd ⟨h, e⟩
          rw [hdd]
          obtain ⟨rfl, rfl⟩ := NO.out fun h => hd ⟨h.1, h.2.1⟩
          obtain ⟨Y, hY, bY, gY, ⟨a0, a1', a2', a3', a4', a5', a6', a7'⟩, fr, ⟨y0, y1, y2, y3, y4, y5, y6, y7⟩⟩ := put8 (show wt.heap[w.heap.size]? = some (.cells #[.int .i64 0, .int .i64 0, .int .u8 0, .int .i64 0, .slice none 0 0, .int .i64 0, .int .i64 0, .slice none 0 0] 30 (0, 0)) from DT.out.z) (.int .i64 0) (.int .i64 0) (.int .u8 0) (.int .i64 0) (.slice none 0 0) (.int .i64 0) (.int .i64 0) (.slice none 0 0)
          have f0 := fr 0; have f1 := fr 1; have f2 := fr 2; have f3 := fr 3; have f4 := fr 4; have f5 := fr 5; have f6 := fr 6; have f7 := fr 7
          have HZZ := dec_no (below_put bel0t gY (Nat.le_refl _) (by omega))
          clear hd hdd gY bY fr OT bel0t NO HEn HD
          go_wp2
          refine bodyPost_ret (v := .tuple #[.agg #[.int .i64 0, .int .i64 0, .int .u8 0, .int .i64 0, .slice none 0 0, .int .i64 0, .int .i64 0, .slice none 0 0], .int .i64 5]) (by simp [results, Try.results22, go_sem, y0, y1, y2, y3, y4, y5, y6, y7]) rfl ?_
          exact ⟨mno, rfl, HZZ⟩
      · have hz' : (0 : Int) < left := by omega
        have hbt : bad = true := by
          cases bad
          · exact absurd ⟨by omega, rfl⟩ hcont
          · rfl
        subst hbt
        clear hcont
        go_wp2_with fail
        refine (rdone_any w wr (w.heap.size + 1) _ bs a true DM.out.r).mono ?_
        rintro E wt ⟨rfl, mq, rfl⟩
        have belT : Below wr.heap.size wr (wr.drewN mq) := below_drewN (Below.refl _ _) mq
        generalize hwt : wr.drewN mq = wt at *
        have DT := hide (DM.out.below belT)
        have OT := hide (OM.out.below belT)
        have szt := belT.size
        have bel0t : Below w.heap.size w wt := DT.out.r.2.2.1
        have HEn := hide (rd_end RD.out)
        clear hwt belT
        have NO : Hid (¬ (true = false ∧ a = bs.length ∧ Mm.Ok mm.m) → m' = Mm.no ∧ g = 5) := hide fun h => by
          rcases HEn.out with ⟨h1, _⟩ | ⟨_, h2⟩
          · exact absurd h1 h
          · exact Mm.dc_one HD.out h2
        have hdd : (!true && decide (a = bs.length)) = false := by simp
        rw [hdd]
        obtain ⟨rfl, rfl⟩ := NO.out fun h => by simp at h
        obtain ⟨Y, hY, bY, gY, ⟨a0, a1', a2', a3', a4', a5', a6', a7'⟩, fr, ⟨y0, y1, y2, y3, y4, y5, y6, y7⟩⟩ := put8 (show wt.heap[w.heap.size]? = some (.cells #[.int .i64 0, .int .i64 0, .int .u8 0, .int .i64 0, .slice none 0 0, .int .i64 0, .int .i64 0, .slice none 0 0] 30 (0, 0)) from DT.out.z) (.int .i64 0) (.int .i64 0) (.int .u8 0) (.int .i64 0) (.slice none 0 0) (.int .i64 0) (.int .i64 0) (.slice none 0 0)
        have f0 := fr 0; have f1 := fr 1; have f2 := fr 2; have f3 := fr 3; have f4 := fr 4; have f5 := fr 5; have f6 := fr 6; have f7 := fr 7
        have HZZ := dec_no (below_put bel0t gY (Nat.le_refl _) (by omega))
        clear hdd gY bY fr OT bel0t NO HEn HD
        go_wp2
        refine bodyPost_ret (v := .tuple #[.agg #[.int .i64 0, .int .i64 0, .int .u8 0, .int .i64 0, .slice none 0 0, .int .i64 0, .int .i64 0, .slice none 0 0], .int .i64 5]) (by simp [results, Try.results22, go_sem, y0, y1, y2, y3, y4, y5, y6, y7]) rfl ?_
        exact ⟨mno, rfl, HZZ⟩

theorem mdecodeR_any (vb : Value) (bs : List Int) (w : World) (hb : Is .u8 w vb bs) (hl : bs.length ≤ 100000000000000) (m' : Mm.Msg) (g : Int) (hD : Mm.Dc bs m' g) : Calls Try.prog 22 #[vb] w (DecR w m' g) := by
  obtain ⟨u, a1, b1, S1⟩ := sstep_is bs 3 0 false
  have := sstep_max S1
  rcases (show u = 0 ∨ u = 1 ∨ u = 2 ∨ u = 3 by omega) with rfl | rfl | rfl | rfl
  · exact decodeR_0 vb bs w hb hl m' g hD a1 b1 S1
  · exact decodeR_1 vb bs w hb hl m' g hD a1 b1 S1
  · exact decodeR_2 vb bs w hb hl m' g hD a1 b1 S1
  · exact decodeR_3 vb bs w hb hl m' g hD a1 b1 S1

end Go.Proofs.Ytjaiemdefngbbaa
