/- The contract of the document's Decode. -/
import Derived.Test.YtjaiemdefngbbaaXv
import Derived.Test.YtjaiemdefngbbaaXt
import Derived.Test.YtjaiemdefngbbaaXr
namespace Go.Proofs.Ytjaiemdefngbbaa
open Go.RowKit
set_option linter.unusedVariables false

/-- The document's reader, the message so far (block M) and the result's block. -/
structure DkS (M : Nat) (w0 w : World) (vb : Value) (bs : List Int) (a : Nat) (bad : Bool) (m : Mw) : Prop where
  r : Rdr w0 w (w0.heap.size + 1) vb bs a bad
  m : MAt w M m
  z : MAt w w0.heap.size mno
  hM : w0.heap.size + 2 ≤ M

section
variable {M : Nat} {w0 w w' : World} {vb : Value} {bs : List Int} {a a' : Nat} {bad bad' : Bool} {m : Mw}

theorem DkS.below (h : DkS M w0 w vb bs a bad m) (hb : Below w.heap.size w w') : DkS M w0 w' vb bs a bad m := ⟨h.r.below hb, h.m.below hb, h.z.below hb, h.hM⟩
theorem DkS.drewN (h : DkS M w0 w vb bs a bad m) (n : Nat) : DkS M w0 (w.drewN n) vb bs a bad m := h.below (below_drewN (Below.refl _ _) n)
theorem DkS.step (h : DkS M w0 w vb bs a bad m) (hr : Rdr w0 w' (w0.heap.size + 1) vb bs a' bad') (hg : w.grownBy w' (some (w0.heap.size + 1))) : DkS M w0 w' vb bs a' bad' m := by
  have := h.hM
  exact ⟨hr, (hg.block M h.m.lt (by simp; omega)).trans h.m, (hg.block w0.heap.size h.z.lt (by simp)).trans h.z, h.hM⟩
theorem DkS.grown (h : DkS M w0 w vb bs a bad m) {row : Option Nat} (hg : w.grownBy w' row) (hr : ∀ g, row = some g → M + 1 ≤ g) : DkS M w0 w' vb bs a bad m := by
  have hM := h.hM
  have hl := h.m.lt
  have k : ∀ i, i < M + 1 → w'.heap[i]? = w.heap[i]? := fun i hi => hg.block i (by omega) fun e => by have := hr i e.symm; omega
  exact ⟨⟨h.r.1, h.r.2.1, h.r.2.2.1.grown hg (by omega) (fun g e => by have := hr g e; omega), (k _ (by omega)).trans h.r.2.2.2.1, h.r.2.2.2.2⟩, (k _ (by omega)).trans h.m, (k _ (by omega)).trans h.z, hM⟩
theorem DkS.put (h : DkS M w0 w vb bs a bad m) (j : Nat) (u : Value) (m' : Mw) (hm : (mc m).setIfInBounds j u = mc m') : DkS M w0 (w.setCell ⟨M, j, none⟩ u) vb bs a bad m' := by
  have hg := grown_setCell w ⟨M, j, none⟩ u
  have hM := h.hM
  have hl := h.m.lt
  refine ⟨⟨h.r.1, h.r.2.1, below_put h.r.2.2.1 hg (by simp; omega) (by omega), (hg.block _ (by omega) (by simp; omega)).trans h.r.2.2.2.1, h.r.2.2.2.2⟩, ?_, (hg.block _ (by omega) (by simp; omega)).trans h.z, hM⟩
  unfold MAt
  rw [← hm]
  exact set_cells h.m j u
theorem DkS.fm (h : DkS M w0 w vb bs a bad m) (j : Nat) : w.frozen? ⟨M, j, none⟩ = false := blk_froz h.m j

theorem OwnM.rd (h : OwnM (M + 1) w m) {g : Nat} (hg : w.grownBy w' (some g)) (hb : g < M + 1) : OwnM (M + 1) w' m := h.out (F := fun i => i = g) (Out.of_grown hg (fun i hi => by simpa using hi.symm)) (fun i hi => by omega)
theorem OwnM.setM (h : OwnM (M + 1) w m) (j : Nat) (u : Value) : OwnM (M + 1) (w.setCell ⟨M, j, none⟩ u) m := h.out (F := fun i => i = M) (Out.of_grown (grown_setCell w ⟨M, j, none⟩ u) (fun i hi => by simpa using hi.symm)) (fun i hi => by omega)
end

/-- Small's answer and what it leaves. -/
def SmR (w0 : World) (g : Nat) (vb : Value) (bs : List Int) (u a' : Nat) (bad' : Bool) (w : World) (v : Value) (w' : World) : Prop := v = .int .i64 u ∧ Hid (Rdr w0 w' g vb bs a' bad' ∧ w.grownBy w' (some g))

theorem rsmall_fn (w0 w : World) (g : Nat) (vb : Value) (bs : List Int) (a : Nat) (bad : Bool) (most u a' : Nat) (bad' : Bool) (h : Rdr w0 w g vb bs a bad) (hl : bs.length ≤ 100000000000000) (hm : most < 9223372036854775808) (hS : SStep bs most a bad u a' bad') :
    Calls Try.prog 46 #[.pointer (some ⟨g, 0, none⟩), .int .i64 most] w fun E w' => ∃ v, E = .returned v ∧ SmR w0 g vb bs u a' bad' w v w' := by
  refine (rsmall_at w0 w g vb bs a bad most u a' bad' h hl hm hS).mono ?_
  rintro E w' ⟨rfl, H⟩
  exact ⟨_, rfl, rfl, H⟩

theorem Try.enters46 : ∀ args w, (callFunc 46 args).run Try.prog w = .ok (.enter 46 args) w := enters_of Try.func46 (by kernel_rfl) rfl

set_option maxRecDepth 100000 in
set_option maxHeartbeats 2000000 in
theorem decodeR_3 (vb : Value) (bs : List Int) (w : World) (hb : Is .u8 w vb bs) (hl : bs.length ≤ 100000000000000) (m' : Mm.Msg) (g : Int) (hD : Mm.Dc bs m' g) (a1 : Nat) (b1 : Bool) (S1 : SStep bs 3 0 false 3 a1 b1) :
    Calls Try.prog 22 #[vb] w (DecR w m' g) := by
  obtain ⟨xo, xn, xc, hvb⟩ := hb.form
  subst hvb
  obtain ⟨w1, hw1, sz1, bel1, hZ⟩ := blk_step w #[.int .i64 0, .int .i64 0, .int .u8 0, .int .i64 0, .slice none 0 0, .int .i64 0, .int .i64 0, .slice none 0 0] 30
  obtain ⟨w2, hw2, sz2, bel2, hG⟩ := blk_step w1 #[.slice xo xn xc, .int .i64 0, .bool false] 72
  rw [sz1] at hG
  have bel02 : Below w.heap.size w w2 := bel1.trans (bel2.mono (by omega))
  have r2 : Rdr w w2 (w.heap.size + 1) (.slice xo xn xc) bs 0 false := ⟨hb, by omega, bel02, hG, by omega⟩
  have Z2 : Hid (MAt w2 w.heap.size mno) := hide ((bel2.block w.heap.size (by omega)).trans hZ)
  obtain ⟨u2, a2, b2, S2⟩ := sstep_is bs 1048576 a1 b1
  have hu2 := sstep_max S2
  have G2 : Hid (Mm.Go bs [3, (u2 : Int)] a2 b2) := hide (Mm.go_step (Mm.go_step (Mm.go_start bs) S1 Mm.nx_0) S2 (Mm.nx_1 _))
  have HD := hide hD
  have C1 := hide (rsmall_at w w2 (w.heap.size + 1) _ bs 0 false 3 3 a1 b1 r2 hl (by omega) S1)
  have X2 := hide S2
  clear hb hZ hG hD S1 S2 bel1 bel2 r2
  go_enter Try.func22, Try.ntmps22
  go_wp2_with fail
  refine C1.out.mono ?_
  rintro E w3 ⟨rfl, H3⟩
  have sz3 := H3.out.2.size
  have C2 := hide (rsmall_at w w3 (w.heap.size + 1) _ bs a1 b1 1048576 u2 a2 b2 H3.out.1 hl (by omega) X2.out)
  have Z3 : Hid (MAt w3 w.heap.size mno) := hide ((H3.out.2.block w.heap.size (by omega) (by simp)).trans Z2.out)
  clear C1 hw1 hw2 Z2
  go_wp2_with fail
  refine C2.out.mono ?_
  rintro E w4 ⟨rfl, H4⟩
  have sz4 := H4.out.2.size
  have Z4 : Hid (MAt w4 w.heap.size mno) := hide ((H4.out.2.block w.heap.size (by omega) (by simp)).trans Z3.out)
  obtain ⟨wA, hwA', hwA, szA', belA, hM, _⟩ := new8 w4 30 (.int .i64 0) (.int .i64 0) (.int .u8 0) (.int .i64 0) (.slice none 0 0) (.int .i64 0) (.int .i64 0) (.slice none 0 0) (.int .i64 3) (.int .i64 u2) (.int .u8 0) (.int .i64 0) (.slice none 0 0) (.int .i64 0) (.int .i64 0) (.slice none 0 0)
  have DA : Hid (DkS w4.heap.size w wA (.slice xo xn xc) bs a2 b2 ⟨3, u2, 0, 0, .slice none 0 0, [], 0, 0, .slice none 0 0, []⟩) := hide ⟨H4.out.1.below belA, hM, Z4.out.below belA, by omega⟩
  have OA : Hid (OwnM (w4.heap.size + 1) wA mno) := hide (OwnM.no _ _)
  have szA : w4.heap.size + 1 ≤ wA.heap.size := by omega
  have t2 : wA.setCell ⟨w4.heap.size, 2, none⟩ (.int .u8 0) = wA := set_same hM (j := 2) rfl
  have t3 : wA.setCell ⟨w4.heap.size, 3, none⟩ (.int .i64 0) = wA := set_same hM (j := 3) rfl
  have t4 : wA.setCell ⟨w4.heap.size, 4, none⟩ (.slice none 0 0) = wA := set_same hM (j := 4) rfl
  have t5 : wA.setCell ⟨w4.heap.size, 5, none⟩ (.int .i64 0) = wA := set_same hM (j := 5) rfl
  have t6 : wA.setCell ⟨w4.heap.size, 6, none⟩ (.int .i64 0) = wA := set_same hM (j := 6) rfl
  have t7 : wA.setCell ⟨w4.heap.size, 7, none⟩ (.slice none 0 0) = wA := set_same hM (j := 7) rfl
  have f2 := blk_froz hM 2
  have f3 := blk_froz hM 3
  have f4 := blk_froz hM 4
  have f5 := blk_froz hM 5
  have f6 := blk_froz hM 6
  have f7 := blk_froz hM 7
  obtain ⟨c0, c1, c2, c3, c4, c5, c6, c7⟩ := ei_of hM
  have szw : w.heap.size + 2 ≤ w4.heap.size := by omega
  clear C2 H3 H4 Z3 Z4 belA hM szA'
  obtain ⟨u3, a3, b3, S3⟩ := sstep_is bs 1048576 a2 b2
  have hu3 := sstep_max S3
  have X3 := hide S3
  have G3 : Hid (Mm.Go bs [3, (u2 : Int), (u3 : Int)] a3 b3) := hide (Mm.go_step G2.out S3 (Mm.nx_3 _))
  clear S3
  have C5 := hide (rsmall_at w wA (w.heap.size + 1) _ bs a2 b2 1048576 u3 a3 b3 DA.out.r hl (by omega) X3.out)
  go_wp2_with fail
  refine C5.out.mono ?_
  rintro E w5 ⟨rfl, H5⟩
  have D5 := hide (DA.out.step H5.out.1 H5.out.2)
  have O5 := hide (OA.out.rd H5.out.2 (by omega))
  have szs5 := H5.out.2.size
  clear hwA' hwA t2 t3 t4 t5 t6 t7 f2 f3 f4 f5 f6 f7 c0 c1 c2 c3 c4 c5 c6 c7
  clear DA OA
  obtain ⟨x5, hx5⟩ : ∃ V, w5.setCell ⟨w4.heap.size, 3, none⟩ (.int .i64 u3) = V := ⟨_, rfl⟩
  have E5 : Hid (DkS w4.heap.size w x5 (.slice xo xn xc) bs a3 b3 ⟨3, u2, 0, u3, .slice none 0 0, [], 0, 0, .slice none 0 0, []⟩) := hide (by rw [← hx5]; exact D5.out.put 3 _ _ rfl)
  have P5 : Hid (OwnM (w4.heap.size + 1) x5 mno) := hide (by rw [← hx5]; exact O5.out.setM 3 _)
  have szp5 : w4.heap.size + 1 ≤ x5.heap.size := E5.out.m.lt
  obtain ⟨c0, c1, c2, c3, c4, c5, c6, c7⟩ := ei_of D5.out.m
  have f3 := D5.out.fm 3
  clear C5 H5 D5 O5
  obtain ⟨mm, hmm⟩ : ∃ mm : Mw, mm = ⟨3, u2, 0, u3, .slice none 0 0, [], 0, 0, .slice none 0 0, []⟩ := ⟨_, rfl⟩
  have HVS : Hid (mm.vs = .slice none mm.ss.length 0) := hide (by rw [hmm]; rfl)
  have HVC : Hid (mm.vc = .slice none mm.cs.length 0) := hide (by rw [hmm]; rfl)
  have FM : Hid (FitM mm) := hide (by rw [hmm]; exact fit_nums (k := 3) (r := 0) (f := 0) (p := 0) (by omega) hu2 (by omega) hu3 (by omega) (by omega) (by simp) (fun c hc => by simp at hc) (by simp))
  have RD : Hid (Rdd bs mm.m a3 b3) := hide (by
    rw [hmm]
    exact .inl ⟨by rw [Mm.hd_3 rfl]; exact G3.out.c, fun hb => ⟨by
      rw [Mm.hd_3 rfl]
      rcases G3.out with ⟨_, h, _⟩ | ⟨h, _⟩
      · exact h
      · rw [hb] at h; simp at h, .inr (.inr ⟨rfl, rfl, rfl, rfl, rfl, rfl⟩)⟩⟩)
  have DM : Hid (DkS w4.heap.size w x5 (.slice xo xn xc) bs a3 b3 mm) := hide (by rw [hmm]; exact E5.out)
  have OM : Hid (OwnM (w4.heap.size + 1) x5 mm) := hide (by rw [hmm]; exact ⟨P5.out.s, P5.out.c, P5.out.o, P5.out.i, P5.out.ap⟩)
  clear hmm E5 P5
  go_wp2_with fail
  refine (rdone_any w x5 (w.heap.size + 1) _ bs a3 b3 DM.out.r).mono ?_
  rintro E wt ⟨rfl, mq, rfl⟩
  have belT : Below x5.heap.size x5 (x5.drewN mq) := below_drewN (Below.refl _ _) mq
  generalize hwt : x5.drewN mq = wt at *
  have DT := hide (DM.out.below belT)
  have OT := hide (OM.out.below belT)
  have szt := belT.size
  have bel0t : Below w.heap.size w wt := DT.out.r.2.2.1
  have HEn := hide (rd_end RD.out)
  clear hwt belT
  have NO : Hid (¬ (b3 = false ∧ a3 = bs.length ∧ Mm.Ok mm.m) → m' = Mm.no ∧ g = 5) := hide fun h => by
    rcases HEn.out with ⟨h1, _⟩ | ⟨_, h2⟩
    · exact absurd h1 h
    · exact Mm.dc_one HD.out h2
  by_cases hd : b3 = false ∧ a3 = bs.length
  · have hdd : (!b3 && decide (a3 = bs.length)) = true := by rw [hd.1, hd.2]; simp
    rw [hdd]
    have HDD := hide hd
    obtain ⟨c, hc⟩ : ∃ c, Mm.Ck mm.m c := by
      by_cases h : Mm.Ok mm.m
      · exact ⟨0, .inl ⟨rfl, h⟩⟩
      · exact ⟨2, .inr ⟨rfl, h⟩⟩
    have HC := hide hc
    have XX := hide (mcheckR_any mm c wt OT.out.is FM.out hc)
    rw [mv_eq HVS.out HVC.out] at XX
    obtain ⟨q0, q1, q2, q3, q4, q5, q6, q7⟩ := DT.out.m.ei' HVS.out HVC.out
    clear hc hd hdd
    go_wp2_with fail
    refine XX.out.mono ?_
    rintro E wu ⟨rfl, belu⟩
    have szu := belu.size
    have DU := hide (DT.out.below belu)
    have bel0u := bel0t.trans (belu.mono (by omega))
    have OU := hide (OT.out.below belu)
    clear XX q0 q1 q2 q3 q4 q5 q6 q7
    obtain ⟨q0, q1, q2, q3, q4, q5, q6, q7⟩ := DU.out.m.ei' HVS.out HVC.out
    rcases HC.out with ⟨hc0, hok⟩ | ⟨hc2, hok⟩
    · subst hc0
      obtain ⟨Y, hY, bY, gY, ⟨a0, a1', a2', a3', a4', a5', a6', a7'⟩, fr, ⟨y0, y1, y2, y3, y4, y5, y6, y7⟩⟩ := put8 (show wu.heap[w.heap.size]? = some (.cells #[.int .i64 0, .int .i64 0, .int .u8 0, .int .i64 0, .slice none 0 0, .int .i64 0, .int .i64 0, .slice none 0 0] 30 (0, 0)) from DU.out.z) (.int .i64 mm.k) (.int .i64 mm.e) (.int .u8 mm.r) (.int .i64 mm.n) (.slice none mm.ss.length 0) (.int .i64 mm.f) (.int .i64 mm.p) (.slice none mm.cs.length 0)
      have f0 := fr 0; have f1 := fr 1; have f2 := fr 2; have f3 := fr 3; have f4 := fr 4; have f5 := fr 5; have f6 := fr 6; have f7 := fr 7
      have belY := below_put bel0u gY (Nat.le_refl _) (by omega)
      have OY := ((OU.out.out (F := fun i => i = w.heap.size) (Out.of_grown gY (fun i hi => by simpa using hi.symm)) (fun i hi => by omega)).rebase (base' := w.heap.size) (by omega))
      have hres : mm.m = m' ∧ (0 : Int) = g := by
        rcases HEn.out with ⟨_, h2⟩ | ⟨h1, _⟩
        · exact Mm.dc_one h2 HD.out
        · exact (h1 ⟨HDD.out.1, HDD.out.2, hok⟩).elim
      obtain ⟨hmm, rfl⟩ := hres
      have HZZ : Hid (mm.m = m' ∧ OwnM w.heap.size Y mm ∧ FitM mm ∧ Below w.heap.size w Y) := hide ⟨hmm, OY, FM.out, belY⟩
      have HMV := hide (mv_eq HVS.out HVC.out)
      clear hok hmm OY belY gY bY fr OU bel0u NO HEn HD
      go_wp2
      refine bodyPost_ret (v := .tuple #[.agg #[.int .i64 mm.k, .int .i64 mm.e, .int .u8 mm.r, .int .i64 mm.n, .slice none mm.ss.length 0, .int .i64 mm.f, .int .i64 mm.p, .slice none mm.cs.length 0], .int .i64 0]) (by simp [results, Try.results22, go_sem, y0, y1, y2, y3, y4, y5, y6, y7]) rfl ?_
      exact ⟨mm, by rw [HMV.out], HZZ⟩
    · subst hc2
      obtain ⟨rfl, rfl⟩ := NO.out fun h => hok h.2.2
      obtain ⟨Y, hY, bY, gY, ⟨a0, a1', a2', a3', a4', a5', a6', a7'⟩, fr, ⟨y0, y1, y2, y3, y4, y5, y6, y7⟩⟩ := put8 (show wu.heap[w.heap.size]? = some (.cells #[.int .i64 0, .int .i64 0, .int .u8 0, .int .i64 0, .slice none 0 0, .int .i64 0, .int .i64 0, .slice none 0 0] 30 (0, 0)) from DU.out.z) (.int .i64 0) (.int .i64 0) (.int .u8 0) (.int .i64 0) (.slice none 0 0) (.int .i64 0) (.int .i64 0) (.slice none 0 0)
      have f0 := fr 0; have f1 := fr 1; have f2 := fr 2; have f3 := fr 3; have f4 := fr 4; have f5 := fr 5; have f6 := fr 6; have f7 := fr 7
      have HZZ := dec_no (below_put bel0u gY (Nat.le_refl _) (by omega))
      clear hok gY bY fr OU bel0u NO HEn HD
      go_wp2
      refine bodyPost_ret (v := .tuple #[.agg #[.int .i64 0, .int .i64 0, .int .u8 0, .int .i64 0, .slice none 0 0, .int .i64 0, .int .i64 0, .slice none 0 0], .int .i64 5]) (by simp [results, Try.results22, go_sem, y0, y1, y2, y3, y4, y5, y6, y7]) rfl ?_
      exact ⟨mno, rfl, HZZ⟩
  · have hdd : (!b3 && decide (a3 = bs.length)) = false := by
      rcases Bool.eq_false_or_eq_true b3 with h | h
      · rw [h]; rfl
      · rw [h]; simpa using fun e => hd ⟨h, e⟩
    rw [hdd]
    obtain ⟨rfl, rfl⟩ := NO.out fun h => hd ⟨h.1, h.2.1⟩
    obtain ⟨Y, hY, bY, gY, ⟨a0, a1', a2', a3', a4', a5', a6', a7'⟩, fr, ⟨y0, y1, y2, y3, y4, y5, y6, y7⟩⟩ := put8 (show wt.heap[w.heap.size]? = some (.cells #[.int .i64 0, .int .i64 0, .int .u8 0, .int .i64 0, .slice none 0 0, .int .i64 0, .int .i64 0, .slice none 0 0] 30 (0, 0)) from DT.out.z) (.int .i64 0) (.int .i64 0) (.int .u8 0) (.int .i64 0) (.slice none 0 0) (.int .i64 0) (.int .i64 0) (.slice none 0 0)
    have f0 := fr 0; have f1 := fr 1; have f2 := fr 2; have f3 := fr 3; have f4 := fr 4; have f5 := fr 5; have f6 := fr 6; have f7 := fr 7
    have HZZ := dec_no (below_put bel0t gY (Nat.le_refl _) (by omega))
    clear hd hdd gY bY fr OT bel0t NO HEn HD
    go_wp2
    refine bodyPost_ret (v := .tuple #[.agg #[.int .i64 0, .int .i64 0, .int .u8 0, .int .i64 0, .slice none 0 0, .int .i64 0, .int .i64 0, .slice none 0 0], .int .i64 5]) (by simp [results, Try.results22, go_sem, y0, y1, y2, y3, y4, y5, y6, y7]) rfl ?_
    exact ⟨mno, rfl, HZZ⟩

set_option maxRecDepth 100000 in
set_option maxHeartbeats 2000000 in
theorem decodeR_0 (vb : Value) (bs : List Int) (w : World) (hb : Is .u8 w vb bs) (hl : bs.length ≤ 100000000000000) (m' : Mm.Msg) (g : Int) (hD : Mm.Dc bs m' g) (a1 : Nat) (b1 : Bool) (S1 : SStep bs 3 0 false 0 a1 b1) :
    Calls Try.prog 22 #[vb] w (DecR w m' g) := by
  obtain ⟨xo, xn, xc, hvb⟩ := hb.form
  subst hvb
  obtain ⟨w1, hw1, sz1, bel1, hZ⟩ := blk_step w #[.int .i64 0, .int .i64 0, .int .u8 0, .int .i64 0, .slice none 0 0, .int .i64 0, .int .i64 0, .slice none 0 0] 30
  obtain ⟨w2, hw2, sz2, bel2, hG⟩ := blk_step w1 #[.slice xo xn xc, .int .i64 0, .bool false] 72
  rw [sz1] at hG
  have bel02 : Below w.heap.size w w2 := bel1.trans (bel2.mono (by omega))
  have r2 : Rdr w w2 (w.heap.size + 1) (.slice xo xn xc) bs 0 false := ⟨hb, by omega, bel02, hG, by omega⟩
  have Z2 : Hid (MAt w2 w.heap.size mno) := hide ((bel2.block w.heap.size (by omega)).trans hZ)
  obtain ⟨u2, a2, b2, S2⟩ := sstep_is bs 1048576 a1 b1
  have hu2 := sstep_max S2
  have G2 : Hid (Mm.Go bs [0, (u2 : Int)] a2 b2) := hide (Mm.go_step (Mm.go_step (Mm.go_start bs) S1 Mm.nx_0) S2 (Mm.nx_1 _))
  have HD := hide hD
  have C1 := hide (rsmall_at w w2 (w.heap.size + 1) _ bs 0 false 3 0 a1 b1 r2 hl (by omega) S1)
  have X2 := hide S2
  clear hb hZ hG hD S1 S2 bel1 bel2 r2
  go_enter Try.func22, Try.ntmps22
  go_wp2_with fail
  refine C1.out.mono ?_
  rintro E w3 ⟨rfl, H3⟩
  have sz3 := H3.out.2.size
  have C2 := hide (rsmall_at w w3 (w.heap.size + 1) _ bs a1 b1 1048576 u2 a2 b2 H3.out.1 hl (by omega) X2.out)
  have Z3 : Hid (MAt w3 w.heap.size mno) := hide ((H3.out.2.block w.heap.size (by omega) (by simp)).trans Z2.out)
  clear C1 hw1 hw2 Z2
  go_wp2_with fail
  refine C2.out.mono ?_
  rintro E w4 ⟨rfl, H4⟩
  have sz4 := H4.out.2.size
  have Z4 : Hid (MAt w4 w.heap.size mno) := hide ((H4.out.2.block w.heap.size (by omega) (by simp)).trans Z3.out)
  obtain ⟨wA, hwA', hwA, szA', belA, hM, _⟩ := new8 w4 30 (.int .i64 0) (.int .i64 0) (.int .u8 0) (.int .i64 0) (.slice none 0 0) (.int .i64 0) (.int .i64 0) (.slice none 0 0) (.int .i64 0) (.int .i64 u2) (.int .u8 0) (.int .i64 0) (.slice none 0 0) (.int .i64 0) (.int .i64 0) (.slice none 0 0)
  have DA : Hid (DkS w4.heap.size w wA (.slice xo xn xc) bs a2 b2 ⟨0, u2, 0, 0, .slice none 0 0, [], 0, 0, .slice none 0 0, []⟩) := hide ⟨H4.out.1.below belA, hM, Z4.out.below belA, by omega⟩
  have OA : Hid (OwnM (w4.heap.size + 1) wA mno) := hide (OwnM.no _ _)
  have szA : w4.heap.size + 1 ≤ wA.heap.size := by omega
  have t2 : wA.setCell ⟨w4.heap.size, 2, none⟩ (.int .u8 0) = wA := set_same hM (j := 2) rfl
  have t3 : wA.setCell ⟨w4.heap.size, 3, none⟩ (.int .i64 0) = wA := set_same hM (j := 3) rfl
  have t4 : wA.setCell ⟨w4.heap.size, 4, none⟩ (.slice none 0 0) = wA := set_same hM (j := 4) rfl
  have t5 : wA.setCell ⟨w4.heap.size, 5, none⟩ (.int .i64 0) = wA := set_same hM (j := 5) rfl
  have t6 : wA.setCell ⟨w4.heap.size, 6, none⟩ (.int .i64 0) = wA := set_same hM (j := 6) rfl
  have t7 : wA.setCell ⟨w4.heap.size, 7, none⟩ (.slice none 0 0) = wA := set_same hM (j := 7) rfl
  have f2 := blk_froz hM 2
  have f3 := blk_froz hM 3
  have f4 := blk_froz hM 4
  have f5 := blk_froz hM 5
  have f6 := blk_froz hM 6
  have f7 := blk_froz hM 7
  obtain ⟨c0, c1, c2, c3, c4, c5, c6, c7⟩ := ei_of hM
  have szw : w.heap.size + 2 ≤ w4.heap.size := by omega
  clear C2 H3 H4 Z3 Z4 belA hM szA'
  obtain ⟨u3, a3, b3, S3⟩ := sstep_is bs 1048576 a2 b2
  have hu3 := sstep_max S3
  have X3 := hide S3
  have G3 : Hid (Mm.Go bs [0, (u2 : Int), (u3 : Int)] a3 b3) := hide (Mm.go_step G2.out S3 (Mm.nx_no 0 [(u2 : Int)] 1048576))
  clear S3
  have C5 := hide (rsmall_at w wA (w.heap.size + 1) _ bs a2 b2 1048576 u3 a3 b3 DA.out.r hl (by omega) X3.out)
  go_wp2_with fail
  refine C5.out.mono ?_
  rintro E w5 ⟨rfl, H5⟩
  have D5 := hide (DA.out.step H5.out.1 H5.out.2)
  have O5 := hide (OA.out.rd H5.out.2 (by omega))
  have szs5 := H5.out.2.size
  clear hwA' hwA t2 t3 t4 t5 t6 t7 f2 f3 f4 f5 f6 f7 c0 c1 c2 c3 c4 c5 c6 c7
  clear DA OA
  obtain ⟨x5, hx5⟩ : ∃ V, w5.setCell ⟨w4.heap.size, 3, none⟩ (.int .i64 u3) = V := ⟨_, rfl⟩
  have E5 : Hid (DkS w4.heap.size w x5 (.slice xo xn xc) bs a3 b3 ⟨0, u2, 0, u3, .slice none 0 0, [], 0, 0, .slice none 0 0, []⟩) := hide (by rw [← hx5]; exact D5.out.put 3 _ _ rfl)
  have P5 : Hid (OwnM (w4.heap.size + 1) x5 mno) := hide (by rw [← hx5]; exact O5.out.setM 3 _)
  have szp5 : w4.heap.size + 1 ≤ x5.heap.size := E5.out.m.lt
  obtain ⟨c0, c1, c2, c3, c4, c5, c6, c7⟩ := ei_of D5.out.m
  have f3 := D5.out.fm 3
  clear C5 H5 D5 O5
  obtain ⟨mm, hmm⟩ : ∃ mm : Mw, mm = ⟨0, u2, 0, u3, .slice none 0 0, [], 0, 0, .slice none 0 0, []⟩ := ⟨_, rfl⟩
  have HVS : Hid (mm.vs = .slice none mm.ss.length 0) := hide (by rw [hmm]; rfl)
  have HVC : Hid (mm.vc = .slice none mm.cs.length 0) := hide (by rw [hmm]; rfl)
  have FM : Hid (FitM mm) := hide (by rw [hmm]; exact fit_nums (k := 0) (r := 0) (f := 0) (p := 0) (by omega) hu2 (by omega) hu3 (by omega) (by omega) (by simp) (fun c hc => by simp at hc) (by simp))
  have RD : Hid (Rdd bs mm.m a3 b3) := hide (by
    rw [hmm]
    exact .inr ⟨fun k => by have := Mm.sh_k (Mm.ok_sh k); simp [Mw.m] at this, Mm.go_none G3.out⟩)
  have DM : Hid (DkS w4.heap.size w x5 (.slice xo xn xc) bs a3 b3 mm) := hide (by rw [hmm]; exact E5.out)
  have OM : Hid (OwnM (w4.heap.size + 1) x5 mm) := hide (by rw [hmm]; exact ⟨P5.out.s, P5.out.c, P5.out.o, P5.out.i, P5.out.ap⟩)
  clear hmm E5 P5
  go_wp2_with fail
  refine (rdone_any w x5 (w.heap.size + 1) _ bs a3 b3 DM.out.r).mono ?_
  rintro E wt ⟨rfl, mq, rfl⟩
  have belT : Below x5.heap.size x5 (x5.drewN mq) := below_drewN (Below.refl _ _) mq
  generalize hwt : x5.drewN mq = wt at *
  have DT := hide (DM.out.below belT)
  have OT := hide (OM.out.below belT)
  have szt := belT.size
  have bel0t : Below w.heap.size w wt := DT.out.r.2.2.1
  have HEn := hide (rd_end RD.out)
  clear hwt belT
  have NO : Hid (¬ (b3 = false ∧ a3 = bs.length ∧ Mm.Ok mm.m) → m' = Mm.no ∧ g = 5) := hide fun h => by
    rcases HEn.out with ⟨h1, _⟩ | ⟨_, h2⟩
    · exact absurd h1 h
    · exact Mm.dc_one HD.out h2
  by_cases hd : b3 = false ∧ a3 = bs.length
  · have hdd : (!b3 && decide (a3 = bs.length)) = true := by rw [hd.1, hd.2]; simp
    rw [hdd]
    have HDD := hide hd
    obtain ⟨c, hc⟩ : ∃ c, Mm.Ck mm.m c := by
      by_cases h : Mm.Ok mm.m
      · exact ⟨0, .inl ⟨rfl, h⟩⟩
      · exact ⟨2, .inr ⟨rfl, h⟩⟩
    have HC := hide hc
    have XX := hide (mcheckR_any mm c wt OT.out.is FM.out hc)
    rw [mv_eq HVS.out HVC.out] at XX
    obtain ⟨q0, q1, q2, q3, q4, q5, q6, q7⟩ := DT.out.m.ei' HVS.out HVC.out
    clear hc hd hdd
    go_wp2_with fail
    refine XX.out.mono ?_
    rintro E wu ⟨rfl, belu⟩
    have szu := belu.size
    have DU := hide (DT.out.below belu)
    have bel0u := bel0t.trans (belu.mono (by omega))
    have OU := hide (OT.out.below belu)
    clear XX q0 q1 q2 q3 q4 q5 q6 q7
    obtain ⟨q0, q1, q2, q3, q4, q5, q6, q7⟩ := DU.out.m.ei' HVS.out HVC.out
    rcases HC.out with ⟨hc0, hok⟩ | ⟨hc2, hok⟩
    · subst hc0
      obtain ⟨Y, hY, bY, gY, ⟨a0, a1', a2', a3', a4', a5', a6', a7'⟩, fr, ⟨y0, y1, y2, y3, y4, y5, y6, y7⟩⟩ := put8 (show wu.heap[w.heap.size]? = some (.cells #[.int .i64 0, .int .i64 0, .int .u8 0, .int .i64 0, .slice none 0 0, .int .i64 0, .int .i64 0, .slice none 0 0] 30 (0, 0)) from DU.out.z) (.int .i64 mm.k) (.int .i64 mm.e) (.int .u8 mm.r) (.int .i64 mm.n) (.slice none mm.ss.length 0) (.int .i64 mm.f) (.int .i64 mm.p) (.slice none mm.cs.length 0)
      have f0 := fr 0; have f1 := fr 1; have f2 := fr 2; have f3 := fr 3; have f4 := fr 4; have f5 := fr 5; have f6 := fr 6; have f7 := fr 7
      have belY := below_put bel0u gY (Nat.le_refl _) (by omega)
      have OY := ((OU.out.out (F := fun i => i = w.heap.size) (Out.of_grown gY (fun i hi => by simpa using hi.symm)) (fun i hi => by omega)).rebase (base' := w.heap.size) (by omega))
      have hres : mm.m = m' ∧ (0 : Int) = g := by
        rcases HEn.out with ⟨_, h2⟩ | ⟨h1, _⟩
        · exact Mm.dc_one h2 HD.out
        · exact (h1 ⟨HDD.out.1, HDD.out.2, hok⟩).elim
      obtain ⟨hmm, rfl⟩ := hres
      have HZZ : Hid (mm.m = m' ∧ OwnM w.heap.size Y mm ∧ FitM mm ∧ Below w.heap.size w Y) := hide ⟨hmm, OY, FM.out, belY⟩
      have HMV := hide (mv_eq HVS.out HVC.out)
      clear hok hmm OY belY gY bY fr OU bel0u NO HEn HD
      go_wp2
      refine bodyPost_ret (v := .tuple #[.agg #[.int .i64 mm.k, .int .i64 mm.e, .int .u8 mm.r, .int .i64 mm.n, .slice none mm.ss.length 0, .int .i64 mm.f, .int .i64 mm.p, .slice none mm.cs.length 0], .int .i64 0]) (by simp [results, Try.results22, go_sem, y0, y1, y2, y3, y4, y5, y6, y7]) rfl ?_
      exact ⟨mm, by rw [HMV.out], HZZ⟩
    · subst hc2
      obtain ⟨rfl, rfl⟩ := NO.out fun h => hok h.2.2
      obtain ⟨Y, hY, bY, gY, ⟨a0, a1', a2', a3', a4', a5', a6', a7'⟩, fr, ⟨y0, y1, y2, y3, y4, y5, y6, y7⟩⟩ := put8 (show wu.heap[w.heap.size]? = some (.cells #[.int .i64 0, .int .i64 0, .int .u8 0, .int .i64 0, .slice none 0 0, .int .i64 0, .int .i64 0, .slice none 0 0] 30 (0, 0)) from DU.out.z) (.int .i64 0) (.int .i64 0) (.int .u8 0) (.int .i64 0) (.slice none 0 0) (.int .i64 0) (.int .i64 0) (.slice none 0 0)
      have f0 := fr 0; have f1 := fr 1; have f2 := fr 2; have f3 := fr 3; have f4 := fr 4; have f5 := fr 5; have f6 := fr 6; have f7 := fr 7
      have HZZ := dec_no (below_put bel0u gY (Nat.le_refl _) (by omega))
      clear hok gY bY fr OU bel0u NO HEn HD
      go_wp2
      refine bodyPost_ret (v := .tuple #[.agg #[.int .i64 0, .int .i64 0, .int .u8 0, .int .i64 0, .slice none 0 0, .int .i64 0, .int .i64 0, .slice none 0 0], .int .i64 5]) (by simp [results, Try.results22, go_sem, y0, y1, y2, y3, y4, y5, y6, y7]) rfl ?_
      exact ⟨mno, rfl, HZZ⟩
  · have hdd : (!b3 && decide (a3 = bs.length)) = false := by
      rcases Bool.eq_false_or_eq_true b3 with h | h
      · rw [h]; rfl
      · rw [h]; simpa using fun e => hd ⟨h, e⟩
    rw [hdd]
    obtain ⟨rfl, rfl⟩ := NO.out fun h => hd ⟨h.1, h.2.1⟩
    obtain ⟨Y, hY, bY, gY, ⟨a0, a1', a2', a3', a4', a5', a6', a7'⟩, fr, ⟨y0, y1, y2, y3, y4, y5, y6, y7⟩⟩ := put8 (show wt.heap[w.heap.size]? = some (.cells #[.int .i64 0, .int .i64 0, .int .u8 0, .int .i64 0, .slice none 0 0, .int .i64 0, .int .i64 0, .slice none 0 0] 30 (0, 0)) from DT.out.z) (.int .i64 0) (.int .i64 0) (.int .u8 0) (.int .i64 0) (.slice none 0 0) (.int .i64 0) (.int .i64 0) (.slice none 0 0)
    have f0 := fr 0; have f1 := fr 1; have f2 := fr 2; have f3 := fr 3; have f4 := fr 4; have f5 := fr 5; have f6 := fr 6; have f7 := fr 7
    have HZZ := dec_no (below_put bel0t gY (Nat.le_refl _) (by omega))
    clear hd hdd gY bY fr OT bel0t NO HEn HD
    go_wp2
    refine bodyPost_ret (v := .tuple #[.agg #[.int .i64 0, .int .i64 0, .int .u8 0, .int .i64 0, .slice none 0 0, .int .i64 0, .int .i64 0, .slice none 0 0], .int .i64 5]) (by simp [results, Try.results22, go_sem, y0, y1, y2, y3, y4, y5, y6, y7]) rfl ?_
    exact ⟨mno, rfl, HZZ⟩

end Go.Proofs.Ytjaiemdefngbbaa
