/- The contract of Decode (the program's). -/
import Derived.Test.YtjaiemdefngbbaaXq
namespace Go.Proofs.Ytjaiemdefngbbaa
open Go.RowKit
set_option linter.unusedVariables false

/-- What Decode comes to. -/
def DecR (w : World) (m' : Mm.Msg) (g : Int) (E : Ending) (w' : World) : Prop :=
  ∃ m : Mw, E = .returned (.tuple #[mv m, .int .i64 g]) ∧ Hid (m.m = m' ∧ OwnM w.heap.size w' m ∧ FitM m ∧ Below w.heap.size w w')

theorem dec_no {w w' : World} (hb : Below w.heap.size w w') : Hid (mno.m = Mm.no ∧ OwnM w.heap.size w' mno ∧ FitM mno ∧ Below w.heap.size w w') := hide ⟨rfl, OwnM.no _ _, FitM.no, hb⟩

set_option maxRecDepth 100000 in
set_option maxHeartbeats 2000000 in
theorem mdecode_any (vb : Value) (bs : List Int) (w : World) (hb : Is .u8 w vb bs) (hl : bs.length ≤ 100000000000000) (m' : Mm.Msg) (g : Int) (hD : Mm.Dc bs m' g) :
    Calls Try.prog 11 #[vb] w (DecR w m' g) := by
  obtain ⟨xo, xc, hvb, _, _⟩ := hb.shape
  subst hvb
  obtain ⟨w1, hw1, sz1, bel1, hR⟩ := blk_step w #[.int .i64 0, .int .i64 0, .int .u8 0, .int .i64 0, .slice none 0 0, .int .i64 0, .int .i64 0, .slice none 0 0] 30
  have C1 := hide (mread_any _ bs w1 (hb.below bel1) hl)
  have HD := hide hD
  have HR := hide hR
  clear hR hb hD
  go_enter Try.func11, Try.ntmps11
  go_wp2_with fail
  refine C1.out.mono ?_
  rintro E w2 ⟨m, a, bad, rfl, H⟩
  obtain ⟨ho, hf, hrd, bel2⟩ := H.out
  have sz2 := bel2.size
  obtain ⟨ao, cap, hvs, _, _⟩ := ho.is.s.shape
  obtain ⟨ao2, cap2, hvc, _, _⟩ := ho.is.c.1.shape
  rw [mv_eq hvs hvc]
  have HVS := hide hvs
  have HVC := hide hvc
  have HO := hide ho
  have HF := hide hf
  have HE := hide (rd_end hrd)
  have bel02 := bel1.trans (bel2.mono (by omega))
  obtain ⟨V, hV, hV2, szV, belV, hM, _⟩ := new8 w2 30 (.int .i64 0) (.int .i64 0) (.int .u8 0) (.int .i64 0) (.slice none 0 0) (.int .i64 0) (.int .i64 0) (.slice none 0 0) (.int .i64 m.k) (.int .i64 m.e) (.int .u8 m.r) (.int .i64 m.n) (.slice ao m.ss.length cap) (.int .i64 m.f) (.int .i64 m.p) (.slice ao2 m.cs.length cap2)
  have MV : Hid (MAt V w2.heap.size m) := hide (by unfold MAt; rw [mc_eq hvs hvc]; exact hM)
  have hR3 := (belV.block w.heap.size (by omega)).trans ((bel2.block w.heap.size (by omega)).trans HR.out)
  have bel0V := bel02.trans (belV.mono (by omega))
  have OV := hide (HO.out.below belV)
  obtain ⟨Z, hZ, bZ, gZ, ⟨a0, a1, a2, a3, a4, a5, a6, a7⟩, fr, ⟨z0, z1, z2, z3, z4, z5, z6, z7⟩⟩ := put8 hR3 (.int .i64 0) (.int .i64 0) (.int .u8 0) (.int .i64 0) (.slice none 0 0) (.int .i64 0) (.int .i64 0) (.slice none 0 0)
  have f0 := fr 0; have f1 := fr 1; have f2 := fr 2; have f3 := fr 3; have f4 := fr 4; have f5 := fr 5; have f6 := fr 6; have f7 := fr 7
  have belZ := below_put bel0V gZ (Nat.le_refl _) (by omega)
  have HR3 := hide hR3
  have NOZ : Hid (mno.m = Mm.no ∧ OwnM w.heap.size Z mno ∧ FitM mno ∧ Below w.heap.size w Z) := dec_no belZ
  clear ho hf hrd H hvs hvc hM hR3 bZ gZ fr bel1 bel2 HO HR C1 belZ
  have NO : Hid (¬ (bad = false ∧ a = bs.length ∧ Mm.Ok m.m) → m' = Mm.no ∧ g = 5) := hide fun h => by
    rcases HE.out with ⟨h1, _⟩ | ⟨_, h2⟩
    · exact absurd h1 h
    · exact Mm.dc_one HD.out h2
  cases bad
  · have hb5 : bad5 false = 0 := rfl
    rw [hb5]
    by_cases hn : a = bs.length
    · subst hn
      have hnn : (((bs.length : Int)) != (bs.length : Int)) = false := by simp
      obtain ⟨c, hc⟩ : ∃ c, Mm.Ck m.m c := by
        by_cases h : Mm.Ok m.m
        · exact ⟨0, .inl ⟨rfl, h⟩⟩
        · exact ⟨2, .inr ⟨rfl, h⟩⟩
      have HC := hide hc
      have XX := hide (mcheck_any m c V OV.out.is HF.out hc)
      rw [mv_eq HVS.out HVC.out] at XX
      obtain ⟨q0, q1, q2, q3, q4, q5, q6, q7⟩ := MV.out.ei' HVS.out HVC.out
      clear hc
      go_wp2_with fail
      refine XX.out.mono ?_
      rintro E w4 ⟨rfl, bel4⟩
      have sz4 := bel4.size
      have hR4 := (bel4.block w.heap.size (by omega)).trans HR3.out
      have bel04 := bel0V.trans (bel4.mono (by omega))
      have O4 := hide (OV.out.below bel4)
      clear XX q0 q1 q2 q3 q4 q5 q6 q7 hZ a0 a1 a2 a3 a4 a5 a6 a7 z0 z1 z2 z3 z4 z5 z6 z7 f0 f1 f2 f3 f4 f5 f6 f7 hw1 hV hV2
      obtain ⟨q0, q1, q2, q3, q4, q5, q6, q7⟩ := (MV.out.below bel4).ei' HVS.out HVC.out
      rcases HC.out with ⟨hc0, hok⟩ | ⟨hc2, hok⟩
      · subst hc0
        obtain ⟨Y, hY, bY, gY, ⟨a0, a1, a2, a3, a4, a5, a6, a7⟩, fr, ⟨y0, y1, y2, y3, y4, y5, y6, y7⟩⟩ := put8 hR4 (.int .i64 m.k) (.int .i64 m.e) (.int .u8 m.r) (.int .i64 m.n) (.slice ao m.ss.length cap) (.int .i64 m.f) (.int .i64 m.p) (.slice ao2 m.cs.length cap2)
        have f0 := fr 0; have f1 := fr 1; have f2 := fr 2; have f3 := fr 3; have f4 := fr 4; have f5 := fr 5; have f6 := fr 6; have f7 := fr 7
        have belY := below_put bel04 gY (Nat.le_refl _) (by omega)
        have OY := ((O4.out.out (F := fun i => i = w.heap.size) (Out.of_grown gY (fun i hi => by simpa using hi.symm)) (fun i hi => by omega)).rebase (base' := w.heap.size) (by omega))
        have hres : m.m = m' ∧ (0 : Int) = g := by
          rcases HE.out with ⟨_, h2⟩ | ⟨h1, _⟩
          · exact Mm.dc_one h2 HD.out
          · exact (h1 (by simp [hok])).elim
        obtain ⟨hmm, rfl⟩ := hres
        have HZZ : Hid (m.m = m' ∧ OwnM w.heap.size Y m ∧ FitM m ∧ Below w.heap.size w Y) := hide ⟨hmm, OY, HF.out, belY⟩
        have hmv := mv_eq HVS.out HVC.out
        clear hok hmm OY belY gY bY fr hR4 O4 bel04 NO HE HD
        go_wp2
        refine bodyPost_ret (v := .tuple #[.agg #[.int .i64 m.k, .int .i64 m.e, .int .u8 m.r, .int .i64 m.n, .slice ao m.ss.length cap, .int .i64 m.f, .int .i64 m.p, .slice ao2 m.cs.length cap2], .int .i64 0]) (by simp [results, Try.results11, go_sem, y0, y1, y2, y3, y4, y5, y6, y7]) rfl ?_
        exact ⟨m, by rw [hmv], HZZ⟩
      · subst hc2
        obtain ⟨rfl, rfl⟩ := NO.out fun h => hok h.2.2
        obtain ⟨Y, hY, bY, gY, ⟨a0, a1, a2, a3, a4, a5, a6, a7⟩, fr, ⟨y0, y1, y2, y3, y4, y5, y6, y7⟩⟩ := put8 hR4 (.int .i64 0) (.int .i64 0) (.int .u8 0) (.int .i64 0) (.slice none 0 0) (.int .i64 0) (.int .i64 0) (.slice none 0 0)
        have f0 := fr 0; have f1 := fr 1; have f2 := fr 2; have f3 := fr 3; have f4 := fr 4; have f5 := fr 5; have f6 := fr 6; have f7 := fr 7
        have HZZ := dec_no (below_put bel04 gY (Nat.le_refl _) (by omega))
        clear hok gY bY fr hR4 O4 bel04 NO HE HD
        go_wp2
        refine bodyPost_ret (v := .tuple #[.agg #[.int .i64 0, .int .i64 0, .int .u8 0, .int .i64 0, .slice none 0 0, .int .i64 0, .int .i64 0, .slice none 0 0], .int .i64 5]) (by simp [results, Try.results11, go_sem, y0, y1, y2, y3, y4, y5, y6, y7]) rfl ?_
        exact ⟨mno, rfl, HZZ⟩
    · obtain ⟨rfl, rfl⟩ := NO.out fun h => hn h.2.1
      have hnn : (((a : Int)) != (bs.length : Int)) = true := by simp; omega
      clear hn
      go_wp2
      refine bodyPost_ret (v := .tuple #[.agg #[.int .i64 0, .int .i64 0, .int .u8 0, .int .i64 0, .slice none 0 0, .int .i64 0, .int .i64 0, .slice none 0 0], .int .i64 5]) (by simp [results, Try.results11, go_sem, z0, z1, z2, z3, z4, z5, z6, z7]) rfl ?_
      exact ⟨mno, rfl, NOZ⟩
  · have hb5 : bad5 true = 5 := rfl
    rw [hb5]
    obtain ⟨rfl, rfl⟩ := NO.out fun h => by simp at h
    go_wp2
    refine bodyPost_ret (v := .tuple #[.agg #[.int .i64 0, .int .i64 0, .int .u8 0, .int .i64 0, .slice none 0 0, .int .i64 0, .int .i64 0, .slice none 0 0], .int .i64 5]) (by simp [results, Try.results11, go_sem, z0, z1, z2, z3, z4, z5, z6, z7]) rfl ?_
    exact ⟨mno, rfl, NOZ⟩

end Go.Proofs.Ytjaiemdefngbbaa
