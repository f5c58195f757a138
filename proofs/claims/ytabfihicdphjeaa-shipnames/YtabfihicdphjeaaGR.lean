/- Texts of one layer, one behind the other. -/
import Derived.Test.YtabfihicdphjeaaGJ
import Derived.Deep.CutRange
/- The document's Next, whole (layer 17). -/
namespace Go.Proofs.Ytabfihicdphjeaa
open Go.RowKit
set_option linter.unusedVariables false

set_option maxRecDepth 20000 in
set_option maxHeartbeats 4000000 in
theorem nextR_no (e k : Int) (v : Value) (rs : List Cw) (w : World) (h : IsC w v rs) (hf : FitC rs) (hl : rs.length ≤ 1000000) (hno : Shp.nxtE e (cvs rs) k ≠ 0) :
    Calls Try.prog 17 #[.int .i64 e, v, .int .i64 k] w (DecR w (Shp.nxt e (cvs rs) k) (Shp.nxtE e (cvs rs) k)) := by
  obtain ⟨w1, hw1, sz1, bel1, hR⟩ := blk_step w #[.int .i64 0, .int .i64 0, .int .u8 0, .int .i64 0, .slice none 0 0, .int .i64 0, .int .i64 0, .slice none 0 0] 26
  have X := hide (logR_any e v rs w1 (h.below bel1) hf hl)
  have NO : Hid (∀ W, Below w1.heap.size w1 W → ∃ Z, (((((((W.setCell ⟨w.heap.size, 0, none⟩ (.int .i64 0)).setCell ⟨w.heap.size, 1, none⟩ (.int .i64 0)).setCell ⟨w.heap.size, 2, none⟩ (.int .u8 0)).setCell ⟨w.heap.size, 3, none⟩ (.int .i64 0)).setCell ⟨w.heap.size, 4, none⟩ (.slice none 0 0)).setCell ⟨w.heap.size, 5, none⟩ (.int .i64 0)).setCell ⟨w.heap.size, 6, none⟩ (.int .i64 0)).setCell ⟨w.heap.size, 7, none⟩ (.slice none 0 0) = Z ∧ Ei W w.heap.size (.int .i64 0) (.int .i64 0) (.int .u8 0) (.int .i64 0) (.slice none 0 0) (.int .i64 0) (.int .i64 0) (.slice none 0 0) ∧ (∀ j, W.frozen? ⟨w.heap.size, j, none⟩ = false) ∧ Ei Z w.heap.size (.int .i64 0) (.int .i64 0) (.int .u8 0) (.int .i64 0) (.slice none 0 0) (.int .i64 0) (.int .i64 0) (.slice none 0 0) ∧ Hid (mno.m = Mm.no ∧ OwnM w.heap.size Z mno ∧ FitM mno ∧ Below w.heap.size w Z)) := hide fun W hW => by
    have hRW := (hW.block w.heap.size (by omega)).trans hR
    obtain ⟨Z, hZ, gZ, hE, fr, hE2⟩ := put_no hRW (.int .i64 0) (.int .i64 0) (.int .u8 0) (.int .i64 0) (.slice none 0 0) (.int .i64 0) (.int .i64 0) (.slice none 0 0)
    have bW := bel1.trans (hW.mono (by omega))
    exact ⟨Z, hZ, hE, fr, hE2, dec_no (below_put bW gZ (Nat.le_refl _) (by have := hW.size; omega))⟩
  by_cases h0 : Shp.lck e (cvs rs) = 0
  · rw [h0] at X
    have hr : k < 0 ∨ ((cvs rs).length : Int) < k ∨ k = 1048576 := by
      by_cases hr : k < 0 ∨ ((cvs rs).length : Int) < k ∨ k = 1048576
      · exact hr
      · exact absurd (Shp.nxtE_ok h0 hr).1 hno
    rw [(Shp.nxtE_arg h0 hr).1, (Shp.nxtE_arg h0 hr).2]
    rw [cvs_n] at hr
    obtain ⟨ao, cap, hvl, _, _⟩ := h.1.shape
    subst hvl
    clear h hf hR bel1 h0 hl hno
    by_cases q1 : k < 0
    · clear hr
      go_enter Try.func17, Try.ntmps17
      go_wp2_with fail
      refine X.out.mono ?_
      rintro E w2 ⟨rfl, b2⟩
      obtain ⟨Z, hZ, ⟨a0, a1, a2, a3, a4, a5, a6, a7⟩, fr, ⟨z0, z1, z2, z3, z4, z5, z6, z7⟩, NOZ⟩ := NO.out w2 b2
      have f0 := fr 0; have f1 := fr 1; have f2 := fr 2; have f3 := fr 3; have f4 := fr 4; have f5 := fr 5; have f6 := fr 6; have f7 := fr 7
      clear X NO fr b2
      go_wp2
      refine bodyPost_ret (v := .tuple #[.agg #[.int .i64 0, .int .i64 0, .int .u8 0, .int .i64 0, .slice none 0 0, .int .i64 0, .int .i64 0, .slice none 0 0], .int .i64 2]) (by simp [results, Try.results17, go_sem, z0, z1, z2, z3, z4, z5, z6, z7]) rfl ?_
      exact ⟨mno, rfl, NOZ⟩
    by_cases q2 : (rs.length : Int) < k
    · clear hr
      go_enter Try.func17, Try.ntmps17
      go_wp2_with fail
      refine X.out.mono ?_
      rintro E w2 ⟨rfl, b2⟩
      obtain ⟨Z, hZ, ⟨a0, a1, a2, a3, a4, a5, a6, a7⟩, fr, ⟨z0, z1, z2, z3, z4, z5, z6, z7⟩, NOZ⟩ := NO.out w2 b2
      have f0 := fr 0; have f1 := fr 1; have f2 := fr 2; have f3 := fr 3; have f4 := fr 4; have f5 := fr 5; have f6 := fr 6; have f7 := fr 7
      clear X NO fr b2
      go_wp2
      refine bodyPost_ret (v := .tuple #[.agg #[.int .i64 0, .int .i64 0, .int .u8 0, .int .i64 0, .slice none 0 0, .int .i64 0, .int .i64 0, .slice none 0 0], .int .i64 2]) (by simp [results, Try.results17, go_sem, z0, z1, z2, z3, z4, z5, z6, z7]) rfl ?_
      exact ⟨mno, rfl, NOZ⟩
    have q3 : (k == 1048576) = true := by rw [beq_iff_eq]; omega
    clear hr
    go_enter Try.func17, Try.ntmps17
    go_wp2_with fail
    refine X.out.mono ?_
    rintro E w2 ⟨rfl, b2⟩
    obtain ⟨Z, hZ, ⟨a0, a1, a2, a3, a4, a5, a6, a7⟩, fr, ⟨z0, z1, z2, z3, z4, z5, z6, z7⟩, NOZ⟩ := NO.out w2 b2
    have f0 := fr 0; have f1 := fr 1; have f2 := fr 2; have f3 := fr 3; have f4 := fr 4; have f5 := fr 5; have f6 := fr 6; have f7 := fr 7
    clear X NO fr b2
    go_wp2
    refine bodyPost_ret (v := .tuple #[.agg #[.int .i64 0, .int .i64 0, .int .u8 0, .int .i64 0, .slice none 0 0, .int .i64 0, .int .i64 0, .slice none 0 0], .int .i64 2]) (by simp [results, Try.results17, go_sem, z0, z1, z2, z3, z4, z5, z6, z7]) rfl ?_
    exact ⟨mno, rfl, NOZ⟩
  · rw [(Shp.nxtE_no h0).1, (Shp.nxtE_no h0).2]
    obtain ⟨z, hz⟩ : ∃ z, Shp.lck e (cvs rs) = z := ⟨_, rfl⟩
    rw [hz] at X h0 ⊢
    have hzb : (z != 0) = true := by simpa using h0
    obtain ⟨ao, cap, hvl, _, _⟩ := h.1.shape
    subst hvl
    clear h hf hR bel1 hl hz hno
    go_enter Try.func17, Try.ntmps17
    go_wp2_with fail
    refine X.out.mono ?_
    rintro E w2 ⟨rfl, b2⟩
    obtain ⟨Z, hZ, ⟨a0, a1, a2, a3, a4, a5, a6, a7⟩, fr, ⟨z0, z1, z2, z3, z4, z5, z6, z7⟩, NOZ⟩ := NO.out w2 b2
    have f0 := fr 0; have f1 := fr 1; have f2 := fr 2; have f3 := fr 3; have f4 := fr 4; have f5 := fr 5; have f6 := fr 6; have f7 := fr 7
    clear X NO fr b2
    go_wp2
    refine bodyPost_ret (v := .tuple #[.agg #[.int .i64 0, .int .i64 0, .int .u8 0, .int .i64 0, .slice none 0 0, .int .i64 0, .int .i64 0, .slice none 0 0], .int .i64 z]) (by simp [results, Try.results17, go_sem, z0, z1, z2, z3, z4, z5, z6, z7]) rfl ?_
    exact ⟨mno, rfl, NOZ⟩

set_option maxRecDepth 20000 in
set_option maxHeartbeats 8000000 in
theorem nextR_ok (e : Int) (k : Nat) (v : Value) (rs : List Cw) (w : World) (h : IsC w v rs) (hf : FitC rs) (hl : rs.length ≤ 1000000) (he : In64 e) (h0 : Shp.lck e (cvs rs) = 0) (hk : k ≤ rs.length) (hk2 : k ≠ 1048576) :
    Calls Try.prog 17 #[.int .i64 e, v, .int .i64 k] w (DecR w ⟨2, e, 0, 0, [], (k : Int) + 1, Cm.lastE 0 ((cvs rs).take k), ((cvs rs).drop k).take 4⟩ 0) := by
  obtain ⟨w1, hw1, sz1, bel1, hR⟩ := blk_step w #[.int .i64 0, .int .i64 0, .int .u8 0, .int .i64 0, .slice none 0 0, .int .i64 0, .int .i64 0, .slice none 0 0] 26
  have X := hide (logR_any e v rs w1 (h.below bel1) hf hl)
  rw [h0] at X
  obtain ⟨_, _, hg, _⟩ := Shp.lck_zero h0
  have GD := hide hg
  obtain ⟨pv, hpv⟩ : ∃ pv, Cm.lastE 0 ((cvs rs).take k) = pv := ⟨_, rfl⟩
  have HPV := hide hpv
  obtain ⟨ao, cap, hvl, hcp, hcm⟩ := h.1.shape
  have HI := hide h
  have HFC := hide hf
  have HR := hide hR
  have B1 := hide bel1
  have FULL : Hid (∀ (i : Nat) (W : World), i < rs.length → Below w.heap.size w W → ∃ b off, v = .slice (some ⟨b, off, none⟩) rs.length cap ∧ ∃ c, rs[i]? = some c ∧ W.cell? ⟨b, off + i * 3, none⟩ = some (.int .i64 c.e) ∧ W.cell? ⟨b, off + i * 3 + 1, none⟩ = some (.int .i64 c.n) ∧ W.cell? ⟨b, off + i * 3 + 2, none⟩ = some c.v ∧ IsO W c.v c.l ∧ CFit c.e c.n c.l ∧ ∃ a n q, c.v = .slice a n q) := hide fun i W hi hW => by
    obtain ⟨b, off, cap', hv, _, _, hb, hcell⟩ := h.1.full (by omega)
    rw [hvl] at hv
    simp only [Value.slice.injEq, true_and] at hv
    obtain ⟨rfl, rfl⟩ := hv
    obtain ⟨c, hc⟩ : ∃ c, rs[i]? = some c := ⟨rs[i], List.getElem?_eq_getElem hi⟩
    obtain ⟨d0, d1, d2⟩ := hcell i c hc
    have hio := (h.2 c (List.mem_of_getElem? hc)).1
    obtain ⟨a1, q1, ha, _, _⟩ := hio.shape
    exact ⟨b, off, hvl, c, hc, (hW.cell (p := ⟨b, off + i * 3, none⟩) hb).trans d0, (hW.cell (p := ⟨b, off + i * 3 + 1, none⟩) hb).trans d1, (hW.cell (p := ⟨b, off + i * 3 + 2, none⟩) hb).trans d2, hio.below hW, cfit_ok (Cm.good_at _ 0 0 i c.c hg (cvs_at1 hc)).1, a1, _, q1, ha⟩
  have q1 : ¬ (k : Int) < 0 := by omega
  have q2 : ¬ (rs.length : Int) < k := by omega
  have q3 : ((k : Int) == 1048576) = false := by rw [beq_eq_false_iff_ne]; omega
  have g1 : decide ((k : Int) < 0) = false := decide_eq_false q1
  have g2 : decide (rs.length < k) = false := decide_eq_false (by omega)
  have g3 : decide ((rs.length : Int) < (k : Int)) = false := decide_eq_false q2
  have q4 : IntKind.i64.wrap ((k : Int) + 1) = (k : Int) + 1 := wrap64s _ (by omega) (by omega)
  have PRV : Hid (0 < k → ∃ b off c, v = .slice (some ⟨b, off, none⟩) rs.length cap ∧ c = pv ∧ ∀ W, Below w.heap.size w W → W.cell? ⟨b, off + (k - 1) * 3, none⟩ = some (.int .i64 c)) := hide fun hk0 => by
    obtain ⟨b, off, hv, c, hc, _⟩ := FULL.out (k - 1) w (by omega) (Below.refl _ _)
    refine ⟨b, off, c.e, hv, ?_, fun W hW => ?_⟩
    · rw [← hpv]
      have := Shp.prv_is (cvs_at1 hc)
      rw [show k - 1 + 1 = k by omega] at this
      exact this.symm
    · obtain ⟨b', off', hv', c', hc', d0, _⟩ := FULL.out (k - 1) W (by omega) hW
      rw [hv] at hv'
      simp only [Value.slice.injEq, Option.some.injEq, Addr.mk.injEq, and_true] at hv'
      obtain ⟨rfl, rfl⟩ := hv'
      rw [hc] at hc'
      cases hc'
      exact d0
  have PV64 : Hid (In64 pv) := hide (by
    have := (Shp.good_le _ _ _ (Cm.good_take hg k)).1
    have h2 := Shp.lck_zero h0
    have h3 : pv ≤ 1048576 := by
      rcases Nat.eq_zero_or_pos k with hz | hz
      · subst hz; rw [← hpv]; show (0 : Int) ≤ 1048576; omega
      · obtain ⟨b, off, hv, c, hc, _⟩ := FULL.out (k - 1) w (by omega) (Below.refl _ _)
        have hq := Shp.prv_is (cvs_at1 hc)
        rw [show k - 1 + 1 = k by omega, hpv] at hq
        have := Cm.chk_zero (Cm.good_at _ 0 0 (k - 1) c.c hg (cvs_at1 hc)).1
        rw [hq]; exact this.2.1
    exact ⟨by rw [hpv] at this; omega, by omega⟩)
  rw [hpv]
  rw [hvl] at X
  have HVL := hide hvl
  subst hvl
  clear h hf hR bel1 h0 hg hpv HI
  go_enter Try.func17, Try.ntmps17
  go_wp2_with fail
  refine X.out.mono ?_
  rintro E w2 ⟨rfl, b2⟩
  have B2 := hide (B1.out.trans (b2.mono B1.out.size))
  have R2 := hide ((b2.block w.heap.size (by omega)).trans HR.out)
  obtain ⟨w3, hw3, hw3', sz3, b3, hM, ⟨a0, a1, a2, a3, a4, a5, a6, a7⟩⟩ := new8 w2 26 (.int .i64 0) (.int .i64 0) (.int .u8 0) (.int .i64 0) (.slice none 0 0) (.int .i64 0) (.int .i64 0) (.slice none 0 0) (.int .i64 2) (.int .i64 e) (.int .u8 0) (.int .i64 0) (.slice none 0 0) (.int .i64 ((k : Int) + 1)) (.int .i64 0) (.slice none 0 0)
  have m2 := b2.size
  have B3 := hide (B2.out.trans (b3.mono B2.out.size))
  have HM := hide hM
  have s6 : w3.setCell ⟨w2.heap.size, 6, none⟩ (.int .i64 0) = w3 := set_same hM (j := 6) rfl
  have s7 : w3.setCell ⟨w2.heap.size, 7, none⟩ (.slice none 0 0) = w3 := set_same hM (j := 7) rfl
  have f6 := blk_froz hM 6
  have f7 := blk_froz hM 7
  clear hw3 X b2
  go_upto_if 36 with fail
  go_cut [36] from 35 to 43 (fun _ wx => Hid (NS w3 wx w2.heap.size e ((k : Int) + 1) pv (.slice none 0 0) [] []))
  case first =>
    by_cases hk0 : 0 < k
    · obtain ⟨pb, po, pc, hpvl, hpc, hpcell⟩ := PRV.out hk0
      subst hpc
      have d0 := hpcell w3 B3.out
      obtain ⟨k1, hk1⟩ : ∃ k1, k = k1 + 1 := ⟨k - 1, by omega⟩
      have hk2' : k - 1 = k1 := by omega
      rw [hk2'] at d0
      simp only [Value.slice.injEq, and_true] at hpvl
      have hk3 : (k : Int) - 1 = (k1 : Int) := by omega
      have hk4 : (k1 : Int) < rs.length := by omega
      have hk5 : (0 : Int) < (k : Int) := by omega
      have hk6 : (0 : Int) ≤ (k1 : Int) := by omega
      obtain ⟨V, hV, bV, gV, fV⟩ := put_c hM 6 (.int .i64 pc)
      have NV : Hid (NS w3 V w2.heap.size e ((k : Int) + 1) pc (.slice none 0 0) [] []) := hide ⟨by rw [bV]; rfl, ShS.nil _ _, rfl, Out.of_grown gV fun g hg => by simp at hg; exact hg.symm, by omega⟩
      subst hpvl
      clear PRV FULL hpcell
      go_wp2
      go_meet
      case rel => exact NV
    · have hk5 : ¬ (0 : Int) < (k : Int) := by omega
      have hp0 : pv = 0 := by
        rw [← HPV.out]
        have : k = 0 := by omega
        rw [this]
        rfl
      have NV : Hid (NS w3 w3 w2.heap.size e ((k : Int) + 1) pv (.slice none 0 0) [] []) := hide ⟨by rw [hM, hp0], ShS.nil _ _, rfl, Out.refl _ _, by omega⟩
      clear PRV FULL
      go_wp2
      go_meet
      case rel => exact NV
  case rest =>
    clear PRV s6 s7 f6 f7 a0 a1 a2 a3 a4 a5 a6 a7 hw3' hM
    go_wp2
    go_loopw [10] (fun iv wr => ∃ (i n : Nat) (cs : List Cw) (va : Option Addr) (vk : Nat), iv = .int .i64 (i : Int) ∧ k + n = i ∧ n ≤ 4 ∧ i ≤ rs.length ∧ cs.length = n ∧ Hid (NS w3 wr w2.heap.size e ((k : Int) + 1) pv (.slice va n vk) cs (((cvs rs).drop k).take n))) (fun iv _ => rs.length - (intOf iv).toNat)
    case atStart => exact ⟨k, 0, [], none, 0, rfl, by omega, by omega, by omega, rfl, hcut⟩
    case round =>
      obtain ⟨i, n, cs, va, vk, rfl, hin, hn4, hil, hcs, HN⟩ := hrel
      have c7 : wr.cell? ⟨w2.heap.size, 7, none⟩ = some (.slice va n vk) := blk_cell HN.out.blk 7 rfl
      have bW : Below w.heap.size w wr := B3.out.trans (HN.out.out.below (fun g hg => by have := B2.out.size; omega) B3.out.size)
      by_cases hgo : i < rs.length ∧ n < 4
      · obtain ⟨hi, hn⟩ := hgo
        obtain ⟨b, off, hvx, c, hc, d0, d1, d2, hio, hfit, ca, cn, cq, hcv⟩ := FULL.out i wr hi bW
        simp only [Value.slice.injEq, and_true] at hvx
        have hi' : (i : Int) < rs.length := by omega
        have hi0 : (0 : Int) ≤ (i : Int) := by omega
        have hn' : (n : Int) < 4 := by omega
        have hnx : ((cvs rs).drop k).take n ++ [c.c] = ((cvs rs).drop k).take (n + 1) := by
          have h1 : ((cvs rs).drop k)[n]? = some c.c := by rw [List.getElem?_drop, hin]; exact cvs_at1 hc
          obtain ⟨h2, h3⟩ := List.getElem?_eq_some_iff.1 h1
          rw [List.take_succ_eq_append_getElem h2, h3]
        have HNX := hide hnx
        have CP : Hid (Calls Try.prog 38 #[.agg #[.int .i64 c.e, .int .i64 c.n, c.v]] wr.drew fun E w10 => ∃ vv, E = .returned vv ∧ (∃ v', vv = .agg #[.int .i64 c.e, .int .i64 c.n, v'] ∧ (∃ a n k, v' = .slice a n k) ∧ w10.cell? ⟨w2.heap.size, 7, none⟩ = some (.slice va n vk) ∧ ∃ V, w10.alloc (.cells #[.int .i64 c.e, .int .i64 c.n, v'] 46) = V ∧ V.cell? ⟨w2.heap.size, 7, none⟩ = some (.slice va n vk) ∧ Hid (∀ ty, ∃ v2 w2', (Builtin.append_ #[24, 24] ty #[.slice va n vk, .slice (some ⟨w10.heap.size, 0, none⟩) 1 1]).run Try.prog V = .ok v2 w2' ∧
            ((∃ U, w2'.setCell ⟨w2.heap.size, 7, none⟩ v2 = U ∧ ∃ d, NS w3 U w2.heap.size e ((k : Int) + 1) pv v2 (cs ++ [d]) (((cvs rs).drop k).take (n + 1))) ∧ w2'.cell? ⟨w2.heap.size, 7, none⟩ = some (.slice va n vk) ∧ w2'.frozen? ⟨w2.heap.size, 7, none⟩ = false ∧ ∃ a n k, v2 = .slice a n k)))) := hide (by
          refine (copyX_any c.e c.n c.v c.l wr.drew (hio.drewN 1) (by have := hfit.2.2.2; omega)).mono ?_
          rintro E w10 ⟨v', rfl, own10, bel10⟩
          have b910 : Below wr.heap.size wr w10 := (Below.refl wr.heap.size wr).drew.trans bel10
          obtain ⟨a, q, hv', _, _⟩ := own10.is.shape
          obtain ⟨V, hV, cV, XX⟩ := HN.out.push b910 ⟨c.e, c.n, v', c.l⟩ own10 hfit (by omega)
          refine ⟨_, rfl, v', rfl, ⟨a, _, q, hv'⟩, (b910.cell (p := ⟨w2.heap.size, 7, none⟩) (blk_lt HN.out.blk)).trans c7, V, hV, cV, hide fun ty => ?_⟩
          obtain ⟨v2, w2', r1, ⟨U, hU, J⟩, r2, r3, r4⟩ := XX.out ty
          refine ⟨v2, w2', r1, ⟨U, hU, ⟨c.e, c.n, v', c.l⟩, ?_⟩, r2, r3, r4⟩
          rw [← hnx]
          exact J)
        rw [hcv] at d2 CP
        subst hvx
        clear hio hfit hnx hcv HN bW FULL
        go_wp2_with fail
        go_region_law (first
          | (refine call_at rfl 38 #[.tmp 62] #[46] rfl Try.enters38 #[.agg #[.int .i64 c.e, .int .i64 c.n, .slice ca cn cq]] (by first | (simp [Act.eval]; done) | (simp [Act.eval, Act.put]; done)) CP.out ?_; rintro _ w10 ⟨v10, rfl, ⟨a10, n10, k10, rfl⟩, pc10, V, hV, cV, X⟩)
          | (refine step_append_at rfl (.tmp 58) (.tmp 64) 24 rfl (.slice va n vk) (.slice (some ⟨w10.heap.size, 0, none⟩) 1 1) (by first | (simp [Act.eval]; done) | (simp [Act.eval, Act.put]; done)) (by first | (simp [Act.eval]; done) | (simp [Act.eval, Act.put]; done)) X.out ?_; rintro v11 w11 ⟨⟨U, hU, d, J⟩, d11, g11, a11, n11, k11, rfl⟩; have J := hide J))
        all_goals
          obtain ⟨ja, jk, hjv, _, _⟩ := J.out.sh.c.row.shape
          simp only [Value.slice.injEq] at hjv
          obtain ⟨rfl, rfl, rfl⟩ := hjv
          have hjl : (cs ++ [d]).length = n + 1 := by rw [List.length_append, hcs]; rfl
          rw [hjl] at J hU
          go_wp2
          go_roundw
          case rel => exact ⟨i + 1, n + 1, cs ++ [d], _, _, by go_num, by omega, by omega, by omega, hjl, J⟩
          case measure => simp [intOf]; omega
      · have hend : ((cvs rs).drop k).take n = ((cvs rs).drop k).take 4 := by
          rcases (by omega : n = 4 ∨ (i = rs.length ∧ n < 4)) with h | ⟨h, h'⟩
          · rw [h]
          · rw [List.take_of_length_le (by rw [List.length_drop, cvs_n]; omega), List.take_of_length_le (by rw [List.length_drop, cvs_n]; omega)]
        have hBz : wr.heap[w.heap.size]? = _ := (HN.out.out.block w.heap.size (by have := blk_lt R2.out; omega) (by have := blk_lt R2.out; have := B2.out.size; omega)).trans ((b3.block w.heap.size (blk_lt R2.out)).trans R2.out)
        obtain ⟨Z, hZ, gZ, ⟨a0, a1, a2, a3, a4, a5, a6, a7⟩, fr, ⟨z0, z1, z2, z3, z4, z5, z6, z7⟩⟩ := put_no hBz (.int .i64 2) (.int .i64 e) (.int .u8 0) (.int .i64 0) (.slice none 0 0) (.int .i64 ((k : Int) + 1)) (.int .i64 pv) (.slice va n vk)
        have f0 := fr 0; have f1 := fr 1; have f2 := fr 2; have f3 := fr 3; have f4 := fr 4; have f5 := fr 5; have f6 := fr 6; have f7 := fr 7
        have e0 := blk_cell HN.out.blk 0 rfl; have e1 := blk_cell HN.out.blk 1 rfl; have e2 := blk_cell HN.out.blk 2 rfl; have e3 := blk_cell HN.out.blk 3 rfl
        have e4 := blk_cell HN.out.blk 4 rfl; have e5 := blk_cell HN.out.blk 5 rfl; have e6 := blk_cell HN.out.blk 6 rfl
        simp only [List.getElem_toArray, List.getElem_cons_zero, List.getElem_cons_succ] at e0 e1 e2 e3 e4 e5 e6
        have m3 := B3.out.size
        have oZ : Out (fun g => g = w.heap.size) wr Z := Out.of_grown gZ fun g hg => by simp at hg; exact hg.symm
        have shZ := HN.out.sh.out oZ fun g hg => by have := blk_lt R2.out; omega
        have OKZ : Hid ((sm2 e ((k : Int) + 1) pv (.slice va n vk) cs).m = ⟨2, e, 0, 0, [], (k : Int) + 1, pv, ((cvs rs).drop k).take 4⟩ ∧ OwnM w.heap.size Z (sm2 e ((k : Int) + 1) pv (.slice va n vk) cs) ∧ FitM (sm2 e ((k : Int) + 1) pv (.slice va n vk) cs) ∧ Below w.heap.size w Z) := hide ⟨by
          rw [← hend, ← HN.out.is]
          rfl, (own_sm shZ).rebase m3, fit_shp he ⟨by omega, by omega⟩ PV64.out HN.out.sh.f (by omega), below_put bW gZ (Nat.le_refl _) bW.size⟩
        have hc2 : ¬ (i : Int) < rs.length ∨ ((i : Int) < rs.length ∧ ¬ (n : Int) < 4) := by omega
        clear hend HN gZ fr oZ shZ hBz FULL bW hgo hcut
        rcases hc2 with hc2 | ⟨hc2, hc3⟩
        · go_wp2
          refine bodyPost_ret (v := .tuple #[.agg #[.int .i64 2, .int .i64 e, .int .u8 0, .int .i64 0, .slice none 0 0, .int .i64 ((k : Int) + 1), .int .i64 pv, .slice va n vk], .int .i64 0]) (by simp [results, Try.results17, go_sem, z0, z1, z2, z3, z4, z5, z6, z7]) rfl ?_
          exact ⟨_, rfl, OKZ⟩
        · go_wp2
          refine bodyPost_ret (v := .tuple #[.agg #[.int .i64 2, .int .i64 e, .int .u8 0, .int .i64 0, .slice none 0 0, .int .i64 ((k : Int) + 1), .int .i64 pv, .slice va n vk], .int .i64 0]) (by simp [results, Try.results17, go_sem, z0, z1, z2, z3, z4, z5, z6, z7]) rfl ?_
          exact ⟨_, rfl, OKZ⟩

theorem nextR_any (e k : Int) (v : Value) (rs : List Cw) (w : World) (h : IsC w v rs) (hf : FitC rs) (hl : rs.length ≤ 1000000) (he : In64 e) :
    Calls Try.prog 17 #[.int .i64 e, v, .int .i64 k] w (DecR w (Shp.nxt e (cvs rs) k) (Shp.nxtE e (cvs rs) k)) := by
  by_cases hno : Shp.nxtE e (cvs rs) k = 0
  · by_cases h0 : Shp.lck e (cvs rs) = 0
    · by_cases hr : k < 0 ∨ ((cvs rs).length : Int) < k ∨ k = 1048576
      · rw [(Shp.nxtE_arg h0 hr).1] at hno
        simp at hno
      · rw [(Shp.nxtE_ok h0 hr).1, (Shp.nxtE_ok h0 hr).2]
        rw [cvs_n] at hr
        obtain ⟨n, rfl⟩ : ∃ n : Nat, k = (n : Int) := ⟨k.toNat, by omega⟩
        rw [Int.toNat_natCast]
        exact nextR_ok e n v rs w h hf hl he h0 (by omega) (by omega)
    · rw [(Shp.nxtE_no h0).1] at hno
      exact absurd hno h0
  · exact nextR_no e k v rs w h hf hl hno

end Go.Proofs.Ytabfihicdphjeaa
