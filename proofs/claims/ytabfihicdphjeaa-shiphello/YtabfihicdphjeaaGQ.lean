/- Texts of one layer, one behind the other. -/
import Derived.Test.YtabfihicdphjeaaGP
import Derived.Test.YtabfihicdphjeaaGJ
/- The contracts of the document's told, Of and Grown of starts. -/
namespace Go.Proofs.Ytabfihicdphjeaa
open Go.RowKit
set_option linter.unusedVariables false

theorem lst_prev {r : List Cw} {j : Nat} {p : Cw} (h : r[j]? = some p) : Sm.lst (Sm.told 0 (cvs (r.take (j + 1)))) = p.e := by
  rw [Sm.lst_told, cvs_next h]
  exact (Cm.last_snoc _ p.c 0 0).1

theorem told_add {r : List Cw} {k : Nat} {c : Cw} (hc : r[k]? = some c) (h : c.e ≠ Sm.lst (Sm.told 0 (cvs (r.take k)))) : Sm.told 0 (cvs (r.take k)) ++ [(c.e, c.n)] = Sm.told 0 (cvs (r.take (k + 1))) := by
  rw [cvs_next hc, Sm.told_grw]
  exact (if_neg h).symm

theorem told_same {r : List Cw} {k : Nat} {c : Cw} (hc : r[k]? = some c) (h : c.e = Sm.lst (Sm.told 0 (cvs (r.take k)))) : Sm.told 0 (cvs (r.take k)) = Sm.told 0 (cvs (r.take (k + 1))) := by
  rw [cvs_next hc, Sm.told_grw]
  exact (if_pos h).symm

set_option maxRecDepth 100000 in
set_option maxHeartbeats 4000000 in
theorem toldR_any (vl : Value) (r : List Cw) (w : World) (h : IsC w vl r) (hl : r.length ≤ 1000000) (hg : Cm.Good 0 0 (cvs r)) :
    Calls Try.prog 59 #[vl] w fun E w' => ∃ v, E = .returned v ∧ OwnS w.heap.size w' v (Sm.told 0 (cvs r)) ∧ Below w.heap.size w w' := by
  by_cases hz : r.length = 0
  · have hr : r = [] := List.eq_nil_of_length_eq_zero hz
    subst hr
    obtain ⟨ao, cap, rfl, _, _⟩ := h.1.shape
    simp only [List.length_nil]
    clear h hl hg hz
    go_enter Try.func59, Try.ntmps59
    go_wp2
    refine wp_loop_rounds 1 ?_
    rw [rounds_succ]
    go_wp2
    go_ret
    exact ⟨_, rfl, OwnG.nil _ _ _ _ _, Below.refl _ _⟩
  obtain ⟨b1, o1, cp, rfl, _, _, hB, hcell⟩ := h.1.full (by omega)
  have HC := hide hcell
  have HGO : Hid (∀ (k : Nat) (c : Cw), r[k]? = some c → 1 ≤ c.e) := hide fun k c hc => by
    have hcc : (cvs r)[k]? = some c.c := by unfold cvs; rw [List.getElem?_map, hc]; rfl
    have := (Cm.good_at (cvs r) 0 0 k c.c hg hcc).1
    exact (Cm.chk_zero this).1
  generalize hn : r.length = n at *
  have HN := hide hn
  clear h hcell hg hn
  go_enter Try.func59, Try.ntmps59
  go_wp2
  go_loopw [3, 4] (fun ov iv wr => ∃ k : Nat, k ≤ n ∧ iv = .int .i64 k ∧ OwnS w.heap.size wr ov (Sm.told 0 (cvs (r.take k))) ∧ Below w.heap.size w wr) (fun _ iv _ => n - (intOf iv).toNat)
  case atStart => exact ⟨0, by omega, rfl, OwnG.nil _ _ _ _ _, Below.refl _ _⟩
  case round =>
    obtain ⟨k, hk, rfl, own, bel⟩ := hrel
    have sz := bel.size
    by_cases hlt : k < n
    · obtain ⟨c, hc⟩ : ∃ c, r[k]? = some c := at_of (by have := HN.out; omega)
      obtain ⟨e0, e1, e2⟩ := HC.out k c hc
      have d0 := (bel.cell (p := ⟨b1, o1 + k * 3, none⟩) hB).trans e0
      have d1 := (bel.cell (p := ⟨b1, o1 + k * 3 + 1, none⟩) hB).trans e1
      have hlt' : (k : Int) < n := by omega
      have hce := HGO.out k c hc
      have hln : (Sm.told 0 (cvs (r.take k))).length ≤ k := Nat.le_trans (told_len _ _) (by unfold cvs; rw [List.length_map, List.length_take]; omega)
      have HLL : Hid (((Sm.told 0 (cvs (r.take k))).length + [((c.e, c.n) : Sm.S)].length) * 16 ≤ 140737488355328) := hide (by rw [List.length_singleton]; omega)
      have HADD := hide (told_add hc)
      have HSAME := hide (told_same hc)
      have KEY : Hid ((k = 0 ∧ Sm.lst (Sm.told 0 (cvs (r.take k))) = 0) ∨ ∃ (j : Nat) (p : Cw), k = j + 1 ∧ r[j]? = some p ∧ Sm.lst (Sm.told 0 (cvs (r.take k))) = p.e) := hide (by
        rcases Nat.eq_zero_or_pos k with h0 | h0
        · subst h0; exact .inl ⟨rfl, rfl⟩
        · obtain ⟨j, rfl⟩ : ∃ j, k = j + 1 := ⟨k - 1, by omega⟩
          obtain ⟨p, hp⟩ : ∃ p, r[j]? = some p := at_of (by have := HN.out; omega)
          exact .inr ⟨j, p, rfl, hp, lst_prev hp⟩)
      generalize hu : Sm.told 0 (cvs (r.take k)) = u at *
      clear e0 e1 e2 hc hln hu
      rcases KEY.out with ⟨h0, hls⟩ | ⟨j, p, hkj, hp, hls⟩
      · have k0 : ((k : Int) == 0) = true := by simp [h0]
        have HT := hide (HADD.out (by rw [hls]; omega))
        clear KEY HADD HSAME h0 hls
        go_wp2
        go_big_quiet (fail)
        have own' : OwnS w.heap.size (wr.drewN nq) _ u := own.agree fun _ _ => rfl
        have bel' : Below w.heap.size w (wr.drewN nq) := below_drewN bel nq
        have szq : (wr.drewN nq).heap.size = wr.heap.size := rfl
        have f0 : (wr.drewN nq).cell? ⟨b1, o1 + k * 3, none⟩ = some (.int .i64 c.e) := d0
        have f1 : (wr.drewN nq).cell? ⟨b1, o1 + k * 3 + 1, none⟩ = some (.int .i64 c.n) := d1
        generalize wr.drewN nq = wq at *
        obtain ⟨w1, hw1, sz1, bel1, own1⟩ := sts_step wq #[.int .i64 c.e, .int .i64 c.n] 1 [(c.e, c.n)] rfl rfl (by simp [maxLen])
        have i1 : Hid (∀ q, OwnS w.heap.size (w1.drewN q) _ u) := hide fun q => (ownS_below own' bel1).agree fun _ _ => rfl
        rw [szq] at own1
        have i2 : Hid (∀ q, RowS (w1.drewN q) (.slice (some ⟨wr.heap.size, 0, none⟩) 1 1) [(c.e, c.n)]) := hide fun q => rowS_drewN own1.row q
        have HB : Hid (∀ q, w.heap.size ≤ (w1.drewN q).heap.size) := hide fun q => by show _ ≤ w1.heap.size; omega
        have belA : Hid (∀ q, Below w.heap.size w (w1.drewN q)) := hide fun q => below_drewN (bel'.trans (bel1.mono (by omega))) q
        clear own own' own1 bel1 bel bel' d0 d1
        go_wp2
        go_region_law (refine step_append_sts rfl (.tmp 27) (.tmp 39) rfl w.heap.size _ u (by simp [Act.eval]) (i1.out 1) _ [(c.e, c.n)] (by simp [Act.eval]) (i2.out 1) HLL.out (HB.out 1) ?_; intro v2 w2 own2 bel2 _)
        all_goals
          rw [HT.out] at own2
          have bel3 := (belA.out 1).trans bel2
          clear HT HLL i1 i2 HB belA bel2
          go_wp2
          go_roundw
          case rel => exact ⟨k + 1, by omega, by go_num, own2, bel3⟩
          case measure => simp [intOf]; omega
      · have k0 : ((k : Int) == 0) = false := by simp; omega
        have hsub : (k : Int) - 1 = (j : Int) := by omega
        have hjn : (j : Int) < n := by omega
        obtain ⟨p0, _, _⟩ := HC.out j p hp
        have dp := (bel.cell (p := ⟨b1, o1 + j * 3, none⟩) hB).trans p0
        by_cases hcp : c.e = p.e
        · have hne : (c.e != p.e) = false := by simpa using hcp
          have HT := hide (HSAME.out (by rw [hls]; exact hcp))
          clear KEY HADD HSAME hls hkj hp p0 hcp
          go_wp2
          go_big_quiet (fail)
          have own' := own.agree (w' := wr.drewN nq) fun _ _ => rfl
          rw [HT.out] at own'
          have bel' : Below w.heap.size w (wr.drewN nq) := below_drewN bel nq
          clear HT own bel d0 d1 dp
          go_wp2
          go_roundw
          case rel => exact ⟨k + 1, by omega, by go_num, own', bel'⟩
          case measure => simp [intOf]; omega
        · have hne : (c.e != p.e) = true := by simpa using hcp
          have HT := hide (HADD.out (by rw [hls]; exact hcp))
          clear KEY HADD HSAME hls hkj hp p0 hcp
          go_wp2
          go_big_quiet (fail)
          have own' : OwnS w.heap.size (wr.drewN nq) _ u := own.agree fun _ _ => rfl
          have bel' : Below w.heap.size w (wr.drewN nq) := below_drewN bel nq
          have szq : (wr.drewN nq).heap.size = wr.heap.size := rfl
          have f0 : (wr.drewN nq).cell? ⟨b1, o1 + k * 3, none⟩ = some (.int .i64 c.e) := d0
          have f1 : (wr.drewN nq).cell? ⟨b1, o1 + k * 3 + 1, none⟩ = some (.int .i64 c.n) := d1
          generalize wr.drewN nq = wq at *
          obtain ⟨w1, hw1, sz1, bel1, own1⟩ := sts_step wq #[.int .i64 c.e, .int .i64 c.n] 1 [(c.e, c.n)] rfl rfl (by simp [maxLen])
          have i1 : Hid (∀ q, OwnS w.heap.size (w1.drewN q) _ u) := hide fun q => (ownS_below own' bel1).agree fun _ _ => rfl
          rw [szq] at own1
          have i2 : Hid (∀ q, RowS (w1.drewN q) (.slice (some ⟨wr.heap.size, 0, none⟩) 1 1) [(c.e, c.n)]) := hide fun q => rowS_drewN own1.row q
          have HB : Hid (∀ q, w.heap.size ≤ (w1.drewN q).heap.size) := hide fun q => by show _ ≤ w1.heap.size; omega
          have belA : Hid (∀ q, Below w.heap.size w (w1.drewN q)) := hide fun q => below_drewN (bel'.trans (bel1.mono (by omega))) q
          clear own own' own1 bel1 bel bel' d0 d1 dp
          go_wp2
          go_region_law (refine step_append_sts rfl (.tmp 27) (.tmp 39) rfl w.heap.size _ u (by simp [Act.eval]) (i1.out 1) _ [(c.e, c.n)] (by simp [Act.eval]) (i2.out 1) HLL.out (HB.out 1) ?_; intro v2 w2 own2 bel2 _)
          all_goals
            rw [HT.out] at own2
            have bel3 := (belA.out 1).trans bel2
            clear HT HLL i1 i2 HB belA bel2
            go_wp2
            go_roundw
            case rel => exact ⟨k + 1, by omega, by go_num, own2, bel3⟩
            case measure => simp [intOf]; omega
    · have hlt' : ¬ (k : Int) < n := by omega
      have hrk : r.take k = r := List.take_of_length_le (by have := HN.out; omega)
      rw [hrk] at own
      clear hrk
      go_wp2
      go_ret
      exact ⟨_, rfl, own, bel⟩

set_option maxRecDepth 100000 in
set_option maxHeartbeats 2000000 in
theorem ofR_any (vl : Value) (r : List Cw) (w : World) (h : IsC w vl r) (hf : FitC r) (hl : r.length ≤ 1000000) :
    Calls Try.prog 37 #[vl] w fun E w' => ∃ v, E = .returned (.tuple #[v, flv (Cm.fol 0 0 0 (cvs r))]) ∧ OwnS w.heap.size w' v (ofs (cvs r)) ∧ Below w.heap.size w w' := by
  have hl2 : r.length ≤ 140737488355328 := by omega
  obtain ⟨ao, cap, hvl, hcap, hcm⟩ := h.1.shape
  subst hvl
  obtain ⟨w1, hw1, sz1, bel1, hR⟩ := blk_step w #[.int .i64 0, .int .i64 0] 42
  have X := hide (cfolR_any 0 0 _ r w1 (h.below bel1) hf hl2)
  unfold flv at X ⊢
  have HOK := hide (ofs_ok (l := cvs r))
  have HNO := hide (ofs_no (l := cvs r))
  have HZ := hide (Cm.fol_at (cvs r) 0 0 0)
  have HGD := hide (Cm.fol_good (cvs r) 0 0 0)
  obtain ⟨fl, hfl⟩ : ∃ f, Cm.fol 0 0 0 (cvs r) = f := ⟨_, rfl⟩
  rw [hfl] at X HOK HNO HZ HGD ⊢
  obtain ⟨fe, fp⟩ := fl
  simp only at X HOK HNO HZ HGD ⊢
  clear hfl
  have HI := hide h
  have HR := hide hR
  clear h hR
  go_enter Try.func37, Try.ntmps37
  go_wp2_with fail
  refine X.out.mono ?_
  rintro E w2 ⟨rfl, bel2⟩
  have s2 := bel2.size
  obtain ⟨w3, hw3, hw3', sz3, bel3, hF, c0, c1⟩ := new_two w2 42 (.int .i64 0) (.int .i64 0) (.int .i64 fe) (.int .i64 fp)
  have bel13 : Below w1.heap.size w1 w3 := bel2.trans (bel3.mono s2)
  have bel03 : Below w.heap.size w w3 := bel1.trans (bel13.mono (by omega))
  have hR3 := (bel13.block w.heap.size (by omega)).trans HR.out
  have hnq := Try.neqF fe fp 0 0
  have hgd := Try.guardF
  have I3 := hide (HI.out.below bel03)
  have HF := hide hF
  clear X HR bel2 bel3 bel1 hF HI
  by_cases hfe : fe = 0
  · have hfp : fp = 0 := HZ.out hfe
    have hb : (!((fe == 0) && (fp == 0))) = false := by simp [hfe, hfp]
    rw [hb] at hnq
    have HO := hide (HOK.out hfe)
    have TO := hide (toldR_any _ r w3.drew (I3.out.below ((Below.refl _ _).drew)) hl (HGD.out.1 hfe))
    have H3 := hide hR3
    clear hb HOK HNO HZ HGD hf hR3 hfe hfp
    go_wp2_with fail
    go_region_held3 (fun w' => w'.cell? ⟨w2.heap.size, 0, none⟩ = some (.int .i64 fe) ∧ w'.cell? ⟨w2.heap.size, 1, none⟩ = some (.int .i64 fp)) (first | exact ⟨c0, c1⟩ | exact ⟨d0, d1⟩ | exact ⟨g0, g1⟩ | go_keep)
      (first
      | (go_at_call 59; refine TO.out.mono ?_; rintro E w4 ⟨v4, rfl, own4', bel4'⟩; have bel4 : Below w3.heap.size w3 w4 := ((Below.refl _ _).drew).trans bel4'; have own4 : OwnS w3.heap.size w4 v4 (Sm.told 0 (cvs r)) := own4'; have s4 := bel4.size; have hF4 := (bel4.block w2.heap.size (by omega)).trans HF.out; have d0 := blk_cell hF4 0 rfl; have d1 := blk_cell hF4 1 rfl; have hR4 := (bel4.block w.heap.size (by omega)).trans H3.out; obtain ⟨V, hV, bV, gV, ⟨a0, a1⟩, ⟨f0, f1⟩, ⟨z0, z1⟩⟩ := res_two hR4 (.int .i64 fe) (.int .i64 fp); have belV := below_put (bel03.trans (bel4.mono (by omega))) gV (by omega) (by omega); have ownA := own4.agree (w' := V) fun b hb => gV.block b (OwnG.lt own4 b hb).2 (by have := OwnG.lt own4 b hb; simp; omega); have ownV := ownS_rebase (base' := w.heap.size) ownA (by omega); have hFV := (gV.block w2.heap.size (by omega) (fun e => by have e' := Option.some.inj e; omega)).trans hF4; have g0 := blk_cell hFV 0 rfl; have g1 := blk_cell hFV 1 rfl; have HV := hide ownV; clear own4' bel4' hF4 hR4 bV gV ownA ownV hFV own4))
    all_goals
      go_wp2
      refine bodyPost_ret (v := .tuple #[v4, .agg #[.int .i64 fe, .int .i64 fp]]) (by simp [results, Try.results37, go_sem, z0, z1]) rfl ?_
      exact ⟨_, rfl, by rw [HO.out]; exact HV.out, belV⟩
  · have hb : (!((fe == 0) && (fp == 0))) = true := by simp [hfe]
    rw [hb] at hnq
    have HO := hide (HNO.out hfe)
    obtain ⟨V, hV, bV, gV, ⟨a0, a1⟩, ⟨f0, f1⟩, ⟨z0, z1⟩⟩ := res_two hR3 (.int .i64 fe) (.int .i64 fp)
    have belV := below_put bel03 gV (by omega) (by omega)
    clear hb HOK HNO HZ HGD bV gV hR3 hfe I3
    go_wp2
    go_region
    go_wp2
    refine bodyPost_ret (v := .tuple #[.slice none 0 0, .agg #[.int .i64 fe, .int .i64 fp]]) (by simp [results, Try.results37, go_sem, z0, z1]) rfl ?_
    exact ⟨_, rfl, by rw [HO.out]; exact OwnG.nil _ _ _ _ _, belV.drew⟩

end Go.Proofs.Ytabfihicdphjeaa

/- The document's Hello (layer 17). -/
namespace Go.Proofs.Ytabfihicdphjeaa
open Go.RowKit
set_option linter.unusedVariables false

set_option maxRecDepth 20000 in
set_option maxHeartbeats 2000000 in
theorem helloR_any (e r : Int) (v : Value) (rs : List Cw) (w : World) (h : IsC w v rs) (hf : FitC rs) (hl : rs.length ≤ 1000000) (he : In64 e) (hr0 : 0 ≤ r) (hr1 : r < 256) :
    Calls Try.prog 16 #[.int .i64 e, .int .u8 r, v] w (DecR w (Shp.hel e r (cvs rs)) (Shp.helE e r (cvs rs))) := by
  obtain ⟨w1, hw1, sz1, bel1, hR⟩ := blk_step w #[.int .i64 0, .int .i64 0, .int .u8 0, .int .i64 0, .slice none 0 0, .int .i64 0, .int .i64 0, .slice none 0 0] 26
  have X := hide (logR_any e v rs w1 (h.below bel1) hf hl)
  have NO : Hid (∀ W, Below w1.heap.size w1 W → ∃ Z, (((((((W.setCell ⟨w.heap.size, 0, none⟩ (.int .i64 0)).setCell ⟨w.heap.size, 1, none⟩ (.int .i64 0)).setCell ⟨w.heap.size, 2, none⟩ (.int .u8 0)).setCell ⟨w.heap.size, 3, none⟩ (.int .i64 0)).setCell ⟨w.heap.size, 4, none⟩ (.slice none 0 0)).setCell ⟨w.heap.size, 5, none⟩ (.int .i64 0)).setCell ⟨w.heap.size, 6, none⟩ (.int .i64 0)).setCell ⟨w.heap.size, 7, none⟩ (.slice none 0 0) = Z ∧ Ei W w.heap.size (.int .i64 0) (.int .i64 0) (.int .u8 0) (.int .i64 0) (.slice none 0 0) (.int .i64 0) (.int .i64 0) (.slice none 0 0) ∧ (∀ j, W.frozen? ⟨w.heap.size, j, none⟩ = false) ∧ Ei Z w.heap.size (.int .i64 0) (.int .i64 0) (.int .u8 0) (.int .i64 0) (.slice none 0 0) (.int .i64 0) (.int .i64 0) (.slice none 0 0) ∧ Hid (mno.m = Mm.no ∧ OwnM w.heap.size Z mno ∧ FitM mno ∧ Below w.heap.size w Z)) := hide fun W hW => by
    have hRW := (hW.block w.heap.size (by omega)).trans hR
    obtain ⟨Z, hZ, gZ, hE, fr, hE2⟩ := put_no hRW (.int .i64 0) (.int .i64 0) (.int .u8 0) (.int .i64 0) (.slice none 0 0) (.int .i64 0) (.int .i64 0) (.slice none 0 0)
    have bW := bel1.trans (hW.mono (by omega))
    exact ⟨Z, hZ, hE, fr, hE2, dec_no (below_put bW gZ (Nat.le_refl _) (by have := hW.size; omega))⟩
  by_cases h0 : Shp.lck e (cvs rs) = 0
  · rw [h0] at X
    by_cases hr : r < 1 ∨ 3 < r
    · rw [(Shp.helE_arg h0 hr).1, (Shp.helE_arg h0 hr).2]
      obtain ⟨ao, cap, hvl, _, _⟩ := h.1.shape
      subst hvl
      clear h hf hR bel1 h0 hl
      by_cases q1 : r < 1
      · clear hr
        go_enter Try.func16, Try.ntmps16
        go_wp2_with fail
        refine X.out.mono ?_
        rintro E w2 ⟨rfl, b2⟩
        obtain ⟨Z, hZ, ⟨a0, a1, a2, a3, a4, a5, a6, a7⟩, fr, ⟨z0, z1, z2, z3, z4, z5, z6, z7⟩, NOZ⟩ := NO.out w2 b2
        have f0 := fr 0; have f1 := fr 1; have f2 := fr 2; have f3 := fr 3; have f4 := fr 4; have f5 := fr 5; have f6 := fr 6; have f7 := fr 7
        clear X NO fr b2
        go_wp2
        refine bodyPost_ret (v := .tuple #[.agg #[.int .i64 0, .int .i64 0, .int .u8 0, .int .i64 0, .slice none 0 0, .int .i64 0, .int .i64 0, .slice none 0 0], .int .i64 2]) (by simp [results, Try.results16, go_sem, z0, z1, z2, z3, z4, z5, z6, z7]) rfl ?_
        exact ⟨mno, rfl, NOZ⟩
      · have q2 : 3 < r := by omega
        clear hr
        go_enter Try.func16, Try.ntmps16
        go_wp2_with fail
        refine X.out.mono ?_
        rintro E w2 ⟨rfl, b2⟩
        obtain ⟨Z, hZ, ⟨a0, a1, a2, a3, a4, a5, a6, a7⟩, fr, ⟨z0, z1, z2, z3, z4, z5, z6, z7⟩, NOZ⟩ := NO.out w2 b2
        have f0 := fr 0; have f1 := fr 1; have f2 := fr 2; have f3 := fr 3; have f4 := fr 4; have f5 := fr 5; have f6 := fr 6; have f7 := fr 7
        clear X NO fr b2
        go_wp2
        refine bodyPost_ret (v := .tuple #[.agg #[.int .i64 0, .int .i64 0, .int .u8 0, .int .i64 0, .slice none 0 0, .int .i64 0, .int .i64 0, .slice none 0 0], .int .i64 2]) (by simp [results, Try.results16, go_sem, z0, z1, z2, z3, z4, z5, z6, z7]) rfl ?_
        exact ⟨mno, rfl, NOZ⟩
    · rw [(Shp.helE_ok h0 hr).1, (Shp.helE_ok h0 hr).2]
      obtain ⟨_, _, hg, _⟩ := Shp.lck_zero h0
      have hfo : Cm.fol 0 0 0 (cvs rs) = (0, 0) := by
        have k1 := (Cm.fol_good (cvs rs) 0 0 0).2 hg
        have k2 := Cm.fol_at (cvs rs) 0 0 0 k1
        exact Prod.ext k1 k2
      have OF : Hid (∀ W, Below w1.heap.size w1 W → Calls Try.prog 37 #[v] W fun E w' => ∃ v', E = .returned (.tuple #[v', .agg #[.int .i64 0, .int .i64 0]]) ∧ OwnS W.heap.size w' v' (Sm.told 0 (cvs rs)) ∧ Below W.heap.size W w') := hide fun W hW => by
        have := ofR_any v rs W ((h.below bel1).below hW) hf hl
        rw [hfo, ofs_ok (by rw [hfo])] at this
        exact this
      have LN : Hid ((Sm.told 0 (cvs rs)).length ≤ 140737488355328) := hide (by have := told_len (cvs rs) 0; rw [cvs_n] at this; omega)
      have PUTV : Hid (∀ W ve vs ss, Below w1.heap.size w1 W → OwnS w1.heap.size W vs ss → ss.length ≤ 140737488355328 → ve = vs → ∃ Z, (((((((W.setCell ⟨w.heap.size, 0, none⟩ (.int .i64 1)).setCell ⟨w.heap.size, 1, none⟩ (.int .i64 e)).setCell ⟨w.heap.size, 2, none⟩ (.int .u8 r)).setCell ⟨w.heap.size, 3, none⟩ (.int .i64 rs.length)).setCell ⟨w.heap.size, 4, none⟩ ve).setCell ⟨w.heap.size, 5, none⟩ (.int .i64 0)).setCell ⟨w.heap.size, 6, none⟩ (.int .i64 0)).setCell ⟨w.heap.size, 7, none⟩ (.slice none 0 0) = Z ∧ Ei W w.heap.size (.int .i64 0) (.int .i64 0) (.int .u8 0) (.int .i64 0) (.slice none 0 0) (.int .i64 0) (.int .i64 0) (.slice none 0 0) ∧ (∀ j, W.frozen? ⟨w.heap.size, j, none⟩ = false) ∧ Ei Z w.heap.size (.int .i64 1) (.int .i64 e) (.int .u8 r) (.int .i64 rs.length) ve (.int .i64 0) (.int .i64 0) (.slice none 0 0) ∧ Hid (OwnM w.heap.size Z ⟨1, e, r, rs.length, vs, ss, 0, 0, .slice none 0 0, []⟩ ∧ FitM ⟨1, e, r, rs.length, vs, ss, 0, 0, .slice none 0 0, []⟩ ∧ Below w.heap.size w Z)) := hide fun W ve vs ss hW hO hls hve => by
        subst hve
        have hRW := (hW.block w.heap.size (by omega)).trans hR
        obtain ⟨Z, hZ, gZ, hE, fr, hE2⟩ := put_no hRW (.int .i64 1) (.int .i64 e) (.int .u8 r) (.int .i64 rs.length) ve (.int .i64 0) (.int .i64 0) (.slice none 0 0)
        have bW := bel1.trans (hW.mono (by omega))
        have oZ := hO.agree (w' := Z) fun b hb => gZ.block b (OwnG.lt hO b hb).2 (by have := OwnG.lt hO b hb; simp; omega)
        exact ⟨Z, hZ, hE, fr, hE2, hide ⟨own_hel (ownS_rebase oZ (by omega)) _ _ _, fit_hel he hr0 hr1 ⟨by omega, by omega⟩ hls, below_put bW gZ (Nat.le_refl _) (by have := hW.size; omega)⟩⟩
      have q1 : ¬ r < 1 := by omega
      have q2 : ¬ 3 < r := by omega
      have HN := hide (cvs_n rs)
      obtain ⟨ao, cap, hvl, _, _⟩ := h.1.shape
      subst hvl
      clear h hf hR bel1 h0 hr hg hfo NO he hr0 hr1
      obtain ⟨ss, hss⟩ : ∃ ss, Sm.told 0 (cvs rs) = ss := ⟨_, rfl⟩
      rw [hss] at OF LN ⊢
      clear hss
      go_enter Try.func16, Try.ntmps16
      go_wp2_with fail
      refine X.out.mono ?_
      rintro E w2 ⟨rfl, b2⟩
      have O2 := hide (OF.out w2 b2)
      have B2 := hide b2
      clear X b2
      go_wp2_with fail
      refine O2.out.mono ?_
      rintro E w3 ⟨v3, rfl, o3, b3⟩
      obtain ⟨w4, hw4, hw4', sz4, b4, hF, c0, c1⟩ := new_two w3 42 (.int .i64 0) (.int .i64 0) (.int .i64 0) (.int .i64 0)
      have s0 : w4.setCell ⟨w3.heap.size, 0, none⟩ (.int .i64 0) = w4 := set_same hF (j := 0) rfl
      have s1 : w4.setCell ⟨w3.heap.size, 1, none⟩ (.int .i64 0) = w4 := set_same hF (j := 1) rfl
      have p0 := blk_froz hF 0
      have p1 := blk_froz hF 1
      have m2 := B2.out.size
      have m3 := b3.size
      have B4 := B2.out.trans ((b3.trans (b4.mono m3)).mono m2)
      have o4 := ownS_rebase (ownS_below o3 b4) m2
      obtain ⟨va, vk, hv3, _, _⟩ := o4.row.shape
      obtain ⟨Z, hZ, ⟨a0, a1, a2, a3, a4, a5, a6, a7⟩, fr, ⟨z0, z1, z2, z3, z4, z5, z6, z7⟩, OKZ⟩ := PUTV.out w4 (.slice va ss.length vk) v3 ss B4 o4 LN.out hv3.symm
      have f0 := fr 0; have f1 := fr 1; have f2 := fr 2; have f3 := fr 3; have f4 := fr 4; have f5 := fr 5; have f6 := fr 6; have f7 := fr 7
      have HV3 := hide hv3
      rw [hv3]
      clear hw4 O2 OF PUTV fr b3 b4 o3 o4 B4 hF B2 hv3 m2 m3
      go_wp2
      refine bodyPost_ret (v := .tuple #[.agg #[.int .i64 1, .int .i64 e, .int .u8 r, .int .i64 rs.length, .slice va ss.length vk, .int .i64 0, .int .i64 0, .slice none 0 0], .int .i64 0]) (by simp [results, Try.results16, go_sem, z0, z1, z2, z3, z4, z5, z6, z7]) rfl ?_
      refine ⟨⟨1, e, r, rs.length, v3, ss, 0, 0, .slice none 0 0, []⟩, by unfold mv; simp only; rw [HV3.out], hide ⟨?_, OKZ.out⟩⟩
      show (⟨1, e, r, (rs.length : Int), ss, 0, 0, []⟩ : Mm.Msg) = ⟨1, e, r, ((cvs rs).length : Int), ss, 0, 0, []⟩
      rw [HN.out]
  · rw [(Shp.helE_no h0).1, (Shp.helE_no h0).2]
    obtain ⟨z, hz⟩ : ∃ z, Shp.lck e (cvs rs) = z := ⟨_, rfl⟩
    rw [hz] at X h0 ⊢
    have hzb : (z != 0) = true := by simpa using h0
    obtain ⟨ao, cap, hvl, _, _⟩ := h.1.shape
    subst hvl
    clear h hf hR bel1 hl hz
    go_enter Try.func16, Try.ntmps16
    go_wp2_with fail
    refine X.out.mono ?_
    rintro E w2 ⟨rfl, b2⟩
    obtain ⟨Z, hZ, ⟨a0, a1, a2, a3, a4, a5, a6, a7⟩, fr, ⟨z0, z1, z2, z3, z4, z5, z6, z7⟩, NOZ⟩ := NO.out w2 b2
    have f0 := fr 0; have f1 := fr 1; have f2 := fr 2; have f3 := fr 3; have f4 := fr 4; have f5 := fr 5; have f6 := fr 6; have f7 := fr 7
    clear X NO fr b2
    go_wp2
    refine bodyPost_ret (v := .tuple #[.agg #[.int .i64 0, .int .i64 0, .int .u8 0, .int .i64 0, .slice none 0 0, .int .i64 0, .int .i64 0, .slice none 0 0], .int .i64 z]) (by simp [results, Try.results16, go_sem, z0, z1, z2, z3, z4, z5, z6, z7]) rfl ?_
    exact ⟨mno, rfl, NOZ⟩

end Go.Proofs.Ytabfihicdphjeaa
