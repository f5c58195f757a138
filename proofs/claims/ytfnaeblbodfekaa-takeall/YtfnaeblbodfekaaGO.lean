/- Texts of one layer, one behind the other. -/
import Derived.Test.YtfnaeblbodfekaaGC
import Derived.Test.YtfnaeblbodfekaaGF
/- The statements' own: lives, small. -/
namespace Go.Proofs.Ytfnaeblbodfekaa
open Go.RowKit
set_option linter.unusedVariables false

def exA : Mw := ⟨3, 2, 0, 7, .slice none 0 0, [], 0, 0, .slice none 0 0, []⟩
def exH (v : Value) : Mw := ⟨1, 2, 2, 3, v, [(1, 1), (2, 3)], 0, 0, .slice none 0 0, []⟩

theorem exA_ok : Mm.Ok exA.m := by
  refine ⟨by decide, by decide, .inr (.inr ⟨rfl, by decide, by decide, rfl, rfl, rfl, rfl, rfl⟩)⟩
theorem exH_ok (v : Value) : Mm.Ok (exH v).m := by
  refine ⟨by show (1 : Int) ≤ 2; decide, by show (2 : Int) ≤ 1048576; decide, .inl ⟨rfl, by show (1 : Int) ≤ 2; decide, by show (2 : Int) ≤ 3; decide, ?_, ?_, rfl, rfl, rfl⟩⟩
  · show Sm.Ok [(1, 1), (2, 3)] 3
    unfold Sm.Ok Sm.Up Sm.Up Sm.Up
    simp
  · show Sm.lst [(1, 1), (2, 3)] ≤ 2
    decide
theorem exA_enc : Mm.enc exA.m = [3, 2, 7] := by
  unfold Mm.enc
  rw [Mm.hd_3 rfl]
  simp [exA, Mw.m, cvs, Pm.encs, Fm.cat, Vm.enc_lo]
theorem exH_enc (v : Value) : Mm.enc (exH v).m = [1, 2, 2, 3, 2, 1, 1, 2, 3] := by
  unfold Mm.enc
  rw [Mm.hd_1 rfl]
  simp [exH, Mw.m, cvs, Mm.fl, Pm.encs, Fm.cat, Vm.enc_lo]

theorem exA_fit : FitM exA := ⟨by simp [In64, exA], by simp [In64, exA], by simp [exA], by simp [exA], by simp [In64, exA], by simp [In64, exA], by simp [In64, exA], by simp [exA], fun c hc => by simp [exA] at hc, by simp [exA]⟩
theorem exH_fit (v : Value) : FitM (exH v) := ⟨by simp [In64, exH], by simp [In64, exH], by simp [exH], by simp [exH], by simp [In64, exH], by simp [In64, exH], by simp [In64, exH], by simp [exH], fun c hc => by simp [exH] at hc, by simp [exH]⟩

/-- What small asks. -/
def SmlM (m : Mw) : Prop := (∀ c ∈ m.cs, c.l.length ≤ 40) ∧ m.ss.length ≤ 40 ∧ m.cs.length ≤ 40

end Go.Proofs.Ytfnaeblbodfekaa

/- The contracts of LentMessage and KeptMessage. -/
namespace Go.Proofs.Ytfnaeblbodfekaa
open Go.RowKit
set_option linter.unusedVariables false

/-- A message that was lent. -/
def lentOf (m : Mw) (g c h d : Nat) (rs : List Cw) : Mw := ⟨m.k, m.e, m.r, m.n, .slice (some ⟨g, 0, none⟩) m.ss.length c, m.ss, m.f, m.p, .slice (some ⟨h, 0, none⟩) m.cs.length d, rs⟩

structure LentM (base : Nat) (w : World) (m : Mw) (g c h d : Nat) (rs : List Cw) : Prop where
  c3 : m.ss.length + 3 ≤ c
  d3 : m.cs.length + 3 ≤ d
  s : OwnS base w (.slice (some ⟨g, 0, none⟩) (m.ss.length + 3) c) (m.ss ++ beS)
  r : OwnR 50 base w (.slice (some ⟨h, 0, none⟩) (m.cs.length + 3) d) (rs ++ [behC, behC, behC])
  e : cvs rs = cvs m.cs
  l : LentR base w rs

theorem LentM.below {base : Nat} {w w' : World} {m : Mw} {g c h d : Nat} {rs : List Cw} (k : LentM base w m g c h d rs) (hb : Below w.heap.size w w') : LentM base w' m g c h d rs := ⟨k.c3, k.d3, row_below k.s hb, k.r.below hb, k.e, k.l.below hb⟩

theorem lentS_of {base : Nat} {w : World} {v : Value} {l : List Sm.S} (h : OwnS base w v (l ++ beS)) :
    ∃ g cap, v = .slice (some ⟨g, 0, none⟩) (l.length + 3) cap ∧ l.length + 3 ≤ cap ∧ OwnS base w (.slice (some ⟨g, 0, none⟩) (l.length + 3) cap) (l ++ beS) := by
  have h' := h
  rcases h.2 with ⟨_, hn⟩ | ⟨g, cap, cur, hv, h1, hh, hc, hm, hs, ht⟩
  · rw [List.length_append, show beS.length = 3 from rfl] at hn
    omega
  · rw [List.length_append, show beS.length = 3 from rfl] at hv hc
    exact ⟨g, cap, hv, hc, hv ▸ h'⟩

theorem lentC_of {base : Nat} {w : World} {v : Value} {l : List Cw} {n : Nat} (hl : l.length = n) (h : OwnR 50 base w v (l ++ [behC, behC, behC])) :
    ∃ g cap, v = .slice (some ⟨g, 0, none⟩) (n + 3) cap ∧ n + 3 ≤ cap ∧ OwnR 50 base w (.slice (some ⟨g, 0, none⟩) (n + 3) cap) (l ++ [behC, behC, behC]) := by
  subst hl
  have h' := h
  rcases h.2 with ⟨_, hn⟩ | ⟨g, cap, cur, hv, h1, hh, hc, hm, hs, ht⟩
  · rw [List.length_append, show [behC, behC, behC].length = 3 from rfl] at hn
    omega
  · rw [List.length_append, show [behC, behC, behC].length = 3 from rfl] at hv hc
    exact ⟨g, cap, hv, hc, hv ▸ h'⟩

theorem LentR.out' {base : Nat} {w w' : World} {rs : List Cw} {F : Nat → Prop} (h : LentR base w rs) (ho : Out F w w') (hF : ∀ i, F i → i < base) : LentR base w' rs := fun c hc => by
  obtain ⟨g, cap, hv, h1, h2, k⟩ := h c hc
  exact ⟨g, cap, hv, h1, h2, row_out k ho hF⟩

theorem LentR.reb {base base' : Nat} {w : World} {rs : List Cw} (h : LentR base w rs) (hb : base' ≤ base) : LentR base' w rs := fun c hc => by
  obtain ⟨g, cap, hv, h1, h2, k⟩ := h c hc
  exact ⟨g, cap, hv, h1, h2, row_rebase k hb⟩

theorem lent_mv (m : Mw) (g c h d : Nat) (rs : List Cw) : mv (lentOf m g c h d rs) = .agg #[.int .i64 m.k, .int .i64 m.e, .int .u8 m.r, .int .i64 m.n, .slice (some ⟨g, 0, none⟩) m.ss.length c, .int .i64 m.f, .int .i64 m.p, .slice (some ⟨h, 0, none⟩) m.cs.length d] := rfl

set_option maxRecDepth 100000 in
set_option maxHeartbeats 4000000 in
theorem lentM_any (m : Mw) (w : World) (hi : IsM w m) (hf : FitM m) (hs : m.ss.length ≤ 1000) (hc : m.cs.length ≤ 1000) :
    Calls Try.prog 14 #[mv m] w fun E w' => ∃ g c h d rs, E = .returned (mv (lentOf m g c h d rs)) ∧ Hid (LentM w.heap.size w' m g c h d rs ∧ Below w.heap.size w w') := by
  obtain ⟨ao, cap, hvs, _, _⟩ := hi.s.shape
  obtain ⟨ao2, cap2, hvc, _, _⟩ := hi.c.1.shape
  rw [mv_eq hvs hvc]
  obtain ⟨w1, hw1, sz1, bel1, hA⟩ := newm' w m hvs hvc
  obtain ⟨w2, hw2, sz2, bel2, hR⟩ := blk_step w1 #[.int .i64 0, .int .i64 0, .int .u8 0, .int .i64 0, .slice none 0 0, .int .i64 0, .int .i64 0, .slice none 0 0] 30
  rw [sz1] at hR
  have hB2 : w2.heap[w.heap.size]? = some (.cells #[.int .i64 m.k, .int .i64 m.e, .int .u8 m.r, .int .i64 m.n, .slice ao m.ss.length cap, .int .i64 m.f, .int .i64 m.p, .slice ao2 m.cs.length cap2] 30 (0, 0)) := by
    have := hA.below bel2
    unfold MAt at this
    rw [mc_eq hvs hvc] at this
    exact this
  have bel02 : Below w.heap.size w w2 := bel1.trans (bel2.mono (by omega))
  have hi2 := hi.below bel02
  have HS := hide (hvs ▸ hi2.s)
  have HI := hide (hvc ▸ hi.c)
  have HF := hide hf
  have HB := hide hB2
  have HR := hide hR
  obtain ⟨c0, c1, c2, c3, c4, c5, c6, c7⟩ := ei_of hB2
  clear hA hB2 hR bel1 bel2 hi2 hi hf hvs hvc
  go_enter Try.func14, Try.ntmps14
  go_wp2_with fail
  go_region_with (go_at_call 31; refine (lentS_any _ m.ss _ (HS.out.below (below_drewN (Below.refl _ _) 1)) (by omega)).mono ?_; rintro E w3 ⟨v3, rfl, own3, bel3'⟩; have bel3 : Below w2.heap.size w2 w3 := ((Below.refl _ _).drew).trans bel3'; have sz3 := bel3.size; have hB3 := (bel3.block w.heap.size (by omega)).trans HB.out; have hR3 := (bel3.block (w.heap.size + 1) (by omega)).trans HR.out; obtain ⟨a0, a1, a2, a3, a4, a5, a6, a7⟩ := ei_of hB3; obtain ⟨gs, cs1, hv3, hcc, own3'⟩ := lentS_of own3; subst hv3; have hfr := run_frontS (some ⟨gs, 0, none⟩) (m.ss.length + 3) cs1 m.ss.length (by omega) (by simp); obtain ⟨V, hV, bV, gV, fV⟩ := putAt hB3 4 (.slice (some ⟨gs, 0, none⟩) m.ss.length cs1); have szV := gV.size; have HBV : Hid (V.heap[w.heap.size]? = some (.cells #[.int .i64 m.k, .int .i64 m.e, .int .u8 m.r, .int .i64 m.n, .slice (some ⟨gs, 0, none⟩) m.ss.length cs1, .int .i64 m.f, .int .i64 m.p, .slice ao2 m.cs.length cap2] 30 (0, 0))) := hide bV; have HRV := hide ((gV.block (w.heap.size + 1) (by omega) (by simp)).trans hR3); have OS := hide (row_rebase (base' := w2.heap.size) (row_out own3' (F := fun i => i = w.heap.size) (Out.of_grown gV (fun i hi => by simpa using hi.symm)) (fun i hi => by rw [hi]; show _ < w2.drew.heap.size; simp; omega)) (by show _ ≤ w2.drew.heap.size; simp)); have belV : Below w.heap.size w V := below_put (bel02.trans (bel3.mono (by omega))) gV (Nat.le_refl _) (by omega); obtain ⟨b0, b1, b2, b3, b4, b5, b6, b7⟩ := ei_of HBV.out; clear bel3' hB3 hR3 own3 own3' bV)
  all_goals
    clear hfr a0 a1 a2 a3 a4 a5 a6 a7 c0 c1 c2 c3 c4 c5 c6 c7 hV fV hw1 hw2
    go_wp2_with fail
    go_region_with (go_at_call 13; refine (lentCs_any _ m.cs _ ((HI.out.below belV).drewN 1) HF.out.fc hc).mono ?_; rintro E w5 ⟨v5, rs, rfl, own5, he5, hl5, bel5'⟩; have bel5 : Below V.heap.size V w5 := ((Below.refl _ _).drew).trans bel5'; have sz5 := bel5.size; have hB5 := (bel5.block w.heap.size (by omega)).trans HBV.out; have hR5 := (bel5.block (w.heap.size + 1) (by omega)).trans HRV.out; obtain ⟨a0, a1, a2, a3, a4, a5, a6, a7⟩ := ei_of hB5; obtain ⟨gc, cc1, hv5, hcc5, own5'⟩ := lentC_of (cvs_len he5) own5; subst hv5; have hfr := run_frontC gc 0 (m.cs.length + 3) cc1 m.cs.length (by omega); obtain ⟨Z, hZ, bZ, gZ, fZ⟩ := putAt hB5 7 (.slice (some ⟨gc, 0, none⟩) m.cs.length cc1); have szZ := gZ.size; have HBZ : Hid (Z.heap[w.heap.size]? = some (.cells #[.int .i64 m.k, .int .i64 m.e, .int .u8 m.r, .int .i64 m.n, .slice (some ⟨gs, 0, none⟩) m.ss.length cs1, .int .i64 m.f, .int .i64 m.p, .slice (some ⟨gc, 0, none⟩) m.cs.length cc1] 30 (0, 0))) := hide bZ; have hRZ := (gZ.block (w.heap.size + 1) (by omega) (by simp)).trans hR5; obtain ⟨e0, e1, e2, e3, e4, e5, e6, e7⟩ := ei_of HBZ.out; obtain ⟨Y, hY, bY, gY, ⟨d0, d1, d2, d3, d4, d5, d6, d7⟩, fr, ⟨y0, y1, y2, y3, y4, y5, y6, y7⟩⟩ := put8 hRZ (.int .i64 m.k) (.int .i64 m.e) (.int .u8 m.r) (.int .i64 m.n) (.slice (some ⟨gs, 0, none⟩) m.ss.length cs1) (.int .i64 m.f) (.int .i64 m.p) (.slice (some ⟨gc, 0, none⟩) m.cs.length cc1); have f0 := fr 0; have f1 := fr 1; have f2 := fr 2; have f3 := fr 3; have f4 := fr 4; have f5 := fr 5; have f6 := fr 6; have f7 := fr 7; have belY : Below w.heap.size w Y := below_put (below_put (belV.trans (bel5.mono (by omega))) gZ (Nat.le_refl _) (by omega)) gY (by omega) (by omega); have oZ : Out (fun i => i = w.heap.size) w5 Z := Out.of_grown gZ (fun i hi => by simpa using hi.symm); have oY : Out (fun i => i = w.heap.size + 1) Z Y := Out.of_grown gY (fun i hi => by simpa using hi.symm); have HL : Hid (LentM w.heap.size Y m gs cs1 gc cc1 rs) := hide ⟨hcc, hcc5, row_rebase (row_out (row_out (row_below OS.out bel5) oZ (fun i hi => by omega)) oY (fun i hi => by omega)) (by omega), row_rebase (row_out (row_out own5' oZ (fun i hi => by rw [hi]; show _ < V.drew.heap.size; simp; omega)) oY (fun i hi => by rw [hi]; show _ < V.drew.heap.size; simp; omega)) (by show _ ≤ V.drew.heap.size; simp; omega), he5, ((hl5.out' oZ (fun i hi => by rw [hi]; show _ < V.drew.heap.size; simp; omega)).out' oY (fun i hi => by rw [hi]; show _ < V.drew.heap.size; simp; omega)).reb (by show _ ≤ V.drew.heap.size; simp; omega)⟩; clear bel5' hB5 hR5 own5 own5' bZ hl5 bY oZ oY fr hRZ)
  all_goals
    go_wp2
    refine bodyPost_ret (v := .agg #[.int .i64 m.k, .int .i64 m.e, .int .u8 m.r, .int .i64 m.n, .slice (some ⟨gs, 0, none⟩) m.ss.length cs1, .int .i64 m.f, .int .i64 m.p, .slice (some ⟨gc, 0, none⟩) m.cs.length cc1]) (by simp [results, Try.results14, go_sem, y0, y1, y2, y3, y4, y5, y6, y7]) rfl ?_
    exact ⟨gs, cs1, gc, cc1, rs, by rw [lent_mv], hide ⟨HL.out, belY⟩⟩

theorem lentM_is {base : Nat} {w w' : World} {m : Mw} {g c h d : Nat} {rs : List Cw} (k : LentM base w m g c h d rs) (hi : IsM w' m) : IsM w (lentOf m g c h d rs) := by
  have hl : rs.length = m.cs.length := cvs_len k.e
  refine ⟨?_, ?_, k.l.inC k.e hi.c.2⟩
  · have := RowG.frontS k.s.row m.ss.length (by simp)
    rwa [List.take_left] at this
  · have := RowC.front k.r.row rs.length (by simp)
    rw [List.take_left, hl] at this
    exact this

theorem lentM_fit {base : Nat} {w : World} {m : Mw} {g c h d : Nat} {rs : List Cw} (k : LentM base w m g c h d rs) (hf : FitM m) : FitM (lentOf m g c h d rs) :=
  ⟨hf.k, hf.e, hf.r0, hf.r1, hf.n, hf.f, hf.p, hf.ls, fit_same k.e hf.fc, by have := cvs_len k.e; have := hf.lc; show rs.length ≤ _; omega⟩

theorem lentM_m {base : Nat} {w : World} {m : Mw} {g c h d : Nat} {rs : List Cw} (k : LentM base w m g c h d rs) : (lentOf m g c h d rs).m = m.m := by
  simp [lentOf, Mw.m, k.e]

set_option maxRecDepth 100000 in
set_option maxHeartbeats 4000000 in
theorem keptM_yes (m : Mw) (g c h d : Nat) (rs : List Cw) (base : Nat) (w : World) (k : LentM base w m g c h d rs) (hi : IsM w m) (hf : FitM m) (hs : m.ss.length ≤ 1000) (hc : m.cs.length ≤ 1000) :
    Calls Try.prog 19 #[mv (lentOf m g c h d rs), mv m] w fun E w' => E = .returned (.bool true) ∧ Below w.heap.size w w' := by
  obtain ⟨ao, cap, hvs, _, _⟩ := hi.s.shape
  obtain ⟨ao2, cap2, hvc, _, _⟩ := hi.c.1.shape
  rw [mv_eq hvs hvc, lent_mv]
  obtain ⟨w1, hw1, sz1, bel1, hB⟩ := blk_step w #[.int .i64 m.k, .int .i64 m.e, .int .u8 m.r, .int .i64 m.n, .slice (some ⟨g, 0, none⟩) m.ss.length c, .int .i64 m.f, .int .i64 m.p, .slice (some ⟨h, 0, none⟩) m.cs.length d] 30
  obtain ⟨w2, hw2, sz2, bel2, hC⟩ := blk_step w1 #[.int .i64 m.k, .int .i64 m.e, .int .u8 m.r, .int .i64 m.n, .slice ao m.ss.length cap, .int .i64 m.f, .int .i64 m.p, .slice ao2 m.cs.length cap2] 30
  rw [sz1] at hC
  have hB2 := (bel2.block w.heap.size (by omega)).trans hB
  have bel02 : Below w.heap.size w w2 := bel1.trans (bel2.mono (by omega))
  have k2 := k.below bel02
  have i2 := hi.below bel02
  have CS := hide (msameK_any (lentOf m g c h d rs) m w2 (lentM_is k2 i2) i2 (lentM_fit k2 hf) hf)
  rw [mv_eq hvs hvc, lent_mv, show smM (lentOf m g c h d rs).m m.m = true by rw [lentM_m k2]; exact smM_self _] at CS
  obtain ⟨c0, c1, c2, c3, c4, c5, c6, c7⟩ := ei_of hB2
  obtain ⟨d0, d1, d2, d3, d4, d5, d6, d7⟩ := ei_of hC
  have HB := hide hB2
  have HC := hide hC
  have HK := hide k2
  have HI := hide i2
  have HS := hide (hvs ▸ i2.s)
  have HCC := hide (hvc ▸ i2.c)
  have HF := hide hf
  have hk3 := k.c3
  have hk4 := k.d3
  clear hB hC hB2 bel1 bel2 k k2 hi i2 hf hvs hvc
  go_enter Try.func19, Try.ntmps19
  go_wp2_with fail
  refine CS.out.mono ?_
  rintro E w3 ⟨rfl, bel3⟩
  have sz3 := bel3.size
  have bel03 := bel02.trans (bel3.mono (by omega))
  have HB3 := hide ((bel3.block w.heap.size (by omega)).trans HB.out)
  have HC3 := hide ((bel3.block (w.heap.size + 1) (by omega)).trans HC.out)
  have HK3 := hide (HK.out.below bel3)
  have HS3 := hide (HS.out.below bel3)
  have HCC3 := hide (HCC.out.below bel3)
  clear c0 c1 c2 c3 c4 c5 c6 c7 d0 d1 d2 d3 d4 d5 d6 d7 CS HB HC HK HS HCC bel3
  obtain ⟨c0, c1, c2, c3, c4, c5, c6, c7⟩ := ei_of HB3.out
  obtain ⟨d0, d1, d2, d3, d4, d5, d6, d7⟩ := ei_of HC3.out
  have hfs := run_frontS (some ⟨g, 0, none⟩) m.ss.length c (m.ss.length + 3) (by omega) (by simp)
  have hfc := run_frontC h 0 m.cs.length d (m.cs.length + 3) (by omega)
  push_cast at hfs hfc
  have b1 : (m.ss.length : Int) + 3 ≤ (c : Int) := by omega
  have b2 : (0 : Int) ≤ (m.ss.length : Int) + 3 := by omega
  have b3 : ((m.ss.length : Int) + 3).toNat = m.ss.length + 3 := by omega
  have b4 : IntKind.i64.wrap ((m.ss.length : Int) + 3) = (m.ss.length : Int) + 3 := wrap_i64_small _ (by omega) (by omega)
  have e1 : (m.cs.length : Int) + 3 ≤ (d : Int) := by omega
  have e2 : (0 : Int) ≤ (m.cs.length : Int) + 3 := by omega
  have e3 : ((m.cs.length : Int) + 3).toNat = m.cs.length + 3 := by omega
  have e4 : IntKind.i64.wrap ((m.cs.length : Int) + 3) = (m.cs.length : Int) + 3 := wrap_i64_small _ (by omega) (by omega)
  go_wp2_with fail
  go_region_held3 (fun w' => (w'.cell? ⟨w.heap.size, 0, none⟩ = some (.int .i64 m.k) ∧ w'.cell? ⟨w.heap.size, 1, none⟩ = some (.int .i64 m.e) ∧ w'.cell? ⟨w.heap.size, 2, none⟩ = some (.int .u8 m.r) ∧ w'.cell? ⟨w.heap.size, 3, none⟩ = some (.int .i64 m.n) ∧ w'.cell? ⟨w.heap.size, 4, none⟩ = some (.slice (some ⟨g, 0, none⟩) m.ss.length c) ∧ w'.cell? ⟨w.heap.size, 5, none⟩ = some (.int .i64 m.f) ∧ w'.cell? ⟨w.heap.size, 6, none⟩ = some (.int .i64 m.p) ∧ w'.cell? ⟨w.heap.size, 7, none⟩ = some (.slice (some ⟨h, 0, none⟩) m.cs.length d)) ∧ (w'.cell? ⟨w.heap.size + 1, 0, none⟩ = some (.int .i64 m.k) ∧ w'.cell? ⟨w.heap.size + 1, 1, none⟩ = some (.int .i64 m.e) ∧ w'.cell? ⟨w.heap.size + 1, 2, none⟩ = some (.int .u8 m.r) ∧ w'.cell? ⟨w.heap.size + 1, 3, none⟩ = some (.int .i64 m.n) ∧ w'.cell? ⟨w.heap.size + 1, 4, none⟩ = some (.slice ao m.ss.length cap) ∧ w'.cell? ⟨w.heap.size + 1, 5, none⟩ = some (.int .i64 m.f) ∧ w'.cell? ⟨w.heap.size + 1, 6, none⟩ = some (.int .i64 m.p) ∧ w'.cell? ⟨w.heap.size + 1, 7, none⟩ = some (.slice ao2 m.cs.length cap2))) (first | exact ⟨⟨c0, c1, c2, c3, c4, c5, c6, c7⟩, ⟨d0, d1, d2, d3, d4, d5, d6, d7⟩⟩ | exact ⟨⟨pw50, pw51, pw52, pw53, pw54, pw55, pw56, pw57⟩, ⟨qw50, qw51, qw52, qw53, qw54, qw55, qw56, qw57⟩⟩ | exact ⟨⟨pw40, pw41, pw42, pw43, pw44, pw45, pw46, pw47⟩, ⟨qw40, qw41, qw42, qw43, qw44, qw45, qw46, qw47⟩⟩ | go_keep)
    (first
    | (go_at_call 18; refine (keptCs_yes _ _ rs m.cs base _ (HK3.out.below belw4).r.row HK3.out.e (HK3.out.below belw4).l (HCC3.out.below belw4) HF.out.fc hc).mono ?_; rintro E w5 ⟨rfl, belw5'⟩; have belw5 : Below w3.heap.size w3 w5 := (belw4.trans (belw5'.mono (by omega))); have szw5 := belw5.size; have hPw5 := (belw5.block w.heap.size (by omega)).trans HB3.out; have hQw5 := (belw5.block (w.heap.size + 1) (by omega)).trans HC3.out; obtain ⟨pw50, pw51, pw52, pw53, pw54, pw55, pw56, pw57⟩ := ei_of hPw5; obtain ⟨qw50, qw51, qw52, qw53, qw54, qw55, qw56, qw57⟩ := ei_of hQw5; clear hPw5 hQw5 belw5')
    | (go_at_call 39; refine (keptS_yes _ _ m.ss _ ((HK3.out.below (below_drewN (Below.refl _ _) 1)).s.row) (HS3.out.below (below_drewN (Below.refl _ _) 1)) (by omega)).mono ?_; rintro E w4 ⟨rfl, belw4'⟩; have belw4 : Below w3.heap.size w3 w4 := ((Below.refl _ _).drew).trans belw4'; have szw4 := belw4.size; have hPw4 := (belw4.block w.heap.size (by omega)).trans HB3.out; have hQw4 := (belw4.block (w.heap.size + 1) (by omega)).trans HC3.out; obtain ⟨pw40, pw41, pw42, pw43, pw44, pw45, pw46, pw47⟩ := ei_of hPw4; obtain ⟨qw40, qw41, qw42, qw43, qw44, qw45, qw46, qw47⟩ := ei_of hQw4; clear hPw4 hQw4 belw4'))
  go_wp2
  go_ret
  exact ⟨rfl, bel03.trans (belw5.mono (by omega))⟩

end Go.Proofs.Ytfnaeblbodfekaa
