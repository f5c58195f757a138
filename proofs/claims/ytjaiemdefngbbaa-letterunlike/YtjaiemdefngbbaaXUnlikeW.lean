/- The walk of LetterUnlike. -/
import Derived.Test.YtjaiemdefngbbaaXBackW
import Derived.Test.YtjaiemdefngbbaaA5
import Derived.Deep.RegionHeld3
namespace Go.Proofs.Ytjaiemdefngbbaa
open Go.RowKit
set_option linter.unusedVariables false

theorem ei_and {w : World} {g : Nat} {a b c d e f h i : Value} (k : Ei w g a b c d e f h i) : (w.cell? ⟨g, 0, none⟩ = some a ∧ w.cell? ⟨g, 1, none⟩ = some b ∧ w.cell? ⟨g, 2, none⟩ = some c ∧ w.cell? ⟨g, 3, none⟩ = some d ∧ w.cell? ⟨g, 4, none⟩ = some e ∧ w.cell? ⟨g, 5, none⟩ = some f ∧ w.cell? ⟨g, 6, none⟩ = some h ∧ w.cell? ⟨g, 7, none⟩ = some i) :=
  ⟨k.c0, k.c1, k.c2, k.c3, k.c4, k.c5, k.c6, k.c7⟩

theorem in64' {z : Int} (h : (Lit.int .i64 z).wf = true) : I64 z := i64_of h

theorem enc_same {m n : Mm.Msg} (h : Mm.Ok m) (h' : Mm.Ok n) : decide (Mm.enc m = Mm.enc n) = smM m n := by
  by_cases e : m = n
  · subst e
    rw [smM_self]
    simp
  · rw [smM_no e]
    exact decide_eq_false fun k => e (Mm.enc_pre h h' (bs := Mm.enc n) (by rw [k]; exact List.prefix_refl _) (List.prefix_refl _))

set_option maxRecDepth 100000 in
set_option maxHeartbeats 4000000 in
theorem letterUnlike_walk (m n : Mw) (cut : Int) (w : World) (hm : IsM w m) (fm : FitM m) (hn : IsM w n) (fn : FitM n) (hc : (Lit.int .i64 cut).wf = true) :
    Calls Try.prog 7 #[mv m, mv n, .int .i64 cut] w fun e w' => e = .returned (.bool true) ∧ Below w.heap.size w w' := by
  obtain ⟨ao1, cap1, hvs1, _, _⟩ := hm.s.shape
  obtain ⟨aq1, caq1, hvc1, _, _⟩ := hm.c.1.shape
  have HMV1 : Hid (mv m = .agg #[.int .i64 m.k, .int .i64 m.e, .int .u8 m.r, .int .i64 m.n, .slice ao1 m.ss.length cap1, .int .i64 m.f, .int .i64 m.p, .slice aq1 m.cs.length caq1]) := hide (mv_eq hvs1 hvc1)
  obtain ⟨wa, hwa, szwa, belwa, hA1⟩ := newm' w m hvs1 hvc1
  obtain ⟨ao2, cap2, hvs2, _, _⟩ := hn.s.shape
  obtain ⟨aq2, caq2, hvc2, _, _⟩ := hn.c.1.shape
  have HMV2 : Hid (mv n = .agg #[.int .i64 n.k, .int .i64 n.e, .int .u8 n.r, .int .i64 n.n, .slice ao2 n.ss.length cap2, .int .i64 n.f, .int .i64 n.p, .slice aq2 n.cs.length caq2]) := hide (mv_eq hvs2 hvc2)
  obtain ⟨wb, hwb, szwb, belwb, hA2⟩ := newm' wa n hvs2 hvc2
  rw [szwa] at hA2
  have belAB : Below w.heap.size w wb := belwa.trans (belwb.mono (by omega))
  have hA1' := hA1.below belwb
  have HN1 : Hid (∀ W, Below wb.heap.size wb W → Ei W w.heap.size (.int .i64 m.k) (.int .i64 m.e) (.int .u8 m.r) (.int .i64 m.n) (.slice ao1 m.ss.length cap1) (.int .i64 m.f) (.int .i64 m.p) (.slice aq1 m.cs.length caq1)) := hide fun W hb => (hA1'.below hb).ei' hvs1 hvc1
  have HN2 : Hid (∀ W, Below wb.heap.size wb W → Ei W (w.heap.size + 1) (.int .i64 n.k) (.int .i64 n.e) (.int .u8 n.r) (.int .i64 n.n) (.slice ao2 n.ss.length cap2) (.int .i64 n.f) (.int .i64 n.p) (.slice aq2 n.cs.length caq2)) := hide fun W hb => (hA2.below hb).ei' hvs2 hvc2
  rw [HMV1.out, HMV2.out]
  have I1 := hide hm
  have I2 := hide hn
  have F1 := hide fm
  have F2 := hide fn
  have hcI := in64' hc
  have szb : w.heap.size + 2 ≤ wb.heap.size := by omega
  obtain ⟨a0, a1, a2, a3, a4, a5, a6, a7⟩ := HN1.out _ (Below.refl _ _)
  clear hm hn fm fn hc hA1 hA2 hA1' hvs1 hvs2 hvc1 hvc2
  go_enter Try.func7, Try.ntmps7
  go_wp2_with fail
  refine (lives_any wb).mono ?_
  rintro E w2 ⟨rfl, bel2⟩
  have sz2 := bel2.size
  have bel02 := belAB.trans (bel2.mono (by omega))
  obtain ⟨s1, hs1⟩ := yes_of (SmlM m)
  have CS1 := hide (small_m m s1 w2 (I1.out.below bel02) F1.out hs1)
  rw [HMV1.out] at CS1
  clear a0 a1 a2 a3 a4 a5 a6 a7 hwa hwb
  obtain ⟨a0, a1, a2, a3, a4, a5, a6, a7⟩ := HN1.out _ bel2
  clear hs1
  go_wp2_with fail
  refine CS1.out.mono ?_
  rintro E w3 ⟨rfl, bel3⟩
  have sz3 := bel3.size
  have bel03 := bel02.trans (bel3.mono (by omega))
  have bel13 : Below wb.heap.size wb w3 := bel2.trans (bel3.mono (by omega))
  clear a0 a1 a2 a3 a4 a5 a6 a7 CS1
  cases s1
  · go_wp2
    go_ret
    exact ⟨rfl, bel03⟩
  obtain ⟨s2, hs2⟩ := yes_of (SmlM n)
  have CS2 := hide (small_m n s2 w3 (I2.out.below bel03) F2.out hs2)
  rw [HMV2.out] at CS2
  obtain ⟨a0, a1, a2, a3, a4, a5, a6, a7⟩ := HN2.out _ bel13
  clear hs2
  go_wp2_with fail
  refine CS2.out.mono ?_
  rintro E w4 ⟨rfl, bel4⟩
  have sz4 := bel4.size
  have bel04 := bel03.trans (bel4.mono (by omega))
  have bel14 : Below wb.heap.size wb w4 := bel13.trans (bel4.mono (by omega))
  clear a0 a1 a2 a3 a4 a5 a6 a7 CS2
  cases s2
  · go_wp2
    go_ret
    exact ⟨rfl, bel04⟩
  obtain ⟨za, ca, hEa⟩ := encR_is m.m
  obtain ⟨zb, cb, hEb⟩ := encR_is n.m
  have CE1 := hide (mencode_any m za ca w4 (I1.out.below bel04) F1.out hEa)
  rw [HMV1.out] at CE1
  obtain ⟨a0, a1, a2, a3, a4, a5, a6, a7⟩ := HN1.out _ bel14
  have HEA := hide hEa
  have HEB := hide hEb
  clear hEa hEb
  go_wp2_with fail
  refine CE1.out.mono ?_
  rintro E w5 ⟨va, rfl, own5, bel5⟩
  have sz5 := bel5.size
  have bel05 := bel04.trans (bel5.mono (by omega))
  have bel15 : Below wb.heap.size wb w5 := bel14.trans (bel5.mono (by omega))
  have CE2 := hide (mencode_any n zb cb w5 (I2.out.below bel05) F2.out HEB.out)
  rw [HMV2.out] at CE2
  clear a0 a1 a2 a3 a4 a5 a6 a7 CE1
  obtain ⟨a0, a1, a2, a3, a4, a5, a6, a7⟩ := HN2.out _ bel15
  go_wp2_with fail
  refine CE2.out.mono ?_
  rintro E w6 ⟨vb, rfl, own6, bel6⟩
  have sz6 := bel6.size
  have bel06 := bel05.trans (bel6.mono (by omega))
  have bel16 : Below wb.heap.size wb w6 := bel15.trans (bel6.mono (by omega))
  have O6 := hide (own5.below bel6)
  have P6 := hide own6
  have BA := hide (fun b hb => (O6.out.block b hb).2)
  have BP := hide (fun b hb => (P6.out.block b hb).2)
  clear a0 a1 a2 a3 a4 a5 a6 a7 CE2 own5 own6 bel5 bel6
  rcases HEA.out with ⟨hca, hok, hza⟩ | ⟨hca, hok, hza⟩
  rotate_left
  · subst hca hza
    obtain ⟨xo, xc, hva⟩ := O6.out.is.bare
    subst hva
    clear hok
    go_wp2
    go_ret
    exact ⟨rfl, bel06⟩
  subst hca
  have hlen : za.length ≤ 30000000 := by rw [hza]; exact enc_len hok
  have hpos : 0 < za.length := by
    rw [hza]
    unfold Mm.enc
    rw [List.length_append]
    have := (Pm.encs_len (l := Mm.hd m.m) (fun z hz => by have := ((Mm.hd_ok hok).1 z hz).2; omega)).2
    have := (Mm.hd_ok hok).2.1
    omega
  obtain ⟨kp, hkp⟩ : ∃ k : Nat, pk cut za.length = k := ⟨(pk cut za.length).toNat, by have := pk_lt cut za.length (by omega); omega⟩
  have hkl : kp < za.length := by have := pk_lt cut za.length (by omega); omega
  have CP := hide (fun W => pickx_any cut (za.length : Int) W (by omega) (by omega) hcI)
  rw [hkp] at CP
  obtain ⟨vs, hsl, isl⟩ := O6.out.is.slice_h Try.elemP Try.sizeP kp (by omega)
  have hsl6 := hsl w6
  have HOK := hide hok
  have HZA := hide hza
  have CD1 := hide (mdecode_any vs (za.take kp) w6 isl (by rw [List.length_take]; omega) Mm.no 5 (by rw [hza]; exact Mm.dc_cut hok (by rw [← hza]; exact hkl)))
  obtain ⟨xo, xc, hva, _, _⟩ := O6.out.is.shape
  rw [hva] at hsl6
  have HVA := hide hva
  rw [hva]
  clear hok hza hkp hsl isl hva
  go_wp2_with fail
  refine (CP.out _).mono ?_
  rintro E w6' ⟨rfl, rfl⟩
  go_wp2_with fail
  refine CD1.out.mono ?_
  rintro E w7 ⟨q, rfl, H7⟩
  have sz7 := H7.out.2.2.2.size
  have Q7 := hide H7.out.2.1
  have bel07 := bel06.trans (H7.out.2.2.2.mono (by omega))
  have bel17 : Below wb.heap.size wb w7 := bel16.trans (H7.out.2.2.2.mono (by omega))
  have O7 := hide (O6.out.below H7.out.2.2.2)
  have P7 := hide (P6.out.below H7.out.2.2.2)
  clear H7 CD1 CP hsl6 O6 P6
  obtain ⟨ao3, cap3, hvs3, _, _⟩ := Q7.out.is.s.shape
  obtain ⟨aq3, caq3, hvc3, _, _⟩ := Q7.out.is.c.1.shape
  have HMV3 : Hid (mv q = .agg #[.int .i64 q.k, .int .i64 q.e, .int .u8 q.r, .int .i64 q.n, .slice ao3 q.ss.length cap3, .int .i64 q.f, .int .i64 q.p, .slice aq3 q.cs.length caq3]) := hide (mv_eq hvs3 hvc3)
  rw [HMV3.out]
  obtain ⟨V3, hV3', hV3, szV3', belV3, hM3, _⟩ := new8 w7 30 (.int .i64 0) (.int .i64 0) (.int .u8 0) (.int .i64 0) (.slice none 0 0) (.int .i64 0) (.int .i64 0) (.slice none 0 0) (.int .i64 q.k) (.int .i64 q.e) (.int .u8 q.r) (.int .i64 q.n) (.slice ao3 q.ss.length cap3) (.int .i64 q.f) (.int .i64 q.p) (.slice aq3 q.cs.length caq3)
  have szV3 : w7.heap.size + 1 ≤ V3.heap.size := by omega
  have OV3 := hide (Q7.out.below belV3)
  have HN3 : Hid (∀ W, Below V3.heap.size V3 W → Ei W w7.heap.size (.int .i64 q.k) (.int .i64 q.e) (.int .u8 q.r) (.int .i64 q.n) (.slice ao3 q.ss.length cap3) (.int .i64 q.f) (.int .i64 q.p) (.slice aq3 q.cs.length caq3)) := hide fun W hb => ei_of ((hb.block _ (by omega)).trans hM3)
  obtain ⟨n0, n1, n2, n3, n4, n5, n6, n7⟩ := HN3.out _ (Below.refl _ _)
  clear hM3 hvs3 hvc3 szV3'
  have bel08 := bel07.trans (belV3.mono (by omega))
  have bel18 : Below wb.heap.size wb V3 := bel17.trans (belV3.mono (by omega))
  have O8 := hide (O7.out.below belV3)
  have P8 := hide (P7.out.below belV3)
  have CC := hide (copy_any _ za V3 O8.out.is (by omega))
  rw [HVA.out] at CC
  go_wp2_with fail
  refine CC.out.mono ?_
  rintro E w9 ⟨vc, rfl, own9, bel9⟩
  have sz9 := bel9.size
  obtain ⟨wx, hwx, szx', belx, ownx⟩ := own_step .u8 5 w9 #[.int .u8 0] 1 [0] rfl rfl (by simp [maxLen]) (by decide)
  have szx : w9.heap.size ≤ wx.heap.size := by omega
  have own9' := own9.below belx
  have bel09 := bel08.trans ((bel9.trans (belx.mono (by omega))).mono (by omega))
  have bel19 : Below wb.heap.size wb wx := bel18.trans ((bel9.trans (belx.mono (by omega))).mono (by omega))
  have O9 := hide ((O8.out.below bel9).below belx)
  have P9 := hide ((P8.out.below bel9).below belx)
  clear szx' own9 CC O8 P8 O7 P7 n0 n1 n2 n3 n4 n5 n6 n7 hV3 hV3'
  go_wp2_with (at_builtin; refine wpList_append_is rfl (.tmp 52) (.tmp 53) 22 rfl .u8 5 V3.heap.size 1 Try.underlying22 Try.info5 (by decide) _ za rfl own9' _ [0] rfl ownx.is (by simp; omega) (by omega) ?_)
  intro vd wd ownd beld _
  have bel0d := bel09.trans (beld.mono (by omega))
  have szd := beld.size
  have Xd := hide ownd
  have bel1d : Below wb.heap.size wb wd := bel19.trans (beld.mono (by omega))
  have Od : Hid (Is .u8 wd va za) := hide (O9.out.is.agree fun b hb => beld.block b (by have := BA.out b hb; omega))
  have Pd : Hid (Is .u8 wd vb zb) := hide (P9.out.is.agree fun b hb => beld.block b (by have := BP.out b hb; omega))
  have CD2 := hide (mdecode_any vd (za ++ [0]) wd Xd.out.is (by rw [List.length_append]; simp; omega) Mm.no 5 (by rw [HZA.out]; exact Mm.dc_more HOK.out (by simp)))
  clear ownd own9' ownx beld hwx O9 P9
  go_wp2_with fail
  refine CD2.out.mono ?_
  rintro E we ⟨r, rfl, He⟩
  have sze := He.out.2.2.2.size
  have Re := hide He.out.2.1
  have bel0e := bel0d.trans (He.out.2.2.2.mono (by omega))
  have bel1e : Below wb.heap.size wb we := bel1d.trans (He.out.2.2.2.mono (by omega))
  have Oe := hide (Od.out.below He.out.2.2.2)
  have Pe := hide (Pd.out.below He.out.2.2.2)
  clear He CD2 Xd Od Pd
  obtain ⟨ao4, cap4, hvs4, _, _⟩ := Re.out.is.s.shape
  obtain ⟨aq4, caq4, hvc4, _, _⟩ := Re.out.is.c.1.shape
  have HMV4 : Hid (mv r = .agg #[.int .i64 r.k, .int .i64 r.e, .int .u8 r.r, .int .i64 r.n, .slice ao4 r.ss.length cap4, .int .i64 r.f, .int .i64 r.p, .slice aq4 r.cs.length caq4]) := hide (mv_eq hvs4 hvc4)
  rw [HMV4.out]
  obtain ⟨V4, hV4', hV4, szV4', belV4, hM4, _⟩ := new8 we 30 (.int .i64 0) (.int .i64 0) (.int .u8 0) (.int .i64 0) (.slice none 0 0) (.int .i64 0) (.int .i64 0) (.slice none 0 0) (.int .i64 r.k) (.int .i64 r.e) (.int .u8 r.r) (.int .i64 r.n) (.slice ao4 r.ss.length cap4) (.int .i64 r.f) (.int .i64 r.p) (.slice aq4 r.cs.length caq4)
  have szV4 : we.heap.size + 1 ≤ V4.heap.size := by omega
  have OV4 := hide (Re.out.below belV4)
  have HN4 : Hid (∀ W, Below V4.heap.size V4 W → Ei W we.heap.size (.int .i64 r.k) (.int .i64 r.e) (.int .u8 r.r) (.int .i64 r.n) (.slice ao4 r.ss.length cap4) (.int .i64 r.f) (.int .i64 r.p) (.slice aq4 r.cs.length caq4)) := hide fun W hb => ei_of ((hb.block _ (by omega)).trans hM4)
  obtain ⟨n0, n1, n2, n3, n4, n5, n6, n7⟩ := HN4.out _ (Below.refl _ _)
  clear hM4 hvs4 hvc4 szV4'
  have bel0f := bel0e.trans (belV4.mono (by omega))
  have bel1f : Below wb.heap.size wb V4 := bel1e.trans (belV4.mono (by omega))
  have Of := hide (Oe.out.below belV4)
  have Pf := hide (Pe.out.below belV4)
  rw [HVA.out] at Of
  clear n0 n1 n2 n3 n4 n5 n6 n7
  rcases HEB.out with ⟨hcb, hokb, hzb⟩ | ⟨hcb, hokb, hzb⟩
  rotate_left
  · subst hcb
    clear hokb hzb
    go_wp2
    go_quiet (fail)
    go_wp2
    go_ret
    exact ⟨rfl, below_drewN bel0f _⟩
  subst hcb
  have hlb : zb.length ≤ 30000000 := by rw [hzb]; exact enc_len hokb
  obtain ⟨s, hs⟩ : ∃ s, smM m.m n.m = s := ⟨_, rfl⟩
  have HS := hide hs
  have HSB : Hid (decide (za = zb) = s) := hide (by rw [HZA.out, hzb, ← hs]; exact enc_same HOK.out hokb)
  have S0 := hide (And.intro (ei_and (HN1.out _ bel1f)) (ei_and (HN2.out _ bel1f)))
  have X1 := hide (fun W (h1 : IsM W m) (h2 : IsM W n) => msame_any m n W h1 h2 F1.out F2.out)
  rw [HMV1.out, HMV2.out, hs] at X1
  clear hokb hzb hs
  go_wp2_with fail
  go_region_held3 (fun w' => (w'.cell? ⟨w.heap.size, 0, none⟩ = some (.int .i64 m.k) ∧ w'.cell? ⟨w.heap.size, 1, none⟩ = some (.int .i64 m.e) ∧ w'.cell? ⟨w.heap.size, 2, none⟩ = some (.int .u8 m.r) ∧ w'.cell? ⟨w.heap.size, 3, none⟩ = some (.int .i64 m.n) ∧ w'.cell? ⟨w.heap.size, 4, none⟩ = some (.slice ao1 m.ss.length cap1) ∧ w'.cell? ⟨w.heap.size, 5, none⟩ = some (.int .i64 m.f) ∧ w'.cell? ⟨w.heap.size, 6, none⟩ = some (.int .i64 m.p) ∧ w'.cell? ⟨w.heap.size, 7, none⟩ = some (.slice aq1 m.cs.length caq1)) ∧ (w'.cell? ⟨w.heap.size + 1, 0, none⟩ = some (.int .i64 n.k) ∧ w'.cell? ⟨w.heap.size + 1, 1, none⟩ = some (.int .i64 n.e) ∧ w'.cell? ⟨w.heap.size + 1, 2, none⟩ = some (.int .u8 n.r) ∧ w'.cell? ⟨w.heap.size + 1, 3, none⟩ = some (.int .i64 n.n) ∧ w'.cell? ⟨w.heap.size + 1, 4, none⟩ = some (.slice ao2 n.ss.length cap2) ∧ w'.cell? ⟨w.heap.size + 1, 5, none⟩ = some (.int .i64 n.f) ∧ w'.cell? ⟨w.heap.size + 1, 6, none⟩ = some (.int .i64 n.p) ∧ w'.cell? ⟨w.heap.size + 1, 7, none⟩ = some (.slice aq2 n.cs.length caq2))) (first | exact S0.out | exact Sg.out | exact Sh.out | go_keep)
    (first
    | (go_at_call 9; refine (same_any _ _ za zb _ (Of.out.drewN 1) (Pf.out.drewN 1) (by omega) (by omega)).mono ?_; rintro E wg ⟨rfl, belg'⟩; rw [HSB.out]; have belg : Below V4.heap.size V4 wg := ((Below.refl _ _).drew).trans belg'; clear belg'; have Sg := hide (And.intro (ei_and (HN1.out _ (bel1f.trans (belg.mono (by omega))))) (ei_and (HN2.out _ (bel1f.trans (belg.mono (by omega)))))))
    | (go_at_call 17; refine (X1.out _ (I1.out.below (bel0f.trans (belg.mono (by omega)))) (I2.out.below (bel0f.trans (belg.mono (by omega))))).mono ?_; rintro E wh ⟨rfl, belh'⟩; have belh : Below V4.heap.size V4 wh := belg.trans (belh'.mono belg.size); have Sh := hide (And.intro (ei_and (HN1.out _ (bel1f.trans (belh.mono (by omega))))) (ei_and (HN2.out _ (bel1f.trans (belh.mono (by omega))))))))
  go_wp2
  go_ret
  exact ⟨by simp, bel0f.trans (belh.mono (by omega))⟩

end Go.Proofs.Ytjaiemdefngbbaa
