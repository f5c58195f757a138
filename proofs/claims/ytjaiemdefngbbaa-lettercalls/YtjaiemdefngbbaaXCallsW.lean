/- The walk of LetterCalls. -/
import Derived.Test.YtjaiemdefngbbaaXy
import Derived.Test.YtjaiemdefngbbaaXu
import Derived.Test.YtjaiemdefngbbaaXz
import Derived.Test.YtjaiemdefngbbaaApart
import Derived.Deep.RegionHeld3
namespace Go.Proofs.Ytjaiemdefngbbaa
open Go.RowKit
set_option linter.unusedVariables false

theorem enc_len2 {m : Mm.Msg} (h : Mm.Ok m) : (Mm.enc m).length ≤ 30000000 := by
  unfold Mm.enc
  obtain ⟨h1, _, _, _, _, _, h6, h7, h8⟩ := Mm.hd_ok h
  have h2 := encs_small (l := Mm.hd m) (fun z hz => (h1 z hz).2)
  have h3 := cat_small (Mm.ok_cs h)
  have h4 : (Mm.hd m).length ≤ 2097157 ∧ m.cs.length ≤ 4 := by
    rcases h.2.2 with ⟨k, g⟩ | ⟨k, g⟩ | ⟨k, g⟩
    · have a := h6 k
      have b := (h1 (m.ss.length : Int) (by rw [Mm.hd_1 k]; simp)).2
      have c : m.cs.length = 0 := by rw [g.2.2.2.2.2.2]; rfl
      omega
    · have a := h7 k
      omega
    · have a := h8 k
      have c : m.cs.length = 0 := by rw [g.2.2.2.2.2.2]; rfl
      omega
  rw [List.length_append]
  omega

theorem ei_and {w : World} {g : Nat} {a b c d e f h i : Value} (k : Ei w g a b c d e f h i) : (w.cell? ⟨g, 0, none⟩ = some a ∧ w.cell? ⟨g, 1, none⟩ = some b ∧ w.cell? ⟨g, 2, none⟩ = some c ∧ w.cell? ⟨g, 3, none⟩ = some d ∧ w.cell? ⟨g, 4, none⟩ = some e ∧ w.cell? ⟨g, 5, none⟩ = some f ∧ w.cell? ⟨g, 6, none⟩ = some h ∧ w.cell? ⟨g, 7, none⟩ = some i) :=
  ⟨k.c0, k.c1, k.c2, k.c3, k.c4, k.c5, k.c6, k.c7⟩

set_option maxRecDepth 100000 in
set_option maxHeartbeats 16000000 in
theorem letterCalls_walk (m n : Mw) (w : World) (hm : IsM w m) (fm : FitM m) (hn : IsM w n) (fn : FitM n) :
    Calls Try.prog 4 #[mv m, mv n] w fun e w' => e = .returned (.bool true) ∧ Below w.heap.size w w' := by
  obtain ⟨ao1, cap1, hvs1, _, _⟩ := hm.s.shape
  obtain ⟨aq1, caq1, hvc1, _, _⟩ := hm.c.1.shape
  have HMV1 : Hid (mv m = .agg #[.int .i64 m.k, .int .i64 m.e, .int .u8 m.r, .int .i64 m.n, .slice ao1 m.ss.length cap1, .int .i64 m.f, .int .i64 m.p, .slice aq1 m.cs.length caq1]) := hide (mv_eq hvs1 hvc1)
  obtain ⟨wa, hwa, szwa, belwa, hA1⟩ := newm' w m hvs1 hvc1
  obtain ⟨ao2, cap2, hvs2, _, _⟩ := hn.s.shape
  obtain ⟨aq2, caq2, hvc2, _, _⟩ := hn.c.1.shape
  have HMV2 : Hid (mv n = .agg #[.int .i64 n.k, .int .i64 n.e, .int .u8 n.r, .int .i64 n.n, .slice ao2 n.ss.length cap2, .int .i64 n.f, .int .i64 n.p, .slice aq2 n.cs.length caq2]) := hide (mv_eq hvs2 hvc2)
  obtain ⟨wb, hwb, szwb, belwb, hA2⟩ := newm' wa n hvs2 hvc2
  rw [szwa] at hA2
  have belAB : Below w.heap.size w wb := belwa.trans (belwb.mono (by omega))
  have hA1' := hA1.below belwb
  have HN1 : Hid (∀ W, Below wb.heap.size wb W → Ei W w.heap.size (.int .i64 m.k) (.int .i64 m.e) (.int .u8 m.r) (.int .i64 m.n) (.slice ao1 m.ss.length cap1) (.int .i64 m.f) (.int .i64 m.p) (.slice aq1 m.cs.length caq1)) := hide fun W hb => (hA1'.below hb).ei' hvs1 hvc1
  have HN2 : Hid (∀ W, Below wb.heap.size wb W → Ei W (w.heap.size + 1) (.int .i64 n.k) (.int .i64 n.e) (.int .u8 n.r) (.int .i64 n.n) (.slice ao2 n.ss.length cap2) (.int .i64 n.f) (.int .i64 n.p) (.slice aq2 n.cs.length caq2)) := hide fun W hb => (hA2.below hb).ei' hvs2 hvc2
  rw [HMV1.out, HMV2.out]
  have I1 := hide hm
  have I2 := hide hn
  have F1 := hide fm
  have F2 := hide fn
  have szb : w.heap.size + 2 ≤ wb.heap.size := by omega
  obtain ⟨a0, a1, a2, a3, a4, a5, a6, a7⟩ := HN1.out _ (Below.refl _ _)
  clear hm hn fm fn hA1 hA2 hA1' hvs1 hvs2 hvc1 hvc2
  go_enter Try.func4, Try.ntmps4
  go_wp2_with fail
  refine (lives_any wb).mono ?_
  rintro E w2 ⟨rfl, bel2⟩
  have sz2 := bel2.size
  have bel02 := belAB.trans (bel2.mono (by omega))
  obtain ⟨s1, hs1⟩ := yes_of (SmlM m)
  have CS1 := hide (small_m m s1 w2 (I1.out.below bel02) F1.out hs1)
  rw [HMV1.out] at CS1
  clear a0 a1 a2 a3 a4 a5 a6 a7 hwa hwb
  obtain ⟨a0, a1, a2, a3, a4, a5, a6, a7⟩ := HN1.out _ bel2
  have H1 := hide hs1
  clear hs1
  go_wp2_with fail
  refine CS1.out.mono ?_
  rintro E w3 ⟨rfl, bel3⟩
  have sz3 := bel3.size
  have bel03 := bel02.trans (bel3.mono (by omega))
  have bel13 : Below wb.heap.size wb w3 := bel2.trans (bel3.mono (by omega))
  clear a0 a1 a2 a3 a4 a5 a6 a7 CS1
  cases s1
  · go_wp2
    go_ret
    exact ⟨rfl, bel03⟩
  obtain ⟨s2, hs2⟩ := yes_of (SmlM n)
  have CS2 := hide (small_m n s2 w3 (I2.out.below bel03) F2.out hs2)
  rw [HMV2.out] at CS2
  obtain ⟨a0, a1, a2, a3, a4, a5, a6, a7⟩ := HN2.out _ bel13
  clear hs2
  go_wp2_with fail
  refine CS2.out.mono ?_
  rintro E w4 ⟨rfl, bel4⟩
  have sz4 := bel4.size
  have bel04 := bel03.trans (bel4.mono (by omega))
  have bel14 : Below wb.heap.size wb w4 := bel13.trans (bel4.mono (by omega))
  clear a0 a1 a2 a3 a4 a5 a6 a7 CS2
  cases s2
  · go_wp2
    go_ret
    exact ⟨rfl, bel04⟩
  have hsz := H1.out.1 rfl
  have LM := hide (lentM_any m w4 (I1.out.below bel04) F1.out (by have := hsz.2.1; omega) (by have := hsz.2.2; omega))
  rw [HMV1.out] at LM
  obtain ⟨a0, a1, a2, a3, a4, a5, a6, a7⟩ := HN1.out _ bel14
  have hls := hsz.2.1
  have hlc := hsz.2.2
  clear hsz
  go_wp2_with fail
  refine LM.out.mono ?_
  rintro E w5 ⟨g, c, h, d, rs, rfl, H5⟩
  have bel5 := H5.out.2
  have sz5 := bel5.size
  have K5 := hide H5.out.1
  have bel05 := bel04.trans (bel5.mono (by omega))
  have bel15 : Below wb.heap.size wb w5 := bel14.trans (bel5.mono (by omega))
  rw [lent_mv]
  clear H5 LM a0 a1 a2 a3 a4 a5 a6 a7
  obtain ⟨V, hV', hV, szV', belV, hMV, _⟩ := new8 w5 30 (.int .i64 0) (.int .i64 0) (.int .u8 0) (.int .i64 0) (.slice none 0 0) (.int .i64 0) (.int .i64 0) (.slice none 0 0) (.int .i64 m.k) (.int .i64 m.e) (.int .u8 m.r) (.int .i64 m.n) (.slice (some ⟨g, 0, none⟩) m.ss.length c) (.int .i64 m.f) (.int .i64 m.p) (.slice (some ⟨h, 0, none⟩) m.cs.length d)
  have szV : w5.heap.size + 1 ≤ V.heap.size := by omega
  have HN3 : Hid (∀ W, Below V.heap.size V W → Ei W w5.heap.size (.int .i64 m.k) (.int .i64 m.e) (.int .u8 m.r) (.int .i64 m.n) (.slice (some ⟨g, 0, none⟩) m.ss.length c) (.int .i64 m.f) (.int .i64 m.p) (.slice (some ⟨h, 0, none⟩) m.cs.length d)) := hide fun W hb => ei_of ((hb.block _ (by omega)).trans hMV)
  have bel0V := bel05.trans (belV.mono (by omega))
  have bel1V : Below wb.heap.size wb V := bel15.trans (belV.mono (by omega))
  have KV := hide (K5.out.below belV)
  have IV := hide (lentM_is KV.out (I1.out.below bel0V))
  have FV := hide (lentM_fit KV.out F1.out)
  have EM := hide (lentM_m KV.out)
  obtain ⟨za, ca, hEa⟩ := encR_is m.m
  have HEA := hide hEa
  have CE1 := hide (mencode_any (lentOf m g c h d rs) za ca V IV.out FV.out (by rw [EM.out]; exact hEa))
  rw [lent_mv] at CE1
  obtain ⟨a0, a1, a2, a3, a4, a5, a6, a7⟩ := HN3.out _ (Below.refl _ _)
  clear szV' hMV hEa K5
  go_wp2_with fail
  refine CE1.out.mono ?_
  rintro E w6 ⟨va, rfl, own6, bel6⟩
  have sz6 := bel6.size
  have bel06 := bel0V.trans (bel6.mono (by omega))
  clear CE1 a0 a1 a2 a3 a4 a5 a6 a7 hV hV'
  have CE2 := hide (mencode_any (lentOf m g c h d rs) za ca w6 (IV.out.below bel6) FV.out (by rw [EM.out]; exact HEA.out))
  rw [lent_mv] at CE2
  obtain ⟨a0, a1, a2, a3, a4, a5, a6, a7⟩ := HN3.out _ bel6
  go_wp2_with fail
  refine CE2.out.mono ?_
  rintro E w7 ⟨vx, rfl, own7, bel7⟩
  have sz7 := bel7.size
  have bel07 := bel06.trans (bel7.mono (by omega))
  have belV7 : Below V.heap.size V w7 := bel6.trans (bel7.mono (by omega))
  have bel17 : Below wb.heap.size wb w7 := bel1V.trans (belV7.mono (by omega))
  clear CE2 a0 a1 a2 a3 a4 a5 a6 a7
  have CE3 := hide (mencodeR_any m za ca w7 (I1.out.below bel07) F1.out HEA.out)
  rw [HMV1.out] at CE3
  obtain ⟨a0, a1, a2, a3, a4, a5, a6, a7⟩ := HN1.out _ bel17
  go_wp2_with fail
  refine CE3.out.mono ?_
  rintro E w9 ⟨vb, rfl, own9, bel9⟩
  have sz9 := bel9.size
  have bel09 := bel07.trans (bel9.mono (by omega))
  have belV9 : Below V.heap.size V w9 := belV7.trans (bel9.mono (by omega))
  have bel19 : Below wb.heap.size wb w9 := bel1V.trans (belV9.mono (by omega))
  clear CE3 a0 a1 a2 a3 a4 a5 a6 a7
  have hlen : za.length ≤ 30000000 := by
    rcases HEA.out with ⟨_, hok, e⟩ | ⟨_, _, e⟩
    · rw [e]; exact enc_len2 hok
    · rw [e]; simp
  have OA := hide (own6.below (bel7.trans (bel9.mono (by omega))))
  have OX := hide (own7.below bel9)
  have OB := hide own9
  have HBA := hide own6.block
  clear own6 own7 own9 HEA
  obtain ⟨ya, na, hva, _, _⟩ := OA.out.is.shape
  obtain ⟨yx, nx, hvx, _, _⟩ := OX.out.is.shape
  obtain ⟨yb, nb, hvb, _, _⟩ := OB.out.is.shape
  subst hva hvx hvb
  have SALL : Hid (∀ W, Below w9.heap.size w9 W → (W.cell? ⟨w5.heap.size, 0, none⟩ = some (.int .i64 m.k) ∧ W.cell? ⟨w5.heap.size, 1, none⟩ = some (.int .i64 m.e) ∧ W.cell? ⟨w5.heap.size, 2, none⟩ = some (.int .u8 m.r) ∧ W.cell? ⟨w5.heap.size, 3, none⟩ = some (.int .i64 m.n) ∧ W.cell? ⟨w5.heap.size, 4, none⟩ = some (.slice (some ⟨g, 0, none⟩) m.ss.length c) ∧ W.cell? ⟨w5.heap.size, 5, none⟩ = some (.int .i64 m.f) ∧ W.cell? ⟨w5.heap.size, 6, none⟩ = some (.int .i64 m.p) ∧ W.cell? ⟨w5.heap.size, 7, none⟩ = some (.slice (some ⟨h, 0, none⟩) m.cs.length d)) ∧ (W.cell? ⟨w.heap.size, 0, none⟩ = some (.int .i64 m.k) ∧ W.cell? ⟨w.heap.size, 1, none⟩ = some (.int .i64 m.e) ∧ W.cell? ⟨w.heap.size, 2, none⟩ = some (.int .u8 m.r) ∧ W.cell? ⟨w.heap.size, 3, none⟩ = some (.int .i64 m.n) ∧ W.cell? ⟨w.heap.size, 4, none⟩ = some (.slice ao1 m.ss.length cap1) ∧ W.cell? ⟨w.heap.size, 5, none⟩ = some (.int .i64 m.f) ∧ W.cell? ⟨w.heap.size, 6, none⟩ = some (.int .i64 m.p) ∧ W.cell? ⟨w.heap.size, 7, none⟩ = some (.slice aq1 m.cs.length caq1)) ∧ (W.cell? ⟨(w.heap.size + 1), 0, none⟩ = some (.int .i64 n.k) ∧ W.cell? ⟨(w.heap.size + 1), 1, none⟩ = some (.int .i64 n.e) ∧ W.cell? ⟨(w.heap.size + 1), 2, none⟩ = some (.int .u8 n.r) ∧ W.cell? ⟨(w.heap.size + 1), 3, none⟩ = some (.int .i64 n.n) ∧ W.cell? ⟨(w.heap.size + 1), 4, none⟩ = some (.slice ao2 n.ss.length cap2) ∧ W.cell? ⟨(w.heap.size + 1), 5, none⟩ = some (.int .i64 n.f) ∧ W.cell? ⟨(w.heap.size + 1), 6, none⟩ = some (.int .i64 n.p) ∧ W.cell? ⟨(w.heap.size + 1), 7, none⟩ = some (.slice aq2 n.cs.length caq2))) := hide fun W hb => ⟨ei_and (HN3.out _ (belV9.trans (hb.mono (by omega)))), ei_and (HN1.out _ (bel19.trans (hb.mono (by omega)))), ei_and (HN2.out _ (bel19.trans (hb.mono (by omega))))⟩
  have SALB : Hid (∀ W, Below V.heap.size w9 W → (W.cell? ⟨w5.heap.size, 0, none⟩ = some (.int .i64 m.k) ∧ W.cell? ⟨w5.heap.size, 1, none⟩ = some (.int .i64 m.e) ∧ W.cell? ⟨w5.heap.size, 2, none⟩ = some (.int .u8 m.r) ∧ W.cell? ⟨w5.heap.size, 3, none⟩ = some (.int .i64 m.n) ∧ W.cell? ⟨w5.heap.size, 4, none⟩ = some (.slice (some ⟨g, 0, none⟩) m.ss.length c) ∧ W.cell? ⟨w5.heap.size, 5, none⟩ = some (.int .i64 m.f) ∧ W.cell? ⟨w5.heap.size, 6, none⟩ = some (.int .i64 m.p) ∧ W.cell? ⟨w5.heap.size, 7, none⟩ = some (.slice (some ⟨h, 0, none⟩) m.cs.length d)) ∧ (W.cell? ⟨w.heap.size, 0, none⟩ = some (.int .i64 m.k) ∧ W.cell? ⟨w.heap.size, 1, none⟩ = some (.int .i64 m.e) ∧ W.cell? ⟨w.heap.size, 2, none⟩ = some (.int .u8 m.r) ∧ W.cell? ⟨w.heap.size, 3, none⟩ = some (.int .i64 m.n) ∧ W.cell? ⟨w.heap.size, 4, none⟩ = some (.slice ao1 m.ss.length cap1) ∧ W.cell? ⟨w.heap.size, 5, none⟩ = some (.int .i64 m.f) ∧ W.cell? ⟨w.heap.size, 6, none⟩ = some (.int .i64 m.p) ∧ W.cell? ⟨w.heap.size, 7, none⟩ = some (.slice aq1 m.cs.length caq1)) ∧ (W.cell? ⟨(w.heap.size + 1), 0, none⟩ = some (.int .i64 n.k) ∧ W.cell? ⟨(w.heap.size + 1), 1, none⟩ = some (.int .i64 n.e) ∧ W.cell? ⟨(w.heap.size + 1), 2, none⟩ = some (.int .u8 n.r) ∧ W.cell? ⟨(w.heap.size + 1), 3, none⟩ = some (.int .i64 n.n) ∧ W.cell? ⟨(w.heap.size + 1), 4, none⟩ = some (.slice ao2 n.ss.length cap2) ∧ W.cell? ⟨(w.heap.size + 1), 5, none⟩ = some (.int .i64 n.f) ∧ W.cell? ⟨(w.heap.size + 1), 6, none⟩ = some (.int .i64 n.p) ∧ W.cell? ⟨(w.heap.size + 1), 7, none⟩ = some (.slice aq2 n.cs.length caq2))) := hide fun W hb => ⟨ei_and (HN3.out _ (belV9.trans (hb.mono (by omega)))), ei_and (HN1.out _ (bel1V.trans ((belV9.trans (hb.mono (by omega))).mono (by omega)))), ei_and (HN2.out _ (bel1V.trans ((belV9.trans (hb.mono (by omega))).mono (by omega))))⟩
  have IM := hide (I1.out.below bel09)
  have IN := hide (I2.out.below bel09)
  have IL := hide (IV.out.below belV9)
  have KL := hide (KV.out.below belV9)
  obtain ⟨ck, hck⟩ : ∃ c, Mm.Ck m.m c := by
    by_cases h : Mm.Ok m.m
    · exact ⟨0, .inl ⟨rfl, h⟩⟩
    · exact ⟨2, .inr ⟨rfl, h⟩⟩
  obtain ⟨sa, hsa⟩ : ∃ b, smM m.m n.m = b := ⟨_, rfl⟩
  have X1 := hide (fun W (hb : Below w9.heap.size w9 W) => mcheck_any (lentOf m g c h d rs) ck W (IL.out.below hb) FV.out (by rw [EM.out]; exact hck))
  have X2 := hide (fun W (hb : Below w9.heap.size w9 W) => mcheckR_any m ck W (IM.out.below hb) F1.out hck)
  have X3 := hide (fun W (hb : Below w9.heap.size w9 W) => msame_any (lentOf m g c h d rs) n W (IL.out.below hb) (IN.out.below hb) FV.out F2.out)
  have X4 := hide (fun W (hb : Below w9.heap.size w9 W) => msameR_any m n W (IM.out.below hb) (IN.out.below hb) F1.out F2.out)
  have X5 := hide (fun W (hb : Below w9.heap.size w9 W) => msame_any m (lentOf m g c h d rs) W (IM.out.below hb) (IL.out.below hb) F1.out FV.out)
  have X6 := hide (fun W (hb : Below w9.heap.size w9 W) => keptM_yes m g c h d rs w4.heap.size W (KL.out.below hb) (IM.out.below hb) F1.out (by omega) (by omega))
  simp only [EM.out] at X3 X5
  simp only [lent_mv, HMV1.out, HMV2.out] at X1 X2 X3 X4 X5 X6
  rw [hsa] at X3 X4
  simp only [smM_self] at X5
  have S0 := hide (SALL.out _ (Below.refl _ _))
  clear hck hsa HN1 HN2 HN3 IL IM IN KL KV IV I1 I2
  go_wp2_with fail
  go_region_held3 (fun w' => (w'.cell? ⟨w5.heap.size, 0, none⟩ = some (.int .i64 m.k) ∧ w'.cell? ⟨w5.heap.size, 1, none⟩ = some (.int .i64 m.e) ∧ w'.cell? ⟨w5.heap.size, 2, none⟩ = some (.int .u8 m.r) ∧ w'.cell? ⟨w5.heap.size, 3, none⟩ = some (.int .i64 m.n) ∧ w'.cell? ⟨w5.heap.size, 4, none⟩ = some (.slice (some ⟨g, 0, none⟩) m.ss.length c) ∧ w'.cell? ⟨w5.heap.size, 5, none⟩ = some (.int .i64 m.f) ∧ w'.cell? ⟨w5.heap.size, 6, none⟩ = some (.int .i64 m.p) ∧ w'.cell? ⟨w5.heap.size, 7, none⟩ = some (.slice (some ⟨h, 0, none⟩) m.cs.length d)) ∧ (w'.cell? ⟨w.heap.size, 0, none⟩ = some (.int .i64 m.k) ∧ w'.cell? ⟨w.heap.size, 1, none⟩ = some (.int .i64 m.e) ∧ w'.cell? ⟨w.heap.size, 2, none⟩ = some (.int .u8 m.r) ∧ w'.cell? ⟨w.heap.size, 3, none⟩ = some (.int .i64 m.n) ∧ w'.cell? ⟨w.heap.size, 4, none⟩ = some (.slice ao1 m.ss.length cap1) ∧ w'.cell? ⟨w.heap.size, 5, none⟩ = some (.int .i64 m.f) ∧ w'.cell? ⟨w.heap.size, 6, none⟩ = some (.int .i64 m.p) ∧ w'.cell? ⟨w.heap.size, 7, none⟩ = some (.slice aq1 m.cs.length caq1)) ∧ (w'.cell? ⟨(w.heap.size + 1), 0, none⟩ = some (.int .i64 n.k) ∧ w'.cell? ⟨(w.heap.size + 1), 1, none⟩ = some (.int .i64 n.e) ∧ w'.cell? ⟨(w.heap.size + 1), 2, none⟩ = some (.int .u8 n.r) ∧ w'.cell? ⟨(w.heap.size + 1), 3, none⟩ = some (.int .i64 n.n) ∧ w'.cell? ⟨(w.heap.size + 1), 4, none⟩ = some (.slice ao2 n.ss.length cap2) ∧ w'.cell? ⟨(w.heap.size + 1), 5, none⟩ = some (.int .i64 n.f) ∧ w'.cell? ⟨(w.heap.size + 1), 6, none⟩ = some (.int .i64 n.p) ∧ w'.cell? ⟨(w.heap.size + 1), 7, none⟩ = some (.slice aq2 n.cs.length caq2))) (first | exact S0.out | exact Sxa.out | exact Sxb.out | exact Sxc.out | exact Sxd.out | exact Sxe.out | exact Sxf.out | exact Sxg.out | exact Sxh.out | go_keep)
    (first
    | (go_at_call 10; refine (X1.out _ ((Below.refl _ _).drew)).mono ?_; rintro E xa ⟨rfl, belxa'⟩; have belxa : Below w9.heap.size w9 xa := ((Below.refl _ _).drew).trans belxa'; have Sxa := hide (SALL.out _ belxa); clear belxa')
    | (go_at_call 16; refine (X2.out _ belxa).mono ?_; rintro E xb ⟨rfl, belxb'⟩; have belxb : Below w9.heap.size w9 xb := belxa.trans (belxb'.mono belxa.size); have Sxb := hide (SALL.out _ belxb); clear belxb')
    | (go_at_call 9; refine (same_yes _ _ za za _ (OA.out.below belxb).is (OB.out.below belxb).is (by omega) rfl).mono ?_; rintro E xc ⟨rfl, belxc'⟩; have belxc : Below w9.heap.size w9 xc := belxb.trans (belxc'.mono belxb.size); have Sxc := hide (SALL.out _ belxc); clear belxc')
    | (go_at_call 17; refine (X5.out _ belxe).mono ?_; rintro E xf ⟨rfl, belxf'⟩; have belxf : Below w9.heap.size w9 xf := belxe.trans (belxf'.mono belxe.size); have Sxf := hide (SALL.out _ belxf); clear belxf')
    | (go_at_call 17; refine (X3.out _ belxc).mono ?_; rintro E xd ⟨rfl, belxd'⟩; have belxd : Below w9.heap.size w9 xd := belxc.trans (belxd'.mono belxc.size); have Sxd := hide (SALL.out _ belxd); clear belxd')
    | (go_at_call 18; refine (X4.out _ belxd).mono ?_; rintro E xe ⟨rfl, belxe'⟩; have belxe : Below w9.heap.size w9 xe := belxd.trans (belxe'.mono belxd.size); have Sxe := hide (SALL.out _ belxe); clear belxe')
    | (go_at_call 19; refine (X6.out _ belxf).mono ?_; rintro E xg ⟨rfl, belxg'⟩; have belxg : Below w9.heap.size w9 xg := belxf.trans (belxg'.mono belxf.size); have Sxg := hide (SALL.out _ belxg); clear belxg')
    | (go_at_call 20; have hse := belxg.size; have LL := lists_two (s2 := w6.heap.size) (base := V.heap.size) (OA.out.below belxg) (OX.out.below belxg) (fun b hb => (HBA.out b hb).2) (by omega) (by omega) (by omega); refine (apart_yes 2 _ 2 V.heap.size _ _ _ (by omega) (by omega) (by simp; omega) LL (by omega)).mono ?_; rintro E xh ⟨rfl, belxh⟩; have belh : Below V.heap.size w9 xh := ((belxg.mono (by omega)).alloc (by omega) _).trans belxh; have Sxh := hide (SALB.out _ belh)))
  go_wp2
  go_ret
  exact ⟨rfl, bel09.trans (belh.mono (by omega))⟩

end Go.Proofs.Ytjaiemdefngbbaa
