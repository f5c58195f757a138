/- The walk of LetterBack. -/
import Derived.Test.YtjaiemdefngbbaaXy
import Derived.Test.YtjaiemdefngbbaaXr
namespace Go.Proofs.Ytjaiemdefngbbaa
open Go.RowKit
set_option linter.unusedVariables false

theorem dc_is (bs : List Int) : ∃ m g, Mm.Dc bs m g := by
  by_cases h : ∃ m, Mm.Ok m ∧ bs = Mm.enc m
  · obtain ⟨m, h1, h2⟩ := h
    exact ⟨m, 0, .inl ⟨rfl, h1, h2⟩⟩
  · exact ⟨Mm.no, 5, .inr ⟨rfl, rfl, fun m h1 h2 => h ⟨m, h1, h2⟩⟩⟩

theorem enc_len {m : Mm.Msg} (h : Mm.Ok m) : (Mm.enc m).length ≤ 30000000 := by
  unfold Mm.enc
  obtain ⟨h1, _, _, _, _, _, h6, h7, h8⟩ := Mm.hd_ok h
  have h2 := encs_small (l := Mm.hd m) (fun z hz => (h1 z hz).2)
  have h3 := cat_small (Mm.ok_cs h)
  have h4 : (Mm.hd m).length ≤ 2097157 ∧ m.cs.length ≤ 4 := by
    rcases h.2.2 with ⟨k, g⟩ | ⟨k, g⟩ | ⟨k, g⟩
    · have a := h6 k
      have b := (h1 (m.ss.length : Int) (by rw [Mm.hd_1 k]; simp)).2
      have c : m.cs.length = 0 := by rw [g.2.2.2.2.2.2]; rfl
      omega
    · have a := h7 k
      omega
    · have a := h8 k
      have c : m.cs.length = 0 := by rw [g.2.2.2.2.2.2]; rfl
      omega
  rw [List.length_append]
  omega

set_option maxRecDepth 100000 in
set_option maxHeartbeats 4000000 in
theorem letterBack_walk (m : Mw) (vb : Value) (bs : List Int) (w : World) (hi : IsM w m) (hf : FitM m) (hb : Is .u8 w vb bs) (hl : bs.length * 1 ≤ 140737488351232) :
    Calls Try.prog 6 #[mv m, vb] w fun e w' => e = .returned (.bool true) ∧ Below w.heap.size w w' := by
  obtain ⟨xo, xc, hvb, _, _⟩ := hb.shape
  subst hvb
  obtain ⟨ao, cap, hvs, _, _⟩ := hi.s.shape
  obtain ⟨ao2, cap2, hvc, _, _⟩ := hi.c.1.shape
  obtain ⟨w1, hw1, sz1, bel1, hA⟩ := newm' w m hvs hvc
  have HMV : Hid (mv m = .agg #[.int .i64 m.k, .int .i64 m.e, .int .u8 m.r, .int .i64 m.n, .slice ao m.ss.length cap, .int .i64 m.f, .int .i64 m.p, .slice ao2 m.cs.length cap2]) := hide (mv_eq hvs hvc)
  rw [HMV.out]
  have HE : Hid (∀ W, Below w1.heap.size w1 W → Ei W w.heap.size (.int .i64 m.k) (.int .i64 m.e) (.int .u8 m.r) (.int .i64 m.n) (.slice ao m.ss.length cap) (.int .i64 m.f) (.int .i64 m.p) (.slice ao2 m.cs.length cap2)) := hide fun W hb => (hA.below hb).ei' hvs hvc
  have HI := hide hi
  have HF := hide hf
  have HB := hide hb
  clear hA hi hf hb hvs hvc
  go_enter Try.func6, Try.ntmps6
  go_wp2_with fail
  refine (lives_any w1).mono ?_
  rintro E w2 ⟨rfl, bel2⟩
  have sz2 := bel2.size
  have bel02 := bel1.trans (bel2.mono (by omega))
  obtain ⟨c0, c1, c2, c3, c4, c5, c6, c7⟩ := HE.out _ bel2
  obtain ⟨sm, hsm⟩ := yes_of (SmlM m)
  have HSM := hide hsm
  have CS := hide (small_m m sm w2 (HI.out.below bel02) HF.out hsm)
  rw [HMV.out] at CS
  clear hsm hw1
  go_wp2_with fail
  refine CS.out.mono ?_
  rintro E w3 ⟨rfl, bel3⟩
  have sz3 := bel3.size
  have bel03 := bel02.trans (bel3.mono (by omega))
  have bel13 : Below w1.heap.size w1 w3 := bel2.trans (bel3.mono (by omega))
  clear c0 c1 c2 c3 c4 c5 c6 c7 CS
  cases sm
  · go_wp2
    go_ret
    exact ⟨rfl, bel03⟩
  by_cases h4 : 4000 < bs.length
  · have h4' : (4000 : Int) < bs.length := by omega
    go_wp2
    go_ret
    exact ⟨rfl, bel03⟩
  have h4' : ¬ (4000 : Int) < bs.length := by omega
  obtain ⟨ab, c, hEn⟩ := encR_is m.m
  have HEN := hide hEn
  have CE := hide (mencode_any m ab c w3 (HI.out.below bel03) HF.out hEn)
  rw [HMV.out] at CE
  obtain ⟨c0, c1, c2, c3, c4, c5, c6, c7⟩ := HE.out _ bel13
  obtain ⟨m', g, hD⟩ := dc_is bs
  have HD := hide hD
  clear hEn hD
  go_wp2_with fail
  refine CE.out.mono ?_
  rintro E w4 ⟨va, rfl, own4, bel4⟩
  have sz4 := bel4.size
  have bel04 := bel03.trans (bel4.mono (by omega))
  have bel14 : Below w1.heap.size w1 w4 := bel13.trans (bel4.mono (by omega))
  clear c0 c1 c2 c3 c4 c5 c6 c7 CE
  rcases HEN.out with ⟨hc, hok, hab⟩ | ⟨hc, hok, hab⟩
  · subst hc
    have HAB := hide hab
    have hlen : ab.length ≤ 30000000 := by rw [hab]; exact enc_len hok
    have CD1 := hide (mdecode_any va ab w4 own4.is (by omega) m.m 0 (.inl ⟨rfl, hok, hab⟩))
    clear hok hab
    go_wp2_with fail
    refine CD1.out.mono ?_
    rintro E w5 ⟨q, rfl, H5⟩
    have sz5 := H5.out.2.2.2.size
    have O5 := hide H5.out.2.1
    have F5 := hide H5.out.2.2.1
    have N5 := hide H5.out.1
    have bel05 := bel04.trans (H5.out.2.2.2.mono (by omega))
    have bel15 : Below w1.heap.size w1 w5 := bel14.trans (H5.out.2.2.2.mono (by omega))
    clear H5 CD1
    obtain ⟨ao8, cap8, hvs8, _, _⟩ := O5.out.is.s.shape
    obtain ⟨aq8, caq8, hvc8, _, _⟩ := O5.out.is.c.1.shape
    have HMV8 : Hid (mv q = .agg #[.int .i64 q.k, .int .i64 q.e, .int .u8 q.r, .int .i64 q.n, .slice ao8 q.ss.length cap8, .int .i64 q.f, .int .i64 q.p, .slice aq8 q.cs.length caq8]) := hide (mv_eq hvs8 hvc8)
    rw [HMV8.out]
    obtain ⟨V8, hV8', hV8, szV8', belV8, hM8, _⟩ := new8 w5 30 (.int .i64 0) (.int .i64 0) (.int .u8 0) (.int .i64 0) (.slice none 0 0) (.int .i64 0) (.int .i64 0) (.slice none 0 0) (.int .i64 q.k) (.int .i64 q.e) (.int .u8 q.r) (.int .i64 q.n) (.slice ao8 q.ss.length cap8) (.int .i64 q.f) (.int .i64 q.p) (.slice aq8 q.cs.length caq8)
    have szV8 : w5.heap.size + 1 ≤ V8.heap.size := by omega
    have OV8 := hide (O5.out.below belV8)
    have HN8 : Hid (∀ W, Below V8.heap.size V8 W → Ei W w5.heap.size (.int .i64 q.k) (.int .i64 q.e) (.int .u8 q.r) (.int .i64 q.n) (.slice ao8 q.ss.length cap8) (.int .i64 q.f) (.int .i64 q.p) (.slice aq8 q.cs.length caq8)) := hide fun W hb => ei_of ((hb.block _ (by omega)).trans hM8)
    obtain ⟨n0, n1, n2, n3, n4, n5, n6, n7⟩ := HN8.out _ (Below.refl _ _)
    clear hM8 hvs8 hvc8 szV8'
    have bel08 := bel05.trans (belV8.mono (by omega))
    have bel18 : Below w1.heap.size w1 V8 := bel15.trans (belV8.mono (by omega))
    obtain ⟨c0, c1, c2, c3, c4, c5, c6, c7⟩ := HE.out _ bel18
    have CX := hide (msame_any q m V8 OV8.out.is (HI.out.below bel08) F5.out HF.out)
    rw [HMV8.out, HMV.out, show smM q.m m.m = true by rw [N5.out]; exact smM_self _] at CX
    go_wp2_with fail
    refine CX.out.mono ?_
    rintro E w6 ⟨rfl, bel6⟩
    have sz6 := bel6.size
    have bel06 := bel08.trans (bel6.mono (by omega))
    have bel16 : Below w1.heap.size w1 w6 := bel18.trans (bel6.mono (by omega))
    clear c0 c1 c2 c3 c4 c5 c6 c7 n0 n1 n2 n3 n4 n5 n6 n7 hV8 hV8' CX
    obtain ⟨c0, c1, c2, c3, c4, c5, c6, c7⟩ := HE.out _ bel16
    obtain ⟨n0, n1, n2, n3, n4, n5, n6, n7⟩ := HN8.out _ bel6
    have CY := hide (msameK_any q m w6 (OV8.out.is.below bel6) (HI.out.below bel06) F5.out HF.out)
    rw [HMV8.out, HMV.out, show smM q.m m.m = true by rw [N5.out]; exact smM_self _] at CY
    go_wp2_with fail
    refine CY.out.mono ?_
    rintro E w7 ⟨rfl, bel7⟩
    have sz7 := bel7.size
    have bel07 := bel06.trans (bel7.mono (by omega))
    have bel17 : Below w1.heap.size w1 w7 := bel16.trans (bel7.mono (by omega))
    clear c0 c1 c2 c3 c4 c5 c6 c7 n0 n1 n2 n3 n4 n5 n6 n7 CY HN8 OV8 O5 F5 N5 HMV8
    have CD := hide (mdecode_any _ bs w7 (HB.out.below bel07) (by omega) m' g HD.out)
    go_wp2_with fail
    refine CD.out.mono ?_
    rintro E wa ⟨n, rfl, Ha⟩
    have sza := Ha.out.2.2.2.size
    have Oa := hide Ha.out.2.1
    have Fa := hide Ha.out.2.2.1
    have Na := hide Ha.out.1
    have bel0a := bel07.trans (Ha.out.2.2.2.mono (by omega))
    clear Ha CD
    obtain ⟨ao9, cap9, hvs9, _, _⟩ := Oa.out.is.s.shape
    obtain ⟨aq9, caq9, hvc9, _, _⟩ := Oa.out.is.c.1.shape
    have HMV9 : Hid (mv n = .agg #[.int .i64 n.k, .int .i64 n.e, .int .u8 n.r, .int .i64 n.n, .slice ao9 n.ss.length cap9, .int .i64 n.f, .int .i64 n.p, .slice aq9 n.cs.length caq9]) := hide (mv_eq hvs9 hvc9)
    rw [HMV9.out]
    obtain ⟨V9, hV9', hV9, szV9', belV9, hM9, _⟩ := new8 wa 30 (.int .i64 0) (.int .i64 0) (.int .u8 0) (.int .i64 0) (.slice none 0 0) (.int .i64 0) (.int .i64 0) (.slice none 0 0) (.int .i64 n.k) (.int .i64 n.e) (.int .u8 n.r) (.int .i64 n.n) (.slice ao9 n.ss.length cap9) (.int .i64 n.f) (.int .i64 n.p) (.slice aq9 n.cs.length caq9)
    have szV9 : wa.heap.size + 1 ≤ V9.heap.size := by omega
    have OV9 := hide (Oa.out.below belV9)
    have HN9 : Hid (∀ W, Below V9.heap.size V9 W → Ei W wa.heap.size (.int .i64 n.k) (.int .i64 n.e) (.int .u8 n.r) (.int .i64 n.n) (.slice ao9 n.ss.length cap9) (.int .i64 n.f) (.int .i64 n.p) (.slice aq9 n.cs.length caq9)) := hide fun W hb => ei_of ((hb.block _ (by omega)).trans hM9)
    obtain ⟨n0, n1, n2, n3, n4, n5, n6, n7⟩ := HN9.out _ (Below.refl _ _)
    clear hM9 hvs9 hvc9 szV9'
    have bel0V := bel0a.trans (belV9.mono (by omega))
    rcases HD.out with ⟨hg, hok, hbs⟩ | ⟨hg, hno, _⟩
    · subst hg
      have HBS := hide hbs
      have CE2 := hide (mencode_any n bs 0 V9 OV9.out.is Fa.out (.inl ⟨rfl, by rw [Na.out]; exact hok, by rw [Na.out]; exact hbs⟩))
      rw [HMV9.out] at CE2
      clear hok hbs
      go_wp2_with fail
      refine CE2.out.mono ?_
      rintro E wb ⟨vc, rfl, ownb, belb⟩
      have szb := belb.size
      have bel0b := bel0V.trans (belb.mono (by omega))
      go_wp2_with fail
      refine (same_yes _ _ bs bs wb ownb.is (HB.out.below bel0b) (by omega) rfl).mono ?_
      rintro E wc ⟨rfl, belc⟩
      have bel0c := bel0b.trans (belc.mono (by omega))
      go_wp2
      go_ret
      exact ⟨rfl, bel0c⟩
    · subst hg
      have CN := hide (msameK_any n mno V9 OV9.out.is (IsM.no _) Fa.out FitM.no)
      rw [HMV9.out] at CN
      rw [show smM n.m mno.m = true by rw [Na.out, hno]; exact smM_self _] at CN
      unfold mv mno at CN
      clear hno
      go_wp2_with fail
      refine CN.out.mono ?_
      rintro E wb ⟨rfl, belb⟩
      have bel0b := bel0V.trans (belb.mono (by omega))
      go_wp2
      go_ret
      exact ⟨rfl, bel0b⟩
  · subst hc
    clear hok hab
    have CD := hide (mdecode_any _ bs w4 (HB.out.below bel04) (by omega) m' g HD.out)
    go_wp2_with fail
    refine CD.out.mono ?_
    rintro E wa ⟨n, rfl, Ha⟩
    have sza := Ha.out.2.2.2.size
    have Oa := hide Ha.out.2.1
    have Fa := hide Ha.out.2.2.1
    have Na := hide Ha.out.1
    have bel0a := bel04.trans (Ha.out.2.2.2.mono (by omega))
    clear Ha CD
    obtain ⟨ao9, cap9, hvs9, _, _⟩ := Oa.out.is.s.shape
    obtain ⟨aq9, caq9, hvc9, _, _⟩ := Oa.out.is.c.1.shape
    have HMV9 : Hid (mv n = .agg #[.int .i64 n.k, .int .i64 n.e, .int .u8 n.r, .int .i64 n.n, .slice ao9 n.ss.length cap9, .int .i64 n.f, .int .i64 n.p, .slice aq9 n.cs.length caq9]) := hide (mv_eq hvs9 hvc9)
    rw [HMV9.out]
    obtain ⟨V9, hV9', hV9, szV9', belV9, hM9, _⟩ := new8 wa 30 (.int .i64 0) (.int .i64 0) (.int .u8 0) (.int .i64 0) (.slice none 0 0) (.int .i64 0) (.int .i64 0) (.slice none 0 0) (.int .i64 n.k) (.int .i64 n.e) (.int .u8 n.r) (.int .i64 n.n) (.slice ao9 n.ss.length cap9) (.int .i64 n.f) (.int .i64 n.p) (.slice aq9 n.cs.length caq9)
    have szV9 : wa.heap.size + 1 ≤ V9.heap.size := by omega
    have OV9 := hide (Oa.out.below belV9)
    have HN9 : Hid (∀ W, Below V9.heap.size V9 W → Ei W wa.heap.size (.int .i64 n.k) (.int .i64 n.e) (.int .u8 n.r) (.int .i64 n.n) (.slice ao9 n.ss.length cap9) (.int .i64 n.f) (.int .i64 n.p) (.slice aq9 n.cs.length caq9)) := hide fun W hb => ei_of ((hb.block _ (by omega)).trans hM9)
    obtain ⟨n0, n1, n2, n3, n4, n5, n6, n7⟩ := HN9.out _ (Below.refl _ _)
    clear hM9 hvs9 hvc9 szV9'
    have bel0V := bel0a.trans (belV9.mono (by omega))
    rcases HD.out with ⟨hg, hok, hbs⟩ | ⟨hg, hno, _⟩
    · subst hg
      have HBS := hide hbs
      have CE2 := hide (mencode_any n bs 0 V9 OV9.out.is Fa.out (.inl ⟨rfl, by rw [Na.out]; exact hok, by rw [Na.out]; exact hbs⟩))
      rw [HMV9.out] at CE2
      clear hok hbs
      go_wp2_with fail
      refine CE2.out.mono ?_
      rintro E wb ⟨vc, rfl, ownb, belb⟩
      have szb := belb.size
      have bel0b := bel0V.trans (belb.mono (by omega))
      go_wp2_with fail
      refine (same_yes _ _ bs bs wb ownb.is (HB.out.below bel0b) (by omega) rfl).mono ?_
      rintro E wc ⟨rfl, belc⟩
      have bel0c := bel0b.trans (belc.mono (by omega))
      go_wp2
      go_ret
      exact ⟨rfl, bel0c⟩
    · subst hg
      have CN := hide (msameK_any n mno V9 OV9.out.is (IsM.no _) Fa.out FitM.no)
      rw [HMV9.out] at CN
      rw [show smM n.m mno.m = true by rw [Na.out, hno]; exact smM_self _] at CN
      unfold mv mno at CN
      clear hno
      go_wp2_with fail
      refine CN.out.mono ?_
      rintro E wb ⟨rfl, belb⟩
      have bel0b := bel0V.trans (belb.mono (by omega))
      go_wp2
      go_ret
      exact ⟨rfl, bel0b⟩

end Go.Proofs.Ytjaiemdefngbbaa
