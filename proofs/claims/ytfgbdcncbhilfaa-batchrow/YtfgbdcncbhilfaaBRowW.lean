/- The walk of BatchRow. -/
import Derived.Test.YtfgbdcncbhilfaaBl
import Derived.Test.YtfgbdcncbhilfaaCutb
import Derived.Test.YtfgbdcncbhilfaaPick
namespace Go.Proofs.Ytfgbdcncbhilfaa
open Go.RowKit
set_option linter.unusedVariables false

set_option maxHeartbeats 1000000 in
theorem batchRow_walk (vl : Value) (l : List Bm.Ov) (vm : Value) (m : List Bm.Ov) (cut : Int) (w : World) (hl : IsO w vl l) (hfl : FitO l) (hll : l.length * 40 ≤ 140737488351232) (hm : IsO w vm m) (hfm : FitO m) (hlm : m.length * 40 ≤ 140737488351232) (hcut : (Lit.int .i64 cut).wf = true) :
    Calls Try.prog 8 #[vl, vm, .int .i64 cut] w fun e w' => e = .returned (.bool true) ∧ Below w.heap.size w w' := by
  have hc1 : -9223372036854775808 ≤ cut ∧ cut < 9223372036854775808 := by
    have : -9223372036854775808 ≤ cut ∧ cut ≤ 9223372036854775807 := by simpa [Lit.wf, IntKind.min, IntKind.max, IntKind.bits, IntKind.signed] using hcut
    omega
  obtain ⟨ao, cp, hvl, _, _⟩ := hl.shape
  obtain ⟨am, cm, hvm, _, _⟩ := hm.shape
  subst hvl hvm
  go_enter Try.func8, Try.ntmps8
  go_wp2_with fail
  refine (lives_any _).mono ?_
  rintro E w1 ⟨rfl, bel1⟩
  have sz1 := bel1.size
  by_cases h20 : 20 < l.length
  · have h20' : (20 : Int) < l.length := by omega
    go_wp2
    go_ret
    exact ⟨rfl, bel1⟩
  have h20' : ¬ (20 : Int) < l.length := by omega
  by_cases g20 : 20 < m.length
  · have g20' : (20 : Int) < m.length := by omega
    go_wp2
    go_ret
    exact ⟨rfl, bel1⟩
  have g20' : ¬ (20 : Int) < m.length := by omega
  have hl1 := hl.below bel1
  have hm1 := hm.below bel1
  have hal : (Bm.appB [] l).length ≤ 420 := by
    by_cases hc : Bm.chkL l = 0
    · rw [Bm.appB_ok hc, List.nil_append]; exact Bm.encB_small hc
    · rw [Bm.appB_no hc]; simp
  go_wp2_with fail
  refine (bapp_any _ [] _ l _ (Is.nil _ _) (by simp) hl1 hfl (by omega)).mono ?_
  rintro E w2 ⟨va, rfl, owa, bel2⟩
  have sz2 := bel2.size
  have hm2 := hm1.below bel2
  go_wp2_with fail
  refine (bapp_any va _ _ m _ owa.is (by omega) hm2 hfm (by omega)).mono ?_
  rintro E w3 ⟨vb, rfl, owb, bel3⟩
  have sz3 := bel3.size
  have bel03 : Below w.heap.size w w3 := (bel1.trans (bel2.mono sz1)).trans (bel3.mono (by omega))
  have hl3 := (hl1.below bel2).below bel3
  have hm3 := hm2.below bel3
  have owa3 := owa.below bel3
  clear bel1 bel2 bel3 hl1 hm1 hm2 owa hl hm
  by_cases hcl : Bm.chkL l = 0
  · by_cases hcm : Bm.chkL m = 0
    · rw [hcl, hcm]
      rw [Bm.appB_ok hcl, List.nil_append] at owa3 owb hal
      rw [Bm.appB_ok hcm] at owb
      have hml := Bm.encB_small hcm
      have hm1 := Bm.encB_pos m
      have hl1 := Bm.encB_pos l
      have HL := hide hcl
      have HM := hide hcm
      clear hcl hcm
      have hlena := owa3.is.len_run Try.elemP
      have hlenb := owb.is.len_run Try.elemP
      rw [List.length_append] at hlenb
      go_wp2_with fail
      refine (bread_any vb _ _ owb.is (by rw [List.length_append]; omega)).mono ?_
      rintro E w4 ⟨vx, x, n, e, rfl, owx, hR, bel4⟩
      obtain ⟨rfl, rfl, rfl⟩ := Bm.bres_good HL.out (List.prefix_append _ _) hR
      clear hR
      have sz4 := bel4.size
      have hl4 := hl3.below bel4
      have hm4 := hm3.below bel4
      have owa4 := owa3.below bel4
      have owb4 := owb.below bel4
      have bel04 := bel03.trans (bel4.mono (by omega))
      clear hl3 hm3 owa3 owb bel03 bel4
      have b1 : (((Bm.encB x).length : Int) != ((Bm.encB x).length : Int)) = false := by simp
      go_wp2_with fail
      refine (bsame_any _ _ x x _ owx.is hl4 (by omega) (by omega)).mono ?_
      rintro E w5 ⟨rfl, bel5⟩
      rw [Bm.sameL_self]
      have sz5 := bel5.size
      have hm5 := hm4.below bel5
      have owa5 := owa4.below bel5
      have owb5 := owb4.below bel5
      have bel05 := bel04.trans (bel5.mono (by omega))
      clear hl4 hm4 owa4 owb4 bel04 bel5 owx
      obtain ⟨vs, hsl, isl⟩ := owb5.is.slice_l Try.elemP Try.sizeP (Bm.encB x).length (by rw [List.length_append]; omega)
      rw [List.drop_left] at isl
      go_wp2_with fail
      refine (bread_any vs _ _ isl (by omega)).mono ?_
      rintro E w6 ⟨vy, y, n, e, rfl, owy, hR, bel6⟩
      obtain ⟨rfl, rfl, rfl⟩ := Bm.bres_good HM.out (List.prefix_refl _) hR
      clear hR
      have sz6 := bel6.size
      have hm6 := hm5.below bel6
      have owa6 := owa5.below bel6
      have bel06 := bel05.trans (bel6.mono (by omega))
      clear hm5 owa5 owb5 bel05 bel6 isl hsl
      go_wp2_with fail
      refine (bsame_any _ _ y y _ owy.is hm6 (by omega) (by omega)).mono ?_
      rintro E w7 ⟨rfl, bel7⟩
      rw [Bm.sameL_self]
      have sz7 := bel7.size
      have owa7 := owa6.below bel7
      have bel07 := bel06.trans (bel7.mono (by omega))
      clear hm6 owa6 owy bel06 bel7
      go_wp2_with fail
      refine (pick_any cut (Bm.encB x).length _ (by omega) (by omega) hc1.1 hc1.2).mono ?_
      rintro E w8 ⟨⟨p, hp, rfl⟩, rfl⟩
      have hp' : p < (Bm.encB x).length := by omega
      obtain ⟨vs, hsl, isl⟩ := owa7.is.slice_h Try.elemP Try.sizeP p (by omega)
      go_wp2_with fail
      refine (bread_any vs _ _ isl (by rw [List.length_take]; omega)).mono ?_
      rintro E w9 ⟨vz, z, n, e, rfl, owz, hR, bel9⟩
      obtain ⟨rfl, rfl, rfl⟩ := Bm.bres_cut HL.out hp' hR
      obtain ⟨az, cz, rfl⟩ := owz.is.bare
      have bel09 := bel07.trans (bel9.mono (by omega))
      clear hR isl hsl owa7 owz bel07 bel9
      go_wp2
      go_ret
      exact ⟨rfl, bel09⟩
    · rw [hcl]
      obtain ⟨c, hcc⟩ : ∃ c, Bm.chkL m = c := ⟨_, rfl⟩
      have hcb : (c != 0) = true := by rw [← hcc]; simpa using hcm
      rw [hcc]
      clear hcm hcc
      go_wp2
      go_ret
      exact ⟨rfl, bel03⟩
  · obtain ⟨c, hcc⟩ : ∃ c, Bm.chkL l = c := ⟨_, rfl⟩
    have hcb : (c != 0) = true := by rw [← hcc]; simpa using hcl
    rw [hcc]
    clear hcl hcc
    go_wp2
    go_ret
    exact ⟨rfl, bel03⟩

end Go.Proofs.Ytfgbdcncbhilfaa
