/- The walk of BatchCalls. -/
import Derived.Test.YtfgbdcncbhilfaaBl
import Derived.Test.YtfgbdcncbhilfaaBo
import Derived.Test.YtfgbdcncbhilfaaBr
import Derived.Test.YtfgbdcncbhilfaaCutb
import Derived.Test.YtfgbdcncbhilfaaApart
namespace Go.Proofs.Ytfgbdcncbhilfaa
open Go.RowKit
set_option linter.unusedVariables false

theorem appB_le (bs : List Int) (l : List Bm.Ov) : (Bm.appB bs l).length ≤ bs.length + 420 := by
  by_cases hc : Bm.chkL l = 0
  · rw [Bm.appB_ok hc, List.length_append]
    have := Bm.encB_small hc
    omega
  · rw [Bm.appB_no hc]
    simp

theorem fit_behind {l : List Bm.Ov} (h : FitO l) : FitO (l ++ [behind, behind, behind]) := by
  intro o ho
  rcases List.mem_append.1 ho with ho | ho
  · exact h o ho
  · simp at ho
    subst ho
    decide

set_option maxRecDepth 100000 in
set_option maxHeartbeats 4000000 in
theorem batchCalls_walk (vb : Value) (bs : List Int) (vl : Value) (l : List Bm.Ov) (w : World) (hb : Is .u8 w vb bs) (hbl : bs.length * 1 ≤ 140737488351232) (hl : IsO w vl l) (hfl : FitO l) (hll : l.length * 40 ≤ 140737488351232) :
    Calls Try.prog 4 #[vb, vl] w fun e w' => e = .returned (.bool true) ∧ Below w.heap.size w w' := by
  rw [Nat.mul_one] at hbl
  have hlenb := hb.len_run Try.elemP
  have hlenl := hl.len_run Try.elemO
  go_enter Try.func4, Try.ntmps4
  by_cases h20 : 20 < l.length
  · have h20' : (20 : Int) < l.length := by omega
    go_wp2_with fail
    refine (lives_any _).mono ?_
    rintro E w1 ⟨rfl, bel1⟩
    go_wp2
    go_ret
    exact ⟨rfl, bel1⟩
  have h20' : ¬ (20 : Int) < l.length := by omega
  have hal := appB_le bs l
  go_wp2_with fail
  refine (lent_any _ bs _ hb hbl).mono ?_
  rintro E w1 ⟨v1, rfl, own1, bel1⟩
  have sz1 := bel1.size
  have hl1 := hl.below bel1
  go_wp2_with fail
  refine (lentO_any _ l _ hl1 (by omega)).mono ?_
  rintro E w2 ⟨vo, rfl, own2, bel2⟩
  have sz2 := bel2.size
  have own1b := own1.below bel2
  obtain ⟨vs, hsl, isl⟩ := own1b.is.slice_h Try.elemP Try.sizeP bs.length (by simp)
  obtain ⟨vt, htl, itl⟩ := own2.is.slice_h Try.elemO Try.sizeO l.length (by simp)
  rw [List.take_left] at isl itl
  have bel02 := bel1.trans (bel2.mono sz1)
  clear hl1
  go_wp2_with fail
  go_region_with (go_at_call 16; refine (bapp_any _ bs _ l _ (isl.drewN 1) (by omega) (itl.drewN 1) hfl (by omega)).mono ?_; rintro E w3 ⟨va, rfl, owna, bel3'⟩; have bel3 : Below w2.heap.size w2 w3 := ((Below.refl _ _).drew).trans bel3')
  have sz3 := bel3.size
  have isl3 := isl.below bel3
  have itl3 := itl.below bel3
  have HA := hide owna.block
  clear bel3' isl itl
  go_wp2_with fail
  go_region_with (go_at_call 16; refine (bapp_any _ bs _ l _ (isl3.drewN 1) (by omega) (itl3.drewN 1) hfl (by omega)).mono ?_; rintro E w4 ⟨vd, rfl, ownd, bel4'⟩; have bel4 : Below w3.heap.size w3 w4 := ((Below.refl _ _).drew).trans bel4')
  have sz4 := bel4.size
  have bel24 : Below w2.heap.size w2 w4 := bel3.trans (bel4.mono sz3)
  have bel04 : Below w.heap.size w w4 := bel02.trans (bel24.mono (by omega))
  have hb4 := hb.below bel04
  have hl4 := hl.below bel04
  have owna4 := owna.below bel4
  have itl4 := itl3.below bel4
  clear bel4' isl3 itl3 owna
  go_wp2_with fail
  refine (bappR_any _ bs _ l _ hb4 hbl hl4 hfl (by omega)).mono ?_
  rintro E w5 ⟨vc, rfl, ownc, bel5⟩
  have sz5 := bel5.size
  have bel05 := bel04.trans (bel5.mono (by omega))
  go_wp2_with fail
  refine (lives_any _).mono ?_
  rintro E w6 ⟨rfl, bel6⟩
  have sz6 := bel6.size
  have bel46 : Below w4.heap.size w4 w6 := bel5.trans (bel6.mono sz5)
  have bel06 := bel05.trans (bel6.mono (by omega))
  have itl6 := itl4.below bel46
  have hl6 := hl.below bel06
  go_wp2_with fail
  refine (bcheck_any _ l _ itl6 hfl (by omega)).mono ?_
  rintro E w7 ⟨rfl, bel7⟩
  have sz7 := bel7.size
  have hl7 := hl6.below bel7
  go_wp2_with fail
  refine (bcheckR_any _ l _ hl7 hfl (by omega)).mono ?_
  rintro E w8 ⟨rfl, bel8⟩
  have sz8 := bel8.size
  have bel68 : Below w6.heap.size w6 w8 := bel7.trans (bel8.mono sz7)
  have bel48 : Below w4.heap.size w4 w8 := bel46.trans (bel68.mono (by omega))
  have bel58 : Below w5.heap.size w5 w8 := bel6.trans (bel68.mono sz6)
  have bel08 := bel06.trans (bel68.mono (by omega))
  have owna8 := owna4.below bel48
  have ownd8 := ownd.below bel48
  have ownc8 := ownc.below bel58
  have own18 := (own1b.below bel24).below bel48
  have own28 := (own2.below bel24).below bel48
  have hb8 := hb.below bel08
  have hl8 := hl.below bel08
  have H1 := hide own1.block
  clear bel1 bel2 bel3 bel4 bel5 bel6 bel7 bel8 bel24 bel46 bel58 bel68 bel04 bel05 bel06 bel48 bel02 hb4 hl4 hl6 hl7 itl4 itl6 owna4 ownd ownc own1b own2 own1 hsl htl
  generalize Bm.chkL l = ch at *
  generalize hap : Bm.appB bs l = ap at *
  go_wp2_with fail
  refine (same_yes _ _ ap ap _ owna8.is ownc8.is (by omega) rfl).mono ?_
  rintro E w9 ⟨rfl, bel9⟩
  have sz9 := bel9.size
  have own19 := own18.below bel9
  have hb9 := hb8.below bel9
  go_wp2_with fail
  refine (kept_yes _ _ bs _ _ own19.is hb9 hbl rfl).mono ?_
  rintro E w10 ⟨rfl, bel10⟩
  have sz10 := bel10.size
  have bel810 := bel9.trans (bel10.mono sz9)
  have own210 := own28.below bel810
  have hl10 := hl8.below bel810
  go_wp2_with fail
  refine (keptO_yes _ _ l _ _ own210.is hl10 (by omega) rfl).mono ?_
  rintro E w11 ⟨rfl, bel11⟩
  have sz11 := bel11.size
  have bel811 := bel810.trans (bel11.mono (by omega))
  have owna11 := owna8.below bel811
  have ownd11 := ownd8.below bel811
  have own111 := own18.below bel811
  have bel011 := bel08.trans (bel811.mono (by omega))
  obtain ⟨aa, na, ca, hva⟩ := owna11.is.form
  obtain ⟨ad, nd, cd, hvd⟩ := ownd11.is.form
  obtain ⟨af, nf, cf, hvf⟩ := own111.is.form
  clear bel9 bel10 bel810 bel11 bel811 owna8 ownd8 ownc8 own18 own28 own19 hb8 hb9 hl8 hl10 own210 bel08
  have L := lists_three (s1 := w2.heap.size) (s2 := w3.heap.size) owna11 ownd11 own111 (fun x hx => by have := H1.out x hx; omega) (fun x hx => (HA.out x hx).2) (by omega) sz3 (by omega) (by omega) (by simp; omega)
  subst hva hvd hvf
  have LL := hide L
  clear L
  go_wp2_with fail
  refine (apart_yes 3 _ 3 w.heap.size _ _ _ (by omega) (by omega) (by simp; omega) LL.out (by omega)).mono ?_
  rintro E w12 ⟨rfl, bel12⟩
  have bel012 : Below w.heap.size w w12 := (bel011.alloc (by omega) _).trans bel12
  clear LL bel12
  go_wp2
  go_ret
  exact ⟨rfl, bel012⟩

end Go.Proofs.Ytfgbdcncbhilfaa
