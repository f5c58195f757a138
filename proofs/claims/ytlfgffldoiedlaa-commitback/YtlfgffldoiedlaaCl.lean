/- The contracts of the example of the laws on commits, and of lives. -/
import Derived.Test.YtlfgffldoiedlaaCb
import Derived.Test.YtlfgffldoiedlaaCd
import Derived.Deep.RegionHeld3
namespace Go.Proofs.Ytlfgffldoiedlaa
open Go.RowKit
set_option linter.unusedVariables false

def exO : Bm.Ov := ⟨true, ⟨#[97]⟩, ⟨#[49]⟩⟩
def exB : List Int := [1, 2, 1, 1, 0, 1, 97, 1, 49]

theorem exO_ok : Bm.chkL [exO] = 0 := by decide
theorem exO_fit : FitO [exO] := (small_of exO_ok).fit
theorem exC_ok {e n : Int} (h : 1 ≤ e ∧ e ≤ 1048576 ∧ 1 ≤ n ∧ n ≤ 1048576) : Cm.chk e n [exO] = 0 := by rw [Cm.chk_in h, exO_ok]

theorem exB_is : Cm.encC 1 2 [exO] = exB := by
  simp [Cm.encC, exO, exB, Bm.encB, Bm.encL, Bm.encO, Bm.pre4, Bm.com, Bm.Ov.kl, Bm.Ov.vl, Bm.Ov.bit, Vm.enc_lo, Om.ints, Om.cnt]

set_option maxHeartbeats 400000 in
theorem of_any (e n : Int) (w : World) :
    Calls Try.prog 11 #[.int .i64 e, .int .i64 n] w fun E w' => ∃ v, E = .returned (cmv e n v) ∧ OwnO 58 w.heap.size w' v [exO] ∧ Below w.heap.size w w' := by
  unfold cmv
  obtain ⟨w1, hw1, sz1, bel1, hR⟩ := blk_step w #[.int .i64 0, .int .i64 0, .slice none 0 0] 24
  obtain ⟨w2, hw2, sz2, bel2, own2⟩ := ops_step 58 w1 #[.bool true, .string ⟨#[97]⟩, .string ⟨#[49]⟩] 1 [exO] rfl rfl (by simp [maxLen])
  have hR2 := (bel2.block w.heap.size (by omega)).trans hR
  have bel02 : Below w.heap.size w w2 := bel1.trans (bel2.mono (by omega))
  rw [sz1] at own2
  obtain ⟨V', hV', bV', gV', ⟨a0, a1, a2⟩, ⟨f0, f1, f2⟩, ⟨z0, z1, z2⟩⟩ := res_step hR2 (.int .i64 e) (.int .i64 n) (.slice (some ⟨w.heap.size + 1, 0, none⟩) 1 1)
  have belV' := below_put bel02 gV' (Nat.le_refl _) (by omega)
  have ownV' := (own2.keptg gV' (by omega)).rebase (base' := w.heap.size) (by omega)
  clear hR hR2 bel1 bel2 own2 bV' gV' bel02
  go_enter Try.func11, Try.ntmps11
  go_wp2
  refine bodyPost_ret (v := .agg #[.int .i64 e, .int .i64 n, .slice (some ⟨w.heap.size + 1, 0, none⟩) 1 1]) (by simp [results, Try.results11, go_sem, z0, z1, z2]) rfl ?_
  exact ⟨_, rfl, ownV', belV'⟩

set_option maxRecDepth 100000 in
set_option maxHeartbeats 4000000 in
theorem lives_any (w : World) : Calls Try.prog 13 #[] w fun E w' => E = .returned (.bool true) ∧ Below w.heap.size w w' := by
  go_enter Try.func13, Try.ntmps13
  go_wp2_with fail
  refine (of_any 1 2 _).mono ?_
  rintro E w1 ⟨v1, rfl, own1, bel1⟩
  have sz1 := bel1.size
  go_wp2_with fail
  refine (cenc_any 1 2 _ _ _ own1.is exO_fit (by simp)).mono ?_
  rintro E w2 ⟨vb, rfl, own2, bel2⟩
  rw [exC_ok (by omega)]
  rw [Cm.out_ok (exC_ok (by omega)), exB_is] at own2
  have sz2 := bel2.size
  have bel02 := bel1.trans (bel2.mono (by omega))
  obtain ⟨w3, hw3, sz3, bel3, own3⟩ := own_step .u8 5 w2 #[.int .u8 1, .int .u8 2, .int .u8 1, .int .u8 1, .int .u8 0, .int .u8 1, .int .u8 97, .int .u8 1, .int .u8 49] 9 exB rfl rfl (by simp [maxLen]) (by decide)
  have own2' := own2.below bel3
  have bel03 := bel02.trans (bel3.mono (by omega))
  clear own1 own2 bel1 bel2 bel02 bel3
  go_wp2_with fail
  refine (cdec_any _ exB _ own3.is (by simp [exB])).mono ?_
  rintro E w4 ⟨e, n, g, v, l, rfl, own4, hR, bel4⟩
  obtain ⟨rfl, rfl, rfl, rfl⟩ := Cm.cres_good (e := 1) (n := 2) (l := [exO]) (exC_ok (by omega)) exB_is hR
  clear hR
  unfold cmv
  have sz4 := bel4.size
  obtain ⟨ah, ch, hv, _, _⟩ := own4.is.shape
  subst hv
  obtain ⟨V, hV, hV2, szV, belV, bC, c0, c1, c2⟩ := new_step w4 24 (.int .i64 0) (.int .i64 0) (.slice none 0 0) (.int .i64 1) (.int .i64 2) (.slice ah [exO].length ch)
  have own2b := (own2'.below bel4).below belV
  have own4b := own4.below belV
  have bel0V := (bel03.trans (bel4.mono (by omega))).trans (belV.mono (by omega))
  have hR6 : w4.heap.size < V.heap.size := by omega
  simp only [List.length_singleton] at hV hV2 c2 own4b
  clear own2' own3 own4 bel03 bel4 belV bC
  obtain ⟨ab, nb, cb, hvb⟩ := own2b.is.form
  subst hvb
  obtain ⟨w5, hw5, sz5, bel5, own5⟩ := own_step .u8 5 V #[.int .u8 1, .int .u8 2, .int .u8 1, .int .u8 1, .int .u8 0, .int .u8 1, .int .u8 97, .int .u8 1, .int .u8 49] 9 exB rfl rfl (by simp [maxLen]) (by decide)
  rw [szV] at own5
  have is5 := own5.is
  have is2 := (own2b.below bel5).is
  have bel6 : Below V.heap.size V w5.drew := bel5.drew
  clear own5 own2b bel5
  have X : Hid (Calls Try.prog 19 #[.slice ab nb cb, .slice (some ⟨w4.heap.size + 1, 0, none⟩) 9 9] w5.drew fun e w' => e = .returned (.bool true) ∧ Below w5.drew.heap.size w5.drew w') := hide (same_yes _ _ exB exB _ (is2.drewN 1) (is5.drewN 1) (by simp [exB]) rfl)
  have e0 := (bel6.cell (p := ⟨w4.heap.size, 0, none⟩) hR6).trans c0
  have e1 := (bel6.cell (p := ⟨w4.heap.size, 1, none⟩) hR6).trans c1
  have e2 := (bel6.cell (p := ⟨w4.heap.size, 2, none⟩) hR6).trans c2
  clear is2 is5
  go_wp2_with fail
  go_region_held3 (fun w' => w'.cell? ⟨w4.heap.size, 0, none⟩ = some (.int .i64 1) ∧ w'.cell? ⟨w4.heap.size, 1, none⟩ = some (.int .i64 2) ∧ w'.cell? ⟨w4.heap.size, 2, none⟩ = some (.slice ah 1 ch)) (first | exact ⟨c0, c1, c2⟩ | exact ⟨a0, a1, a2⟩ | exact ⟨b0, b1, b2⟩ | exact ⟨d0, d1, d2⟩ | exact ⟨e0, e1, e2⟩ | go_keep)
    (first
    | (go_at_call 19; refine (X.out).mono ?_; rintro E wa ⟨rfl, bela'⟩; have bela : Below V.heap.size V wa := bel6.trans (bela'.mono bel6.size); have a0 := (bela.cell (p := ⟨w4.heap.size, 0, none⟩) hR6).trans c0; have a1 := (bela.cell (p := ⟨w4.heap.size, 1, none⟩) hR6).trans c1; have a2 := (bela.cell (p := ⟨w4.heap.size, 2, none⟩) hR6).trans c2; clear bela')
    | (go_at_call 11; refine (of_any 1 2 _).mono ?_; rintro E wb ⟨vq, rfl, ownq, belb'⟩; have belb : Below V.heap.size V wb := bela.trans (belb'.mono bela.size); have b0 := (belb.cell (p := ⟨w4.heap.size, 0, none⟩) hR6).trans c0; have b1 := (belb.cell (p := ⟨w4.heap.size, 1, none⟩) hR6).trans c1; have b2 := (belb.cell (p := ⟨w4.heap.size, 2, none⟩) hR6).trans c2; clear belb')
    | (go_at_call 22; refine (csameK_any 1 2 _ [exO] 1 2 _ [exO] _ (own4b.below belb).is ownq.is (by simp) (by simp)).mono ?_; rintro E wc ⟨rfl, belc'⟩; rw [sameC_self]; have belc : Below V.heap.size V wc := belb.trans (belc'.mono belb.size); have d0 := (belc.cell (p := ⟨w4.heap.size, 0, none⟩) hR6).trans c0; have d1 := (belc.cell (p := ⟨w4.heap.size, 1, none⟩) hR6).trans c1; have d2 := (belc.cell (p := ⟨w4.heap.size, 2, none⟩) hR6).trans c2; clear belc'))
  go_wp2
  go_ret
  exact ⟨rfl, bel0V.trans (belc.mono (by omega))⟩

end Go.Proofs.Ytlfgffldoiedlaa
