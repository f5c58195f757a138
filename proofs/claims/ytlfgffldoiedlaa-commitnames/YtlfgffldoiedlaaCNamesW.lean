/- The walk of CommitNames. -/
import Derived.Test.YtlfgffldoiedlaaCl
import Derived.Test.YtlfgffldoiedlaaCFollowsW
import Derived.Test.YtlfgffldoiedlaaCs
namespace Go.Proofs.Ytlfgffldoiedlaa
open Go.RowKit
set_option linter.unusedVariables false

def exB0 : List Int := [1, 2, 1, 1, 0, 1, 97, 1, 49, 0]

theorem exB0_none : ∀ e n l, Cm.chk e n l = 0 → Cm.encC e n l ≠ exB0 := by
  have h1 : Vm.enc 1 <+: exB0 := by rw [Vm.enc_lo (by omega)]; exact ⟨[2, 1, 1, 0, 1, 97, 1, 49, 0], rfl⟩
  have s1 : Vm.sz 1 = 1 := Vm.sz_lo (by omega)
  have s2 : Vm.sz 2 = 1 := Vm.sz_lo (by omega)
  have h2 : Vm.enc 2 <+: exB0.drop (Vm.sz 1) := by rw [Vm.enc_lo (by omega), s1]; exact ⟨[1, 1, 0, 1, 97, 1, 49, 0], rfl⟩
  have hb : Bm.encB [exO] = [1, 1, 0, 1, 97, 1, 49] := by simp [exO, Bm.encB, Bm.encL, Bm.encO, Bm.pre4, Bm.com, Bm.Ov.kl, Bm.Ov.vl, Bm.Ov.bit, Vm.enc_lo, Om.ints, Om.cnt]
  refine Cm.no_left h1 h2 exO_ok (by rw [hb, s1, s2]; exact ⟨[0], rfl⟩) (.inl ?_)
  rw [hb, s1, s2]
  simp [exB0]

theorem nil_none : ∀ e n l, Cm.chk e n l = 0 → Cm.encC e n l ≠ [] := by
  intro e n l _ h
  have h2 := congrArg List.length h
  simp only [Cm.encC, List.length_append, List.length_nil] at h2
  have := Vm.sz_pos e.toNat
  unfold Vm.sz at this
  omega

def exCv (e n : Int) : Cm.Cv := ⟨e, n, [exO]⟩

theorem nil_bad : Cm.chk 1 1 [] = 2 := by decide
theorem fol_one : Cm.fol 0 0 0 [exCv 1 1, exCv 1 2, exCv 3 3] = (0, 0) := by decide
theorem fol_twoA : Cm.fol 2 4 0 [exCv 1 5] = (15, 0) := by decide
theorem fol_twoB : Cm.fol 2 4 0 [exCv 2 6] = (15, 0) := by decide
theorem fol_twoC : Cm.fol 0 0 0 [exCv 1 1, exCv 0 2] = (2, 1) := by decide

theorem ex_fit (e n : Int) (v : Value) : FitO (Cw.mk e n v [exO]).l ∧ (Cw.mk e n v [exO]).l.length * 40 ≤ 140737488351232 := ⟨exO_fit, by simp⟩

theorem fol_call (ep nu : Int) (vl : Value) (r : List Cw) (a b : Int) (w : World) (h : RowC w vl r) (hi : InC w r) (hf : FitC r) (hl : r.length ≤ 140737488355328) (hfo : Cm.fol ep nu 0 (cvs r) = (a, b)) :
    Calls Try.prog 12 #[.int .i64 ep, .int .i64 nu, vl] w fun E w' => E = .returned (.agg #[.int .i64 a, .int .i64 b]) ∧ Below w.heap.size w w' := by
  have := cfol_any ep nu vl r w ⟨h, hi⟩ hf hl
  rw [hfo] at this
  exact this

/-- A commit of the examples, in memory. -/
def exW (e n : Int) (v : Value) : Cw := ⟨e, n, v, [exO]⟩

theorem exW_in {w : World} {e n : Int} {v : Value} {base : Nat} (h : OwnO 58 base w v [exO]) (he : In64 e) (hn : In64 n) : IsO w (exW e n v).v (exW e n v).l ∧ In64 (exW e n v).e ∧ In64 (exW e n v).n := ⟨h.is, he, hn⟩

theorem exW_fit (e n : Int) (v : Value) : FitO (exW e n v).l ∧ (exW e n v).l.length * 40 ≤ 140737488351232 := ⟨exO_fit, by simp [exW]⟩

theorem all_one {p : Cw → Prop} {a : Cw} (h : p a) : ∀ c ∈ [a], p c := fun c hc => by rw [List.mem_singleton.1 hc]; exact h
theorem all_two {p : Cw → Prop} {a b : Cw} (h : p a) (h2 : p b) : ∀ c ∈ [a, b], p c := fun c hc => by
  rcases List.mem_cons.1 hc with rfl | hc
  · exact h
  · exact all_one h2 c hc
theorem all_three {p : Cw → Prop} {a b d : Cw} (h : p a) (h2 : p b) (h3 : p d) : ∀ c ∈ [a, b, d], p c := fun c hc => by
  rcases List.mem_cons.1 hc with rfl | hc
  · exact h
  · exact all_two h2 h3 c hc

set_option maxRecDepth 100000 in
set_option maxHeartbeats 8000000 in
theorem commitNames_walk (w : World) : Calls Try.prog 3 #[] w fun E w' => E = .returned (.bool true) ∧ Below w.heap.size w w' := by
  have hgd := Try.guardF
  have hq0 := Try.eqlF 0 0 0 0
  have hq15 := Try.eqlF 15 0 15 0
  have hq2 := Try.eqlF 2 1 2 1
  rw [show (((0 : Int) == 0) && ((0 : Int) == 0)) = true by decide] at hq0
  rw [show (((15 : Int) == 15) && ((0 : Int) == 0)) = true by decide] at hq15
  rw [show (((2 : Int) == 2) && ((1 : Int) == 1)) = true by decide] at hq2
  obtain ⟨w1, hw1, sz1, bel1, own1⟩ := own_step .u8 5 w #[.int .u8 1, .int .u8 2, .int .u8 1, .int .u8 1, .int .u8 0, .int .u8 1, .int .u8 97, .int .u8 1, .int .u8 49, .int .u8 0] 10 exB0 rfl rfl (by simp [maxLen]) (by decide)
  go_enter Try.func3, Try.ntmps3
  go_wp2_with fail
  refine (cdec_any _ exB0 _ own1.is (by simp [exB0])).mono ?_
  rintro E w2 ⟨e, n, g, v, l, rfl, own2, hR, bel2⟩
  obtain ⟨rfl, rfl, rfl, rfl⟩ := Cm.cres_no exB0_none hR
  clear hR
  unfold cmv
  obtain ⟨a2, c2, hv2⟩ := own2.is.bare
  subst hv2
  have sz2 := bel2.size
  obtain ⟨V, hV, hV2, szV, belV, _, _, _, _⟩ := new_step w2 24 (.int .i64 0) (.int .i64 0) (.slice none 0 0) (.int .i64 0) (.int .i64 0) (.slice a2 0 c2)
  have bel0V := (bel1.trans (bel2.mono (by omega))).trans (belV.mono (by omega))
  clear own1 own2 bel1 bel2 belV
  go_wp2_with fail
  refine (cdec_any _ [] _ (Is.nil _ _) (by simp)).mono ?_
  rintro E w3 ⟨e, n, g, v, l, rfl, own3, hR, bel3⟩
  obtain ⟨rfl, rfl, rfl, rfl⟩ := Cm.cres_no nil_none hR
  clear hR
  unfold cmv
  obtain ⟨a3, c3, hv3⟩ := own3.is.bare
  subst hv3
  have sz3 := bel3.size
  obtain ⟨X, hX, hX2, szX, belX, _, _, _, _⟩ := new_step w3 24 (.int .i64 0) (.int .i64 0) (.slice none 0 0) (.int .i64 0) (.int .i64 0) (.slice a3 0 c3)
  have bel0X := (bel0V.trans (bel3.mono (by omega))).trans (belX.mono (by omega))
  obtain ⟨Y, hY, szY, belY, bF, ⟨y0, y1⟩, ⟨f0, f1⟩, ⟨s0, s1⟩⟩ := none_step X 30
  have bel0Y := bel0X.trans (belY.mono (by omega))
  rw [szX] at bF y0 y1 f0 f1 s0 s1
  clear own3 bel3 belX belY bel0V bel0X hV hV2
  go_wp2_with fail
  refine (of_any 0 1 _).mono ?_
  rintro E w4 ⟨v4, rfl, own4, bel4⟩
  have sz4 := bel4.size
  go_wp2_with fail
  refine (ccheck_any 0 1 _ _ _ own4.is exO_fit (by simp)).mono ?_
  rintro E w5 ⟨rfl, bel5⟩
  rw [Cm.chk_out (by omega)]
  have sz5 := bel5.size
  have belY5 : Below Y.heap.size Y w5 := bel4.trans (bel5.mono sz4)
  clear own4 bel4 bel5
  go_wp2_with fail
  refine (of_any 1 1048577 _).mono ?_
  rintro E w6 ⟨v6, rfl, own6, bel6⟩
  have sz6 := bel6.size
  go_wp2_with fail
  refine (ccheck_any 1 1048577 _ _ _ own6.is exO_fit (by simp)).mono ?_
  rintro E w7 ⟨rfl, bel7⟩
  rw [Cm.chk_out (by omega)]
  have sz7 := bel7.size
  have belY7 : Below Y.heap.size Y w7 := (belY5.trans (bel6.mono (by omega))).trans (bel7.mono (by omega))
  clear own6 bel6 bel7 belY5
  go_wp2_with fail
  refine (ccheck_any 1 1 _ [] _ (IsO.nil _) (fun o ho => by simp at ho) (by simp)).mono ?_
  rintro E w8 ⟨rfl, bel8⟩
  rw [nil_bad]
  have sz8 := bel8.size
  have belY8 : Below Y.heap.size Y w8 := belY7.trans (bel8.mono (by omega))
  clear bel8 belY7
  go_wp2_with fail
  refine (of_any 1048576 1048576 _).mono ?_
  rintro E w9 ⟨v9, rfl, own9, bel9⟩
  have sz9 := bel9.size
  go_wp2_with fail
  refine (ccheck_any 1048576 1048576 _ _ _ own9.is exO_fit (by simp)).mono ?_
  rintro E wA ⟨rfl, belA⟩
  rw [exC_ok (by omega)]
  have szA := belA.size
  have belYA : Below Y.heap.size Y wA := (belY8.trans (bel9.mono (by omega))).trans (belA.mono (by omega))
  clear own9 bel9 belA belY8
  have hF : w3.heap.size + 1 < wA.heap.size := by omega
  have c0 := (belYA.cell (p := ⟨w3.heap.size + 1, 0, none⟩) (show w3.heap.size + 1 < Y.heap.size by omega)).trans y0
  have c1 := (belYA.cell (p := ⟨w3.heap.size + 1, 1, none⟩) (show w3.heap.size + 1 < Y.heap.size by omega)).trans y1
  have bel0A := bel0Y.trans (belYA.mono (by omega))
  clear y0 y1 f0 f1 s0 s1 belYA bel0Y hX hX2 hY hw1
  go_wp2_with fail
  go_region_held3 (fun w' => w'.cell? ⟨w3.heap.size + 1, 0, none⟩ = some (.int .i64 0) ∧ w'.cell? ⟨w3.heap.size + 1, 1, none⟩ = some (.int .i64 0)) (first | exact ⟨c0, c1⟩ | exact ⟨c450, c451⟩ | exact ⟨c460, c461⟩ | exact ⟨c470, c471⟩ | exact ⟨c490, c491⟩ | exact ⟨c530, c531⟩ | exact ⟨c550, c551⟩ | exact ⟨c600, c601⟩ | exact ⟨c620, c621⟩ | exact ⟨c670, c671⟩ | exact ⟨d470, d471⟩ | exact ⟨d530, d531⟩ | exact ⟨d600, d601⟩ | go_keep)
    (first
    | (go_at_call 12; have hp67 := bel62; refine (fol_call 2 4 _ [] 0 0 _ (RowC.nil _) (fun c hc => by simp at hc) (fun c hc => by simp at hc) (by simp) rfl).mono ?_; rintro E w67 ⟨rfl, bel67'⟩; have bel67 : Below wA.heap.size wA w67 := bel62.trans (bel67'.mono bel62.size); have c670 := (bel67.cell (p := ⟨w3.heap.size + 1, 0, none⟩) hF).trans c0; have c671 := (bel67.cell (p := ⟨w3.heap.size + 1, 1, none⟩) hF).trans c1; clear hp67)
    | (go_at_call 12; have hp62 := belU60; refine (fol_call 2 4 _ [exW 2 6 (.slice a60 1 k60)] 15 0 _ ownu60.row (all_one (exW_in (own60.below belu60) ⟨by omega, by omega⟩ ⟨by omega, by omega⟩)) (all_one (exW_fit 2 6 _)) (by simp) fol_twoB).mono ?_; rintro E w62 ⟨rfl, bel62'⟩; have bel62 : Below wA.heap.size wA w62 := belU60.trans (bel62'.mono belU60.size); have c620 := (bel62.cell (p := ⟨w3.heap.size + 1, 0, none⟩) hF).trans c0; have c621 := (bel62.cell (p := ⟨w3.heap.size + 1, 1, none⟩) hF).trans c1; clear hp62)
    | (go_at_call 12; have hp55 := belU53; refine (fol_call 2 4 _ [exW 1 5 (.slice a53 1 k53)] 15 0 _ ownu53.row (all_one (exW_in (own53.below belu53) ⟨by omega, by omega⟩ ⟨by omega, by omega⟩)) (all_one (exW_fit 1 5 _)) (by simp) fol_twoA).mono ?_; rintro E w55 ⟨rfl, bel55'⟩; have bel55 : Below wA.heap.size wA w55 := belU53.trans (bel55'.mono belU53.size); have c550 := (bel55.cell (p := ⟨w3.heap.size + 1, 0, none⟩) hF).trans c0; have c551 := (bel55.cell (p := ⟨w3.heap.size + 1, 1, none⟩) hF).trans c1; clear hp55)
    | (go_at_call 12; have hp49 := belU47; refine (fol_call 0 0 _ [exW 1 1 (.slice a45 1 k45), exW 1 2 (.slice a46 1 k46), exW 3 3 (.slice a47 1 k47)] 0 0 _ ownu47.row (all_three (exW_in (((own45.below bel46').below bel47').below belu47) ⟨by omega, by omega⟩ ⟨by omega, by omega⟩) (exW_in ((own46.below bel47').below belu47) ⟨by omega, by omega⟩ ⟨by omega, by omega⟩) (exW_in (own47.below belu47) ⟨by omega, by omega⟩ ⟨by omega, by omega⟩)) (all_three (exW_fit 1 1 _) (exW_fit 1 2 _) (exW_fit 3 3 _)) (by simp) fol_one).mono ?_; rintro E w49 ⟨rfl, bel49'⟩; have bel49 : Below wA.heap.size wA w49 := belU47.trans (bel49'.mono belU47.size); have c490 := (bel49.cell (p := ⟨w3.heap.size + 1, 0, none⟩) hF).trans c0; have c491 := (bel49.cell (p := ⟨w3.heap.size + 1, 1, none⟩) hF).trans c1; clear hp49)
    | (go_at_call 11; have hp60 := bel55; refine (of_any 2 6 _).mono ?_; rintro E w60 ⟨v60, rfl, own60, bel60'⟩; unfold cmv; have bel60 : Below wA.heap.size wA w60 := bel55.trans (bel60'.mono bel55.size); obtain ⟨a60, k60, hv60, _, _⟩ := own60.is.shape; subst hv60; have c600 := (bel60.cell (p := ⟨w3.heap.size + 1, 0, none⟩) hF).trans c0; have c601 := (bel60.cell (p := ⟨w3.heap.size + 1, 1, none⟩) hF).trans c1; obtain ⟨u60, hu60, szu60, belu60, ownu60⟩ := coms_step 24 w60 #[.int .i64 2, .int .i64 6, .slice a60 1 k60] 1 [exW 2 6 (.slice a60 1 k60)] rfl rfl (by simp [maxLen]); have belU60 : Below wA.heap.size wA u60 := bel60.trans (belu60.mono bel60.size); have d600 := (belU60.cell (p := ⟨w3.heap.size + 1, 0, none⟩) hF).trans c0; have d601 := (belU60.cell (p := ⟨w3.heap.size + 1, 1, none⟩) hF).trans c1; clear hp60)
    | (go_at_call 11; have hp53 := bel49; refine (of_any 1 5 _).mono ?_; rintro E w53 ⟨v53, rfl, own53, bel53'⟩; unfold cmv; have bel53 : Below wA.heap.size wA w53 := bel49.trans (bel53'.mono bel49.size); obtain ⟨a53, k53, hv53, _, _⟩ := own53.is.shape; subst hv53; have c530 := (bel53.cell (p := ⟨w3.heap.size + 1, 0, none⟩) hF).trans c0; have c531 := (bel53.cell (p := ⟨w3.heap.size + 1, 1, none⟩) hF).trans c1; obtain ⟨u53, hu53, szu53, belu53, ownu53⟩ := coms_step 24 w53 #[.int .i64 1, .int .i64 5, .slice a53 1 k53] 1 [exW 1 5 (.slice a53 1 k53)] rfl rfl (by simp [maxLen]); have belU53 : Below wA.heap.size wA u53 := bel53.trans (belu53.mono bel53.size); have d530 := (belU53.cell (p := ⟨w3.heap.size + 1, 0, none⟩) hF).trans c0; have d531 := (belU53.cell (p := ⟨w3.heap.size + 1, 1, none⟩) hF).trans c1; clear hp53)
    | (go_at_call 11; have hp47 := bel46; refine (of_any 3 3 _).mono ?_; rintro E w47 ⟨v47, rfl, own47, bel47'⟩; unfold cmv; have bel47 : Below wA.heap.size wA w47 := bel46.trans (bel47'.mono bel46.size); obtain ⟨a47, k47, hv47, _, _⟩ := own47.is.shape; subst hv47; have c470 := (bel47.cell (p := ⟨w3.heap.size + 1, 0, none⟩) hF).trans c0; have c471 := (bel47.cell (p := ⟨w3.heap.size + 1, 1, none⟩) hF).trans c1; obtain ⟨u47, hu47, szu47, belu47, ownu47⟩ := coms_step 24 w47 #[.int .i64 1, .int .i64 1, .slice a45 1 k45, .int .i64 1, .int .i64 2, .slice a46 1 k46, .int .i64 3, .int .i64 3, .slice a47 1 k47] 3 [exW 1 1 (.slice a45 1 k45), exW 1 2 (.slice a46 1 k46), exW 3 3 (.slice a47 1 k47)] rfl rfl (by simp [maxLen]); have belU47 : Below wA.heap.size wA u47 := bel47.trans (belu47.mono bel47.size); have d470 := (belU47.cell (p := ⟨w3.heap.size + 1, 0, none⟩) hF).trans c0; have d471 := (belU47.cell (p := ⟨w3.heap.size + 1, 1, none⟩) hF).trans c1; clear hp47)
    | (go_at_call 11; have hp46 := bel45; refine (of_any 1 2 _).mono ?_; rintro E w46 ⟨v46, rfl, own46, bel46'⟩; unfold cmv; have bel46 : Below wA.heap.size wA w46 := bel45.trans (bel46'.mono bel45.size); obtain ⟨a46, k46, hv46, _, _⟩ := own46.is.shape; subst hv46; have c460 := (bel46.cell (p := ⟨w3.heap.size + 1, 0, none⟩) hF).trans c0; have c461 := (bel46.cell (p := ⟨w3.heap.size + 1, 1, none⟩) hF).trans c1; clear hp46)
    | (go_at_call 11; refine (of_any 1 1 _).mono ?_; rintro E w45 ⟨v45, rfl, own45, bel45'⟩; unfold cmv; have bel45 : Below wA.heap.size wA w45 := ((Below.refl _ _).drew).trans bel45'; obtain ⟨a45, k45, hv45, _, _⟩ := own45.is.shape; subst hv45; have c450 := (bel45.cell (p := ⟨w3.heap.size + 1, 0, none⟩) hF).trans c0; have c451 := (bel45.cell (p := ⟨w3.heap.size + 1, 1, none⟩) hF).trans c1))
  have bel067 := bel0A.trans (bel67.mono (by omega))
  clear own45 own46 own47 own53 own60 ownu47 ownu53 ownu60
  go_wp2_with fail
  refine (lives_any _).mono ?_
  rintro E wB ⟨rfl, belB⟩
  have szB := belB.size
  go_wp2_with fail
  refine (of_any 1 1 _).mono ?_
  rintro E wC ⟨vC, rfl, ownC, belC⟩
  have szC := belC.size
  go_wp2_with fail
  refine (of_any 0 2 _).mono ?_
  rintro E wD ⟨vD, rfl, ownD, belD⟩
  have szD := belD.size
  unfold cmv
  obtain ⟨aC, kC, hvC, _, _⟩ := ownC.is.shape
  subst hvC
  obtain ⟨aD, kD, hvD, _, _⟩ := ownD.is.shape
  subst hvD
  obtain ⟨uD, huD, szu, belu, ownu⟩ := coms_step 24 wD #[.int .i64 1, .int .i64 1, .slice aC 1 kC, .int .i64 0, .int .i64 2, .slice aD 1 kD] 2 [exW 1 1 (.slice aC 1 kC), exW 0 2 (.slice aD 1 kD)] rfl rfl (by simp [maxLen])
  go_wp2_with fail
  refine (fol_call 0 0 _ [exW 1 1 (.slice aC 1 kC), exW 0 2 (.slice aD 1 kD)] 2 1 _ ownu.row (all_two (exW_in ((ownC.below belD).below belu) ⟨by omega, by omega⟩ ⟨by omega, by omega⟩) (exW_in (ownD.below belu) ⟨by omega, by omega⟩ ⟨by omega, by omega⟩)) (all_two (exW_fit 1 1 _) (exW_fit 0 2 _)) (by simp) fol_twoC).mono ?_
  rintro E wE ⟨rfl, belE⟩
  have bel0E := ((((bel067.trans (belB.mono (by have := bel067.size; omega))).trans (belC.mono (by have := bel067.size; omega))).trans (belD.mono (by have := bel067.size; omega))).trans (belu.mono (by have := bel067.size; omega))).trans (belE.mono (by have := bel067.size; omega))
  clear ownC ownD ownu belB belC belD belu belE
  go_wp2
  go_ret
  exact ⟨rfl, bel0E⟩

end Go.Proofs.Ytlfgffldoiedlaa
