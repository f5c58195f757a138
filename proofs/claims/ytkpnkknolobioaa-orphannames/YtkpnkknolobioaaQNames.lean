/- Proved: the worked examples of the chapter on orphans come out as they are written (OrphanNames). No conditions. -/
import Derived.Test.YtkpnkknolobioaaG26
import Derived.Test.YtkpnkknolobioaaRows
import Derived.ProofKit
import Derived.OpenShut
import Derived.ShutString
import Derived.ChangeOld
import Derived.Below
import Derived.SizedLaws
/- OrphanNames: the walk. -/
namespace Go.Proofs.Ytkpnkknolobioaa
open Go.RowKit
set_option linter.unusedVariables false

theorem nm1 : Orp.chk ⟨1, 1, [⟨1, 2, [exO]⟩]⟩ = 15 := Orp.chk_ord (by simp) (by rw [Cm.fol_good]; exact ⟨exC_good (by decide), by decide, by decide, trivial⟩) (by simp [Cm.lastE])
theorem nm2 : Orp.chk ⟨2, 2, [⟨1, 2, [exO]⟩]⟩ = 15 := by
  have h : (Cm.fol 1 2 0 [⟨1, 2, [exO]⟩]).1 = 15 := by decide
  rw [Orp.chk_fol (s := ⟨2, 2, [⟨1, 2, [exO]⟩]⟩) (by simp) (by show (Cm.fol 1 2 0 [⟨1, 2, [exO]⟩]).1 ≠ 0; rw [h]; decide)]
  exact h
theorem nm3 : Orp.chk ⟨2, 1, []⟩ = 2 := Orp.chk_arg (by simp)
theorem hs1 : Orp.has [exSe] 1 2 = true := by decide
theorem hs2 : Orp.has [exSe] 2 2 = false := by decide

set_option maxRecDepth 20000 in
set_option maxHeartbeats 4000000 in
theorem orphanNames_walk (w : World) : Calls Try.prog 3 #[] w fun E w' => E = .returned (.bool true) ∧ Below w.heap.size w w' := by
  go_enter Try.func3, Try.ntmps3
  go_wp2_with fail
  refine (example19_any w).mono ?_
  rintro E w1 ⟨g, q, vo, rfl, X1, bel1⟩
  obtain ⟨w2, hw2, hw2', sz2, bel2, bb, c0, c1, c2⟩ := new_step w1 24 (.int .i64 0) (.int .i64 0) (.slice none 0 0) (.int .i64 2) (.int .i64 1) (.slice (some ⟨g, 0, none⟩) 1 1)
  have X2 := hide (X1.out.below bel2)
  have B2 := hide (bel1.trans (bel2.mono bel1.size))
  clear X1 bel1 bel2 bb c0 c1 c2
  go_wp2_with fail
  refine (put19_any 1 2 w2).mono ?_
  rintro E w3 ⟨a, k, rfl, own3, bel3⟩
  obtain ⟨w4, hw4, sz4, bel4, sh4⟩ := one_com 1 2 (by simp [In64]) (by simp [In64]) bel3 own3
  have K1 := hide (pochk_any 1 1 _ _ w4 sh4.isC sh4.f (by simp))
  rw [show (⟨1, 1, cvs [⟨1, 2, .slice a 1 k, [exO]⟩]⟩ : Orp.Se) = ⟨1, 1, [⟨1, 2, [exO]⟩]⟩ from rfl, nm1] at K1
  unfold cmv at K1
  have X4 := hide (X2.out.below bel4)
  have B4 := hide (B2.out.trans (bel4.mono B2.out.size))
  clear X2 B2 own3 bel3 bel4 sh4 sz4
  go_wp2_with fail
  refine K1.out.mono ?_
  rintro E w5 ⟨rfl, bel5⟩
  have X5 := hide (X4.out.below bel5)
  have B5 := hide (B4.out.trans (bel5.mono B4.out.size))
  clear K1 X4 B4 bel5
  go_wp2_with fail
  refine (put19_any 1 2 w5).mono ?_
  rintro E w6 ⟨a2, k2, rfl, own6, bel6⟩
  obtain ⟨w7, hw7, sz7, bel7, sh7⟩ := one_com 1 2 (by simp [In64]) (by simp [In64]) bel6 own6
  have K2 := hide (pochk_any 2 2 _ _ w7 sh7.isC sh7.f (by simp))
  rw [show (⟨2, 2, cvs [⟨1, 2, .slice a2 1 k2, [exO]⟩]⟩ : Orp.Se) = ⟨2, 2, [⟨1, 2, [exO]⟩]⟩ from rfl, nm2] at K2
  unfold cmv at K2
  have X7 := hide (X5.out.below bel7)
  have B7 := hide (B5.out.trans (bel7.mono B5.out.size))
  clear X5 B5 own6 bel6 bel7 sh7 sz7
  go_wp2_with fail
  refine K2.out.mono ?_
  rintro E w8 ⟨rfl, bel8⟩
  have X8 := hide (X7.out.below bel8)
  have B8 := hide (B7.out.trans (bel8.mono B7.out.size))
  have K3 := hide (pochk_any 2 1 (.slice none 0 0) [] w8 (IsC.nil _) (fun c hc => by simp at hc) (by simp))
  rw [show (⟨2, 1, cvs []⟩ : Orp.Se) = ⟨2, 1, []⟩ from rfl, nm3] at K3
  unfold cmv at K3
  clear K2 X7 B7 bel8
  go_wp2_with fail
  refine K3.out.mono ?_
  rintro E w9 ⟨rfl, bel9⟩
  have X9 := hide (X8.out.below bel9)
  have B9 := hide (B8.out.trans (bel9.mono B8.out.size))
  clear K3 X8 B8 bel9
  go_wp2_with fail
  refine (lives19_any w9).mono ?_
  rintro E wa ⟨rfl, bela⟩
  have Xa := hide (X9.out.below bela)
  have Ba := hide (B9.out.trans (bela.mono B9.out.size))
  have H1 := hide (pohas_any _ exBy 1 2 wa Xa.out.by'.is (by decide) _ ex_scan1)
  rw [hs1] at H1
  clear X9 B9 bela
  go_wp2_with fail
  refine H1.out.mono ?_
  rintro E wb ⟨rfl, belb⟩
  have Xb := hide (Xa.out.below belb)
  have Bb := hide (Ba.out.trans (belb.mono Ba.out.size))
  have H2 := hide (pohas_any _ exBy 2 2 wb Xb.out.by'.is (by decide) _ ex_scan1)
  rw [hs2] at H2
  clear H1 Xa Ba belb
  go_wp2_with fail
  refine H2.out.mono ?_
  rintro E wc ⟨rfl, belc⟩
  have Bc := hide (Bb.out.trans (belc.mono Bb.out.size))
  clear H2 Xb Bb belc
  go_wp2
  go_ret
  exact ⟨rfl, Bc.out⟩

end Go.Proofs.Ytkpnkknolobioaa

/- Proved: OrphanNames -/
namespace Go.Proofs.Ytkpnkknolobioaa
open Go.ChangeShapes Go.WideShapes Go.ChangeAt Go.RowKit
open Go.ChangeMaps (open_string shut_string)
set_option linter.unusedVariables false

namespace orphanNamesFrame
theorem own : ownKnob Try.prog.godebug = none := by kernel_rfl
theorem laidOut : laidOutB Try.prog = true := by kernel_rfl

set_option maxRecDepth 100000 in
theorem lifted (os : Os) (started : os.Started) (H : Type) (enc : TypeId × Value → H) :
    ReturnsInHanded {} Try.checked os 3 .any (Rows.orphanNamesSpec.pre6 enc Try.prog Try.f3 Rows.orphanNamesRow.domain false) (Rows.orphanNamesSpec.post enc Try.prog Try.f3 false true false false) := by
  refine returnsInHanded_of_change_sized (C := Try.checked) own started (by kernel_rfl) Try.func3
    (ChangeSpec.witness6 (enc := enc) (C := Try.checked) false ⟨#[], #[], []⟩ 8 (by kernel_rfl) (by kernel_rfl) (by kernel_rfl) (by kernel_rfl)) ?_
  intro W base args ds gs before hval0 hW hcnd hsz0 _
  have hsz : (DataW.weightsEach Try.prog (Try.f3.params.toList ++ Rows.orphanNamesSpec.plain.varTypes Try.prog) (ds ++ gs)).all (· ≤ reachBytes) = true := hsz0
  clear hsz0
  have hval : ∀ (j : Nat) t v, Try.f3.params[j]? = some t → args[j]? = some v → Value.okWide Try.prog W .any base t v := hval0
  have hW' := hW
  obtain ⟨p, q, hA0, hV, rfl, hfz, hnd⟩ := hW
  have hA : DataW.TrodAll enc Try.prog W 0 (fun _ => true) true Try.f3.params.toList args.toList ds p := hA0
  rw [Try.params3] at hA hval hsz
  obtain ⟨rfl, rfl, rfl⟩ := trodAll_none hA
  obtain ⟨rfl, rfl⟩ := trodVars_none hV
  clear hA0 hval0
  refine (orphanNames_walk  W ).mono fun e W' ⟨he, bel⟩ => ?_
  subst he
  exact ⟨_, rfl, _, _, _, [], [], [], hW', trodAll_mk1 (shut_bool Try.underlying4 _), trodAll_mk0, rfl, bel.frame _, fun h => by cases h⟩

theorem over : Rows.orphanNamesRow.holds Try.pinned (OpenSpec.ofChange Rows.orphanNamesSpec) :=
  OpenClaim.holds_of_wide 3 Try.f3 rfl rfl rfl rfl rfl rfl rfl ⟨rfl, rfl, rfl, rfl, rfl⟩ rfl rfl rfl rfl rfl (by kernel_rfl) Try.func3 (by kernel_rfl)
    (of_decide_eq_true (by kernel_rfl)) (by unfold Func.isWrapper; first | (rw [if_pos (by decide +kernel)]; kernel_rfl) | (rw [if_neg (by decide +kernel)]; exact ⟨rfl, rfl⟩))
    (fun os started H enc _ => lifted os started H enc)
end orphanNamesFrame

/-- The statement. -/
theorem orphanNames_holds : Rows.OrphanNamesSaid := orphanNamesFrame.over
#print axioms orphanNames_holds
end Go.Proofs.Ytkpnkknolobioaa
