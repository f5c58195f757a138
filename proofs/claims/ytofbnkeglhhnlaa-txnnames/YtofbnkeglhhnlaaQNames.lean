/- Texts of one layer, one behind the other. -/
import Derived.Test.YtofbnkeglhhnlaaGF
import Derived.Test.YtofbnkeglhhnlaaG5
import Derived.Test.YtofbnkeglhhnlaaRows
import Derived.ProofKit
import Derived.OpenShut
import Derived.ShutString
import Derived.ChangeOld
import Derived.Below
import Derived.SizedLaws
/- TxnNames: the walk. -/
namespace Go.Proofs.Ytofbnkeglhhnlaa
open Go.RowKit
open Bm (Ov)
set_option linter.unusedVariables false

theorem tx_und1 : Tx.undE ⟨[oPA, oDA], false⟩ 1 = 0 ∧ Tx.und ⟨[oPA, oDA], false⟩ 1 = ⟨[oPA], false⟩ := ⟨by rfl, by rfl⟩
theorem tx_und2 : Tx.undE ⟨[oPA], false⟩ 2 = 2 ∧ Tx.und ⟨[oPA], false⟩ 2 = ⟨[oPA], false⟩ := ⟨by rfl, by rfl⟩
theorem tx_don1 : Tx.donE ⟨[oPA], false⟩ = 0 ∧ Tx.donL ⟨[oPA], false⟩ = [oPA] ∧ Tx.don ⟨[oPA], false⟩ = ⟨[oPA], true⟩ := ⟨by rfl, by rfl, by rfl⟩
theorem tx_don2 : Tx.donE ⟨[oPA], true⟩ = 6 ∧ Tx.donL ⟨[oPA], true⟩ = [] ∧ Tx.don ⟨[oPA], true⟩ = ⟨[oPA], true⟩ := ⟨by rfl, by rfl, by rfl⟩
theorem tx_don0 : Tx.donE Tx.new = 2 ∧ Tx.donL Tx.new = [] ∧ Tx.don Tx.new = Tx.new := ⟨by rfl, by rfl, by rfl⟩
theorem tx_put6 (o : Ov) : Tx.addE ⟨[oPA], true⟩ o = 6 ∧ Tx.add ⟨[oPA], true⟩ o = ⟨[oPA], true⟩ := ⟨by rfl, by rfl⟩
theorem tx_get1 : Tx.gtV ⟨[oPA], false⟩ ⟨#[97]⟩ = ⟨#[49]⟩ ∧ Tx.gtM ⟨[oPA], false⟩ ⟨#[97]⟩ = true ∧ Tx.gtT ⟨[oPA], false⟩ ⟨#[97]⟩ = true := by
  have h : Tx.lst ⟨#[97]⟩ [oPA] = some oPA := by
    rw [show [oPA] = [] ++ [oPA] from rfl, Tx.lst_snoc, if_pos (show oPA.k = ⟨#[97]⟩ from rfl)]
  refine ⟨?_, ?_, ?_⟩
  · unfold Tx.gtV
    rw [if_neg (by decide)]
    simp only [h]
    rfl
  · unfold Tx.gtM
    rw [if_neg (by decide)]
    simp only [h]
    rfl
  · unfold Tx.gtT
    rw [if_neg (by decide)]
    simp only [h]
    rfl

set_option maxRecDepth 20000 in
set_option maxHeartbeats 4000000 in
theorem txnNames_walk (w : World) : Calls Try.prog 3 #[] w fun E w' => E = .returned (.bool true) ∧ Below w.heap.size w w' := by
  go_enter Try.func3, Try.ntmps3
  go_wp2_with fail
  refine (tlives_any w).mono ?_
  rintro E w1 ⟨rfl, b1⟩
  have B1 := hide b1
  clear b1
  go_wp2_with fail
  refine (zbegin_any w1).mono ?_
  rintro E w2 ⟨p, F2, rfl, h2, fb2, b2⟩
  have P2 : Hid (PW w1 w2 p F2 Tx.new) := hide ⟨h2, fb2, b2⟩
  have X2 := hide (zput_any p F2 w2 Tx.new ⟨#[97]⟩ ⟨#[49]⟩ h2 (by decide) (by decide))
  rw [show (⟨true, ⟨#[97]⟩, ⟨#[49]⟩⟩ : Ov) = oPA from rfl, tx_add1.1, tx_add1.2] at X2
  clear h2 fb2 b2
  go_wp2_with fail
  refine X2.out.mono ?_
  rintro E w3 ⟨rfl, hS⟩
  obtain ⟨F3, p3, _⟩ := P2.out.step hS
  have P3 := hide p3
  have X3 := hide (zdel_any p F3 w3 _ ⟨#[97]⟩ p3.ps (by decide))
  rw [show (⟨false, ⟨#[97]⟩, ⟨#[]⟩⟩ : Ov) = oDA from rfl, tx_add2.1, tx_add2.2] at X3
  clear hS p3 X2 P2
  go_wp2_with fail
  refine X3.out.mono ?_
  rintro E w4 ⟨rfl, hS⟩
  obtain ⟨F4, p4, _⟩ := P3.out.step hS
  have P4 := hide p4
  have X4 := hide (zundo_any p F4 w4 _ 1 p4.ps)
  rw [tx_und1.1, tx_und1.2] at X4
  clear hS p4 X3 P3
  go_wp2_with fail
  refine X4.out.mono ?_
  rintro E w5 ⟨rfl, hS⟩
  obtain ⟨F5, p5, _⟩ := P4.out.step hS
  have P5 := hide p5
  have X5 := hide (zget_any p F5 w5 _ ⟨#[97]⟩ p5.ps)
  rw [tx_get1.1, tx_get1.2.1, tx_get1.2.2] at X5
  clear hS p5 X4 P4
  go_wp2_with fail
  refine X5.out.mono ?_
  rintro E w6 ⟨rfl, b6⟩
  have P6 := hide (P5.out.below b6)
  have X6 := hide (zundo_any p F5 w6 _ 2 P6.out.ps)
  rw [tx_und2.1, tx_und2.2] at X6
  clear b6 X5 P5
  go_wp2_with fail
  refine X6.out.mono ?_
  rintro E w7 ⟨rfl, hS⟩
  obtain ⟨F7, p7, _⟩ := P6.out.step hS
  have P7 := hide p7
  have X7 := hide (zdone_any p F7 w7 _ p7.ps)
  rw [tx_don1.1, tx_don1.2.1, tx_don1.2.2] at X7
  clear hS p7 X6 P6
  go_wp2_with fail
  refine X7.out.mono ?_
  rintro E w8 ⟨v8, rfl, o8, hS⟩
  obtain ⟨F8, p8, q8⟩ := P7.out.step (PzS.of_done hS)
  obtain ⟨a8, k8, hv8, _, _⟩ := o8.is.shape
  have P8 := hide p8
  have L8 : Hid (∃ F9, Pz p F9 w8 ⟨[oPA], true⟩ ∧ (∀ g, F9 g → w1.heap.size ≤ g) ∧ ∀ g, F9 g → g < w7.heap.size) := hide (by
    obtain ⟨F9, k1, k2, k3⟩ := hS
    exact ⟨F9, k1, fun g hg => P7.out.fb g (k3 g hg), fun g hg => P7.out.ps.lt g (k3 g hg)⟩)
  obtain ⟨F9, hP9, hfb9, hlt9⟩ := L8.out
  have O8 := hide o8
  have P9 : Hid (PW w1 w8 p F9 ⟨[oPA], true⟩) := hide ⟨hP9, hfb9, P8.out.bel⟩
  have LT := hide hlt9
  have X8 := hide (zdone_any p F9 w8 _ hP9)
  rw [tx_don2.1, tx_don2.2.1, tx_don2.2.2] at X8
  rw [hv8] at O8
  subst hv8
  clear hS p8 o8 q8 X7 P7 L8 P8 hP9 hfb9 hlt9
  go_wp2_with fail
  refine X8.out.mono ?_
  rintro E w9 ⟨v9, rfl, o9, hS⟩
  obtain ⟨F10, k10, u10, s10⟩ := hS
  have P10 : Hid (PW w1 w9 p F10 ⟨[oPA], true⟩) := hide ⟨k10, fun g hg => P9.out.fb g (s10 g hg), P9.out.bel.trans (u10.below P9.out.fb P9.out.bel.size)⟩
  have LT10 : Hid (∀ g, F10 g → g < w7.heap.size) := hide fun g hg => LT.out g (s10 g hg)
  have O9 := hide (O8.out.past u10 LT.out)
  obtain ⟨a9, k9, hv9, _, _⟩ := o9.is.shape
  subst hv9
  clear o9 k10 u10 s10 P9 LT O8 X8
  go_wp2_with fail
  refine (zbegin_any w9).mono ?_
  rintro E w10 ⟨p2, F2, rfl, h2, fb2, b2⟩
  have P11 := hide (P10.out.below b2)
  have O10 := hide (O9.out.below b2)
  have FB2 := hide fb2
  have X9 := hide (zdone_any p2 F2 w10 _ h2)
  rw [tx_don0.1, tx_don0.2.1, tx_don0.2.2] at X9
  have h910 := b2.size
  have P10LT : Hid (∀ g, F10 g → g < w9.heap.size) := hide fun g hg => P10.out.ps.lt g hg
  clear h2 fb2 b2
  go_wp2_with fail
  refine X9.out.mono ?_
  rintro E w11 ⟨v11, rfl, o11, hS⟩
  obtain ⟨F12, k12, u12, s12⟩ := hS
  have P12 : Hid (PW w1 w11 p F10 ⟨[oPA], true⟩) := hide ⟨P11.out.ps.out u12 fun g hg e => by
    have m1 := P10LT.out g hg
    have m2 := FB2.out g e
    omega, P11.out.fb, P11.out.bel.trans (u12.below (fun g hg => Nat.le_trans P10.out.bel.size (FB2.out g hg)) P11.out.bel.size)⟩
  have O11 : Hid (IsO w11 (.slice a8 [oPA].length k8) [oPA]) := hide (O10.out.is.out u12 fun _ g hg e => by
    have m1 := (O9.out.block g hg).2
    have m2 := FB2.out g e
    omega)
  obtain ⟨a11, k11, hv11, _, _⟩ := o11.is.shape
  subst hv11
  obtain ⟨V, hV, szV, belV, ownV⟩ := ops_step 36 w11 #[.bool true, .string ⟨#[97]⟩, .string ⟨#[49]⟩] 1 [oPA] rfl rfl (by simp [maxLen])
  have SM := hide (sameO_any _ _ _ _ V (O11.out.below belV) ownV.is (by simp) (by simp))
  rw [Bm.sameL_self] at SM
  have P13 := hide (P12.out.below belV)
  clear o11 k12 u12 s12 P11 P12 O9 O10 O11 X9 FB2 P10 belV ownV szV
  go_wp2_with fail
  refine SM.out.mono ?_
  rintro E w12 ⟨rfl, b12⟩
  have P14 := hide (P13.out.below b12)
  have Y1 := hide (zput_any p F10 w12 ⟨[oPA], true⟩ ⟨#[98]⟩ ⟨#[50]⟩ P14.out.ps (by decide) (by decide))
  rw [(tx_put6 _).1, (tx_put6 _).2] at Y1
  clear b12 SM P13
  go_wp2_with fail
  refine Y1.out.mono ?_
  rintro E w13 ⟨rfl, hS⟩
  obtain ⟨F15, p15, _⟩ := P14.out.step hS
  have P15 := hide p15
  have Y2 := hide (zdrop_any p F15 w13 ⟨[oPA], true⟩ p15.ps)
  rw [show Tx.ask ⟨[oPA], true⟩ = 6 from rfl] at Y2
  clear hS p15 Y1 P14
  go_wp2_with fail
  refine Y2.out.mono ?_
  rintro E w14 ⟨rfl, hS⟩
  obtain ⟨F16, p16, _⟩ := P15.out.step hS
  have P16 := hide p16
  clear hS p16 Y2 P15
  go_wp2
  go_ret
  exact ⟨rfl, B1.out.trans (P16.out.bel.mono B1.out.size)⟩

end Go.Proofs.Ytofbnkeglhhnlaa

/- Proved: TxnNames -/
namespace Go.Proofs.Ytofbnkeglhhnlaa
open Go.ChangeShapes Go.WideShapes Go.ChangeAt Go.RowKit
open Go.ChangeMaps (open_string shut_string)
set_option linter.unusedVariables false

namespace txnNamesFrame
theorem own : ownKnob Try.prog.godebug = none := by kernel_rfl
theorem laidOut : laidOutB Try.prog = true := by kernel_rfl

set_option maxRecDepth 100000 in
theorem lifted (os : Os) (started : os.Started) (H : Type) (enc : TypeId × Value → H) :
    ReturnsInHanded {} Try.checked os 3 .any (Rows.txnNamesSpec.pre6 enc Try.prog Try.f3 Rows.txnNamesRow.domain false) (Rows.txnNamesSpec.post enc Try.prog Try.f3 false true false false) := by
  refine returnsInHanded_of_change_sized (C := Try.checked) own started (by kernel_rfl) Try.func3
    (ChangeSpec.witness6 (enc := enc) (C := Try.checked) false ⟨#[], #[], []⟩ 8 (by kernel_rfl) (by kernel_rfl) (by kernel_rfl) (by kernel_rfl)) ?_
  intro W base args ds gs before hval0 hW hcnd hsz0 _
  have hsz : (DataW.weightsEach Try.prog (Try.f3.params.toList ++ Rows.txnNamesSpec.plain.varTypes Try.prog) (ds ++ gs)).all (· ≤ reachBytes) = true := hsz0
  clear hsz0
  have hval : ∀ (j : Nat) t v, Try.f3.params[j]? = some t → args[j]? = some v → Value.okWide Try.prog W .any base t v := hval0
  have hW' := hW
  obtain ⟨p, q, hA0, hV, rfl, hfz, hnd⟩ := hW
  have hA : DataW.TrodAll enc Try.prog W 0 (fun _ => true) true Try.f3.params.toList args.toList ds p := hA0
  rw [Try.params3] at hA hval hsz
  obtain ⟨rfl, rfl, rfl⟩ := trodAll_none hA
  obtain ⟨rfl, rfl⟩ := trodVars_none hV
  clear hA0 hval0
  refine (txnNames_walk  W ).mono fun e W' ⟨he, bel⟩ => ?_
  subst he
  exact ⟨_, rfl, _, _, _, [], [], [], hW', trodAll_mk1 (shut_bool Try.underlying4 _), trodAll_mk0, rfl, bel.frame _, fun h => by cases h⟩

theorem over : Rows.txnNamesRow.holds Try.pinned (OpenSpec.ofChange Rows.txnNamesSpec) :=
  OpenClaim.holds_of_wide 3 Try.f3 rfl rfl rfl rfl rfl rfl rfl ⟨rfl, rfl, rfl, rfl, rfl⟩ rfl rfl rfl rfl rfl (by kernel_rfl) Try.func3 (by kernel_rfl)
    (of_decide_eq_true (by kernel_rfl)) (by unfold Func.isWrapper; first | (rw [if_pos (by decide +kernel)]; kernel_rfl) | (rw [if_neg (by decide +kernel)]; exact ⟨rfl, rfl⟩))
    (fun os started H enc _ => lifted os started H enc)
end txnNamesFrame

/-- The statement. -/
theorem txnNames_holds : Rows.TxnNamesSaid := txnNamesFrame.over
#print axioms txnNames_holds
end Go.Proofs.Ytofbnkeglhhnlaa
