/- Texts of one layer, one behind the other. -/
import Derived.Test.YthmecljkackmbaaGreatGK6
import Derived.Test.YthmecljkackmbaaGreatRows
import Derived.ProofKit
import Derived.OpenShut
import Derived.ShutString
import Derived.ChangeOld
import Derived.Below
import Derived.SizedLaws
/- StoreNames: the worked examples of the chapter on the store come out as they are written. -/
namespace Go.Proofs.YthmecljkackmbaaGreat
open Go.RowKit
set_option linter.unusedVariables false

theorem nmS_fol : (Cm.fol 1 0 0 [⟨1, 2, [sD, sB]⟩]).1 = 15 := by decide

set_option maxRecDepth 20000 in
set_option maxHeartbeats 8000000 in
theorem storeNames_walk (w : World) : Calls Tryz.prog 3 #[] w fun e w' => e = .returned (.bool true) ∧ Below w.heap.size w w' := by
  go_enter Tryz.func3, Tryz.ntmps3
  go_wp2_with fail
  refine (slives_any w).mono ?_
  rintro E w0 ⟨rfl, b0⟩
  have B0 := hide b0
  clear b0
  go_wp2_with fail
  refine (sexample_any w0).mono ?_
  rintro E w1 ⟨v1, rfl, a, b, c, d, hv, R1, b1⟩
  have HM := hide (smex_any w1 v1 b c d a (.inr ⟨_, R1⟩))
  have B1 := hide (B0.out.trans (b1.mono B0.out.size))
  subst hv
  clear R1 b1
  go_wp2_with fail
  refine HM.out.mono ?_
  rintro E w2 ⟨ps, rfl, p, q, F, N2⟩
  have HF := hide (Sn.flush (s := t0) N2 1 t0_big ⟨by decide, by decide⟩ (by decide))
  rw [t1_is.1, show (Sto.flu t0 1).2 = t1 from rfl] at HF
  clear HM N2
  go_wp2_with fail
  refine HF.out.mono ?_
  rintro E w3 ⟨rfl, F3, N3⟩
  have HR := hide (sRest_any ps p q F3 w3 _ N3.sw)
  rw [t1_is.2.1] at HR
  rw [show (([(⟨1, 2, [sD, sB]⟩ : Cm.Cv)].length : Nat) : Int) = 1 from rfl] at HR
  have N3 := hide N3
  clear HF
  go_wp2_with fail
  refine HR.out.mono ?_
  rintro E w4 ⟨rfl, b4⟩
  have N4 := hide (N3.out.below b4)
  have HG := hide (sget_any ps p q F3 w4 _ ⟨#[97]⟩ N4.out.sw (by decide))
  rw [t1_ok.2.1, exS_a.1, exS_a.2] at HG
  clear HR N3 b4
  go_wp2_with fail
  refine HG.out.mono ?_
  rintro E w5 ⟨rfl, b5⟩
  have N5 := hide (N4.out.below b5)
  have HO := hide (sopen_no w5 (.pointer none) (.slice none 0 0) ⟨_, _, _, rfl⟩ (.inl rfl))
  clear HG N4 b5
  go_wp2_with fail
  refine HO.out.mono ?_
  rintro E w6 ⟨rfl, b6⟩
  have N6 := hide (N5.out.below b6)
  clear HO N5 b6
  go_wp2_with fail
  refine (sexample_any w6).mono ?_
  rintro E w7 ⟨v7, rfl, a7, b7, c7, d7, hv7, R7, bel7⟩
  have N7 := hide (N6.out.below bel7)
  obtain ⟨i1, i2⟩ := R7.isc exS_chk
  obtain ⟨vs, hvs, rowk⟩ := i1.1.slice_l Tryz.elemC Tryz.sizeC 1 (by simp)
  have hvs' : ∀ wx, (Instr.slice 27 v7 (some (.int .i64 1)) none none).run Tryz.prog wx = .ok vs wx := fun wx => hvs wx
  have HM := hide (smade_any w7 vs [⟨1, 2, .slice (some ⟨c7, 0, none⟩) d7 d7, [sD, sB]⟩] ⟨rowk, fun x hx => i1.2 x (by rw [List.mem_singleton.1 hx]; simp)⟩ (fun x hx => i2 x (by rw [List.mem_singleton.1 hx]; simp)) (by simp))
  rw [show (Cm.fol 1 0 0 (cvs [(⟨1, 2, .slice (some ⟨c7, 0, none⟩) d7 d7, [sD, sB]⟩ : Cw)])).1 = 15 from nmS_fol] at HM
  obtain ⟨sa, sn, sk, hsh⟩ : ∃ x y z, vs = .slice x y z := by
    obtain ⟨x, y, h, _⟩ := rowk.shape
    exact ⟨x, _, y, h⟩
  subst hsh
  clear N6 bel7 R7 i1 i2 hvs rowk hv7
  go_wp2_with fail
  refine HM.out.mono ?_
  rintro E w8 (⟨_, rfl, b8⟩ | ⟨h0, _⟩)
  · have N8 := N7.out.below b8
    have HF0 := hide (Sn.flush N8 0 t1_big ⟨by decide, by decide⟩ (by rw [t1_is.2.1]; decide))
    rw [sflu_arg (s := t1) (u := 0) (.inl (by rw [t1_is.2.2.2.2]; decide))] at HF0
    clear HM N7 b8 N8 hvs'
    go_wp2_with fail
    refine HF0.out.mono ?_
    rintro E w9 ⟨rfl, F9, N9⟩
    have HF3 := hide (Sn.flush N9 3 t1_big ⟨by decide, by decide⟩ (by rw [t1_is.2.1]; decide))
    rw [sflu_arg (s := t1) (u := 3) (.inr (by rw [t1_ok.2.2]; decide))] at HF3
    clear HF0 N9
    go_wp2_with fail
    refine HF3.out.mono ?_
    rintro E wa ⟨rfl, Fa, Na⟩
    have HF2 := hide (Sn.flush Na 2 t1_big ⟨by decide, by decide⟩ (by rw [t1_is.2.1]; decide))
    rw [t2_is.1, show (Sto.flu t1 2).2 = t2 from rfl] at HF2
    clear HF3 Na
    go_wp2_with fail
    refine HF2.out.mono ?_
    rintro E wb ⟨rfl, Fb, Nb⟩
    have HR := hide (sRest_any ps p q Fb wb _ Nb.sw)
    rw [t2_is.2.1] at HR
    rw [show ((([] : List Cm.Cv).length : Nat) : Int) = 0 from rfl] at HR
    have Nb := hide Nb
    clear HF2
    go_wp2_with fail
    refine HR.out.mono ?_
    rintro E wc ⟨rfl, bc⟩
    have hfin : Sto.fin t2 = 2 := by unfold Sto.fin; rw [t2_is.2.1, t2_is.2.2]; rfl
    have HL := hide (Sn.flush (Nb.out.below bc) 2 t2_big ⟨by decide, by decide⟩ (by rw [t2_is.2.1]; decide))
    rw [sflu_nil (s := t2) (u := 2) t2_is.2.2.symm (by rw [hfin]; decide)] at HL
    clear HR Nb bc hfin
    go_wp2_with fail
    refine HL.out.mono ?_
    rintro E wd ⟨rfl, Fd, Nd⟩
    have BD := hide (B1.out.trans (Nd.bel.mono B1.out.size))
    clear HL Nd
    go_wp2
    go_ret
    exact ⟨rfl, BD.out⟩
  · cases h0

end Go.Proofs.YthmecljkackmbaaGreat

/- Proved: StoreNames -/
namespace Go.Proofs.YthmecljkackmbaaGreat
open Go.ChangeShapes Go.WideShapes Go.ChangeAt Go.RowKit
open Go.ChangeMaps (open_string shut_string)
set_option linter.unusedVariables false

namespace storeNamesFrame
theorem own : ownKnob Tryz.prog.godebug = none := by kernel_rfl
theorem laidOut : laidOutB Tryz.prog = true := by kernel_rfl

set_option maxRecDepth 100000 in
theorem lifted (os : Os) (started : os.Started) (H : Type) (enc : TypeId × Value → H) :
    ReturnsInHanded {} Tryz.checked os 3 .any (Rows.storeNamesSpec.pre6 enc Tryz.prog Tryz.f3 Rows.storeNamesRow.domain false) (Rows.storeNamesSpec.post enc Tryz.prog Tryz.f3 false true false false) := by
  refine returnsInHanded_of_change_sized (C := Tryz.checked) own started (by kernel_rfl) Tryz.func3
    (ChangeSpec.witness6 (enc := enc) (C := Tryz.checked) false ⟨#[], #[], []⟩ 8 (by kernel_rfl) (by kernel_rfl) (by kernel_rfl) (by kernel_rfl)) ?_
  intro W base args ds gs before hval0 hW hcnd hsz0 _
  have hsz : (DataW.weightsEach Tryz.prog (Tryz.f3.params.toList ++ Rows.storeNamesSpec.plain.varTypes Tryz.prog) (ds ++ gs)).all (· ≤ reachBytes) = true := hsz0
  clear hsz0
  have hval : ∀ (j : Nat) t v, Tryz.f3.params[j]? = some t → args[j]? = some v → Value.okWide Tryz.prog W .any base t v := hval0
  have hW' := hW
  obtain ⟨p, q, hA0, hV, rfl, hfz, hnd⟩ := hW
  have hA : DataW.TrodAll enc Tryz.prog W 0 (fun _ => true) true Tryz.f3.params.toList args.toList ds p := hA0
  rw [Tryz.params3] at hA hval hsz
  obtain ⟨rfl, rfl, rfl⟩ := trodAll_none hA
  obtain ⟨rfl, rfl⟩ := trodVars_none hV
  clear hA0 hval0
  refine (storeNames_walk  W ).mono fun e W' ⟨he, bel⟩ => ?_
  subst he
  exact ⟨_, rfl, _, _, _, [], [], [], hW', trodAll_mk1 (shut_bool Tryz.underlying4 _), trodAll_mk0, rfl, bel.frame _, fun h => by cases h⟩

theorem over : Rows.storeNamesRow.holds Tryz.pinned (OpenSpec.ofChange Rows.storeNamesSpec) :=
  OpenClaim.holds_of_wide 3 Tryz.f3 rfl rfl rfl rfl rfl rfl rfl ⟨rfl, rfl, rfl, rfl, rfl⟩ rfl rfl rfl rfl rfl (by kernel_rfl) Tryz.func3 (by kernel_rfl)
    (of_decide_eq_true (by kernel_rfl)) (by unfold Func.isWrapper; first | (rw [if_pos (by decide +kernel)]; kernel_rfl) | (rw [if_neg (by decide +kernel)]; exact ⟨rfl, rfl⟩))
    (fun os started H enc _ => lifted os started H enc)
end storeNamesFrame

/-- The statement. -/
theorem storeNames_holds : Rows.StoreNamesSaid := storeNamesFrame.over
#print axioms storeNames_holds
end Go.Proofs.YthmecljkackmbaaGreat
