/- Texts of one layer, one behind the other. -/
import Derived.Test.YthchcnflflafeaaG21
import Derived.Test.YthchcnflflafeaaRows
import Derived.ProofKit
import Derived.OpenShut
import Derived.ShutString
import Derived.ChangeOld
import Derived.Below
import Derived.SizedLaws
/- RunNames: the worked examples of the chapter on sorted runs. -/
namespace Go.Proofs.Ythchcnflflafeaa
open Go.RowKit
set_option linter.unusedVariables false

def nmL : List Bm.Ov := [⟨true, ⟨#[97]⟩, ⟨#[57]⟩⟩]
def nmR : Cm.Cv := ⟨3, 3, nmL⟩
def nmB : List Bm.Ov := [⟨true, ⟨#[98]⟩, ⟨#[]⟩⟩, ⟨true, ⟨#[97]⟩, ⟨#[]⟩⟩]
theorem nmL_ok : Rn.chk 3 3 nmL = 0 := by decide
theorem nmL_fit : FitO nmL := (fit_run nmL_ok).1
theorem nmB_bad : Rn.chk 1 1 nmB = 2 := by decide
theorem nmB_fit : FitO nmB := fun o ho => by
  simp only [nmB, List.mem_cons, List.not_mem_nil, or_false] at ho
  rcases ho with rfl | rfl <;> simp [ByteArray.size]
theorem nm0_bad : Rn.chk 2 1 [] = 2 := by decide

theorem nm_four : Rl.flu rs1 ⟨4, 4, []⟩ = (15, rs1) := by
  have hk := ex_flu.2.1
  unfold Rl.flu
  rw [Rl.kin_ask hk, hk.l]
  rfl

def rs2 : Rl.Rs := (Rl.flu rs1 nmR).2
theorem nm_flu : (Rl.flu rs1 nmR).1 = 0 ∧ Rl.Kin rs2 [exR, nmR] ∧ rs2.d.has = false := Rl.flu_safe ex_flu.2.1 ex_flu.2.2 nmR nmL_ok rfl
theorem rs1_big : RBig rs1 := rbig_of (big_flu (c := exR) (s := rs0) big_new) (by decide) (by decide)

theorem nm_a : gv (Rl.tab [exR, nmR]) ⟨#[97]⟩ = ⟨#[57]⟩ ∧ Tm.met (Rl.tab [exR, nmR]) ⟨#[97]⟩ = true ∧ gp (Rl.tab [exR, nmR]) ⟨#[97]⟩ = true := by decide
theorem nm_b : gv (Rl.tab [exR, nmR]) ⟨#[98]⟩ = ⟨#[49]⟩ ∧ Tm.met (Rl.tab [exR, nmR]) ⟨#[98]⟩ = true ∧ gp (Rl.tab [exR, nmR]) ⟨#[98]⟩ = true := by decide
theorem nm_c : gv (Rl.tab [exR, nmR]) ⟨#[99]⟩ = ⟨#[]⟩ ∧ Tm.met (Rl.tab [exR, nmR]) ⟨#[99]⟩ = false ∧ gp (Rl.tab [exR, nmR]) ⟨#[99]⟩ = false := by decide

def opZ : Array Value := (Value.agg #[.bool false, .string ⟨#[]⟩, .string ⟨#[]⟩]).cells
theorem made_ops (n : Nat) : (madeCells opZ (n * 3)).toList = ocells (List.replicate n ⟨false, ⟨#[]⟩, ⟨#[]⟩⟩) := by
  apply List.ext_getElem?
  intro i
  have hsz : opZ.size = 3 := by kernel_rfl
  have hL : (madeCells opZ (n * 3)).toList[i]? = if i < n * 3 then some (opZ[i % 3]!) else none := by
    unfold madeCells
    rw [hsz]
    by_cases hi : i < n * 3
    · simp [hi]
    · simp [hi]
  rw [hL]
  by_cases hi : i < n * 3
  · rw [if_pos hi]
    obtain ⟨h0, h1, h2⟩ := ocells_at (List.replicate n ⟨false, ⟨#[]⟩, ⟨#[]⟩⟩) (i / 3) (by rw [List.length_replicate]; omega)
    simp only [List.getElem_replicate] at h0 h1 h2
    rcases (show i % 3 = 0 ∨ i % 3 = 1 ∨ i % 3 = 2 by omega) with e | e | e
    · rw [show i / 3 * 3 = i by omega] at h0
      rw [h0, e]
      rfl
    · rw [show i / 3 * 3 + 1 = i by omega] at h1
      rw [h1, e]
      rfl
    · rw [show i / 3 * 3 + 2 = i by omega] at h2
      rw [h2, e]
      rfl
  · rw [if_neg hi, List.getElem?_eq_none (by rw [ocells_len, List.length_replicate]; omega)]

/-- Ops without anything, one more than a run may have. -/
def many : List Bm.Ov := List.replicate 1025 ⟨false, ⟨#[]⟩, ⟨#[]⟩⟩
theorem many_cells : (madeCells (Value.agg #[.bool false, .string ⟨#[]⟩, .string ⟨#[]⟩]).cells (1025 * 3)).toList = ocells many := made_ops 1025
theorem many_fit : FitO many := fun o ho => by rw [List.eq_of_mem_replicate ho]; simp [ByteArray.size]
theorem many_len : many.length = 1025 := by unfold many; rw [List.length_replicate]
theorem many_bad : Rn.chk 1 1 many = 3 := by
  unfold Rn.chk
  rw [if_pos (by rw [many_len]; decide)]

set_option maxRecDepth 20000 in
set_option maxHeartbeats 4000000 in
theorem runNames_walk (w : World) : Calls Try.prog 3 #[] w fun e w' => e = .returned (.bool true) ∧ Below w.heap.size w w' := by
  go_enter Try.func3, Try.ntmps3
  go_wp2_with fail
  refine (lives_any w).mono ?_
  rintro E w0 ⟨rfl, b0⟩
  have B0 := hide b0
  clear b0
  go_wp2_with fail
  refine (new_any w0).mono ?_
  rintro E w1 ⟨rfl, K1, bel1⟩
  have HO := hide (rnew_any w0 w1 w0.heap.size (Nat.le_refl _) K1 bel1)
  clear K1 bel1
  go_wp2_with fail
  refine HO.out.mono ?_
  rintro E w2 ⟨p, F2, rfl, W2, g2, b2⟩
  obtain ⟨q, hq⟩ : ∃ q, q = w0.heap.size := ⟨_, rfl⟩
  rw [← hq] at W2
  have H2 := hide W2
  have G2 := hide g2
  have B2 := hide b2
  have HX := hide (example_any w2)
  unfold cmv at HX
  clear HO W2 g2 b2 hq
  go_wp2_with fail
  refine HX.out.mono ?_
  rintro E w3 ⟨v3, rfl, o3, b3⟩
  have HFL := hide (lflu_any w0 w3 p q F2 rs0 1 2 exL v3 (H2.out.below b3) G2.out (B2.out.trans (b3.mono B2.out.size)) rnew_big ⟨_, o3, H2.out.lt⟩ exL_fit ⟨⟨by omega, by omega⟩, ⟨by omega, by omega⟩⟩ (by simp [exL]))
  unfold cmv at HFL
  have e0 : (Rl.flu rs0 ⟨1, 2, exL⟩).1 = 0 := ex_flu.1
  rw [e0, show (Rl.flu rs0 ⟨1, 2, exL⟩).2 = rs1 from rfl] at HFL
  obtain ⟨a3, n3, k3, hv3⟩ : ∃ a n k, v3 = .slice a n k := by
    obtain ⟨a1, k1, h1, _⟩ := o3.is.shape
    exact ⟨a1, _, k1, h1⟩
  subst hv3
  clear HX H2 G2 B2 o3 b3 e0
  go_wp2_with fail
  refine HFL.out.mono ?_
  rintro E w4 ⟨rfl, F4, W4, g4, b4⟩
  have H4 := hide W4
  have HF4 := hide (lflu_any w0 w4 p q F4 rs1 4 4 [] (.slice none 0 0) W4 g4 b4 rs1_big ⟨w4.heap.size, OwnO.nil _ _ _, W4.lt⟩ (fun o ho => by simp at ho) ⟨⟨by omega, by omega⟩, ⟨by omega, by omega⟩⟩ (by simp))
  unfold cmv at HF4
  rw [nm_four] at HF4
  clear HFL W4 g4 b4 H4
  go_wp2_with fail
  refine HF4.out.mono ?_
  rintro E w5 ⟨rfl, F5, W5, g5, b5⟩
  obtain ⟨w6, hw6, sz6, bel6, own6⟩ := ops_step 35 w5 #[.bool true, .string ⟨#[97]⟩, .string ⟨#[57]⟩] 1 nmL rfl rfl (by simp [maxLen])
  have HF6 := hide (lflu_any w0 w6 p q F5 rs1 3 3 nmL _ (W5.below bel6) g5 (b5.trans (bel6.mono b5.size)) rs1_big ⟨_, own6, W5.lt⟩ nmL_fit ⟨⟨by omega, by omega⟩, ⟨by omega, by omega⟩⟩ (by simp [nmL]))
  unfold cmv at HF6
  have e6 : (Rl.flu rs1 ⟨3, 3, nmL⟩).1 = 0 := nm_flu.1
  rw [e6, show (Rl.flu rs1 ⟨3, 3, nmL⟩).2 = rs2 from rfl] at HF6
  clear HF4 W5 g5 b5 bel6 own6 e6
  go_wp2_with fail
  refine HF6.out.mono ?_
  rintro E w7 ⟨rfl, F7, W7, g7, b7⟩
  have hl2 : rs2.l = [exR, nmR] := nm_flu.2.1.l
  have HGA : Hid (∀ W, RW p q F7 W rs2 → ∀ k, Calls Try.prog 13 #[.pointer (some ⟨p, 0, none⟩), .string k] W fun E w' => E = .returned (.tuple #[.string (gv (Rl.tab [exR, nmR]) k), .bool (Tm.met (Rl.tab [exR, nmR]) k), .bool (gp (Rl.tab [exR, nmR]) k)]) ∧ Below W.heap.size W w') := hide fun W hW k => by
    have := hget_any p q F7 W rs2 k hW
    rw [hl2] at this
    exact this
  have W7 := hide W7
  have B7 := hide (B0.out.trans (b7.mono B0.out.size))
  have GA := hide (HGA.out w7 W7.out ⟨#[97]⟩)
  rw [nm_a.1, nm_a.2.1, nm_a.2.2] at GA
  clear HF6 g7 b7 hl2 B0
  go_wp2_with fail
  refine GA.out.mono ?_
  rintro E w8 ⟨rfl, b8⟩
  have W8 := hide (W7.out.below b8)
  have B8 := hide (B7.out.trans (b8.mono B7.out.size))
  have GB := hide (HGA.out w8 W8.out ⟨#[98]⟩)
  rw [nm_b.1, nm_b.2.1, nm_b.2.2] at GB
  clear GA W7 B7 b8
  go_wp2_with fail
  refine GB.out.mono ?_
  rintro E w9 ⟨rfl, b9⟩
  have W9 := hide (W8.out.below b9)
  have B9 := hide (B8.out.trans (b9.mono B8.out.size))
  have GC := hide (HGA.out w9 W9.out ⟨#[99]⟩)
  rw [nm_c.1, nm_c.2.1, nm_c.2.2] at GC
  clear GB W8 B8 b9 HGA
  go_wp2_with fail
  refine GC.out.mono ?_
  rintro E wa ⟨rfl, ba⟩
  have BA := hide (B9.out.trans (ba.mono B9.out.size))
  have C1 := hide (hcheck_any 2 1 (.slice none 0 0) [] wa (IsO.nil _) (fun o ho => by simp at ho) (by simp))
  unfold cmv at C1
  rw [nm0_bad] at C1
  clear GC W9 B9 ba
  go_wp2_with fail
  refine C1.out.mono ?_
  rintro E wb ⟨rfl, bb⟩
  have BB := hide (BA.out.trans (bb.mono BA.out.size))
  obtain ⟨wc, hwc, szc, belc, ownc⟩ := ops_step 35 wb #[.bool true, .string ⟨#[98]⟩, .string ⟨#[]⟩, .bool true, .string ⟨#[97]⟩, .string ⟨#[]⟩] 2 nmB rfl rfl (by simp [maxLen])
  have C2 := hide (hcheck_any 1 1 _ nmB wc ownc.is nmB_fit (by simp [nmB]))
  unfold cmv at C2
  rw [nmB_bad] at C2
  have BC := hide (BB.out.trans (belc.mono BB.out.size))
  clear C1 BA bb BB belc ownc
  go_wp2_with fail
  refine C2.out.mono ?_
  rintro E wd ⟨rfl, bd⟩
  have BD := hide (BC.out.trans (bd.mono BC.out.size))
  obtain ⟨i0, hi, hz0, hz1, hz2⟩ := info_parts Try.info35
  obtain ⟨we, hmk, owne, gre⟩ := run_make_full (P := Try.prog) wd wd.heap.size 30 35 i0 _ 3 Try.underlying30 hi hz0 hz1 .i64 .i64 1025 (by rw [hz2]; decide) (by simp [maxLen]) (Nat.le_refl _)
  have hmk' : (Instr.makeSlice 30 (.int .i64 1025) (.int .i64 1025)).run Try.prog wd = .ok (.slice (some ⟨wd.heap.size, 0, none⟩) 1025 1025) we := hmk
  have owne' : OwnO 35 wd.heap.size we (.slice (some ⟨wd.heap.size, 0, none⟩) 1025 1025) many := by
    unfold OwnO
    rw [many_cells] at owne
    rw [many_len]
    exact owne
  have bele : Below wd.heap.size wd we := (Below.refl _ _).grown gre (Nat.le_refl _) (by simp)
  have BE := hide (BD.out.trans (bele.mono BD.out.size))
  have C3 := hide (hcheck_any 1 1 _ many we owne'.is many_fit (by rw [many_len]; decide))
  unfold cmv at C3
  rw [many_bad] at C3
  clear hmk owne owne' gre bele i0 hi hz0 hz1 hz2 BD BC C2 bd
  go_wp2_with fail
  refine C3.out.mono ?_
  rintro E wf ⟨rfl, bf⟩
  go_wp2
  go_ret
  exact ⟨rfl, BE.out.trans (bf.mono BE.out.size)⟩

end Go.Proofs.Ythchcnflflafeaa

/- Proved: RunNames -/
namespace Go.Proofs.Ythchcnflflafeaa
open Go.ChangeShapes Go.WideShapes Go.ChangeAt Go.RowKit
open Go.ChangeMaps (open_string shut_string)
set_option linter.unusedVariables false

namespace runNamesFrame
theorem own : ownKnob Try.prog.godebug = none := by kernel_rfl
theorem laidOut : laidOutB Try.prog = true := by kernel_rfl

set_option maxRecDepth 100000 in
theorem lifted (os : Os) (started : os.Started) (H : Type) (enc : TypeId × Value → H) :
    ReturnsInHanded {} Try.checked os 3 .any (Rows.runNamesSpec.pre6 enc Try.prog Try.f3 Rows.runNamesRow.domain false) (Rows.runNamesSpec.post enc Try.prog Try.f3 false true false false) := by
  refine returnsInHanded_of_change_sized (C := Try.checked) own started (by kernel_rfl) Try.func3
    (ChangeSpec.witness6 (enc := enc) (C := Try.checked) false ⟨#[], #[], []⟩ 8 (by kernel_rfl) (by kernel_rfl) (by kernel_rfl) (by kernel_rfl)) ?_
  intro W base args ds gs before hval0 hW hcnd hsz0 _
  have hsz : (DataW.weightsEach Try.prog (Try.f3.params.toList ++ Rows.runNamesSpec.plain.varTypes Try.prog) (ds ++ gs)).all (· ≤ reachBytes) = true := hsz0
  clear hsz0
  have hval : ∀ (j : Nat) t v, Try.f3.params[j]? = some t → args[j]? = some v → Value.okWide Try.prog W .any base t v := hval0
  have hW' := hW
  obtain ⟨p, q, hA0, hV, rfl, hfz, hnd⟩ := hW
  have hA : DataW.TrodAll enc Try.prog W 0 (fun _ => true) true Try.f3.params.toList args.toList ds p := hA0
  rw [Try.params3] at hA hval hsz
  obtain ⟨rfl, rfl, rfl⟩ := trodAll_none hA
  obtain ⟨rfl, rfl⟩ := trodVars_none hV
  clear hA0 hval0
  refine (runNames_walk  W ).mono fun e W' ⟨he, bel⟩ => ?_
  subst he
  exact ⟨_, rfl, _, _, _, [], [], [], hW', trodAll_mk1 (shut_bool Try.underlying4 _), trodAll_mk0, rfl, bel.frame _, fun h => by cases h⟩

theorem over : Rows.runNamesRow.holds Try.pinned (OpenSpec.ofChange Rows.runNamesSpec) :=
  OpenClaim.holds_of_wide 3 Try.f3 rfl rfl rfl rfl rfl rfl rfl ⟨rfl, rfl, rfl, rfl, rfl⟩ rfl rfl rfl rfl rfl (by kernel_rfl) Try.func3 (by kernel_rfl)
    (of_decide_eq_true (by kernel_rfl)) (by unfold Func.isWrapper; first | (rw [if_pos (by decide +kernel)]; kernel_rfl) | (rw [if_neg (by decide +kernel)]; exact ⟨rfl, rfl⟩))
    (fun os started H enc _ => lifted os started H enc)
end runNamesFrame

/-- The statement. -/
theorem runNames_holds : Rows.RunNamesSaid := runNamesFrame.over
#print axioms runNames_holds
end Go.Proofs.Ythchcnflflafeaa
