/- Proved: StoreScript -/
import Derived.Test.YtmmfakpphjjjfaaGreatRows
import Derived.Test.YtmmfakpphjjjfaaGreatSScriptW
import Derived.ProofKit
import Derived.OpenShut
import Derived.ShutString
import Derived.ChangeOld
import Derived.Below
import Derived.SizedLaws
import Derived.Test.YtmmfakpphjjjfaaGreatG46
import Derived.Test.YtmmfakpphjjjfaaGreatG45
namespace Go.Proofs.YtmmfakpphjjjfaaGreat
open Go.ChangeShapes Go.WideShapes Go.ChangeAt Go.RowKit
open Go.ChangeMaps (open_string shut_string)
set_option linter.unusedVariables false

namespace storeScriptFrame
theorem own : ownKnob Tryz.prog.godebug = none := by kernel_rfl
theorem laidOut : laidOutB Tryz.prog = true := by kernel_rfl
theorem cells50 : Tryz.prog.cellsOf 50 = 3 := by kernel_rfl
theorem bytes50 : Tryz.prog.bytesOf 50 = 40 := by kernel_rfl
theorem cells65 : Tryz.prog.cellsOf 65 = 3 := by kernel_rfl
theorem bytes65 : Tryz.prog.bytesOf 65 = 40 := by kernel_rfl
theorem cells9 : Tryz.prog.cellsOf 9 = 1 := by kernel_rfl
theorem bytes9 : Tryz.prog.bytesOf 9 = 16 := by kernel_rfl
theorem cells52 : Tryz.prog.cellsOf 52 = 5 := by kernel_rfl
theorem bytes52 : Tryz.prog.bytesOf 52 = 56 := by kernel_rfl

set_option maxRecDepth 100000 in
theorem lifted (os : Os) (started : os.Started) (H : Type) (enc : TypeId × Value → H) :
  ReturnsInHanded {} Tryz.checked os 3 .any (Rows.storeScriptSpec.pre6 enc Tryz.prog Tryz.f3 Rows.storeScriptRow.domain false) (Rows.storeScriptSpec.post enc Tryz.prog Tryz.f3 false true false false) := by
 refine returnsInHanded_of_change_sized (C := Tryz.checked) own started (by kernel_rfl) Tryz.func3
  (ChangeSpec.witness6 (enc := enc) (C := Tryz.checked) false ⟨#[], #[.slice none 0 0, .slice none 0 0, .slice none 0 0, .int .i64 0], []⟩ 8 (by kernel_rfl) (by kernel_rfl) (by kernel_rfl) (by kernel_rfl)) ?_
 intro W base args ds gs before hval0 hW hcnd hsz0 _
 have hsz : (DataW.weightsEach Tryz.prog (Tryz.f3.params.toList ++ Rows.storeScriptSpec.plain.varTypes Tryz.prog) (ds ++ gs)).all (· ≤ reachBytes) = true := hsz0
 clear hsz0
 have hval : ∀ (j : Nat) t v, Tryz.f3.params[j]? = some t → args[j]? = some v → Value.okWide Tryz.prog W .any base t v := hval0
 have hW' := hW
 obtain ⟨p, q, hA0, hV, rfl, hfz, hnd⟩ := hW
 have hA : DataW.TrodAll enc Tryz.prog W 0 (fun _ => true) true Tryz.f3.params.toList args.toList ds p := hA0
 rw [Tryz.params3] at hA hval hsz
 obtain ⟨v0, vs0, d0, ds0, p0, q0, hargs, rfl, rfl, h0, r0⟩ := trodAll_cons hA
 obtain ⟨v1, vs1, d1, ds1, p1, q1, rfl, rfl, rfl, h1, r1⟩ := trodAll_cons r0
 obtain ⟨v2, vs2, d2, ds2, p2, q2, rfl, rfl, rfl, h2, r2⟩ := trodAll_cons r1
 obtain ⟨v3, vs3, d3, ds3, p3, q3, rfl, rfl, rfl, h3, r3⟩ := trodAll_cons r2
 obtain ⟨rfl, rfl, rfl⟩ := trodAll_nil r3
 obtain rfl : args = #[v0, v1, v2, v3] := by cases args; simp_all
 obtain ⟨rfl, rfl⟩ := trodVars_none hV
 obtain ⟨a0, len0, cap0, rfl⟩ := okWide_slice Tryz.underlying22 (hval 0 22 v0 rfl rfl)
 have k0 := h0
 have lt0 : ∀ x ∈ p0, x.block < W.heap.size := by obtain ⟨m, hm⟩ := k0; exact DataW.trod_lt m _ _ _ hm
 obtain ⟨z0, w0, g0, b0⟩ : ∃ r, IsC W (.slice a0 len0 cap0) r ∧ FitC r ∧ r.length * 40 ≤ 140737488351232 := by
  obtain ⟨fuel, hf⟩ := h0
  have hf' : DataW.trod enc Tryz.prog W 0 (fun _ => true) true fuel 22 [.slice a0 len0 cap0] = some (d0, p0) := by simpa [Value.cells] using hf
  obtain ⟨r, hr, hd⟩ := open_coms Tryz.underlying22 Tryz.underlying50 (by kernel_rfl) cells50 Tryz.underlying3 Tryz.underlying3 Tryz.underlying48 Tryz.underlying65 (by kernel_rfl) cells65 Tryz.underlying4 Tryz.underlying9 Tryz.underlying9 hf'
  rcases hd with ⟨_, rfl⟩ | ⟨es, sp, hd, hln, hes⟩
  ·exact ⟨[], hr, fun c hc => by simp at hc, by simp⟩
  ·simp only at hd
   rw [hd] at hsz
   obtain ⟨h1, h2⟩ := sized_coms hsz (j := 0) (t := 22) (e := 50) rfl rfl hln hes Tryz.underlying22 Tryz.underlying50 bytes50 Tryz.underlying48 Tryz.underlying65 bytes65
   exact ⟨r, hr, h1, h2⟩
 obtain ⟨a1, len1, cap1, rfl⟩ := okWide_slice Tryz.underlying23 (hval 1 23 v1 rfl rfl)
 have k1 := h1
 have lt1 : ∀ x ∈ p1, x.block < W.heap.size := by obtain ⟨m, hm⟩ := k1; exact DataW.trod_lt m _ _ _ hm
 obtain ⟨z1, w1, g1, b1⟩ : ∃ r, IsR W (.slice a1 len1 cap1) r ∧ FitR r ∧ r.length * 56 ≤ 140737488351232 := by
  obtain ⟨fuel, hf⟩ := h1
  have hf' : DataW.trod enc Tryz.prog W 0 (fun _ => true) true fuel 23 [.slice a1 len1 cap1] = some (d1, p1) := by simpa [Value.cells] using hf
  obtain ⟨r, hr, hd⟩ := open_rs Tryz.underlying23 Tryz.underlying52 ⟨by kernel_rfl, by kernel_rfl, by kernel_rfl⟩ ⟨by kernel_rfl, by kernel_rfl, by kernel_rfl⟩ cells52 Tryz.underlying3 Tryz.underlying3 Tryz.underlying50 (by kernel_rfl) Tryz.underlying3 Tryz.underlying3 Tryz.underlying48 Tryz.underlying65 (by kernel_rfl) cells65 Tryz.underlying4 Tryz.underlying9 Tryz.underlying9 hf'
  rcases hd with ⟨_, rfl⟩ | ⟨es, sp, hd, hln, hes⟩
  ·exact ⟨[], hr, fun c hc => by simp at hc, by simp⟩
  ·simp only at hd
   rw [hd] at hsz
   obtain ⟨h1, h2⟩ := sized_rs hsz (j := 1) (t := 23) (e := 52) rfl rfl hln hes Tryz.underlying23 Tryz.underlying52 bytes52 Tryz.underlying50 Tryz.underlying48 Tryz.underlying65 bytes65
   exact ⟨r, hr, h1, h2⟩
 obtain ⟨a2, len2, cap2, rfl⟩ := okWide_slice Tryz.underlying24 (hval 2 24 v2 rfl rfl)
 have k2 := h2
 have lt2 : ∀ x ∈ p2, x.block < W.heap.size := by obtain ⟨m, hm⟩ := k2; exact DataW.trod_lt m _ _ _ hm
 obtain ⟨z2, w2, g2, b2⟩ : ∃ r, IsS W (.slice a2 len2 cap2) r ∧ FitS r ∧ r.length * 16 ≤ 140737488351232 := by
  obtain ⟨fuel, hf⟩ := h2
  have hf' : DataW.trod enc Tryz.prog W 0 (fun _ => true) true fuel 24 [.slice a2 len2 cap2] = some (d2, p2) := by simpa [Value.cells] using hf
  obtain ⟨r, hr, hd⟩ := open_strs Tryz.underlying24 Tryz.underlying9 cells9 hf'
  rcases hd with ⟨_, rfl⟩ | ⟨es, sp, hd, hln, hes⟩
  ·exact ⟨[], hr, fun c hc => by simp at hc, by simp⟩
  ·simp only at hd
   rw [hd] at hsz
   obtain ⟨h1, h2⟩ := sized_strs hsz (j := 2) (t := 24) (e := 9) rfl rfl hln hes Tryz.underlying24 Tryz.underlying9 bytes9
   exact ⟨r, hr, h1, h2⟩
 obtain ⟨a3, rfl, rfl, rfl, w3⟩ := open_int Tryz.underlying3 (hval 3 3 v3 rfl rfl) h3
 clear hA0 hval0
 refine (storeScript_walk _ z0 _ z1 _ z2 a3 W w0 g0 b0 w1 g1 b1 w2 g2 b2 w3).mono fun e W' ⟨he, bel⟩ => ?_
 subst he
 exact ⟨_, rfl, _, _, _, [], _, [], hW', trodAll_mk1 (shut_bool Tryz.underlying4 _), (trodAll_cons_mk (Below.trod laidOut (by kernel_rfl) (of_decide_eq_true (by kernel_rfl)) k0 bel lt0) (trodAll_cons_mk (Below.trod laidOut (by kernel_rfl) (of_decide_eq_true (by kernel_rfl)) k1 bel lt1) (trodAll_cons_mk (Below.trod laidOut (by kernel_rfl) (of_decide_eq_true (by kernel_rfl)) k2 bel lt2) (trodAll_cons_mk (shut_int Tryz.underlying3 w3) trodAll_mk0)))), rfl, bel.frame _, fun h => by cases h⟩

theorem over : Rows.storeScriptRow.holds Tryz.pinned (OpenSpec.ofChange Rows.storeScriptSpec) :=
 OpenClaim.holds_of_wide 3 Tryz.f3 rfl rfl rfl rfl rfl rfl rfl ⟨rfl, rfl, rfl, rfl, rfl⟩ rfl rfl rfl rfl rfl (by kernel_rfl) Tryz.func3 (by kernel_rfl)
  (of_decide_eq_true (by kernel_rfl)) (by unfold Func.isWrapper; first | (rw [if_pos (by decide +kernel)]; kernel_rfl) | (rw [if_neg (by decide +kernel)]; exact ⟨rfl, rfl⟩))
  (fun os started H enc _ => lifted os started H enc)
end storeScriptFrame

theorem storeScript_holds : Rows.StoreScriptSaid := storeScriptFrame.over
#print axioms storeScript_holds
end Go.Proofs.YtmmfakpphjjjfaaGreat
