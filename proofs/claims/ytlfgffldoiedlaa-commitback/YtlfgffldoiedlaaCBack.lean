/- Proved: CommitBack returns true of any end, any two lists of commits and any bytes, with no panic, and leaves what came in as it was. -/
import Derived.Test.YtlfgffldoiedlaaRows
import Derived.Test.YtlfgffldoiedlaaCBackW
import Derived.ProofKit
import Derived.OpenShut
import Derived.ShutString
import Derived.ChangeOld
import Derived.Below
import Derived.SizedLaws
import Derived.Test.YtlfgffldoiedlaaFrc
namespace Go.Proofs.Ytlfgffldoiedlaa
open Go.ChangeShapes Go.WideShapes Go.ChangeAt Go.RowKit
open Go.ChangeMaps (open_string shut_string)
set_option linter.unusedVariables false

namespace commitBackFrame
theorem own : ownKnob Try.prog.godebug = none := by kernel_rfl
theorem laidOut : laidOutB Try.prog = true := by kernel_rfl
theorem bytes5 : Try.prog.bytesOf 5 = 1 := by kernel_rfl
theorem cells24 : Try.prog.cellsOf 24 = 3 := by kernel_rfl
theorem bytes24 : Try.prog.bytesOf 24 = 40 := by kernel_rfl
theorem cells58 : Try.prog.cellsOf 58 = 3 := by kernel_rfl
theorem bytes58 : Try.prog.bytesOf 58 = 40 := by kernel_rfl

set_option maxRecDepth 100000 in
theorem lifted (os : Os) (started : os.Started) (H : Type) (enc : TypeId × Value → H) :
    ReturnsInHanded {} Try.checked os 7 .any (Rows.commitBackSpec.pre6 enc Try.prog Try.f7 Rows.commitBackRow.domain false) (Rows.commitBackSpec.post enc Try.prog Try.f7 false true false false) := by
  refine returnsInHanded_of_change_sized (C := Try.checked) own started (by kernel_rfl) Try.func7
    (ChangeSpec.witness6 (enc := enc) (C := Try.checked) false ⟨#[], #[.int .i64 0, .int .i64 0, .slice none 0 0, .slice none 0 0, .slice none 0 0], []⟩ 8 (by kernel_rfl) (by kernel_rfl) (by kernel_rfl) (by kernel_rfl)) ?_
  intro W base args ds gs before hval0 hW hcnd hsz0 _
  have hsz : (DataW.weightsEach Try.prog (Try.f7.params.toList ++ Rows.commitBackSpec.plain.varTypes Try.prog) (ds ++ gs)).all (· ≤ reachBytes) = true := hsz0
  clear hsz0
  have hval : ∀ (j : Nat) t v, Try.f7.params[j]? = some t → args[j]? = some v → Value.okWide Try.prog W .any base t v := hval0
  have hW' := hW
  obtain ⟨p, q, hA0, hV, rfl, hfz, hnd⟩ := hW
  have hA : DataW.TrodAll enc Try.prog W 0 (fun _ => true) true Try.f7.params.toList args.toList ds p := hA0
  rw [Try.params7] at hA hval hsz
  obtain ⟨v0, vs0, d0, ds0, p0, q0, hargs, rfl, rfl, h0, r0⟩ := trodAll_cons hA
  obtain ⟨v1, vs1, d1, ds1, p1, q1, rfl, rfl, rfl, h1, r1⟩ := trodAll_cons r0
  obtain ⟨v2, vs2, d2, ds2, p2, q2, rfl, rfl, rfl, h2, r2⟩ := trodAll_cons r1
  obtain ⟨v3, vs3, d3, ds3, p3, q3, rfl, rfl, rfl, h3, r3⟩ := trodAll_cons r2
  obtain ⟨v4, vs4, d4, ds4, p4, q4, rfl, rfl, rfl, h4, r4⟩ := trodAll_cons r3
  obtain ⟨rfl, rfl, rfl⟩ := trodAll_nil r4
  obtain rfl : args = #[v0, v1, v2, v3, v4] := by cases args; simp_all
  obtain ⟨rfl, rfl⟩ := trodVars_none hV
  obtain ⟨a0, rfl, rfl, rfl, w0⟩ := open_int Try.underlying3 (hval 0 3 v0 rfl rfl) h0
  obtain ⟨a1, rfl, rfl, rfl, w1⟩ := open_int Try.underlying3 (hval 1 3 v1 rfl rfl) h1
  obtain ⟨a2, len2, cap2, rfl⟩ := okWide_slice Try.underlying34 (hval 2 34 v2 rfl rfl)
  have k2 := h2
  have lt2 : ∀ x ∈ p2, x.block < W.heap.size := by obtain ⟨m, hm⟩ := k2; exact DataW.trod_lt m _ _ _ hm
  obtain ⟨z2, w2, g2, b2⟩ : ∃ r, IsC W (.slice a2 len2 cap2) r ∧ FitC r ∧ r.length * 40 ≤ 140737488351232 := by
    obtain ⟨fuel, hf⟩ := h2
    have hf' : DataW.trod enc Try.prog W 0 (fun _ => true) true fuel 34 [.slice a2 len2 cap2] = some (d2, p2) := by simpa [Value.cells] using hf
    obtain ⟨r, hr, hd⟩ := open_coms Try.underlying34 Try.underlying24 (by kernel_rfl) cells24 Try.underlying3 Try.underlying3 Try.underlying22 Try.underlying58 (by kernel_rfl) cells58 Try.underlying4 Try.underlying9 Try.underlying9 hf'
    rcases hd with ⟨_, rfl⟩ | ⟨es, sp, hd, hln, hes⟩
    · exact ⟨[], hr, fun c hc => by simp at hc, by simp⟩
    · simp only at hd
      rw [hd] at hsz
      obtain ⟨h1, h2⟩ := sized_coms hsz (j := 2) (t := 34) (e := 24) rfl rfl hln hes Try.underlying34 Try.underlying24 bytes24 Try.underlying22 Try.underlying58 bytes58
      exact ⟨r, hr, h1, h2⟩
  obtain ⟨a3, len3, cap3, rfl⟩ := okWide_slice Try.underlying34 (hval 3 34 v3 rfl rfl)
  have k3 := h3
  have lt3 : ∀ x ∈ p3, x.block < W.heap.size := by obtain ⟨m, hm⟩ := k3; exact DataW.trod_lt m _ _ _ hm
  obtain ⟨z3, w3, g3, b3⟩ : ∃ r, IsC W (.slice a3 len3 cap3) r ∧ FitC r ∧ r.length * 40 ≤ 140737488351232 := by
    obtain ⟨fuel, hf⟩ := h3
    have hf' : DataW.trod enc Try.prog W 0 (fun _ => true) true fuel 34 [.slice a3 len3 cap3] = some (d3, p3) := by simpa [Value.cells] using hf
    obtain ⟨r, hr, hd⟩ := open_coms Try.underlying34 Try.underlying24 (by kernel_rfl) cells24 Try.underlying3 Try.underlying3 Try.underlying22 Try.underlying58 (by kernel_rfl) cells58 Try.underlying4 Try.underlying9 Try.underlying9 hf'
    rcases hd with ⟨_, rfl⟩ | ⟨es, sp, hd, hln, hes⟩
    · exact ⟨[], hr, fun c hc => by simp at hc, by simp⟩
    · simp only at hd
      rw [hd] at hsz
      obtain ⟨h1, h2⟩ := sized_coms hsz (j := 3) (t := 34) (e := 24) rfl rfl hln hes Try.underlying34 Try.underlying24 bytes24 Try.underlying22 Try.underlying58 bytes58
      exact ⟨r, hr, h1, h2⟩
  obtain ⟨a4, len4, cap4, rfl⟩ := okWide_slice Try.underlying28 (hval 4 28 v4 rfl rfl)
  have k4 := h4
  have lt4 : ∀ x ∈ p4, x.block < W.heap.size := by obtain ⟨m, hm⟩ := k4; exact DataW.trod_lt m _ _ _ hm
  obtain ⟨z4, w4, b4⟩ : ∃ zs, Is .u8 W (.slice a4 len4 cap4) zs ∧ zs.length * 1 ≤ 140737488351232 := by
    obtain ⟨fuel, hf⟩ := h4
    rcases open_ints Try.underlying28 Try.underlying5 (by kernel_rfl) hf with ⟨hcs, _⟩ | ⟨x, l, c, zs, hcs, _, hl, hm, hz, hx, hcell, hwz⟩
    · simp [Value.cells] at hcs
      obtain ⟨rfl, rfl, rfl⟩ := hcs
      exact ⟨[], Is.nil _ _, by simp⟩
    · simp [Value.cells] at hcs
      obtain ⟨rfl, rfl, rfl⟩ := hcs
      have hd : d4 = _ := (Prod.mk.inj hx).1
      have hzl : zs.length = cap4 := by simpa using hz
      have hlen : (zs.take len4).length = len4 := by rw [List.length_take]; omega
      refine ⟨zs.take len4, ⟨fun z hz => hwz z (List.mem_of_mem_take hz), .inr ⟨x, cap4, by rw [hlen], by omega, hm, fun j hj => ?_⟩⟩, ?_⟩
      · rw [hlen] at hj
        rw [hcell j (by omega)]
        simp [List.getD, hj]
      · rw [hd] at hsz
        have := sized_slice hsz (j := 4) (t := 28) (e := 5) rfl rfl Try.underlying28
        rw [bytes5] at this
        simp only [lits, List.length_map, List.length_take, List.length_drop, reachBytes] at this
        rw [hlen]
        omega
  clear hA0 hval0
  refine (commitBack_walk a0 a1 _ z2 _ z3 _ z4 W w0 w1 w2 g2 b2 w3 g3 b3 w4 b4).mono fun e W' ⟨he, bel⟩ => ?_
  subst he
  exact ⟨_, rfl, _, _, _, [], _, [], hW', trodAll_mk1 (shut_bool Try.underlying4 _), (trodAll_cons_mk (shut_int Try.underlying3 w0) (trodAll_cons_mk (shut_int Try.underlying3 w1) (trodAll_cons_mk (Below.trod laidOut (by kernel_rfl) (of_decide_eq_true (by kernel_rfl)) k2 bel lt2) (trodAll_cons_mk (Below.trod laidOut (by kernel_rfl) (of_decide_eq_true (by kernel_rfl)) k3 bel lt3) (trodAll_cons_mk (Below.trod laidOut (by kernel_rfl) (of_decide_eq_true (by kernel_rfl)) k4 bel lt4) trodAll_mk0))))), rfl, bel.frame _, fun h => by cases h⟩

theorem over : Rows.commitBackRow.holds Try.pinned (OpenSpec.ofChange Rows.commitBackSpec) :=
  OpenClaim.holds_of_wide 7 Try.f7 rfl rfl rfl rfl rfl rfl rfl ⟨rfl, rfl, rfl, rfl, rfl⟩ rfl rfl rfl rfl rfl (by kernel_rfl) Try.func7 (by kernel_rfl)
    (of_decide_eq_true (by kernel_rfl)) (by unfold Func.isWrapper; first | (rw [if_pos (by decide +kernel)]; kernel_rfl) | (rw [if_neg (by decide +kernel)]; exact ⟨rfl, rfl⟩))
    (fun os started H enc _ => lifted os started H enc)
end commitBackFrame

/-- The statement. -/
theorem commitBack_holds : Rows.CommitBackSaid := commitBackFrame.over
#print axioms commitBack_holds
end Go.Proofs.Ytlfgffldoiedlaa
