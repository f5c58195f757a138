/- Texts of one layer, one behind the other. -/
import Derived.Test.YtofbnkeglhhnlaaGH
import Derived.Test.YtofbnkeglhhnlaaGF
import Derived.Test.YtofbnkeglhhnlaaRows
import Derived.ProofKit
import Derived.OpenShut
import Derived.ShutString
import Derived.ChangeOld
import Derived.Below
import Derived.SizedLaws
import Derived.Test.YtofbnkeglhhnlaaGI
/- TxnScript: the walk. -/
namespace Go.Proofs.Ytofbnkeglhhnlaa
open Go.RowKit
open Bm (Ov)
set_option linter.unusedVariables false

set_option maxRecDepth 20000 in
set_option maxHeartbeats 8000000 in
theorem txnScript_walk (v : Value) (l : List Tc) (w : World) (h : IsT w v l) (hf : FitT l) (hl : l.length * 48 ≤ 140737488351232) :
    Calls Try.prog 4 #[v] w fun e w' => e = .returned (.bool true) ∧ Below w.heap.size w w' := by
  have HQ := hide h
  have HFQ := hide hf
  obtain ⟨qa, qc, hv, _, _⟩ := h.1.shape
  subst hv
  clear h hf
  go_enter Try.func4, Try.ntmps4
  go_wp2_with fail
  refine (tlives_any w).mono ?_
  rintro E w1 ⟨rfl, b1⟩
  have B1 := hide b1
  clear b1
  by_cases hl60 : 60 < l.length
  · have hl60' : (60 : Int) < l.length := by omega
    go_wp2
    go_ret
    exact ⟨rfl, B1.out⟩
  have hl60' : ¬ (60 : Int) < l.length := by omega
  go_wp2_with fail
  refine (zbegin_any w1).mono ?_
  rintro E w2 ⟨p, F, rfl, h2, fb2, b2⟩
  have H2 := hide h2
  have FB2 := hide fb2
  have B2 := hide b2
  clear h2 fb2 b2
  go_wp2_with fail
  refine (nbegin_any w2).mono ?_
  rintro E w3 ⟨x, G, rfl, h3, gb3, b3⟩
  have T0 : Hid (PT w1 w3 Tx.new Tx.new p x F G) := hide ⟨H2.out.below b3, h3, fun g hg e => by
    have m1 := H2.out.lt g hg
    have m2 := gb3 g e
    omega, FB2.out, fun g hg => Nat.le_trans B2.out.size (gb3 g hg), B2.out.trans (b3.mono B2.out.size)⟩
  clear H2 FB2 B2 h3 gb3 b3
  go_wp2
  go_loopw [5] (fun iv wr => ∃ (j : Nat) (s : Tx.St) (F G : Nat → Prop), iv = .int .i64 j ∧ j ≤ l.length ∧ Hid (PT w1 wr s s p x F G)) (fun iv _ => l.length - (intOf iv).toNat)
  case atStart => exact ⟨0, _, F, G, rfl, by omega, T0⟩
  case round =>
    obtain ⟨j, s, F1, G1, rfl, hj, HP⟩ := hrel
    clear T0
    by_cases hlt : j < l.length
    · obtain ⟨qb, qo, qk, hvx, _, _, _, hcell⟩ := ((HQ.out.below B1.out).below HP.out.bel).full (by omega)
      simp only [Value.slice.injEq, true_and] at hvx
      obtain ⟨rfl, rfl⟩ := hvx
      obtain ⟨a, ha⟩ : ∃ a, l[j]? = some a := ⟨l[j], by rw [List.getElem?_eq_getElem]⟩
      obtain ⟨d0, d1, d2, d3⟩ := hcell j a ha
      have hm := List.mem_of_getElem? ha
      have PC := hide (tcall_any w1 wr s p x F1 G1 HP.out a (HQ.out.2 a hm) (HFQ.out a hm))
      unfold tcv at PC
      have hlt' : (j : Int) < l.length := by omega
      have hj0 : (0 : Int) ≤ (j : Int) := by omega
      clear hcell ha hm
      go_wp2_with fail
      refine PC.out.mono ?_
      rintro E w6 ⟨rfl, s6, F6, G6, P6⟩
      have HP6 := hide P6
      have L1 := hide (zlen_any p F6 w6 s6 P6.ps)
      have L2 := hide (nlen_any x G6 w6 s6 P6.nx)
      generalize Tx.len s6 = n6 at *
      clear PC P6 HP d0 d1 d2 d3
      go_wp2_with fail
      refine L1.out.mono ?_
      rintro E w7 ⟨rfl, rfl⟩
      go_wp2_with fail
      refine L2.out.mono ?_
      rintro E w7 ⟨rfl, rfl⟩
      clear L1 L2
      go_wp2
      obtain ⟨wq, hwq⟩ : ∃ z, z = wr := ⟨_, rfl⟩
      clear hwq
      go_loopw [6] (fun kv wr => ∃ k : Nat, kv = .int .i64 k ∧ k ≤ j + 1 ∧ Hid (PT w1 wr s6 s6 p x F6 G6)) (fun kv _ => j + 1 - (intOf kv).toNat)
      case atStart => exact ⟨0, rfl, by omega, HP6⟩
      case round =>
        obtain ⟨k, rfl, hk, HP7⟩ := hrel
        clear HP6
        by_cases hkj : k ≤ j
        · obtain ⟨qb, qo, qk, hvx, _, _, _, hcell⟩ := ((HQ.out.below B1.out).below HP7.out.bel).full (by omega)
          simp only [Value.slice.injEq, true_and, Option.some.injEq, Addr.mk.injEq] at hvx
          obtain ⟨⟨rfl, rfl, _⟩, rfl⟩ := hvx
          obtain ⟨c, hc⟩ : ∃ c, l[k]? = some c := ⟨l[k], by rw [List.getElem?_eq_getElem]⟩
          obtain ⟨d0, d1, d2, d3⟩ := hcell k c hc
          have hkl : (k : Int) < l.length := by omega
          have hk0 : (0 : Int) ≤ (k : Int) := by omega
          have hkj' : (k : Int) ≤ j := by omega
          have X1 := hide (zget_any p F6 wr s6 c.key HP7.out.ps)
          have HD : Hid (∀ W, Below wr.heap.size wr W → W.cell? ⟨qb, qo + k * 4 + 1, none⟩ = some (.string c.key) ∧ Calls Try.prog 21 #[.pointer (some ⟨x, 0, none⟩), .string c.key] W fun E w' => E = .returned (.tuple #[.string (Tx.gtV s6 c.key), .bool (Tx.gtM s6 c.key), .bool (Tx.gtT s6 c.key)]) ∧ Hid (PT w1 w' s6 s6 p x F6 G6)) := hide fun W hW => by
            have hT := HP7.out.below hW
            refine ⟨(hW.cell (p := ⟨qb, qo + k * 4 + 1, none⟩) (by assumption)).trans d1, (nget_any x G6 W s6 c.key hT.nx).mono ?_⟩
            rintro E w' ⟨rfl, m, rfl⟩
            exact ⟨rfl, hide (hT.below (below_drewN (Below.refl _ _) m))⟩
          generalize Tx.gtV s6 c.key = gv at *
          generalize Tx.gtM s6 c.key = gm at *
          generalize Tx.gtT s6 c.key = gt at *
          have e1 : (gv.toList == gv.toList) = true := by simp
          have e2 : (gm == gm) = true := by simp
          have e3 : (gt == gt) = true := by simp
          clear hcell hc d0 d2 d3
          go_wp2_with fail
          refine X1.out.mono ?_
          rintro E w8 ⟨rfl, b8⟩
          obtain ⟨f1, X2⟩ := HD.out w8 b8
          have X2h := hide X2
          clear X1 X2 HD b8 d1
          go_wp2_with fail
          refine X2h.out.mono ?_
          rintro E w9 ⟨rfl, HP9⟩
          clear X2h HP7
          go_wp2
          go_roundw
          case rel => exact ⟨k + 1, by go_num, by omega, HP9⟩
          case measure => simp [intOf]; omega
        · have hkj' : ¬ (k : Int) ≤ j := by omega
          go_wp2
          go_roundw
          case rel => exact ⟨j + 1, s6, F6, G6, by go_num, by omega, HP7⟩
          case measure => simp [intOf]; omega
    · have hlt' : ¬ (j : Int) < l.length := by omega
      go_wp2
      go_ret
      exact ⟨rfl, B1.out.trans (HP.out.bel.mono B1.out.size)⟩

end Go.Proofs.Ytofbnkeglhhnlaa

/- Proved: TxnScript -/
namespace Go.Proofs.Ytofbnkeglhhnlaa
open Go.ChangeShapes Go.WideShapes Go.ChangeAt Go.RowKit
open Go.ChangeMaps (open_string shut_string)
set_option linter.unusedVariables false

namespace txnScriptFrame
theorem own : ownKnob Try.prog.godebug = none := by kernel_rfl
theorem laidOut : laidOutB Try.prog = true := by kernel_rfl
theorem cells43 : Try.prog.cellsOf 43 = 4 := by kernel_rfl
theorem bytes43 : Try.prog.bytesOf 43 = 48 := by kernel_rfl

set_option maxRecDepth 100000 in
theorem lifted (os : Os) (started : os.Started) (H : Type) (enc : TypeId × Value → H) :
    ReturnsInHanded {} Try.checked os 4 .any (Rows.txnScriptSpec.pre6 enc Try.prog Try.f4 Rows.txnScriptRow.domain false) (Rows.txnScriptSpec.post enc Try.prog Try.f4 false true false false) := by
  refine returnsInHanded_of_change_sized (C := Try.checked) own started (by kernel_rfl) Try.func4
    (ChangeSpec.witness6 (enc := enc) (C := Try.checked) false ⟨#[], #[.slice none 0 0], []⟩ 8 (by kernel_rfl) (by kernel_rfl) (by kernel_rfl) (by kernel_rfl)) ?_
  intro W base args ds gs before hval0 hW hcnd hsz0 _
  have hsz : (DataW.weightsEach Try.prog (Try.f4.params.toList ++ Rows.txnScriptSpec.plain.varTypes Try.prog) (ds ++ gs)).all (· ≤ reachBytes) = true := hsz0
  clear hsz0
  have hval : ∀ (j : Nat) t v, Try.f4.params[j]? = some t → args[j]? = some v → Value.okWide Try.prog W .any base t v := hval0
  have hW' := hW
  obtain ⟨p, q, hA0, hV, rfl, hfz, hnd⟩ := hW
  have hA : DataW.TrodAll enc Try.prog W 0 (fun _ => true) true Try.f4.params.toList args.toList ds p := hA0
  rw [Try.params4] at hA hval hsz
  obtain ⟨v0, vs0, d0, ds0, p0, q0, hargs, rfl, rfl, h0, r0⟩ := trodAll_cons hA
  obtain ⟨rfl, rfl, rfl⟩ := trodAll_nil r0
  obtain rfl : args = #[v0] := by cases args; simp_all
  obtain ⟨rfl, rfl⟩ := trodVars_none hV
  obtain ⟨a0, len0, cap0, rfl⟩ := okWide_slice Try.underlying38 (hval 0 38 v0 rfl rfl)
  have k0 := h0
  have lt0 : ∀ x ∈ p0, x.block < W.heap.size := by obtain ⟨m, hm⟩ := k0; exact DataW.trod_lt m _ _ _ hm
  obtain ⟨z0, w0, g0, b0⟩ : ∃ l, IsT W (.slice a0 len0 cap0) l ∧ FitT l ∧ l.length * 48 ≤ 140737488351232 := by
    obtain ⟨fuel, hf⟩ := h0
    have hf' : DataW.trod enc Try.prog W 0 (fun _ => true) true fuel 38 [.slice a0 len0 cap0] = some (d0, p0) := by simpa [Value.cells] using hf
    obtain ⟨l, hl, hd⟩ := open_ts Try.underlying38 Try.underlying43 (by kernel_rfl) cells43 Try.underlying3 Try.underlying9 Try.underlying9 Try.underlying3 hf'
    rcases hd with ⟨_, rfl⟩ | ⟨sp, hd⟩
    · exact ⟨[], hl, fun o ho => by simp at ho, by simp⟩
    · simp only at hd
      rw [hd] at hsz
      obtain ⟨h1, h2⟩ := sized_ts hsz (j := 0) (t := 38) (e := 43) rfl rfl Try.underlying38 Try.underlying43 bytes43
      exact ⟨l, hl, h1, h2⟩
  clear hA0 hval0
  refine (txnScript_walk _ z0 W w0 g0 b0).mono fun e W' ⟨he, bel⟩ => ?_
  subst he
  exact ⟨_, rfl, _, _, _, [], _, [], hW', trodAll_mk1 (shut_bool Try.underlying4 _), (trodAll_cons_mk (Below.trod laidOut (by kernel_rfl) (of_decide_eq_true (by kernel_rfl)) k0 bel lt0) trodAll_mk0), rfl, bel.frame _, fun h => by cases h⟩

theorem over : Rows.txnScriptRow.holds Try.pinned (OpenSpec.ofChange Rows.txnScriptSpec) :=
  OpenClaim.holds_of_wide 4 Try.f4 rfl rfl rfl rfl rfl rfl rfl ⟨rfl, rfl, rfl, rfl, rfl⟩ rfl rfl rfl rfl rfl (by kernel_rfl) Try.func4 (by kernel_rfl)
    (of_decide_eq_true (by kernel_rfl)) (by unfold Func.isWrapper; first | (rw [if_pos (by decide +kernel)]; kernel_rfl) | (rw [if_neg (by decide +kernel)]; exact ⟨rfl, rfl⟩))
    (fun os started H enc _ => lifted os started H enc)
end txnScriptFrame

/-- The statement. -/
theorem txnScript_holds : Rows.TxnScriptSaid := txnScriptFrame.over
#print axioms txnScript_holds
end Go.Proofs.Ytofbnkeglhhnlaa
