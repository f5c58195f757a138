/- Texts of one layer, one behind the other. -/
import Derived.Test.YtofbnkeglhhnlaaGE
import Derived.Test.YtofbnkeglhhnlaaGF
import Derived.Test.YtofbnkeglhhnlaaRows
import Derived.ProofKit
import Derived.OpenShut
import Derived.ShutString
import Derived.ChangeOld
import Derived.Below
import Derived.SizedLaws
import Derived.Test.YtofbnkeglhhnlaaGI
/- A txn that is not there, or that nobody made. -/
namespace Go.Proofs.Ytofbnkeglhhnlaa
open Go.RowKit
open Bm (Ov)
set_option linter.unusedVariables false

/-- No txn. -/
def NoZ (w : World) (v : Value) : Prop := v = .pointer none ∨ ∃ p, v = .pointer (some ⟨p, 0, none⟩) ∧ w.heap[p]? = some (.cells #[.int .u8 0, .slice none 0 0] 48 (0, 0))

theorem NoZ.below {w w' : World} {v : Value} (h : NoZ w v) (hb : Below w.heap.size w w') : NoZ w' v := by
  rcases h with h | ⟨p, h1, h2⟩
  · exact .inl h
  · exact .inr ⟨p, h1, (hb.block p (blk_lt h2)).trans h2⟩

theorem NoZ.form {w : World} {v : Value} (h : NoZ w v) : ∃ a, v = .pointer a := by
  rcases h with h | ⟨p, h1, _⟩
  · exact ⟨_, h⟩
  · exact ⟨_, h1⟩

set_option maxHeartbeats 400000 in
theorem yask_no (w : World) (v : Value) (h : NoZ w v) : Calls Try.prog 26 #[v] w fun E w' => E = .returned (.int .i64 1) ∧ w = w' := by
  rcases h with rfl | ⟨p, rfl, h2⟩
  · go_enter Try.func26, Try.ntmps26
    go_wp2
    go_ret
    exact ⟨rfl, rfl⟩
  · have c0 : w.cell? ⟨p, 0, none⟩ = some (.int .u8 0) := blk_cell h2 0 rfl
    clear h2
    go_enter Try.func26, Try.ntmps26
    go_wp2
    go_ret
    exact ⟨rfl, rfl⟩

theorem yget_no (w : World) (v : Value) (k : ByteArray) (h : NoZ w v) : Calls Try.prog 13 #[v, .string k] w fun E w' => E = .returned (.tuple #[.string ⟨#[]⟩, .bool false, .bool false]) ∧ Below w.heap.size w w' :=
  zget_no w v k 1 (by decide) h.form fun W hW => yask_no W v (h.below hW)

theorem ylen_no (w : World) (v : Value) (h : NoZ w v) : Calls Try.prog 19 #[v] w fun E w' => E = .returned (.int .i64 0) ∧ w = w' := by
  have HA := hide (yask_no w v h)
  obtain ⟨a, rfl⟩ := h.form
  clear h
  go_enter Try.func19, Try.ntmps19
  go_wp2_with fail
  refine HA.out.mono ?_
  rintro E w2 ⟨rfl, rfl⟩
  go_wp2
  go_ret
  exact ⟨rfl, rfl⟩

theorem yundo_no (w : World) (v : Value) (n : Int) (h : NoZ w v) : Calls Try.prog 12 #[v, .int .i64 n] w fun E w' => E = .returned (.int .i64 1) ∧ w = w' := by
  have HA := hide (yask_no w v h)
  obtain ⟨a, rfl⟩ := h.form
  clear h
  go_enter Try.func12, Try.ntmps12
  go_wp2_with fail
  refine HA.out.mono ?_
  rintro E w2 ⟨rfl, rfl⟩
  go_wp2
  go_ret
  exact ⟨rfl, rfl⟩

theorem ydrop_no (w : World) (v : Value) (h : NoZ w v) : Calls Try.prog 16 #[v] w fun E w' => E = .returned (.int .i64 1) ∧ w = w' := by
  have HA := hide (yask_no w v h)
  obtain ⟨a, rfl⟩ := h.form
  clear h
  go_enter_defers Try.func16, Try.ntmps16
  go_wp2_with fail
  refine HA.out.mono ?_
  rintro E w2 ⟨rfl, rfl⟩
  go_wp2
  exact ⟨_, results_tmp rfl _ _ _, rfl, rfl⟩

theorem ydone_no (w : World) (v : Value) (h : NoZ w v) : Calls Try.prog 14 #[v] w fun E w' => E = .returned (.tuple #[.slice none 0 0, .int .i64 1]) ∧ w = w' := by
  have HA := hide (yask_no w v h)
  obtain ⟨a, rfl⟩ := h.form
  clear h
  go_enter_defers Try.func14, Try.ntmps14
  go_wp2_with fail
  refine HA.out.mono ?_
  rintro E w2 ⟨rfl, rfl⟩
  go_wp2
  exact ⟨_, results_tmp2 rfl _ _ _, rfl, rfl⟩

theorem yadd_no (w : World) (v : Value) (o : Ov) (h : NoZ w v) : Calls Try.prog 25 #[v, .agg #[.bool o.p, .string o.k, .string o.v]] w fun E w' => E = .returned (.int .i64 1) ∧ Below w.heap.size w w' := by
  obtain ⟨w1, hw1, sz1, bel1, hB⟩ := blk_step w #[.bool o.p, .string o.k, .string o.v] 36
  have HA := hide (yask_no w1 v (h.below bel1))
  have B1 := hide bel1
  obtain ⟨a, rfl⟩ := h.form
  clear h hB bel1 sz1
  go_enter Try.func25, Try.ntmps25
  go_wp2_with fail
  refine HA.out.mono ?_
  rintro E w2 ⟨rfl, rfl⟩
  go_wp2
  go_ret
  exact ⟨rfl, B1.out⟩

theorem yput_no (w : World) (v : Value) (k x : ByteArray) (h : NoZ w v) : Calls Try.prog 10 #[v, .string k, .string x] w fun E w' => E = .returned (.int .i64 1) ∧ Below w.heap.size w w' := by
  have HA := hide (yadd_no w v ⟨true, k, x⟩ h)
  obtain ⟨a, rfl⟩ := h.form
  clear h
  go_enter Try.func10, Try.ntmps10
  go_wp2_with fail
  refine HA.out.mono ?_
  rintro E w2 ⟨rfl, h2⟩
  go_wp2
  go_ret
  exact ⟨rfl, h2⟩

theorem ydel_no (w : World) (v : Value) (k : ByteArray) (h : NoZ w v) : Calls Try.prog 11 #[v, .string k] w fun E w' => E = .returned (.int .i64 1) ∧ Below w.heap.size w w' := by
  have HA := hide (yadd_no w v ⟨false, k, ⟨#[]⟩⟩ h)
  obtain ⟨a, rfl⟩ := h.form
  clear h
  go_enter Try.func11, Try.ntmps11
  go_wp2_with fail
  refine HA.out.mono ?_
  rintro E w2 ⟨rfl, h2⟩
  go_wp2
  go_ret
  exact ⟨rfl, h2⟩

end Go.Proofs.Ytofbnkeglhhnlaa

/- TxnNil: the walk. -/
namespace Go.Proofs.Ytofbnkeglhhnlaa
open Go.RowKit
open Bm (Ov)
set_option linter.unusedVariables false

set_option maxRecDepth 20000 in
set_option maxHeartbeats 8000000 in
theorem txnNil_walk (a : Tc) (w : World) (ha : TcOk a) (hf : TcFit a) : Calls Try.prog 5 #[tcv a] w fun E w' => E = .returned (.bool true) ∧ Below w.heap.size w w' := by
  unfold tcv
  obtain ⟨w1, hw1, sz1, bel1, hB⟩ := blk_step w #[.int .i64 a.k, .string a.key, .string a.val, .int .i64 a.n] 43
  obtain ⟨w2, hw2, sz2, bel2, hT⟩ := blk_step w1 #[.int .u8 0, .slice none 0 0] 48
  rw [sz1] at hT bel2 sz2
  obtain ⟨w3, hw3, sz3, bel3, hR⟩ := blk_step w2 #[.pointer none, .pointer (some ⟨w.heap.size + 1, 0, none⟩)] 23
  rw [sz2] at hR bel3 sz3
  have b23 : Below (w.heap.size + 1) w1 w3 := bel2.trans (bel3.mono (by omega))
  have B3 := hide (bel1.trans (b23.mono (by omega)))
  have A3 : w3.heap[w.heap.size]? = _ := (b23.block _ (by omega)).trans hB
  have T3 : w3.heap[w.heap.size + 1]? = _ := (bel3.block _ (by omega)).trans hT
  have HC : Hid (∀ W, Below w3.heap.size w3 W → (W.cell? ⟨w.heap.size, 1, none⟩ = some (.string a.key) ∧ W.cell? ⟨w.heap.size, 2, none⟩ = some (.string a.val) ∧ W.cell? ⟨w.heap.size, 3, none⟩ = some (.int .i64 a.n)) ∧ (W.cell? ⟨w.heap.size + 1 + 1, 0, none⟩ = some (.pointer none) ∧ W.cell? ⟨w.heap.size + 1 + 1, 1, none⟩ = some (.pointer (some ⟨w.heap.size + 1, 0, none⟩))) ∧ NoZ W (.pointer none) ∧ NoZ W (.pointer (some ⟨w.heap.size + 1, 0, none⟩))) := hide fun W hW => by
    have a1 := (hW.block _ (by omega)).trans A3
    have t1 := (hW.block _ (by omega)).trans T3
    have r1 := (hW.block _ (by omega)).trans hR
    exact ⟨⟨blk_cell a1 1 rfl, blk_cell a1 2 rfl, blk_cell a1 3 rfl⟩, ⟨blk_cell r1 0 rfl, blk_cell r1 1 rfl⟩, .inl rfl, .inr ⟨_, rfl, t1⟩⟩
  clear ha hf bel1 bel2 bel3 b23 hB hT hR A3 T3
  go_enter Try.func5, Try.ntmps5
  go_wp2
  go_loopw [4] (fun iv wr => ∃ j : Nat, iv = .int .i64 j ∧ j ≤ 2 ∧ Hid (Below w3.heap.size w3 wr)) (fun iv _ => 2 - (intOf iv).toNat)
  case atStart => exact ⟨0, rfl, by omega, hide (Below.refl _ _)⟩
  case round =>
    obtain ⟨j, rfl, hj, HP⟩ := hrel
    by_cases hlt : j < 2
    · obtain ⟨vt, hvt, hno⟩ : ∃ vt, (∀ W, Below w3.heap.size w3 W → W.cell? ⟨w.heap.size + 1 + 1, j, none⟩ = some vt) ∧ (∀ W, Below w3.heap.size w3 W → NoZ W vt) := by
        rcases (by omega : j = 0 ∨ j = 1) with rfl | rfl
        · exact ⟨_, fun W hW => (HC.out W hW).2.1.1, fun W hW => (HC.out W hW).2.2.1⟩
        · exact ⟨_, fun W hW => (HC.out W hW).2.1.2, fun W hW => (HC.out W hW).2.2.2⟩
      have cv := hvt wr HP.out
      have NO := hide hno
      obtain ⟨pa, rfl⟩ := (hno wr HP.out).form
      have hlt' : (j : Int) < 2 := by omega
      have hj0 : (0 : Int) ≤ (j : Int) := by omega
      have X1 := hide (ydone_no wr _ (hno wr HP.out))
      clear hno hvt
      go_wp2_with fail
      refine X1.out.mono ?_
      rintro E w4 ⟨rfl, rfl⟩
      obtain ⟨⟨k1, k2, k3⟩, _⟩ := HC.out wr HP.out
      have X2 := hide (yget_no wr _ a.key (NO.out wr HP.out))
      clear X1 cv
      go_wp2_with fail
      refine X2.out.mono ?_
      rintro E w4 ⟨rfl, b4⟩
      have H4 := hide (HP.out.trans (b4.mono HP.out.size))
      clear X2 k1 k2 k3 b4 HP
      obtain ⟨⟨k1, k2, k3⟩, _⟩ := HC.out w4 H4.out
      have X3 := hide (yput_no w4 _ a.key a.val (NO.out w4 H4.out))
      go_wp2_with fail
      refine X3.out.mono ?_
      rintro E w5 ⟨rfl, b5⟩
      have H5 := hide (H4.out.trans (b5.mono H4.out.size))
      clear X3 k1 k2 k3 b5 H4
      obtain ⟨⟨k1, k2, k3⟩, _⟩ := HC.out w5 H5.out
      have X4 := hide (ydel_no w5 _ a.key (NO.out w5 H5.out))
      go_wp2_with fail
      refine X4.out.mono ?_
      rintro E w6 ⟨rfl, b6⟩
      have H6 := hide (H5.out.trans (b6.mono H5.out.size))
      clear X4 k1 k2 k3 b6 H5
      obtain ⟨⟨k1, k2, k3⟩, _⟩ := HC.out w6 H6.out
      have X5 := hide (yundo_no w6 _ a.n (NO.out w6 H6.out))
      have X6 := hide (ydrop_no w6 _ (NO.out w6 H6.out))
      have X7 := hide (ylen_no w6 _ (NO.out w6 H6.out))
      go_wp2_with fail
      refine X5.out.mono ?_
      rintro E w7 ⟨rfl, rfl⟩
      go_wp2_with fail
      refine X6.out.mono ?_
      rintro E w7 ⟨rfl, rfl⟩
      go_wp2_with fail
      refine X7.out.mono ?_
      rintro E w7 ⟨rfl, rfl⟩
      clear X5 X6 X7
      go_wp2
      go_roundw
      case rel => exact ⟨j + 1, by go_num, by omega, H6⟩
      case measure => simp [intOf]; omega
    · have hlt' : ¬ (j : Int) < 2 := by omega
      have LV := hide (tlives_any wr)
      go_wp2_with fail
      refine LV.out.mono ?_
      rintro E w9 ⟨rfl, b9⟩
      have B9 := hide (B3.out.trans ((HP.out.trans (b9.mono HP.out.size)).mono (Nat.le_trans B3.out.size (Nat.le_refl _))))
      clear b9 LV
      go_wp2
      go_ret
      exact ⟨rfl, B9.out⟩

end Go.Proofs.Ytofbnkeglhhnlaa

/- Proved: TxnNil -/
namespace Go.Proofs.Ytofbnkeglhhnlaa
open Go.ChangeShapes Go.WideShapes Go.ChangeAt Go.RowKit
open Go.ChangeMaps (open_string shut_string)
set_option linter.unusedVariables false

namespace txnNilFrame
theorem own : ownKnob Try.prog.godebug = none := by kernel_rfl
theorem laidOut : laidOutB Try.prog = true := by kernel_rfl
theorem cells43 : Try.prog.cellsOf 43 = 4 := by kernel_rfl
theorem bytes43 : Try.prog.bytesOf 43 = 48 := by kernel_rfl

set_option maxRecDepth 100000 in
theorem lifted (os : Os) (started : os.Started) (H : Type) (enc : TypeId × Value → H) :
    ReturnsInHanded {} Try.checked os 5 .any (Rows.txnNilSpec.pre6 enc Try.prog Try.f5 Rows.txnNilRow.domain false) (Rows.txnNilSpec.post enc Try.prog Try.f5 false true false false) := by
  refine returnsInHanded_of_change_sized (C := Try.checked) own started (by kernel_rfl) Try.func5
    (ChangeSpec.witness6 (enc := enc) (C := Try.checked) false ⟨#[], #[.agg #[.int .i64 0, .string ByteArray.empty, .string ByteArray.empty, .int .i64 0]], []⟩ 8 (by kernel_rfl) (by kernel_rfl) (by kernel_rfl) (by kernel_rfl)) ?_
  intro W base args ds gs before hval0 hW hcnd hsz0 _
  have hsz : (DataW.weightsEach Try.prog (Try.f5.params.toList ++ Rows.txnNilSpec.plain.varTypes Try.prog) (ds ++ gs)).all (· ≤ reachBytes) = true := hsz0
  clear hsz0
  have hval : ∀ (j : Nat) t v, Try.f5.params[j]? = some t → args[j]? = some v → Value.okWide Try.prog W .any base t v := hval0
  have hW' := hW
  obtain ⟨p, q, hA0, hV, rfl, hfz, hnd⟩ := hW
  have hA : DataW.TrodAll enc Try.prog W 0 (fun _ => true) true Try.f5.params.toList args.toList ds p := hA0
  rw [Try.params5] at hA hval hsz
  obtain ⟨v0, vs0, d0, ds0, p0, q0, hargs, rfl, rfl, h0, r0⟩ := trodAll_cons hA
  obtain ⟨rfl, rfl, rfl⟩ := trodAll_nil r0
  obtain rfl : args = #[v0] := by cases args; simp_all
  obtain ⟨rfl, rfl⟩ := trodVars_none hV
  have k0 := h0
  have lt0 : ∀ x ∈ p0, x.block < W.heap.size := by obtain ⟨m, hm⟩ := k0; exact DataW.trod_lt m _ _ _ hm
  have ww0 : ∀ n ∈ d0.weights Try.prog 43, n ≤ reachBytes := fun n hn => of_decide_eq_true (List.all_eq_true.1 hsz n (DataW.weights_mem_each (j := 0) (t := 43) rfl rfl n hn))
  obtain ⟨z0, rfl, w0, rfl⟩ := open_tc Try.underlying43 (by kernel_rfl) cells43 Try.underlying3 Try.underlying9 Try.underlying9 Try.underlying3 (hval 0 43 v0 rfl rfl) h0
  have g0 : TcFit z0 := tc_fit (e := 43) ww0 Try.underlying43
  clear hA0 hval0
  refine (txnNil_walk z0 W w0 g0).mono fun e W' ⟨he, bel⟩ => ?_
  subst he
  exact ⟨_, rfl, _, _, _, [], _, [], hW', trodAll_mk1 (shut_bool Try.underlying4 _), (trodAll_cons_mk (Below.trod laidOut (by kernel_rfl) (of_decide_eq_true (by kernel_rfl)) k0 bel lt0) trodAll_mk0), rfl, bel.frame _, fun h => by cases h⟩

theorem over : Rows.txnNilRow.holds Try.pinned (OpenSpec.ofChange Rows.txnNilSpec) :=
  OpenClaim.holds_of_wide 5 Try.f5 rfl rfl rfl rfl rfl rfl rfl ⟨rfl, rfl, rfl, rfl, rfl⟩ rfl rfl rfl rfl rfl (by kernel_rfl) Try.func5 (by kernel_rfl)
    (of_decide_eq_true (by kernel_rfl)) (by unfold Func.isWrapper; first | (rw [if_pos (by decide +kernel)]; kernel_rfl) | (rw [if_neg (by decide +kernel)]; exact ⟨rfl, rfl⟩))
    (fun os started H enc _ => lifted os started H enc)
end txnNilFrame

/-- The statement. -/
theorem txnNil_holds : Rows.TxnNilSaid := txnNilFrame.over
#print axioms txnNil_holds
end Go.Proofs.Ytofbnkeglhhnlaa
