/- Texts of one layer, one behind the other. -/
import Derived.Test.YthchcnflflafeaaG21
import Derived.Deep.RegionHeld3
import Derived.Test.YthchcnflflafeaaRows
import Derived.ProofKit
import Derived.OpenShut
import Derived.ShutString
import Derived.ChangeOld
import Derived.Below
import Derived.SizedLaws
import Derived.Test.YthchcnflflafeaaGFr
/- Runs that are none, or that nobody made. -/
namespace Go.Proofs.Ythchcnflflafeaa
open Go.RowKit
set_option linter.unusedVariables false

/-- None, or nobody's. -/
def NoR (w : World) (v : Value) : Prop := v = .pointer none ∨ ∃ p, v = .pointer (some ⟨p, 0, none⟩) ∧ w.heap[p]? = some (.cells #[.pointer none, .bool false, .slice none 0 0] 55 (0, 0))

theorem NoR.below {w w' : World} {v : Value} (h : NoR w v) (hb : Below w.heap.size w w') : NoR w' v := by
  rcases h with h | ⟨p, h1, h2⟩
  · exact .inl h
  · exact .inr ⟨p, h1, (hb.block p (blk_lt h2)).trans h2⟩

theorem rmade_no (w : World) (v : Value) (h : NoR w v) : Calls Try.prog 46 #[v] w fun E w' => E = .returned (.bool false) ∧ w = w' := by
  rcases h with rfl | ⟨p, rfl, hB⟩
  · go_enter Try.func46, Try.ntmps46
    go_wp2
    go_ret
    exact ⟨rfl, rfl⟩
  · have c0 : w.cell? ⟨p, 0, none⟩ = some (.pointer none) := blk_cell hB 0 rfl
    clear hB
    go_enter Try.func46, Try.ntmps46
    go_wp2
    go_ret
    exact ⟨rfl, rfl⟩

theorem NoR.form {w : World} {v : Value} (h : NoR w v) : ∃ a, v = .pointer a := by
  rcases h with rfl | ⟨p, rfl, _⟩
  · exact ⟨_, rfl⟩
  · exact ⟨_, rfl⟩

theorem rrefuses_no (w : World) (v : Value) (h : NoR w v) : Calls Try.prog 41 #[v] w fun E w' => E = .returned (.int .i64 1) ∧ w = w' := by
  have HM := hide (rmade_no w v h)
  obtain ⟨a, rfl⟩ := h.form
  clear h
  go_enter Try.func41, Try.ntmps41
  go_wp2_with fail
  refine HM.out.mono ?_
  rintro E w1 ⟨rfl, rfl⟩
  go_wp2
  go_ret
  exact ⟨rfl, rfl⟩

theorem rflush_no (w : World) (v : Value) (e n : Int) (vo : Value) (ho : ∃ a k c, vo = .slice a k c) (h : NoR w v) : Calls Try.prog 11 #[v, .agg #[.int .i64 e, .int .i64 n, vo]] w fun E w' => E = .returned (.int .i64 1) ∧ Below w.heap.size w w' := by
  obtain ⟨w1, hw1, sz1, bel1, hB⟩ := blk_step w #[.int .i64 e, .int .i64 n, vo] 32
  have HM := hide (rrefuses_no w1 v (h.below bel1))
  have HM0 := hide (rrefuses_no w v h)
  obtain ⟨a, rfl⟩ := h.form
  obtain ⟨xa, xk, xc, rfl⟩ := ho
  clear h hB
  go_enter Try.func11, Try.ntmps11
  go_wp2_with fail
  first
  | refine HM0.out.mono ?_
    rintro E w2 ⟨rfl, rfl⟩
    go_wp2
    go_ret
    exact ⟨rfl, Below.refl _ _⟩
  | refine HM.out.mono ?_
    rintro E w2 ⟨rfl, rfl⟩
    go_wp2
    go_ret
    exact ⟨rfl, bel1⟩

theorem rget_no (w : World) (v : Value) (k : ByteArray) (h : NoR w v) : Calls Try.prog 13 #[v, .string k] w fun E w' => E = .returned (.tuple #[.string ⟨#[]⟩, .bool false, .bool false]) ∧ Below w.heap.size w w' := by
  obtain ⟨w1, hw1, sz1, bel1, B1⟩ := blk_step w #[.string k] 9
  obtain ⟨w2, hw2, sz2, bel2, B2⟩ := blk_step w1 #[.string ⟨#[]⟩] 9
  obtain ⟨w3, hw3, sz3, bel3, B3⟩ := blk_step w2 #[.bool false] 4
  obtain ⟨w4, hw4, sz4, bel4, B4⟩ := blk_step w3 #[.bool false] 4
  rw [sz1] at B2 bel2
  rw [show w2.heap.size = w.heap.size + 2 by omega] at B3 bel3
  rw [show w3.heap.size = w.heap.size + 3 by omega] at B4 bel4
  have bel04 : Below w.heap.size w w4 := ((bel1.trans (bel2.mono (by omega))).trans (bel3.mono (by omega))).trans (bel4.mono (by omega))
  have HM := hide (rmade_no w4 v (h.below bel04))
  have D1 : w4.heap[w.heap.size + 1]? = some (.cells #[.string ⟨#[]⟩] 9 (0, 0)) := (bel4.block _ (by omega)).trans ((bel3.block _ (by omega)).trans B2)
  have D2 : w4.heap[w.heap.size + 2]? = some (.cells #[.bool false] 4 (0, 0)) := (bel4.block _ (by omega)).trans B3
  have r1 := blk_cell D1 0 rfl; have r2 := blk_cell D2 0 rfl; have r3 := blk_cell B4 0 rfl
  have f1 := blk_froz D1 0; have f2 := blk_froz D2 0; have f3 := blk_froz B4 0
  simp only [List.getElem_toArray, List.getElem_cons_zero] at r1 r2 r3
  have s1 : w4.setCell ⟨w.heap.size + 1, 0, none⟩ (.string ⟨#[]⟩) = w4 := set_same D1 (j := 0) rfl
  have s2 : w4.setCell ⟨w.heap.size + 2, 0, none⟩ (.bool false) = w4 := set_same D2 (j := 0) rfl
  have s3 : w4.setCell ⟨w.heap.size + 3, 0, none⟩ (.bool false) = w4 := set_same B4 (j := 0) rfl
  obtain ⟨a, rfl⟩ := h.form
  clear h D1 D2 B1 B2 B3 B4 bel1 bel2 bel3 bel4
  go_enter Try.func13, Try.ntmps13
  go_wp2_with fail
  refine HM.out.mono ?_
  rintro E w5 ⟨rfl, rfl⟩
  go_wp2
  refine bodyPost_ret (v := .tuple #[.string ⟨#[]⟩, .bool false, .bool false]) (by simp [results, Try.results13, go_sem, r1, r2, r3]) rfl ?_
  exact ⟨rfl, bel04⟩

theorem rend_no (w : World) (v : Value) (h : NoR w v) : Calls Try.prog 28 #[v] w fun E w' => E = .returned (.int .i64 0) ∧ w = w' := by
  have HM := hide (rmade_no w v h)
  obtain ⟨a, rfl⟩ := h.form
  clear h
  go_enter Try.func28, Try.ntmps28
  go_wp2_with fail
  refine HM.out.mono ?_
  rintro E w1 ⟨rfl, rfl⟩
  go_wp2
  go_ret
  exact ⟨rfl, rfl⟩

theorem rlist_no (w : World) (v : Value) (h : NoR w v) : Calls Try.prog 29 #[v] w fun E w' => E = .returned (.slice none 0 0) ∧ w = w' := by
  have HM := hide (rmade_no w v h)
  obtain ⟨a, rfl⟩ := h.form
  clear h
  go_enter Try.func29, Try.ntmps29
  go_wp2_with fail
  refine HM.out.mono ?_
  rintro E w1 ⟨rfl, rfl⟩
  go_wp2
  go_ret
  exact ⟨rfl, rfl⟩

/-- A disk that is none, or nobody's. -/
def NoD (w : World) (v : Value) : Prop := v = .pointer none ∨ ∃ p, v = .pointer (some ⟨p, 0, none⟩) ∧ w.heap[p]? = some (.cells #[.bool false, .bool false, .int .i64 0, .slice none 0 0, .slice none 0 0, .slice none 0 0, .slice none 0 0, .slice none 0 0, .int .i64 0] 62 (0, 0))

theorem NoD.form {w : World} {v : Value} (h : NoD w v) : ∃ a, v = .pointer a := by
  rcases h with rfl | ⟨p, rfl, _⟩
  · exact ⟨_, rfl⟩
  · exact ⟨_, rfl⟩

theorem dmade_no (w : World) (v : Value) (h : NoD w v) : Calls Try.prog 73 #[v] w fun E w' => E = .returned (.bool false) ∧ w = w' := by
  rcases h with rfl | ⟨p, rfl, hB⟩
  · go_enter Try.func73, Try.ntmps73
    go_wp2
    go_ret
    exact ⟨rfl, rfl⟩
  · have c0 : w.cell? ⟨p, 0, none⟩ = some (.bool false) := blk_cell hB 0 rfl
    clear hB
    go_enter Try.func73, Try.ntmps73
    go_wp2
    go_ret
    exact ⟨rfl, rfl⟩

theorem drefuses_no (w : World) (v : Value) (h : NoD w v) : Calls Try.prog 72 #[v] w fun E w' => E = .returned (.int .i64 1) ∧ w = w' := by
  have HM := hide (dmade_no w v h)
  obtain ⟨a, rfl⟩ := h.form
  clear h
  go_enter Try.func72, Try.ntmps72
  go_wp2_with fail
  refine HM.out.mono ?_
  rintro E w1 ⟨rfl, rfl⟩
  go_wp2
  go_ret
  exact ⟨rfl, rfl⟩

theorem dread_no (w : World) (v : Value) (f : Int) (h : NoD w v) : Calls Try.prog 38 #[v, .int .i64 f] w fun E w' => E = .returned (.tuple #[.slice none 0 0, .int .i64 1]) ∧ w = w' := by
  have HM := hide (drefuses_no w v h)
  obtain ⟨a, rfl⟩ := h.form
  clear h
  go_enter Try.func38, Try.ntmps38
  go_wp2_with fail
  refine HM.out.mono ?_
  rintro E w1 ⟨rfl, rfl⟩
  go_wp2
  go_ret2
  exact ⟨rfl, rfl⟩

theorem open_no (w : World) (v : Value) (h : NoD w v) : Calls Try.prog 9 #[v] w fun E w' => E = .returned (.tuple #[.pointer none, .int .i64 1]) ∧ w = w' := by
  have HM := hide (dread_no w v 2 h)
  obtain ⟨a, rfl⟩ := h.form
  clear h
  go_enter Try.func9, Try.ntmps9
  go_wp2_with fail
  refine HM.out.mono ?_
  rintro E w1 ⟨rfl, rfl⟩
  go_wp2
  go_ret2
  exact ⟨rfl, rfl⟩

end Go.Proofs.Ythchcnflflafeaa

/- RunNil: runs that are not there, or that nobody made, refuse every call. -/
namespace Go.Proofs.Ythchcnflflafeaa
open Go.RowKit
set_option linter.unusedVariables false

set_option maxRecDepth 20000 in
set_option maxHeartbeats 8000000 in
theorem runNil_walk (ce cn : Int) (v : Value) (l : List Bm.Ov) (key : ByteArray) (w : World) (hce : In64 ce) (hcn : In64 cn) (h : IsO w v l) (hf : FitO l) (hl : l.length * 40 ≤ 140737488351232) (hn : key.size ≤ 140737488351232) :
    Calls Try.prog 5 #[cmv ce cn v, .string key] w fun e w' => e = .returned (.bool true) ∧ Below w.heap.size w w' := by
  obtain ⟨ao, cap, hv, _, _⟩ := h.shape
  obtain ⟨w1, hw1, sz1, bel1, hB1⟩ := blk_step w #[.int .i64 ce, .int .i64 cn, v] 32
  obtain ⟨w2, hw2, sz2, bel2, hB2⟩ := blk_step w1 #[.pointer none, .bool false, .slice none 0 0] 55
  obtain ⟨w3, hw3, sz3, bel3, hB3⟩ := blk_step w2 #[.pointer none, .pointer (some ⟨w1.heap.size, 0, none⟩)] 23
  have b13 : Below w1.heap.size w1 w3 := bel2.trans (bel3.mono bel2.size)
  have KP : Hid (∀ W, Below w3.heap.size w3 W → (W.cell? ⟨w.heap.size, 0, none⟩ = some (.int .i64 ce) ∧ W.cell? ⟨w.heap.size, 1, none⟩ = some (.int .i64 cn) ∧ W.cell? ⟨w.heap.size, 2, none⟩ = some v) ∧ (W.cell? ⟨w2.heap.size, 0, none⟩ = some (.pointer none) ∧ W.cell? ⟨w2.heap.size, 1, none⟩ = some (.pointer (some ⟨w1.heap.size, 0, none⟩))) ∧ NoR W (.pointer none) ∧ NoR W (.pointer (some ⟨w1.heap.size, 0, none⟩)) ∧ Below w.heap.size w W) := hide fun W hb => by
    have k1 := (hb.block w.heap.size (by omega)).trans ((b13.block w.heap.size (by omega)).trans hB1)
    have k2 := (hb.block w1.heap.size (by omega)).trans ((bel3.block w1.heap.size (by omega)).trans hB2)
    have k3 := (hb.block w2.heap.size (by omega)).trans hB3
    exact ⟨⟨blk_cell k1 0 rfl, blk_cell k1 1 rfl, blk_cell k1 2 rfl⟩, ⟨blk_cell k3 0 rfl, blk_cell k3 1 rfl⟩, .inl rfl, .inr ⟨_, rfl, k2⟩, bel1.trans ((b13.trans (hb.mono b13.size)).mono bel1.size)⟩
  have CELL : Hid (∀ k : Nat, k < 2 → ∃ a, (∀ W, Below w3.heap.size w3 W → W.cell? ⟨w2.heap.size, k, none⟩ = some (.pointer a) ∧ NoR W (.pointer a))) := hide fun k hk => by
    rcases (show k = 0 ∨ k = 1 by omega) with rfl | rfl
    · exact ⟨none, fun W hb => ⟨(KP.out W hb).2.1.1, (KP.out W hb).2.2.1⟩⟩
    · exact ⟨_, fun W hb => ⟨(KP.out W hb).2.1.2, (KP.out W hb).2.2.2.1⟩⟩
  have ND : Hid (∀ W, ∃ V, W.alloc (.cells #[.bool false, .bool false, .int .i64 0, .slice none 0 0, .slice none 0 0, .slice none 0 0, .slice none 0 0, .slice none 0 0, .int .i64 0] 62) = V ∧ Below W.heap.size W V ∧ NoD V (.pointer (some ⟨W.heap.size, 0, none⟩))) := hide fun W => by
    obtain ⟨V, hV, _, bV, hB⟩ := blk_step W #[.bool false, .bool false, .int .i64 0, .slice none 0 0, .slice none 0 0, .slice none 0 0, .slice none 0 0, .slice none 0 0, .int .i64 0] 62
    exact ⟨V, hV, bV, .inr ⟨_, rfl, hB⟩⟩
  unfold cmv
  rw [hv] at hw1 KP ⊢
  have SZ := hide (show w1.heap.size = w.heap.size + 1 ∧ w2.heap.size = w1.heap.size + 1 ∧ w3.heap.size = w2.heap.size + 1 from ⟨sz1, sz2, sz3⟩)
  clear h hf hl hce hcn hn hB1 hB2 hB3 bel1 bel2 bel3 b13 hv sz1 sz2 sz3
  go_enter Try.func5, Try.ntmps5
  go_wp2
  go_loopw [6] (fun iv wr => ∃ k : Nat, k ≤ 2 ∧ iv = .int .i64 k ∧ Hid (Below w3.heap.size w3 wr)) (fun iv _ => 2 - (intOf iv).toNat)
  case atStart => exact ⟨0, by omega, rfl, hide (Below.refl _ _)⟩
  case round =>
    obtain ⟨k, hk, rfl, BR⟩ := hrel
    by_cases hlt : k < 2
    · obtain ⟨a, ha⟩ := CELL.out k hlt
      obtain ⟨cc, na⟩ := ha wr BR.out
      have hlt' : (k : Int) < 2 := by omega
      have hk0 : (0 : Int) ≤ k := by omega
      have G1 := hide (rget_no wr (.pointer a) key na)
      have HA := hide ha
      clear na ha
      go_wp2_with fail
      refine G1.out.mono ?_
      rintro E wa ⟨rfl, ba⟩
      have BA := hide (BR.out.trans (ba.mono BR.out.size))
      have FC : Hid (∀ W, Below w3.heap.size w3 W → (W.cell? ⟨w2.heap.size, k, none⟩ = some (.pointer a)) ∧ (W.cell? ⟨w.heap.size, 0, none⟩ = some (.int .i64 ce) ∧ W.cell? ⟨w.heap.size, 1, none⟩ = some (.int .i64 cn) ∧ W.cell? ⟨w.heap.size, 2, none⟩ = some (.slice ao l.length cap))) := hide fun W hb => ⟨(HA.out W hb).1, (KP.out W hb).1⟩
      have F0 := FC.out wa BA.out
      have bela := BA.out
      have A1 : Hid (∀ W, Below w3.heap.size w3 W → Calls Try.prog 11 #[.pointer a, .agg #[.int .i64 ce, .int .i64 cn, .slice ao l.length cap]] W fun E w' => E = .returned (.int .i64 1) ∧ Below W.heap.size W w') := hide fun W hb => rflush_no W _ ce cn _ ⟨_, _, _, rfl⟩ (HA.out W hb).2
      have A2 : Hid (∀ W, Below w3.heap.size w3 W → Calls Try.prog 28 #[.pointer a] W fun E w' => E = .returned (.int .i64 0) ∧ W = w') := hide fun W hb => rend_no W _ (HA.out W hb).2
      have A3 : Hid (∀ W, Below w3.heap.size w3 W → Calls Try.prog 29 #[.pointer a] W fun E w' => E = .returned (.slice none 0 0) ∧ W = w') := hide fun W hb => rlist_no W _ (HA.out W hb).2
      clear G1 ba cc
      go_wp2_with fail
      go_region_held3 (fun W => (W.cell? ⟨w2.heap.size, k, none⟩ = some (.pointer a)) ∧ (W.cell? ⟨w.heap.size, 0, none⟩ = some (.int .i64 ce) ∧ W.cell? ⟨w.heap.size, 1, none⟩ = some (.int .i64 cn) ∧ W.cell? ⟨w.heap.size, 2, none⟩ = some (.slice ao l.length cap))) (first | exact F0 | exact Fb | exact Fc | exact Fd | go_keep)
        (first
        | (go_at_call 11; refine (A1.out _ bela.drew).mono ?_; rintro E wb ⟨rfl, belb'⟩; have belb : Below w3.heap.size w3 wb := bela.drew.trans (belb'.mono bela.drew.size); have Fb := FC.out wb belb; clear belb')
        | (go_at_call 28; refine (A2.out _ belb).mono ?_; rintro E wc ⟨rfl, rfl⟩; have belc := belb; have Fc := Fb)
        | (go_at_call 29; refine (A3.out _ belc).mono ?_; rintro E wd ⟨rfl, rfl⟩; have beld := belc; have Fd := Fc))
      have BD := hide beld
      clear A1 A2 A3 Fb Fc Fd F0 FC bela belb belc beld
      go_wp2
      go_roundw
      case rel => exact ⟨k + 1, by omega, by go_num, BD⟩
      case measure => simp [intOf]; omega
    · obtain rfl : k = 2 := by omega
      obtain ⟨V, hV, bV, nd⟩ := ND.out wr
      have NV := hide nd
      have BV := hide ((KP.out wr BR.out).2.2.2.2.trans (bV.mono (KP.out wr BR.out).2.2.2.2.size))
      clear bV nd
      go_wp2_with fail
      refine (open_no wr _ (.inl rfl)).mono ?_
      rintro E w' ⟨rfl, rfl⟩
      go_wp2_with fail
      refine (open_no V _ NV.out).mono ?_
      rintro E w' ⟨rfl, rfl⟩
      go_wp2_with fail
      refine (lives_any V).mono ?_
      rintro E w5 ⟨rfl, b5⟩
      go_wp2
      go_ret
      exact ⟨rfl, BV.out.trans (b5.mono BV.out.size)⟩

end Go.Proofs.Ythchcnflflafeaa

/- Proved: RunNil -/
namespace Go.Proofs.Ythchcnflflafeaa
open Go.ChangeShapes Go.WideShapes Go.ChangeAt Go.RowKit
open Go.ChangeMaps (open_string shut_string)
set_option linter.unusedVariables false

namespace runNilFrame
theorem own : ownKnob Try.prog.godebug = none := by kernel_rfl
theorem laidOut : laidOutB Try.prog = true := by kernel_rfl
theorem cells32 : Try.prog.cellsOf 32 = 3 := by kernel_rfl
theorem bytes32 : Try.prog.bytesOf 32 = 40 := by kernel_rfl
theorem cells35 : Try.prog.cellsOf 35 = 3 := by kernel_rfl
theorem bytes35 : Try.prog.bytesOf 35 = 40 := by kernel_rfl

set_option maxRecDepth 100000 in
theorem lifted (os : Os) (started : os.Started) (H : Type) (enc : TypeId × Value → H) :
    ReturnsInHanded {} Try.checked os 5 .any (Rows.runNilSpec.pre6 enc Try.prog Try.f5 Rows.runNilRow.domain false) (Rows.runNilSpec.post enc Try.prog Try.f5 false true false false) := by
  refine returnsInHanded_of_change_sized (C := Try.checked) own started (by kernel_rfl) Try.func5
    (ChangeSpec.witness6 (enc := enc) (C := Try.checked) false ⟨#[], #[.agg #[.int .i64 0, .int .i64 0, .slice none 0 0], .string ByteArray.empty], []⟩ 8 (by kernel_rfl) (by kernel_rfl) (by kernel_rfl) (by kernel_rfl)) ?_
  intro W base args ds gs before hval0 hW hcnd hsz0 _
  have hsz : (DataW.weightsEach Try.prog (Try.f5.params.toList ++ Rows.runNilSpec.plain.varTypes Try.prog) (ds ++ gs)).all (· ≤ reachBytes) = true := hsz0
  clear hsz0
  have hval : ∀ (j : Nat) t v, Try.f5.params[j]? = some t → args[j]? = some v → Value.okWide Try.prog W .any base t v := hval0
  have hW' := hW
  obtain ⟨p, q, hA0, hV, rfl, hfz, hnd⟩ := hW
  have hA : DataW.TrodAll enc Try.prog W 0 (fun _ => true) true Try.f5.params.toList args.toList ds p := hA0
  rw [Try.params5] at hA hval hsz
  obtain ⟨v0, vs0, d0, ds0, p0, q0, hargs, rfl, rfl, h0, r0⟩ := trodAll_cons hA
  obtain ⟨v1, vs1, d1, ds1, p1, q1, rfl, rfl, rfl, h1, r1⟩ := trodAll_cons r0
  obtain ⟨rfl, rfl, rfl⟩ := trodAll_nil r1
  obtain rfl : args = #[v0, v1] := by cases args; simp_all
  obtain ⟨rfl, rfl⟩ := trodVars_none hV
  have k0 := h0
  have lt0 : ∀ x ∈ p0, x.block < W.heap.size := by obtain ⟨m, hm⟩ := k0; exact DataW.trod_lt m _ _ _ hm
  obtain ⟨c00, c01, c02, y00, y01, y02, m0, rfl, hd0, _, hy00, hy01, hy02⟩ := Joins.open_agg3 Try.underlying32 (by kernel_rfl) cells32 (hval 0 32 v0 rfl rfl) h0
  obtain ⟨a00, e00, _, w00⟩ := DataW.trod_int Try.underlying3 hy00
  obtain ⟨a01, e01, _, w01⟩ := DataW.trod_int Try.underlying3 hy01
  obtain ⟨z0, w0, hq0⟩ := open_ops Try.underlying30 Try.underlying35 (by kernel_rfl) cells35 Try.underlying4 Try.underlying9 Try.underlying9 hy02
  simp only [List.cons.injEq, and_true] at e00 e01
  subst e00 e01
  obtain ⟨g0, b0⟩ : FitO z0 ∧ z0.length * 40 ≤ 140737488351232 := by
    rw [hd0] at hsz
    exact sized_com hsz (j := 0) (t := 32) (e := 35) rfl rfl Try.underlying32 hq0 Try.underlying30 Try.underlying35 bytes35
  obtain ⟨a1, rfl, rfl, rfl, w1⟩ := open_string Try.underlying9 (hval 1 9 v1 rfl rfl) h1
  have b1 : a1.size ≤ 140737488351232 := by
    have := sized_string hsz (j := 1) (t := 9) rfl rfl
    simpa [reachBytes] using this
  clear hA0 hval0
  refine (runNil_walk a00 a01 _ z0 a1 W (in64 w00) (in64 w01) w0 g0 b0 b1).mono fun e W' ⟨he, bel⟩ => ?_
  subst he
  exact ⟨_, rfl, _, _, _, [], _, [], hW', trodAll_mk1 (shut_bool Try.underlying4 _), (trodAll_cons_mk (Below.trod laidOut (by kernel_rfl) (of_decide_eq_true (by kernel_rfl)) k0 bel lt0) (trodAll_cons_mk (shut_string Try.underlying9 w1) trodAll_mk0)), rfl, bel.frame _, fun h => by cases h⟩

theorem over : Rows.runNilRow.holds Try.pinned (OpenSpec.ofChange Rows.runNilSpec) :=
  OpenClaim.holds_of_wide 5 Try.f5 rfl rfl rfl rfl rfl rfl rfl ⟨rfl, rfl, rfl, rfl, rfl⟩ rfl rfl rfl rfl rfl (by kernel_rfl) Try.func5 (by kernel_rfl)
    (of_decide_eq_true (by kernel_rfl)) (by unfold Func.isWrapper; first | (rw [if_pos (by decide +kernel)]; kernel_rfl) | (rw [if_neg (by decide +kernel)]; exact ⟨rfl, rfl⟩))
    (fun os started H enc _ => lifted os started H enc)
end runNilFrame

/-- The statement. -/
theorem runNil_holds : Rows.RunNilSaid := runNilFrame.over
#print axioms runNil_holds
end Go.Proofs.Ythchcnflflafeaa
