/- The contracts of the laws' copies of ops: CopyOps, LentOps, KeptOps. -/
import Derived.Test.YtklpbcdkgjoheaaBe
namespace Go.Proofs.Ytklpbcdkgjoheaa
open Go.RowKit
set_option linter.unusedVariables false

/-- What stands behind ops that are lent. -/
def behind : Bm.Ov := ⟨true, ⟨#[98, 101, 104, 105, 110, 100]⟩, ⟨#[]⟩⟩

set_option maxHeartbeats 400000 in
theorem copyO_any (vl : Value) (l : List Bm.Ov) (w : World) (h : IsO w vl l) (hl : l.length * 40 ≤ 140737488355328) :
    Calls Try.prog 52 #[vl] w fun e w' => ∃ v, e = .returned v ∧ OwnO 73 w.heap.size w' v l ∧ Below w.heap.size w w' := by
  obtain ⟨w1, hw1, sz1, bel1, own1⟩ := ops_step 73 w #[] 0 [] rfl rfl (by simp [maxLen])
  have h1 := h.below bel1
  go_enter Try.func52, Try.ntmps52
  go_wp2_with (at_builtin; refine wpList_append_ops rfl (.tmp 3) (.tmp 4) 38 rfl 73 w.heap.size Try.underlying38 Try.info73 _ [] rfl own1 _ l rfl h1 (by simp; omega) (by omega) ?_)
  intro v2 w2 own2 bel2 _
  go_wp2
  go_ret
  exact ⟨_, rfl, by simpa using own2, bel1.trans bel2⟩

set_option maxHeartbeats 400000 in
theorem lentO_any (vl : Value) (l : List Bm.Ov) (w : World) (h : IsO w vl l) (hl : l.length * 40 ≤ 140737488351232) :
    Calls Try.prog 41 #[vl] w fun e w' => ∃ v, e = .returned v ∧ OwnO 73 w.heap.size w' v (l ++ [behind, behind, behind]) ∧ Below w.heap.size w w' := by
  have hc : l.length * 40 ≤ 140737488355328 := by omega
  have HK : Hid (∀ k : Nat, k < 3 → ((l ++ List.replicate k behind).length + [behind].length) * 40 ≤ 140737488355328) := hide (fun k hk => by
    rw [List.length_append, List.length_replicate, List.length_singleton]
    omega)
  have HC := hide hc
  clear hl hc
  go_enter Try.func41, Try.ntmps41
  go_wp2_with fail
  refine (copyO_any vl l _ h HC.out).mono ?_
  rintro E w0 ⟨v0, rfl, own0, bel0⟩
  have own0' : OwnO 73 w.heap.size w0 v0 (l ++ List.replicate 0 behind) := by simpa using own0
  clear own0
  go_wp2
  go_loopw [3, 4] (fun ov iv wr => ∃ k : Nat, k ≤ 3 ∧ iv = .int .i64 k ∧ OwnO 73 w.heap.size wr ov (l ++ List.replicate k behind) ∧ Below w.heap.size w wr) (fun _ iv _ => 3 - (intOf iv).toNat)
  case atStart => exact ⟨0, by omega, rfl, own0', bel0⟩
  case round =>
    obtain ⟨k, hk, rfl, own, bel⟩ := hrel
    have sz := bel.size
    by_cases hlt : k < 3
    · have hlt' : (k : Int) < 3 := by omega
      obtain ⟨w1, hw1, sz1, bel1, own1⟩ := ops_step 73 wr #[.bool true, .string ⟨#[98, 101, 104, 105, 110, 100]⟩, .string ⟨#[]⟩] 1 [behind] rfl rfl (by simp [maxLen])
      have own' := own.below bel1
      go_wp2_with (at_builtin; refine wpList_append_ops rfl (.tmp 11) (.tmp 13) 38 rfl 73 w.heap.size Try.underlying38 Try.info73 _ _ rfl own' _ [behind] rfl own1.is (HK.out k hlt) (by omega) ?_)
      intro v2 w2 own2 bel2 _
      have e2 : l ++ (List.replicate k behind ++ [behind]) = l ++ List.replicate (k + 1) behind := by rw [List.replicate_succ']
      rw [e2] at own2
      have bel3 := (bel.trans (bel1.mono sz)).trans bel2
      clear own own' own1 bel1 bel2 e2
      go_wp2
      go_roundw
      case rel => exact ⟨k + 1, by omega, by go_num, own2, bel3⟩
      case measure => simp [intOf]; omega
    · have hke : k = 3 := by omega
      subst hke
      go_wp2
      go_ret
      exact ⟨_, rfl, own, bel⟩

set_option maxHeartbeats 400000 in
theorem keptO_yes (vf vl : Value) (l fs : List Bm.Ov) (w : World) (hf : IsO w vf fs) (hl : IsO w vl l) (hll : l.length * 40 ≤ 140737488351232) (he : fs = l ++ [behind, behind, behind]) :
    Calls Try.prog 48 #[vf, vl] w fun e w' => e = .returned (.bool true) ∧ Below w.heap.size w w' := by
  have hfl : fs.length ≤ 140737488355328 := by rw [he]; simp; omega
  have HE := hide he
  have HL := hide hll
  clear he hll
  go_enter Try.func48, Try.ntmps48
  go_wp2_with fail
  refine (lentO_any vl l _ hl HL.out).mono ?_
  rintro E w1 ⟨v1, rfl, own1, bel1⟩
  rw [← HE.out] at own1
  go_wp2_with fail
  refine (sameO_any _ _ fs fs _ (hf.below bel1) own1.is (by omega) (by omega)).mono ?_
  rintro E w2 ⟨rfl, bel2⟩
  rw [Bm.sameL_self]
  go_wp2
  go_ret
  exact ⟨rfl, bel1.trans (bel2.mono bel1.size)⟩

end Go.Proofs.Ytklpbcdkgjoheaa
