/- WalNil: a log that is not there, or that nobody made, refuses every call. -/
import Derived.Test.YtimmohpnlieefaaVu
namespace Go.Proofs.Ytimmohpnlieefaa
open Go.RowKit
set_option linter.unusedVariables false

set_option maxRecDepth 20000 in
set_option maxHeartbeats 4000000 in
theorem walNil_walk (ce cn : Int) (v : Value) (l : List Bm.Ov) (n : Int) (w : World) (hce : In64 ce) (hcn : In64 cn) (h : IsO w v l) (hf : FitO l) (hl : l.length * 40 ≤ 140737488351232) (hn : (Lit.int .i64 n).wf = true) :
    Calls Try.prog 5 #[cmv ce cn v, .int .i64 n] w fun e w' => e = .returned (.bool true) ∧ Below w.heap.size w w' := by
  obtain ⟨ao, cap, hv, _, _⟩ := h.shape
  obtain ⟨w1, hw1, sz1, bel1, hB1⟩ := blk_step w #[.int .i64 ce, .int .i64 cn, v] 32
  obtain ⟨w2, hw2, sz2, bel2, hB2⟩ := blk_step w1 #[.pointer none, .bool false, .slice none 0 0, .slice none 0 0] 50
  obtain ⟨w3, hw3, sz3, bel3, hB3⟩ := blk_step w2 #[.pointer none, .pointer (some ⟨w1.heap.size, 0, none⟩)] 23
  have b13 : Below w1.heap.size w1 w3 := bel2.trans (bel3.mono bel2.size)
  have KP : Hid (∀ W, Below w3.heap.size w3 W → (W.cell? ⟨w.heap.size, 0, none⟩ = some (.int .i64 ce) ∧ W.cell? ⟨w.heap.size, 1, none⟩ = some (.int .i64 cn) ∧ W.cell? ⟨w.heap.size, 2, none⟩ = some v) ∧ (W.cell? ⟨w2.heap.size, 0, none⟩ = some (.pointer none) ∧ W.cell? ⟨w2.heap.size, 1, none⟩ = some (.pointer (some ⟨w1.heap.size, 0, none⟩))) ∧ NoW W (.pointer none) ∧ NoW W (.pointer (some ⟨w1.heap.size, 0, none⟩)) ∧ Below w.heap.size w W) := hide fun W hb => by
    have k1 := (hb.block w.heap.size (by omega)).trans ((b13.block w.heap.size (by omega)).trans hB1)
    have k2 := (hb.block w1.heap.size (by omega)).trans ((bel3.block w1.heap.size (by omega)).trans hB2)
    have k3 := (hb.block w2.heap.size (by omega)).trans hB3
    exact ⟨⟨blk_cell k1 0 rfl, blk_cell k1 1 rfl, blk_cell k1 2 rfl⟩, ⟨blk_cell k3 0 rfl, blk_cell k3 1 rfl⟩, .inl rfl, .inr ⟨_, rfl, k2⟩, bel1.trans ((b13.trans (hb.mono b13.size)).mono bel1.size)⟩
  have CELL : Hid (∀ k : Nat, k < 2 → ∃ a, (∀ W, Below w3.heap.size w3 W → W.cell? ⟨w2.heap.size, k, none⟩ = some (.pointer a) ∧ NoW W (.pointer a))) := hide fun k hk => by
    rcases (show k = 0 ∨ k = 1 by omega) with rfl | rfl
    · exact ⟨none, fun W hb => ⟨(KP.out W hb).2.1.1, (KP.out W hb).2.2.1⟩⟩
    · exact ⟨_, fun W hb => ⟨(KP.out W hb).2.1.2, (KP.out W hb).2.2.2.1⟩⟩
  have ND : Hid (∀ W, ∃ V, W.alloc (.cells #[.bool false, .bool false, .int .i64 0, .slice none 0 0, .slice none 0 0, .slice none 0 0, .slice none 0 0, .slice none 0 0, .int .i64 0] 59) = V ∧ Below W.heap.size W V ∧ NoD V (.pointer (some ⟨W.heap.size, 0, none⟩))) := hide fun W => by
    obtain ⟨V, hV, _, bV, hB⟩ := blk_step W #[.bool false, .bool false, .int .i64 0, .slice none 0 0, .slice none 0 0, .slice none 0 0, .slice none 0 0, .slice none 0 0, .int .i64 0] 59
    exact ⟨V, hV, bV, .inr ⟨_, rfl, hB⟩⟩
  unfold cmv
  rw [hv] at hw1 KP ⊢
  have SZ := hide (show w1.heap.size = w.heap.size + 1 ∧ w2.heap.size = w1.heap.size + 1 ∧ w3.heap.size = w2.heap.size + 1 from ⟨sz1, sz2, sz3⟩)
  clear h hf hl hce hcn hn hB1 hB2 hB3 bel1 bel2 bel3 b13 hv sz1 sz2 sz3
  go_enter Try.func5, Try.ntmps5
  go_wp2
  go_loopw [6] (fun iv wr => ∃ k : Nat, k ≤ 2 ∧ iv = .int .i64 k ∧ Hid (Below w3.heap.size w3 wr)) (fun iv _ => 2 - (intOf iv).toNat)
  case atStart => exact ⟨0, by omega, rfl, hide (Below.refl _ _)⟩
  case round =>
    obtain ⟨k, hk, rfl, BR⟩ := hrel
    by_cases hlt : k < 2
    · obtain ⟨a, ha⟩ := CELL.out k hlt
      obtain ⟨cc, na⟩ := ha wr BR.out
      have NA := hide na
      have hlt' : (k : Int) < 2 := by omega
      obtain ⟨⟨x0, x1, x2⟩, _⟩ := KP.out wr BR.out
      have A1 := hide (append_no wr (.pointer a) ce cn (.slice ao l.length cap) ⟨_, _, _, rfl⟩ na)
      clear na ha
      go_wp2_with fail
      refine A1.out.mono ?_
      rintro E wa ⟨rfl, ba⟩
      have NB := hide (NA.out.below ba)
      have BA := hide (BR.out.trans (ba.mono BR.out.size))
      clear A1 NA cc x0 x1 x2
      go_wp2_with fail
      refine (sync_no wa _ NB.out).mono ?_
      rintro E w' ⟨rfl, rfl⟩
      go_wp2_with fail
      refine (cut_no wa _ n NB.out).mono ?_
      rintro E w' ⟨rfl, rfl⟩
      go_wp2_with fail
      refine (end_no wa _ NB.out).mono ?_
      rintro E w' ⟨rfl, rfl⟩
      go_wp2_with fail
      refine (epoch_no wa _ NB.out).mono ?_
      rintro E w' ⟨rfl, rfl⟩
      go_wp2_with fail
      refine (starts_no wa _ NB.out).mono ?_
      rintro E w' ⟨rfl, rfl⟩
      go_wp2_with fail
      refine (from_no wa _ n 4 NB.out).mono ?_
      rintro E w' ⟨rfl, rfl⟩
      go_wp2_with fail
      refine (length_no wa _ NB.out).mono ?_
      rintro E w' ⟨rfl, rfl⟩
      go_wp2
      go_roundw
      case rel => exact ⟨k + 1, by omega, by go_num, BA⟩
      case measure => simp [intOf]; omega
    · obtain rfl : k = 2 := by omega
      obtain ⟨V, hV, bV, nd⟩ := ND.out wr
      have NV := hide nd
      have BV := hide ((KP.out wr BR.out).2.2.2.2.trans (bV.mono (KP.out wr BR.out).2.2.2.2.size))
      clear bV nd
      go_wp2_with fail
      refine (open_no wr _ (.inl rfl)).mono ?_
      rintro E w' ⟨rfl, rfl⟩
      go_wp2_with fail
      refine (open_no V _ NV.out).mono ?_
      rintro E w' ⟨rfl, rfl⟩
      go_wp2_with fail
      refine (lives_any V).mono ?_
      rintro E w5 ⟨rfl, b5⟩
      go_wp2
      go_ret
      exact ⟨rfl, BV.out.trans (b5.mono BV.out.size)⟩

end Go.Proofs.Ytimmohpnlieefaa
