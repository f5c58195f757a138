/- The walk of the law OpReads. -/
import Derived.Test.YtaejecompbmhcaaOlive
import Derived.Test.YtaejecompbmhcaaOpe
namespace Go.Proofs.Ytaejecompbmhcaa
open Go.RowKit
set_option linter.unusedVariables false

set_option maxHeartbeats 1000000 in
theorem opReads_walk (vb : Value) (bs : List Int) (w : World) (hb : Is .u8 w vb bs) (hl : bs.length * 1 ≤ 140737488351232) :
    Calls Try.prog 5 #[vb] w fun E w' => E = .returned (.bool true) ∧ Below w.heap.size w w' := by
  rw [Nat.mul_one] at hl
  obtain ⟨ao, cap0, rfl, _, _⟩ := hb.shape
  go_enter Try.func5, Try.ntmps5
  go_wp2_with fail
  refine (lent_any _ bs _ hb hl).mono ?_
  rintro E w1 ⟨v1, rfl, own1, bel1⟩
  have sz1 := bel1.size
  have is1 := own1.is
  obtain ⟨b, cap, rfl, hcap, hcm, hb1, hb2, isf⟩ := own1.front (by simp)
  have hcap' : bs.length ≤ cap := by simp at hcap; omega
  go_wp2_with fail
  refine (oread_any _ bs _ isf (by omega)).mono ?_
  rintro E w2 ⟨p, k, v, n, e, rfl, hO, bel2⟩
  unfold opv
  have sz2 := bel2.size
  obtain ⟨W3, hW3, sz3, bel3, blk3⟩ := blk_step w2 #[.bool p, .string k, .string v] 23
  have O2 := blk_froz blk3 2
  have O1 := blk_froz blk3 1
  have O0 := blk_froz blk3 0
  have e0 : W3.setCell ⟨w2.heap.size, 0, none⟩ (.bool p) = W3 := set_same blk3 (j := 0) rfl
  have e1 : W3.setCell ⟨w2.heap.size, 1, none⟩ (.string k) = W3 := set_same blk3 (j := 1) rfl
  have e2 : W3.setCell ⟨w2.heap.size, 2, none⟩ (.string v) = W3 := set_same blk3 (j := 2) rfl
  have o0 : W3.cell? ⟨w2.heap.size, 0, none⟩ = some (.bool p) := blk_cell blk3 0 rfl
  have o1 : W3.cell? ⟨w2.heap.size, 1, none⟩ = some (.string k) := blk_cell blk3 1 rfl
  have o2 : W3.cell? ⟨w2.heap.size, 2, none⟩ = some (.string v) := blk_cell blk3 2 rfl
  have belA : Below w.heap.size w W3 := (bel1.trans (bel2.mono (by omega))).trans (bel3.mono (by omega))
  have HO := hide hO
  have HB3 := hide blk3
  clear hO blk3
  go_wp2_with fail
  refine (oreadR_any _ bs _ (hb.below belA) (by omega)).mono ?_
  rintro E w4 ⟨p', k', v', n', f, rfl, hR, bel4⟩
  obtain ⟨rfl, hk, hv, rfl, rfl⟩ := Om.ores_one HO.out hR
  obtain rfl := ba_ext hk
  obtain rfl := ba_ext hv
  unfold opv
  have sz4 := bel4.size
  have blkA := (bel4.block w2.heap.size (by omega)).trans HB3.out
  clear e0 e1 e2 O0 O1 O2 o0 o1 o2 hk hv hR HO
  obtain ⟨W5, hW5, sz5, bel5, blk5⟩ := blk_step w4 #[.bool p, .string k, .string v] 23
  have O2 := blk_froz blk5 2
  have O1 := blk_froz blk5 1
  have O0 := blk_froz blk5 0
  have e0 : W5.setCell ⟨w4.heap.size, 0, none⟩ (.bool p) = W5 := set_same blk5 (j := 0) rfl
  have e1 : W5.setCell ⟨w4.heap.size, 1, none⟩ (.string k) = W5 := set_same blk5 (j := 1) rfl
  have e2 : W5.setCell ⟨w4.heap.size, 2, none⟩ (.string v) = W5 := set_same blk5 (j := 2) rfl
  have o0 : W5.cell? ⟨w4.heap.size, 0, none⟩ = some (.bool p) := blk_cell blk5 0 rfl
  have o1 : W5.cell? ⟨w4.heap.size, 1, none⟩ = some (.string k) := blk_cell blk5 1 rfl
  have o2 : W5.cell? ⟨w4.heap.size, 2, none⟩ = some (.string v) := blk_cell blk5 2 rfl
  have blkA5 := (bel5.block w2.heap.size (by omega)).trans blkA
  go_wp2_with fail
  refine (lives_any _).mono ?_
  rintro E w6 ⟨rfl, bel6⟩
  have sz6 := bel6.size
  have blkA6 := (bel6.block w2.heap.size (by omega)).trans blkA5
  have blkB6 := (bel6.block w4.heap.size (by omega)).trans blk5
  have a0 : w6.cell? ⟨w2.heap.size, 0, none⟩ = some (.bool p) := blk_cell blkA6 0 rfl
  have a1 : w6.cell? ⟨w2.heap.size, 1, none⟩ = some (.string k) := blk_cell blkA6 1 rfl
  have a2 : w6.cell? ⟨w2.heap.size, 2, none⟩ = some (.string v) := blk_cell blkA6 2 rfl
  have b0 : w6.cell? ⟨w4.heap.size, 0, none⟩ = some (.bool p) := blk_cell blkB6 0 rfl
  have b1' : w6.cell? ⟨w4.heap.size, 1, none⟩ = some (.string k) := blk_cell blkB6 1 rfl
  have b2' : w6.cell? ⟨w4.heap.size, 2, none⟩ = some (.string v) := blk_cell blkB6 2 rfl
  have bel16 : Below w1.heap.size w1 w6 := (((bel2.trans (bel3.mono (by omega))).trans (bel4.mono (by omega))).trans (bel5.mono (by omega))).trans (bel6.mono (by omega))
  have is6 := is1.below bel16
  have hb6 := (hb.below bel1).below bel16
  have belF := bel1.trans (bel16.mono (by omega))
  clear blkA blkA5 blkA6 blkB6 blk5 HB3 belA bel16 bel2 bel3 bel4 bel5 bel6 own1 is1 isf e0 e1 e2 O0 O1 O2 o0 o1 o2 hW3 hW5
  go_wp2_with fail
  refine (kept_yes _ _ bs (bs ++ [201, 202, 203]) _ is6 hb6 hl rfl).mono ?_
  rintro E w7 ⟨rfl, bel7⟩
  go_wp2
  go_ret
  exact ⟨rfl, belF.trans (bel7.mono belF.size)⟩

end Go.Proofs.Ytaejecompbmhcaa
