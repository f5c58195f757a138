/- Package script (layer 25): the law's lives. -/
import Derived.Test.YtdlogcdpapknaaaGreatDoorZW
import Derived.Test.YtdlogcdpapknaaaGreatDoorSxs
import Derived.Test.YtdlogcdpapknaaaGreatDoorZS
import Derived.Test.YtdlogcdpapknaaaGreatDoorSxn
namespace Go.Proofs.YtdlogcdpapknaaaGreatDoor
open Go.RowKit
set_option linter.unusedVariables false
set_option maxRecDepth 100000

theorem ops_lit (w : World) (cs : Array Value) (l : List Bm.Ov) (n : Nat) (hl : l.length = n) (h : cs.toList = ocells l) (hn : n ≤ 1000) (hc : cs.size = n * 3) : ∃ W, w.alloc (.cells cs 77) = W ∧ W.heap.size = w.heap.size + 1 ∧ Below w.heap.size w W ∧ IsO W (.slice (some ⟨w.heap.size, 0, none⟩) n n) l := by
  subst hl
  refine ⟨_, rfl, by simp, (Below.refl _ _).alloc (Nat.le_refl _) _, ?_⟩
  have ho := World.ownsRow_lit (base := w.heap.size) (e := 77) (size := 3) w cs l.length (Nat.le_refl _) (by unfold maxLen; omega) hc
  rw [h] at ho
  exact OwnO.is (show OwnO 77 w.heap.size _ _ l from ho)

set_option maxHeartbeats 4000000 in
theorem lives_any (w : World) (hv : Vs w) : Calls Tryz.prog 12 #[] w fun E w' => E = .returned (.bool true) ∧ Below w.heap.size w w' := by
  have V0 := hide hv
  have LA := hide (line_any ⟨#[99, 111, 109, 109, 105, 116, 32, 48, 32, 112, 117, 116, 32, 97, 32, 49, 32, 100, 101, 108, 32, 98]⟩ w (by decide) hv)
  clear hv
  go_enter Tryz.func12, Tryz.ntmps12
  go_wp2_with fail
  refine LA.out.mono ?_
  rintro E w1 ⟨a, v, th, e, rfl, own, lr, b1⟩
  obtain ⟨rfl, rfl, rfl⟩ := lrp_yes lr (by decide) ok_axC tx_axC
  have is1 := own.is
  obtain ⟨oa, oc, rfl, _, _⟩ := is1.shape
  obtain ⟨w2, hw2, s2, b2, P2⟩ := blk_step w1 #[.int .i64 1, .int .i64 0, .int .i64 0, .int .i64 0, .string ⟨#[]⟩, .slice oa 2 oc] 24
  rw [show acv axC (.slice oa axC.ops.length oc) = .agg #[.int .i64 1, .int .i64 0, .int .i64 0, .int .i64 0, .string ⟨#[]⟩, .slice oa 2 oc] from rfl]
  have z := sx_of P2
  obtain ⟨z0, z1, z2, z3, z4, z5⟩ := z
  have p0 := blk_froz P2 0; have p1 := blk_froz P2 1; have p2 := blk_froz P2 2; have p3 := blk_froz P2 3; have p4 := blk_froz P2 4; have p5 := blk_froz P2 5
  have x0 := set_same P2 (j := 0) (u := .int .i64 1) rfl; have x1 := set_same P2 (j := 1) (u := .int .i64 0) rfl; have x2 := set_same P2 (j := 2) (u := .int .i64 0) rfl; have x3 := set_same P2 (j := 3) (u := .int .i64 0) rfl; have x4 := set_same P2 (j := 4) (u := .string ⟨#[]⟩) rfl; have x5 := set_same P2 (j := 5) (u := .slice oa 2 oc) rfl
  have IS2 := hide (is1.below b2)
  have BB2 := hide (b1.trans (b2.mono b1.size))
  have PP2 := hide P2
  have PA := hide (parse_any ⟨#[116, 105, 99, 107, 32, 48, 10, 116, 111, 99, 107, 32, 48]⟩ w2 (by decide) (V0.out.below BB2.out))
  clear own lr is1 b1 b2 P2 LA
  go_wp2_with fail
  refine PA.out.mono ?_
  rintro E w3 ⟨v3, ev, l3, p, e3, rfl, own3, er, pr, b3⟩
  obtain ⟨_, rfl, rfl⟩ := Sct.pres_one pr pres_tock
  have P3 := (b3.block _ (blk_lt PP2.out)).trans PP2.out
  have BB3 := hide (BB2.out.trans (b3.mono BB2.out.size))
  have IS3 := IS2.out.below b3
  have hwo := blk_lt PP2.out
  have b3s := b3.size
  clear z0 z1 z2 z3 z4 z5 p0 p1 p2 p3 p4 p5 x0 x1 x2 x3 x4 x5
  have z := sx_of P3
  obtain ⟨z0, z1, z2, z3, z4, z5⟩ := z
  obtain ⟨w4, hw4, s4, b4, is4⟩ := ops_lit w3 #[.bool true, .string ⟨#[97]⟩, .string ⟨#[49]⟩, .bool false, .string ⟨#[98]⟩, .string ⟨#[]⟩] axC.ops 2 rfl rfl (by omega) rfl
  have SY := hide (same_yes axC _ _ w4 (IS3.below b4) is4 (by decide))
  have BB4 := hide (BB3.out.trans (b4.mono BB3.out.size))
  have ER := hide (er.below b4)
  rw [show acv axC (.slice oa axC.ops.length oc) = .agg #[.int .i64 1, .int .i64 0, .int .i64 0, .int .i64 0, .string ⟨#[]⟩, .slice oa 2 oc] from rfl, show acv axC (.slice (some ⟨w3.heap.size, 0, none⟩) 2 2) = .agg #[.int .i64 1, .int .i64 0, .int .i64 0, .int .i64 0, .string ⟨#[]⟩, .slice (some ⟨w3.heap.size, 0, none⟩) 2 2] from rfl] at SY
  clear own3 er pr b3 P3 IS3 b4 is4 PA PP2
  go_wp2_with fail
  refine SY.out.mono ?_
  rintro E w5 ⟨rfl, b5⟩
  have BB5 := hide (BB4.out.trans (b5.mono BB4.out.size))
  have WY := hide (wrong_yes ev 1 350 w5 (V0.out.below BB5.out) (ER.out.below b5))
  clear b5 SY
  go_wp2_with fail
  refine WY.out.mono ?_
  rintro E w6 ⟨rfl, b6⟩
  have BB6 := hide (BB5.out.trans (b6.mono BB5.out.size))
  clear b6 WY
  go_wp2
  go_ret
  exact ⟨rfl, BB6.out⟩

end Go.Proofs.YtdlogcdpapknaaaGreatDoor
