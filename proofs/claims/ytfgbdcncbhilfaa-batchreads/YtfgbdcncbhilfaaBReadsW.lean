/- The walk of BatchReads. -/
import Derived.Test.YtfgbdcncbhilfaaBl
import Derived.Test.YtfgbdcncbhilfaaBnr
import Derived.Test.YtfgbdcncbhilfaaBap
import Derived.Test.YtfgbdcncbhilfaaCutb
namespace Go.Proofs.Ytfgbdcncbhilfaa
open Go.RowKit
set_option linter.unusedVariables false

set_option maxRecDepth 100000 in
set_option maxHeartbeats 4000000 in
theorem batchReads_walk (vb : Value) (bs : List Int) (w : World) (hb : Is .u8 w vb bs) (hbl : bs.length * 1 ≤ 140737488351232) :
    Calls Try.prog 5 #[vb] w fun e w' => e = .returned (.bool true) ∧ Below w.heap.size w w' := by
  rw [Nat.mul_one] at hbl
  have hlenb := hb.len_run Try.elemP
  go_enter Try.func5, Try.ntmps5
  go_wp2_with fail
  refine (lent_any _ bs _ hb hbl).mono ?_
  rintro E w1 ⟨v1, rfl, own1, bel1⟩
  have sz1 := bel1.size
  obtain ⟨vs, hsl, isl⟩ := own1.is.slice_h Try.elemP Try.sizeP bs.length (by simp)
  rw [List.take_left] at isl
  go_wp2_with fail
  refine (bread_any vs bs _ isl (by omega)).mono ?_
  rintro E w2 ⟨vl, l, n, e, rfl, ownl, hR, bel2⟩
  have sz2 := bel2.size
  have isl2 := isl.below bel2
  have HL := hide ownl.block
  clear isl
  go_wp2_with fail
  refine (bread_any vs bs _ isl2 (by omega)).mono ?_
  rintro E w3 ⟨vk, k, n3, e3, rfl, ownk, hR3, bel3⟩
  obtain ⟨rfl, rfl, rfl⟩ := Bm.bres_one hR hR3
  have sz3 := bel3.size
  have bel13 : Below w1.heap.size w1 w3 := bel2.trans (bel3.mono sz2)
  have bel03 : Below w.heap.size w w3 := bel1.trans (bel13.mono sz1)
  have hb3 := hb.below bel03
  clear isl2 hR3 hsl
  go_wp2_with fail
  refine (breadR_any _ bs _ hb3 (by omega)).mono ?_
  rintro E w4 ⟨vm, m, n4, e4, rfl, ownm, hR4, bel4⟩
  obtain ⟨rfl, rfl, rfl⟩ := Bm.bres_one hR hR4
  obtain ⟨hsm, hl8⟩ := bres_small hR
  have hfit := hsm.fit
  have sz4 := bel4.size
  have bel04 := bel03.trans (bel4.mono (by omega))
  clear hR hR4 hsm
  go_wp2_with fail
  refine (lives_any _).mono ?_
  rintro E w5 ⟨rfl, bel5⟩
  have sz5 := bel5.size
  have bel35 : Below w3.heap.size w3 w5 := bel4.trans (bel5.mono sz4)
  have bel05 := bel04.trans (bel5.mono (by omega))
  have ownl5 := (ownl.below bel3).below bel35
  have ownk5 := ownk.below bel35
  have ownm5 := ownm.below bel5
  have own15 := (own1.below bel13).below bel35
  have hb5 := hb.below bel05
  clear bel1 bel2 bel3 bel4 bel5 bel13 bel03 bel04 bel35 ownl ownk ownm own1 hb3 hlenb
  go_wp2_with fail
  refine (sameO_any _ _ l l _ ownl5.is ownm5.is (by omega) (by omega)).mono ?_
  rintro E w6 ⟨rfl, bel6⟩
  rw [Bm.sameL_self]
  have sz6 := bel6.size
  have own16 := own15.below bel6
  have hb6 := hb5.below bel6
  go_wp2_with fail
  refine (kept_yes _ _ bs _ _ own16.is hb6 hbl rfl).mono ?_
  rintro E w7 ⟨rfl, bel7⟩
  have sz7 := bel7.size
  have bel57 := bel6.trans (bel7.mono sz6)
  have bel07 := bel05.trans (bel57.mono (by omega))
  have ownl7 := ownl5.below bel57
  have ownk7 := ownk5.below bel57
  obtain ⟨al, cl, hvl, _, _⟩ := ownl7.is.shape
  obtain ⟨ak, ck, hvk, _, _⟩ := ownk7.is.shape
  have L := listsO_two (s1 := w2.heap.size) ownk7 ownl7 (fun x hx => (HL.out x hx).2) sz2 (by omega) (by omega) hfit hfit
  subst hvl hvk
  have LL := hide L
  clear L bel6 bel7 bel57 bel05 ownl5 ownk5 ownm5 own15 own16 hb5 hb6 ownl7 ownk7
  go_wp2_with fail
  refine (apartO_yes 2 _ 2 w1.heap.size _ _ _ (by omega) (by omega) (by simp; omega) LL.out (by omega)).mono ?_
  rintro E w8 ⟨rfl, bel8⟩
  have bel08 : Below w.heap.size w w8 := (bel07.alloc (by omega) _).trans (bel8.mono sz1)
  clear LL bel8
  go_wp2
  go_ret
  exact ⟨rfl, bel08⟩

end Go.Proofs.Ytfgbdcncbhilfaa
