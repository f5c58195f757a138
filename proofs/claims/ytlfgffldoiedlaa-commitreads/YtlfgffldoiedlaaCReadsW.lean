/- The walk of CommitReads. -/
import Derived.Test.YtlfgffldoiedlaaCl
import Derived.Test.YtlfgffldoiedlaaCe
import Derived.Test.YtlfgffldoiedlaaBap
import Derived.Test.YtlfgffldoiedlaaCutb
namespace Go.Proofs.Ytlfgffldoiedlaa
open Go.RowKit
set_option linter.unusedVariables false

theorem cres_small {bs : List Int} {e n g : Int} {l : List Bm.Ov} (h : Cm.CRes bs e n l g) : SmallO l ∧ l.length ≤ 8 := by
  rcases h with ⟨_, h, _⟩ | ⟨_, _, _, rfl, _⟩
  · have := (Cm.chk_zero h).2.2.2.2
    exact ⟨small_of this, (Bm.chkL_zero this).2.1⟩
  · exact ⟨fun o ho => by simp at ho, by simp⟩

set_option maxRecDepth 100000 in
set_option maxHeartbeats 4000000 in
theorem commitReads_walk (vb : Value) (bs : List Int) (w : World) (hb : Is .u8 w vb bs) (hbl : bs.length * 1 ≤ 140737488351232) :
    Calls Try.prog 5 #[vb] w fun e w' => e = .returned (.bool true) ∧ Below w.heap.size w w' := by
  rw [Nat.mul_one] at hbl
  have hlenb := hb.len_run Try.elemP
  go_enter Try.func5, Try.ntmps5
  go_wp2_with fail
  refine (lent_any _ bs _ hb hbl).mono ?_
  rintro E w1 ⟨v1, rfl, own1, bel1⟩
  have sz1 := bel1.size
  obtain ⟨vs, hsl, isl⟩ := own1.is.slice_h Try.elemP Try.sizeP bs.length (by simp)
  rw [List.take_left] at isl
  go_wp2_with fail
  refine (cdec_any vs bs _ isl (by omega)).mono ?_
  rintro E w2 ⟨e, n, g, va, l, rfl, ownl, hR, bel2⟩
  unfold cmv
  have sz2 := bel2.size
  have isl2 := isl.below bel2
  have HL := hide ownl.block
  have HR := hide hR
  obtain ⟨aa, ca, hva, _, _⟩ := ownl.is.shape
  subst hva
  obtain ⟨V, hV, hV2, szV, belV, bC, c0, c1, c2⟩ := new_step w2 24 (.int .i64 0) (.int .i64 0) (.slice none 0 0) (.int .i64 e) (.int .i64 n) (.slice aa l.length ca)
  have islV := isl2.below belV
  have BC := hide bC
  clear isl isl2 hR c0 c1 c2 bC
  go_wp2_with fail
  refine (cdec_any vs bs _ islV (by omega)).mono ?_
  rintro E w3 ⟨e3, n3, g3, vk, k, rfl, ownk, hR3, bel3⟩
  obtain ⟨rfl, rfl, rfl, rfl⟩ := Cm.cres_one HR.out hR3
  unfold cmv
  have sz3 := bel3.size
  obtain ⟨ak, ck, hvk, _, _⟩ := ownk.is.shape
  subst hvk
  obtain ⟨X, hX, hX2, szX, belX, bD, d0, d1, d2⟩ := new_step w3 24 (.int .i64 0) (.int .i64 0) (.slice none 0 0) (.int .i64 e) (.int .i64 n) (.slice ak l.length ck)
  have bel1X : Below w1.heap.size w1 X := ((bel2.trans (belV.mono (by omega))).trans (bel3.mono (by omega))).trans (belX.mono (by omega))
  have belVX : Below V.heap.size V X := bel3.trans (belX.mono (by omega))
  have bel0X : Below w.heap.size w X := bel1.trans (bel1X.mono sz1)
  have hbX := hb.below bel0X
  have bCX := (belVX.block w2.heap.size (by omega)).trans BC.out
  have ownlX := (ownl.below belV).below belVX
  have ownkX := ownk.below belX
  have own1X := own1.below bel1X
  have BC2 := hide bCX
  have BD := hide bD
  clear BC bCX bD belV belX bel3 bel2 bel1 belVX bel1X ownl ownk own1 hR3 hsl islV d0 d1 d2 hV hV2
  go_wp2_with fail
  refine (cdecR_any _ bs _ hbX (by omega)).mono ?_
  rintro E w4 ⟨e4, n4, g4, vm, m, rfl, ownm, hR4, bel4⟩
  obtain ⟨rfl, rfl, rfl, rfl⟩ := Cm.cres_one HR.out hR4
  obtain ⟨hsm, hl8⟩ := cres_small hR4
  unfold cmv
  have hfit := hsm.fit
  have sz4 := bel4.size
  obtain ⟨am, cm, hvm, _, _⟩ := ownm.is.shape
  subst hvm
  obtain ⟨Y, hY, hY2, szY, belY, bF, f0, f1, f2⟩ := new_step w4 24 (.int .i64 0) (.int .i64 0) (.slice none 0 0) (.int .i64 e) (.int .i64 n) (.slice am l.length cm)
  have belXY : Below X.heap.size X Y := bel4.trans (belY.mono (by omega))
  have bel0Y := bel0X.trans (belXY.mono (by omega))
  have ownmY := ownm.below belY
  have BF := hide bF
  clear hR4 hsm belY bel4 ownm f0 f1 f2 HR hX hX2
  go_wp2_with fail
  refine (lives_any _).mono ?_
  rintro E w5 ⟨rfl, bel5⟩
  have sz5 := bel5.size
  have belX5 : Below X.heap.size X w5 := belXY.trans (bel5.mono (by omega))
  have bel05 := bel0Y.trans (bel5.mono (by omega))
  have bC5 := (belX5.block w2.heap.size (by omega)).trans BC2.out
  have bD5 := (belX5.block w3.heap.size (by omega)).trans BD.out
  have bF5 := (bel5.block w4.heap.size (by omega)).trans BF.out
  have ownl5 := ownlX.below belX5
  have ownk5 := ownkX.below belX5
  have ownm5 := ownmY.below bel5
  have own15 := own1X.below belX5
  have hb5 := hb.below bel05
  have c0 := blk_cell bC5 0 rfl
  have c1 := blk_cell bC5 1 rfl
  have c2 := blk_cell bC5 2 rfl
  have f0 := blk_cell bF5 0 rfl
  have f1 := blk_cell bF5 1 rfl
  have f2 := blk_cell bF5 2 rfl
  have BC5 := hide bC5
  have BD5 := hide bD5
  clear bC5 bD5 bF5 BC2 BD BF belXY belX5 bel5 bel0Y bel0X ownlX ownkX ownmY own1X hbX hY hY2 hlenb
  go_wp2_with fail
  refine (csameK_any e n _ l e n _ l _ ownl5.is ownm5.is (by omega) (by omega)).mono ?_
  rintro E w6 ⟨rfl, bel6⟩
  rw [sameC_self]
  have sz6 := bel6.size
  have own16 := own15.below bel6
  have hb6 := hb5.below bel6
  clear c0 c1 c2 f0 f1 f2
  go_wp2_with fail
  refine (kept_yes _ _ bs _ _ own16.is hb6 hbl rfl).mono ?_
  rintro E w7 ⟨rfl, bel7⟩
  have sz7 := bel7.size
  have bel57 := bel6.trans (bel7.mono sz6)
  have bel07 := bel05.trans (bel57.mono (by omega))
  have ownl7 := ownl5.below bel57
  have ownk7 := ownk5.below bel57
  have bC7 := (bel57.block w2.heap.size (by omega)).trans BC5.out
  have bD7 := (bel57.block w3.heap.size (by omega)).trans BD5.out
  have c2 := blk_cell bC7 2 rfl
  have d2 := blk_cell bD7 2 rfl
  have L := listsO_two (s1 := V.heap.size) ownk7 ownl7 (fun x hx => by have := (HL.out x hx).2; omega) (by omega) (by omega) (by omega) hfit hfit
  have LL := hide L
  clear L bel6 bel7 bel57 bel05 ownl5 ownk5 ownm5 own15 own16 hb5 hb6 ownl7 ownk7 BC5 BD5 bC7 bD7
  go_wp2_with fail
  refine (apartO_yes 2 _ 2 w1.heap.size _ _ _ (by omega) (by omega) (by simp; omega) LL.out (by omega)).mono ?_
  rintro E w8 ⟨rfl, bel8⟩
  have bel08 : Below w.heap.size w w8 := (bel07.alloc (by omega) _).trans (bel8.mono sz1)
  clear LL bel8
  go_wp2
  go_ret
  exact ⟨rfl, bel08⟩

end Go.Proofs.Ytlfgffldoiedlaa
