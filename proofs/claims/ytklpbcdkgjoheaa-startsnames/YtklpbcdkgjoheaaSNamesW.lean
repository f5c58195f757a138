/- StartsNames: the walk. -/
import Derived.Test.YtklpbcdkgjoheaaSn
namespace Go.Proofs.Ytklpbcdkgjoheaa
open Go.RowKit
set_option linter.unusedVariables false

theorem okC : Sm.Ok [(1, 1)] 7 := by simp [Sm.Ok, Sm.Up]
theorem okD : Sm.Ok [(1, 1), (2, 5)] 9 := by simp [Sm.Ok, Sm.Up]
theorem okN : Sm.Ok [] 0 := by simp [Sm.Ok, Sm.Up]

theorem frCD : frE [(1, 1)] 7 [(1, 1), (2, 5)] 9 = 0 ∧ ∀ n, Fr [(1, 1)] 7 [(1, 1), (2, 5)] 9 n → n = 4 := by
  have h : frE [(1, 1)] 7 [(1, 1), (2, 5)] 9 = 0 := by unfold frE; rw [Sm.chk_ok okC, Sm.chk_ok okD]; rfl
  refine ⟨h, fun n hn => fr_one hn (.inl ⟨h, by decide, by decide, by decide, by decide, fun m h1 h2 h3 => ?_⟩)⟩
  rcases (by omega : m = 5 ∨ m = 6 ∨ m = 7) with rfl | rfl | rfl <;> decide

theorem frCN : frE [(1, 1)] 7 [] 0 = 0 ∧ ∀ n, Fr [(1, 1)] 7 [] 0 n → n = 0 := by
  have h : frE [(1, 1)] 7 [] 0 = 0 := by unfold frE; rw [Sm.chk_ok okC, Sm.chk_ok okN]; rfl
  refine ⟨h, fun n hn => fr_one hn (.inl ⟨h, by decide, by decide, by decide, by decide, fun m h1 h2 h3 => ?_⟩)⟩
  omega

theorem noE : Sm.chk [(1, 2)] 3 = 5 ∧ Sm.chk [(1, 1), (1, 3)] 3 = 5 ∧ Sm.chk [(1, 1)] 0 = 5 ∧ Sm.chk [] 0 = 0 ∧ Sm.chk [] 1 = 5 :=
  ⟨Sm.chk_no (by simp [Sm.Ok, Sm.Up]), Sm.chk_no (by simp [Sm.Ok, Sm.Up]), Sm.chk_no (by simp [Sm.Ok, Sm.Up]), Sm.chk_ok okN, Sm.chk_no (by simp [Sm.Ok, Sm.Up])⟩

set_option maxRecDepth 100000 in
set_option maxHeartbeats 4000000 in
theorem startsNames_walk (w : World) :
    Calls Try.prog 3 #[] w fun e w' => e = .returned (.bool true) ∧ Below w.heap.size w w' := by
  have A0 := hide (atA 0 (by decide))
  have V0 : Hid (Sm.epo 0 0 [(1, 1), (3, 4)] = 0) := hide rfl
  have A3 := hide (atA 3 (by decide))
  have V3 : Hid (Sm.epo 3 0 [(1, 1), (3, 4)] = 1) := hide rfl
  have A6 := hide (atE_two (n := 6) (Sm.chk_ok okA) (by decide))
  have CD := hide frCD
  have CN := hide frCN
  obtain ⟨n1, n2, n3, n4, n5⟩ := noE
  have N1 := hide n1
  have N2 := hide n2
  have N3 := hide n3
  have N4 := hide n4
  have N5 := hide n5
  have T3 : Hid (trm [(1, 1), (3, 4)] 5 3 = [(1, 1)]) := hide (by unfold trm; rw [if_pos A3.out.1]; rfl)
  have T0 : Hid (trm [(1, 1), (3, 4)] 5 0 = []) := hide (by unfold trm; rw [if_pos A0.out.1]; rfl)
  clear n1 n2 n3 n4 n5
  go_enter Try.func3, Try.ntmps3
  go_wp2_with fail
  refine (ofL _ _ [1, 1, 3, 4] 4 2 [(1, 1), (3, 4)] rfl rfl rfl (by decide) (by decide) (by decide) rfl).mono ?_
  rintro E w1 ⟨vx, rfl, own1, bel1⟩
  have rx := own1.row
  clear own1
  go_wp2_with fail
  refine (at_any vx _ 5 0 w1 rx (by decide)).mono ?_
  rintro E w2 ⟨rfl, bel2⟩
  rw [A0.out.1, A0.out.2, V0.out]
  replace rx := rx.below bel2
  replace bel1 := bel1.trans (bel2.mono bel1.size)
  clear bel2
  go_wp2_with fail
  refine (at_any vx _ 5 3 w2 rx (by decide)).mono ?_
  rintro E w3 ⟨rfl, bel2⟩
  rw [A3.out.1, A3.out.2, V3.out]
  replace rx := rx.below bel2
  replace bel1 := bel1.trans (bel2.mono bel1.size)
  clear bel2
  go_wp2_with fail
  refine (at_any vx _ 5 6 w3 rx (by decide)).mono ?_
  rintro E w4 ⟨rfl, bel2⟩
  rw [A6.out.1, A6.out.2]
  replace rx := rx.below bel2
  replace bel1 := bel1.trans (bel2.mono bel1.size)
  clear bel2
  go_wp2_with fail
  refine (ofL _ _ [1, 1] 2 1 [(1, 1)] rfl rfl rfl (by decide) (by decide) (by decide) rfl).mono ?_
  rintro E w5 ⟨v5, rfl, own5, bel2⟩
  replace rx := rx.below bel2
  replace bel1 := bel1.trans (bel2.mono bel1.size)
  clear bel2
  go_wp2_with fail
  refine (ofL _ _ [1, 1, 2, 5] 4 2 [(1, 1), (2, 5)] rfl rfl rfl (by decide) (by decide) (by decide) rfl).mono ?_
  rintro E w6 ⟨v6, rfl, own6, bel2⟩
  replace rx := rx.below bel2
  have r5 := own5.row.below bel2
  have r6 := own6.row
  replace bel1 := bel1.trans (bel2.mono bel1.size)
  clear bel2 own5 own6
  go_wp2_with fail
  refine (sfork_any v5 v6 _ _ 7 9 w6 r5 r6 (by decide) (by decide)).mono ?_
  rintro E w7 ⟨n, rfl, hfr, bel2⟩
  obtain rfl := CD.out.2 n hfr
  rw [CD.out.1]
  replace rx := rx.below bel2
  replace bel1 := bel1.trans (bel2.mono bel1.size)
  clear bel2 r5 r6 hfr
  go_wp2_with fail
  refine (ofL _ _ [1, 1] 2 1 [(1, 1)] rfl rfl rfl (by decide) (by decide) (by decide) rfl).mono ?_
  rintro E w8 ⟨v8, rfl, own5, bel2⟩
  replace rx := rx.below bel2
  replace bel1 := bel1.trans (bel2.mono bel1.size)
  have r5 := own5.row
  clear bel2 own5
  go_wp2_with fail
  refine (sfork_any v8 (.slice none 0 0) _ [] 7 0 w8 r5 (RowG.nil _ _) (by decide) (by decide)).mono ?_
  rintro E w9 ⟨n, rfl, hfr, bel2⟩
  obtain rfl := CN.out.2 n hfr
  rw [CN.out.1]
  replace rx := rx.below bel2
  replace bel1 := bel1.trans (bel2.mono bel1.size)
  clear bel2 r5 hfr
  go_wp2_with fail
  refine (ofL _ _ [1, 2] 2 1 [(1, 2)] rfl rfl rfl (by decide) (by decide) (by decide) rfl).mono ?_
  rintro E w10 ⟨v10, rfl, own5, bel2⟩
  replace rx := rx.below bel2
  replace bel1 := bel1.trans (bel2.mono bel1.size)
  have r5 := own5.row
  clear bel2 own5
  go_wp2_with fail
  refine (scheck_any v10 [(1, 2)] 3 w10 r5 (by decide)).mono ?_
  rintro E w11 ⟨rfl, bel2⟩
  rw [N1.out]
  replace rx := rx.below bel2
  replace bel1 := bel1.trans (bel2.mono bel1.size)
  clear bel2 r5
  go_wp2_with fail
  refine (ofL _ _ [1, 1, 1, 3] 4 2 [(1, 1), (1, 3)] rfl rfl rfl (by decide) (by decide) (by decide) rfl).mono ?_
  rintro E w12 ⟨v12, rfl, own5, bel2⟩
  replace rx := rx.below bel2
  replace bel1 := bel1.trans (bel2.mono bel1.size)
  have r5 := own5.row
  clear bel2 own5
  go_wp2_with fail
  refine (scheck_any v12 [(1, 1), (1, 3)] 3 w12 r5 (by decide)).mono ?_
  rintro E w13 ⟨rfl, bel2⟩
  rw [N2.out]
  replace rx := rx.below bel2
  replace bel1 := bel1.trans (bel2.mono bel1.size)
  clear bel2 r5
  go_wp2_with fail
  refine (ofL _ _ [1, 1] 2 1 [(1, 1)] rfl rfl rfl (by decide) (by decide) (by decide) rfl).mono ?_
  rintro E w14 ⟨v14, rfl, own5, bel2⟩
  replace rx := rx.below bel2
  replace bel1 := bel1.trans (bel2.mono bel1.size)
  have r5 := own5.row
  clear bel2 own5
  go_wp2_with fail
  refine (scheck_any v14 [(1, 1)] 0 w14 r5 (by decide)).mono ?_
  rintro E w15 ⟨rfl, bel2⟩
  rw [N3.out]
  replace rx := rx.below bel2
  replace bel1 := bel1.trans (bel2.mono bel1.size)
  clear bel2 r5
  have r5 : RowS w15 (.slice none 0 0) [] := RowG.nil _ _
  go_wp2_with fail
  refine (scheck_any (.slice none 0 0) [] 0 w15 r5 (by decide)).mono ?_
  rintro E w16 ⟨rfl, bel2⟩
  rw [N4.out]
  replace rx := rx.below bel2
  replace bel1 := bel1.trans (bel2.mono bel1.size)
  clear bel2 r5
  have r5 : RowS w16 (.slice none 0 0) [] := RowG.nil _ _
  go_wp2_with fail
  refine (scheck_any (.slice none 0 0) [] 1 w16 r5 (by decide)).mono ?_
  rintro E w17 ⟨rfl, bel2⟩
  rw [N5.out]
  replace rx := rx.below bel2
  replace bel1 := bel1.trans (bel2.mono bel1.size)
  clear bel2 r5
  go_wp2_with fail
  refine (trim_any vx _ 5 3 w17 rx (by decide)).mono ?_
  rintro E w18 ⟨v18, rfl, own18, bel2⟩
  rw [A3.out.1]
  rw [T3.out] at own18
  have r18 := own18.row
  replace rx := rx.below bel2
  replace bel1 := bel1.trans (bel2.mono bel1.size)
  clear bel2 own18
  go_wp2_with fail
  refine (trim_any vx _ 5 0 w18 rx (by decide)).mono ?_
  rintro E w19 ⟨v19, rfl, own19, bel2⟩
  rw [A0.out.1]
  rw [T0.out] at own19
  obtain ⟨a19, c19, rfl, _, _⟩ := own19.row.shape
  replace r18 := r18.below bel2
  replace rx := rx.below bel2
  replace bel1 := bel1.trans (bel2.mono bel1.size)
  clear bel2 own19
  simp only [List.length_nil]
  go_wp2_with fail
  refine (lives_any w19).mono ?_
  rintro E w20 ⟨rfl, bel2⟩
  replace r18 := r18.below bel2
  replace rx := rx.below bel2
  replace bel1 := bel1.trans (bel2.mono bel1.size)
  clear bel2
  go_wp2_with fail
  refine (ofL _ _ [1, 1] 2 1 [(1, 1)] rfl rfl rfl (by decide) (by decide) (by decide) rfl).mono ?_
  rintro E w21 ⟨v21, rfl, own21, bel2⟩
  replace r18 := r18.below bel2
  have r21 := own21.row
  replace rx := rx.below bel2
  replace bel1 := bel1.trans (bel2.mono bel1.size)
  clear bel2 own21
  go_wp2_with fail
  refine (sameS_yes v18 v21 [(1, 1)] w21 r18 r21 (by decide)).mono ?_
  rintro E w22 ⟨rfl, m, rfl⟩
  go_wp2
  go_ret
  exact ⟨rfl, below_drewN bel1 _⟩

end Go.Proofs.Ytklpbcdkgjoheaa
