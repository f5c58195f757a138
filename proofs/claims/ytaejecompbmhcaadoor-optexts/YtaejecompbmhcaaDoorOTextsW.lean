/- The walk of the law OpTexts. -/
import Derived.Test.YtaejecompbmhcaaDoorOlive
import Derived.Test.YtaejecompbmhcaaDoorSpl
import Derived.Test.YtaejecompbmhcaaDoorShelf
namespace Go.Proofs.YtaejecompbmhcaaDoor
open Go.RowKit
set_option linter.unusedVariables false

set_option maxRecDepth 100000 in
set_option maxHeartbeats 4000000 in
theorem opTexts_walk (p : Bool) (k v : ByteArray) (q : Bool) (l u : ByteArray) (w : World) (m : Int) (hk : k.size ≤ 140737488351232) (hv : v.size ≤ 140737488351232) (hl : l.size ≤ 140737488351232) (hu : u.size ≤ 140737488351232) (hm : w.cell? ⟨0, 0, none⟩ = some (.int .i64 m)) :
    Calls Tryd.prog 3 #[opv p k v, opv q l u] w fun E w' => E = .returned (.bool true) ∧ Below w.heap.size w w' := by
  have h0 : 0 < w.heap.size := World.block_lt_of_cell? _ _ hm
  obtain ⟨W0, hW0, sz0, bel0, blk0⟩ := blk_step w #[.bool p, .string k, .string v] 23
  obtain ⟨W1, hW1, sz1, bel1, blk1⟩ := blk_step W0 #[.bool q, .string l, .string u] 23
  have blkO := (bel1.block w.heap.size (by omega)).trans blk0
  rw [sz0] at blk1
  have belA : Below w.heap.size w W1 := bel0.trans (bel1.mono (by omega))
  unfold opv
  go_enter Tryd.func3, Tryd.ntmps3
  go_wp2_with fail
  refine (lives_any _).mono ?_
  rintro E w2 ⟨rfl, bel2⟩
  have sz2 := bel2.size
  have blkO2 := (bel2.block w.heap.size (by omega)).trans blkO
  have blkP2 := (bel2.block (w.heap.size + 1) (by omega)).trans blk1
  have c0 : w2.cell? ⟨w.heap.size, 0, none⟩ = some (.bool p) := blk_cell blkO2 0 rfl
  have c1 : w2.cell? ⟨w.heap.size, 1, none⟩ = some (.string k) := blk_cell blkO2 1 rfl
  have c2 : w2.cell? ⟨w.heap.size, 2, none⟩ = some (.string v) := blk_cell blkO2 2 rfl
  have belB := belA.trans (bel2.mono (by omega))
  clear hW0 hW1 blk0 blk1 blkO bel0 bel1 bel2 belA
  go_wp2_with fail
  refine (text_any p k v _ hk hv).mono ?_
  rintro E w3 ⟨t1, rfl, ht1, bel3⟩
  have sz3 := bel3.size
  have blkO3 := (bel3.block w.heap.size (by omega)).trans blkO2
  have blkP3 := (bel3.block (w.heap.size + 1) (by omega)).trans blkP2
  have d0 : w3.cell? ⟨w.heap.size + 1, 0, none⟩ = some (.bool q) := blk_cell blkP3 0 rfl
  have d1 : w3.cell? ⟨w.heap.size + 1, 1, none⟩ = some (.string l) := blk_cell blkP3 1 rfl
  have d2 : w3.cell? ⟨w.heap.size + 1, 2, none⟩ = some (.string u) := blk_cell blkP3 2 rfl
  have belC := belB.trans (bel3.mono (by omega))
  have HT1 := hide ht1
  clear c0 c1 c2 bel3 belB ht1 blkO2 blkP2
  go_wp2_with fail
  refine (text_any q l u _ hl hu).mono ?_
  rintro E w4 ⟨t2, rfl, ht2, bel4⟩
  have sz4 := bel4.size
  have blkO4 := (bel4.block w.heap.size (by omega)).trans blkO3
  have blkP4 := (bel4.block (w.heap.size + 1) (by omega)).trans blkP3
  have c0 : w4.cell? ⟨w.heap.size, 0, none⟩ = some (.bool p) := blk_cell blkO4 0 rfl
  have c1 : w4.cell? ⟨w.heap.size, 1, none⟩ = some (.string k) := blk_cell blkO4 1 rfl
  have c2 : w4.cell? ⟨w.heap.size, 2, none⟩ = some (.string v) := blk_cell blkO4 2 rfl
  have belD := belC.trans (bel4.mono (by omega))
  have HT2 := hide ht2
  clear d0 d1 d2 bel4 belC ht2 blkO3 blkP3
  rcases Om.chk_two p k.data.toList v.data.toList with hc | hc
  · have ht1 := HT1.out
    rw [txd_ok hc] at ht1
    have hh := Om.chk_ok' hc
    rw [← Lib.size_eq, ← Lib.size_eq] at hh
    have hzk := wd_short k (by omega)
    have hzv := wd_short v (by omega)
    have hm4 := (belD.cell (p := ⟨0, 0, none⟩) h0).trans hm
    have ht1s : t1.size ≤ 300 := by
      rw [Lib.size_eq, ht1]
      have e1 := Wm.wd_le k.data.toList
      have e2 := Wm.wd_le v.data.toList
      rw [← Lib.size_eq] at e1 e2
      unfold txt
      split <;> simp <;> omega
    have HFIN : Hid (Om.chk q l.data.toList u.data.toList = 0 → (t1 = t2 ↔ (p = q ∧ k = l ∧ v = u))) := by
      intro hc2
      have h2 := HT2.out
      rw [txd_ok hc2] at h2
      constructor
      · intro e
        subst e
        obtain ⟨rfl, g1, g2⟩ := txt_inj hc hc2 (ht1.symm.trans h2)
        exact ⟨rfl, ba_ext g1, ba_ext g2⟩
      · rintro ⟨rfl, rfl, rfl⟩
        exact ba_ext (ht1.trans h2.symm)
    rw [hc]
    cases p
    · obtain ⟨hcount, hsplit⟩ := split_del ht1
      obtain ⟨zk, hz⟩ : ∃ z : ByteArray, (⟨(Wm.wd k.data.toList).toArray⟩ : ByteArray) = z := ⟨_, rfl⟩
      rw [hz] at hsplit hzk
      have hzl : zk.data.toList = Wm.wd k.data.toList := by rw [← hz]
      have HZL := hide hzl
      obtain ⟨W5, hW5, sz5, bel5, blk5⟩ := blk_step w4 #[.string ⟨#[100, 101, 108]⟩, .string zk] 9
      have hS : Calls Tryd.prog 7 #[.string t1, .string ⟨#[32]⟩] w4 fun e w' => e = .returned (.slice (some ⟨w4.heap.size, 0, none⟩) 2 2) ∧ W5 = w' := by
        refine (Tryd.strings_Split t1 ⟨#[32]⟩ m w4 (by omega) hm4 (by decide)).mono ?_
        rintro e w' ⟨rfl, rfl⟩
        rw [hcount, hsplit]
        exact ⟨rfl, hW5.symm⟩
      have HS := hide hS
      have blkO5 := (bel5.block w.heap.size (by omega)).trans blkO4
      have blkP5 := (bel5.block (w.heap.size + 1) (by omega)).trans blkP4
      have s0 : W5.cell? ⟨w4.heap.size, 0, none⟩ = some (.string ⟨#[100, 101, 108]⟩) := blk_cell blk5 0 rfl
      have s1 : W5.cell? ⟨w4.heap.size, 1, none⟩ = some (.string zk) := blk_cell blk5 1 rfl
      have q0 : W5.cell? ⟨w.heap.size, 0, none⟩ = some (.bool false) := blk_cell blkO5 0 rfl
      have belE := belD.trans (bel5.mono (by omega))
      clear hz hzl hh hS hcount hsplit ht1 HT1 HT2 c0 c1 c2 hW5 bel5 belD blkO4 blkP4
      go_wp2_with fail
      refine HS.out.mono ?_
      rintro E w5 ⟨rfl, rfl⟩
      go_wp2_with fail
      go_quiet (fail)
      go_wp2_with fail
      refine (byts_any zk _ (by omega)).mono ?_
      rintro E w6 ⟨y, f, rfl, hY, bel6'⟩
      rw [HZL.out] at hY
      obtain ⟨hy, rfl⟩ := Wm.bres_wd hY
      obtain rfl := (ba_ext hy).symm
      have bel6 : Below W5.heap.size W5 w6 := (below_drewN (Below.refl _ _) nq).trans bel6'
      have sz6 := bel6.size
      have blkO6 := (bel6.block w.heap.size (by omega)).trans blkO5
      have blkP6 := (bel6.block (w.heap.size + 1) (by omega)).trans blkP5
      have blkS6 := (bel6.block w4.heap.size (by omega)).trans blk5
      have r0 : w6.cell? ⟨w.heap.size, 0, none⟩ = some (.bool false) := blk_cell blkO6 0 rfl
      have r1 : w6.cell? ⟨w.heap.size, 1, none⟩ = some (.string k) := blk_cell blkO6 1 rfl
      have r2 : w6.cell? ⟨w.heap.size, 2, none⟩ = some (.string v) := blk_cell blkO6 2 rfl
      have belF := belE.trans (bel6.mono (by omega))
      clear hY hy bel6' bel6 s0 s1 q0 belE blkO5 blkP5 blk5
      have y0 : w6.cell? ⟨w.heap.size + 1, 0, none⟩ = some (.bool q) := blk_cell blkP6 0 rfl
      have y1 : w6.cell? ⟨w.heap.size + 1, 1, none⟩ = some (.string l) := blk_cell blkP6 1 rfl
      have y2 : w6.cell? ⟨w.heap.size + 1, 2, none⟩ = some (.string u) := blk_cell blkP6 2 rfl
      rcases Om.chk_two q l.data.toList u.data.toList with hc2 | hc2
      · have hfin := HFIN.out hc2
        rw [hc2]
        by_cases hsame : (false = q ∧ k = l ∧ v = u)
        · have htt := hfin.2 hsame
          obtain ⟨rfl, rfl, rfl⟩ := hsame
          subst htt
          clear hfin HFIN hc2
          go_wp2_with fail
          go_ret
          exact ⟨rfl, belF⟩
        · have htt : (t1.toList == t2.toList) = false := by
            rw [Lib.toList_data, Lib.toList_data]
            simp only [beq_eq_false_iff_ne]
            exact fun e => hsame (hfin.1 (ba_ext e))
          have hss : ((false == q) && (k.toList == l.toList) && (v.toList == u.toList)) = false := by
            rw [Bool.eq_false_iff]
            intro h
            simp only [Bool.and_eq_true, beq_iff_eq, Lib.toList_data] at h
            exact hsame ⟨h.1.1, ba_ext h.1.2, ba_ext h.2⟩
          clear hfin HFIN hc2 hsame
          go_wp2_with fail
          all_goals first | (go_ret; exact ⟨rfl, belF⟩) | (exfalso; simp_all)
      · rw [hc2]
        clear HFIN hc2
        go_wp2
        go_ret
        exact ⟨rfl, belF⟩
    · obtain ⟨hcount, hsplit⟩ := split_put ht1
      obtain ⟨zk, hz⟩ : ∃ z : ByteArray, (⟨(Wm.wd k.data.toList).toArray⟩ : ByteArray) = z := ⟨_, rfl⟩
      obtain ⟨zv, hz2⟩ : ∃ z : ByteArray, (⟨(Wm.wd v.data.toList).toArray⟩ : ByteArray) = z := ⟨_, rfl⟩
      rw [hz2] at hsplit hzv
      have hzvl : zv.data.toList = Wm.wd v.data.toList := by rw [← hz2]
      have HZV := hide hzvl
      rw [hz] at hsplit hzk
      have hzl : zk.data.toList = Wm.wd k.data.toList := by rw [← hz]
      have HZL := hide hzl
      obtain ⟨W5, hW5, sz5, bel5, blk5⟩ := blk_step w4 #[.string ⟨#[112, 117, 116]⟩, .string zk, .string zv] 9
      have hS : Calls Tryd.prog 7 #[.string t1, .string ⟨#[32]⟩] w4 fun e w' => e = .returned (.slice (some ⟨w4.heap.size, 0, none⟩) 3 3) ∧ W5 = w' := by
        refine (Tryd.strings_Split t1 ⟨#[32]⟩ m w4 (by omega) hm4 (by decide)).mono ?_
        rintro e w' ⟨rfl, rfl⟩
        rw [hcount, hsplit]
        exact ⟨rfl, hW5.symm⟩
      have HS := hide hS
      have blkO5 := (bel5.block w.heap.size (by omega)).trans blkO4
      have blkP5 := (bel5.block (w.heap.size + 1) (by omega)).trans blkP4
      have s0 : W5.cell? ⟨w4.heap.size, 0, none⟩ = some (.string ⟨#[112, 117, 116]⟩) := blk_cell blk5 0 rfl
      have s1 : W5.cell? ⟨w4.heap.size, 1, none⟩ = some (.string zk) := blk_cell blk5 1 rfl
      have q0 : W5.cell? ⟨w.heap.size, 0, none⟩ = some (.bool true) := blk_cell blkO5 0 rfl
      have belE := belD.trans (bel5.mono (by omega))
      clear hz hzl hh hS hcount hsplit ht1 HT1 HT2 c0 c1 c2 hW5 bel5 belD blkO4 blkP4 hz2 hzvl
      go_wp2_with fail
      refine HS.out.mono ?_
      rintro E w5 ⟨rfl, rfl⟩
      go_wp2_with fail
      go_quiet (fail)
      go_wp2_with fail
      refine (byts_any zk _ (by omega)).mono ?_
      rintro E w6 ⟨y, f, rfl, hY, bel6'⟩
      rw [HZL.out] at hY
      obtain ⟨hy, rfl⟩ := Wm.bres_wd hY
      obtain rfl := (ba_ext hy).symm
      have bel6 : Below W5.heap.size W5 w6 := (below_drewN (Below.refl _ _) nq).trans bel6'
      have sz6 := bel6.size
      have blkO6 := (bel6.block w.heap.size (by omega)).trans blkO5
      have blkP6 := (bel6.block (w.heap.size + 1) (by omega)).trans blkP5
      have blkS6 := (bel6.block w4.heap.size (by omega)).trans blk5
      have r0 : w6.cell? ⟨w.heap.size, 0, none⟩ = some (.bool true) := blk_cell blkO6 0 rfl
      have r1 : w6.cell? ⟨w.heap.size, 1, none⟩ = some (.string k) := blk_cell blkO6 1 rfl
      have r2 : w6.cell? ⟨w.heap.size, 2, none⟩ = some (.string v) := blk_cell blkO6 2 rfl
      have belF := belE.trans (bel6.mono (by omega))
      clear hY hy bel6' bel6 s0 s1 q0 belE blkO5 blkP5 blk5
      have s2 : w6.cell? ⟨w4.heap.size, 2, none⟩ = some (.string zv) := blk_cell blkS6 2 rfl
      go_wp2_with fail
      refine (byts_any zv _ (by omega)).mono ?_
      rintro E w7 ⟨y, f, rfl, hY, bel7⟩
      rw [HZV.out] at hY
      obtain ⟨hy, rfl⟩ := Wm.bres_wd hY
      obtain rfl := (ba_ext hy).symm
      have sz7 := bel7.size
      have blkO7 := (bel7.block w.heap.size (by omega)).trans blkO6
      have blkP7 := (bel7.block (w.heap.size + 1) (by omega)).trans blkP6
      have x0 : w7.cell? ⟨w.heap.size, 0, none⟩ = some (.bool true) := blk_cell blkO7 0 rfl
      have x1 : w7.cell? ⟨w.heap.size, 1, none⟩ = some (.string k) := blk_cell blkO7 1 rfl
      have x2 : w7.cell? ⟨w.heap.size, 2, none⟩ = some (.string v) := blk_cell blkO7 2 rfl
      have belG := belF.trans (bel7.mono (by omega))
      clear hY hy bel7 r0 r1 r2 s2 belF blkO6 blkP6 blkS6
      have y0 : w7.cell? ⟨w.heap.size + 1, 0, none⟩ = some (.bool q) := blk_cell blkP7 0 rfl
      have y1 : w7.cell? ⟨w.heap.size + 1, 1, none⟩ = some (.string l) := blk_cell blkP7 1 rfl
      have y2 : w7.cell? ⟨w.heap.size + 1, 2, none⟩ = some (.string u) := blk_cell blkP7 2 rfl
      rcases Om.chk_two q l.data.toList u.data.toList with hc2 | hc2
      · have hfin := HFIN.out hc2
        rw [hc2]
        by_cases hsame : (true = q ∧ k = l ∧ v = u)
        · have htt := hfin.2 hsame
          obtain ⟨rfl, rfl, rfl⟩ := hsame
          subst htt
          clear hfin HFIN hc2
          go_wp2_with fail
          go_ret
          exact ⟨rfl, belG⟩
        · have htt : (t1.toList == t2.toList) = false := by
            rw [Lib.toList_data, Lib.toList_data]
            simp only [beq_eq_false_iff_ne]
            exact fun e => hsame (hfin.1 (ba_ext e))
          have hss : ((true == q) && (k.toList == l.toList) && (v.toList == u.toList)) = false := by
            rw [Bool.eq_false_iff]
            intro h
            simp only [Bool.and_eq_true, beq_iff_eq, Lib.toList_data] at h
            exact hsame ⟨h.1.1, ba_ext h.1.2, ba_ext h.2⟩
          clear hfin HFIN hc2 hsame
          go_wp2_with fail
          all_goals first | (go_ret; exact ⟨rfl, belG⟩) | (exfalso; simp_all)
      · rw [hc2]
        clear HFIN hc2
        go_wp2
        go_ret
        exact ⟨rfl, belG⟩
  · rw [hc]
    have ht1 := HT1.out
    rw [txd_no hc] at ht1
    have he : t1.toList.isEmpty = true := by rw [Lib.toList_data, ht1]; rfl
    have HC := hide hc
    clear hc ht1 HT1 HT2
    go_wp2_with fail
    refine (check_any p k v _ hk hv).mono ?_
    rintro E w5 ⟨rfl, bel5⟩
    rw [HC.out]
    go_wp2
    go_ret
    exact ⟨rfl, belD.trans (bel5.mono belD.size)⟩

end Go.Proofs.YtaejecompbmhcaaDoor
