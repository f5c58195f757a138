/- Texts of one layer, one behind the other. -/
import Derived.Test.YtajlhdmnincehaaGreatDoorH2
/- The contract of op's Append. -/
namespace Go.Proofs.YtajlhdmnincehaaGreatDoor
open Go.RowKit
set_option linter.unusedVariables false


set_option maxHeartbeats 400000 in
theorem oapp_any (vb : Value) (bs : List Int) (p : Bool) (k v : ByteArray) (w : World) (hb : Is .u8 w vb bs) (hl : bs.length ≤ 140737488351232) (hk : k.size ≤ 140737488351232) (hv : v.size ≤ 140737488351232) :
    Calls Tryz.prog 320 #[vb, opv p k v] w fun E w' => ∃ v', E = .returned (.tuple #[v', .int .i64 (Om.chk p k.data.toList v.data.toList)]) ∧ Own .u8 5 w.heap.size w' v' (Om.appd bs p k.data.toList v.data.toList) ∧ Below w.heap.size w w' := by
  obtain ⟨w0, hw0, sz0, bel0, cell0⟩ := alloc_step w #[.bool p, .string k, .string v] 88
  have c0 := cell0 0 _ rfl
  have c1 := cell0 1 _ rfl
  have c2 := cell0 2 _ rfl
  clear cell0
  have hb0 := hb.below bel0
  unfold opv
  rcases Om.chk_two p k.data.toList v.data.toList with hc | hc
  · obtain ⟨ao, cap, hshape, _, _⟩ := hb.shape
    subst hshape
    have hle := Om.opEnc_le hc
    have hh := Om.chk_ok' hc
    rw [← Lib.size_eq, ← Lib.size_eq] at hh
    have hh1 := hh.2.1
    have hh2 := hh.2.2.1
    obtain ⟨i0, hi, hz0, hz1, hz2⟩ := info_parts Tryz.info5
    rw [Om.appd_ok hc, hc]
    have HC := hide hc
    clear hc hh
    cases p
    · have hk64 : k.size ≤ 64 := by omega
      have hv64 : v.size ≤ 64 := by omega
      generalize hn : (Om.opEnc false k.data.toList v.data.toList).length = n at *
      have HN := hide hn
      clear hn
      go_enter Tryz.func320, Tryz.ntmps320
      go_wp2_with fail
      refine (check_any false k v _ hk hv).mono ?_
      rintro E w1 ⟨rfl, bel1⟩
      rw [HC.out]
      have d0 := (bel1.cell (p := ⟨w.heap.size, 0, none⟩) (by simp [sz0])).trans c0
      have d1 := (bel1.cell (p := ⟨w.heap.size, 1, none⟩) (by simp [sz0])).trans c1
      have d2 := (bel1.cell (p := ⟨w.heap.size, 2, none⟩) (by simp [sz0])).trans c2
      have hb1 := hb0.below bel1
      have sz1 := bel1.size
      go_wp2_with fail
      refine (osize_any false k v _ HC.out).mono ?_
      rintro E w2 ⟨rfl, bel2⟩
      rw [HN.out]
      have sz2 := bel2.size
      have f0 := (bel2.cell (p := ⟨w.heap.size, 0, none⟩) (by simp; omega)).trans d0
      have f1 := (bel2.cell (p := ⟨w.heap.size, 1, none⟩) (by simp; omega)).trans d1
      have f2 := (bel2.cell (p := ⟨w.heap.size, 2, none⟩) (by simp; omega)).trans d2
      have hb2 := hb1.below bel2
      clear hb1 d0 d1 d2 c0 c1 c2 hb0 hw0
      have bel02 : Below w.heap.size w w2 := (bel0.trans (bel1.mono bel0.size)).trans (bel2.mono (by omega))
      clear bel0 bel1 bel2
      go_wp2_with (at_make; refine wpList_make_own _ rfl _ _ 28 rfl (w.heap.size + 1) 5 i0 (.int .u8 0) 1 Tryz.underlying28 hi hz0 hz1 _ _ _ (bs.length + n) rfl rfl (by omega) ?b2 ?b3 (by omega) ?_)
      case b2 => rw [hz2]; omega
      case b3 => unfold maxLen; omega
      intro w3 hown3 hgrow3
      have bel3 : Below w2.heap.size w2 w3 := (Below.refl _ _).grown hgrow3 (Nat.le_refl _) (by simp)
      have own3 : Own .u8 5 (w.heap.size + 1) w3 (.slice (some ⟨w2.heap.size, 0, none⟩) 0 (bs.length + n)) [] := ⟨by simp, hown3⟩
      have hb3 := hb2.below bel3
      have sz3 := bel3.size
      clear hown3 hgrow3 hb2
      go_wp2_with (at_builtin; refine wpList_append_is rfl (.tmp 19) (.tmp 20) 28 rfl .u8 5 (w.heap.size + 1) 1 Tryz.underlying28 Tryz.info5 (by decide) _ [] rfl own3 _ bs rfl hb3 (by simp; omega) (by omega) ?_)
      intro v4 w4 own4 bel4 _
      have sz4 := bel4.size
      have g0 := (bel4.cell (p := ⟨w.heap.size, 0, none⟩) (by simp)).trans ((bel3.cell (p := ⟨w.heap.size, 0, none⟩) (by simp; omega)).trans f0)
      have g1 := (bel4.cell (p := ⟨w.heap.size, 1, none⟩) (by simp)).trans ((bel3.cell (p := ⟨w.heap.size, 1, none⟩) (by simp; omega)).trans f1)
      have g2 := (bel4.cell (p := ⟨w.heap.size, 2, none⟩) (by simp)).trans ((bel3.cell (p := ⟨w.heap.size, 2, none⟩) (by simp; omega)).trans f2)
      have bel04 : Below w.heap.size w w4 := (bel02.trans (bel3.mono (by omega))).trans (bel4.mono (by omega))
      clear f0 f1 f2 hb3 own3 bel02 bel3 bel4
      obtain ⟨w5, hw5, sz5, bel5, own5⟩ := own_step .u8 5 w4 #[.int .u8 0] 1 [0] rfl rfl (by simp [maxLen]) (by simp [wf_u8])
      go_wp2_with (at_builtin; refine wpList_append_is rfl (.tmp 25) (.tmp 26) 28 rfl .u8 5 (w.heap.size + 1) 1 Tryz.underlying28 Tryz.info5 (by decide) _ bs rfl (own4.below bel5) _ [0] rfl own5.is (by simp; omega) (by omega) ?_)
      intro v6 w6 own6 bel6 _
      have sz6 := bel6.size
      have k0 := (bel6.cell (p := ⟨w.heap.size, 0, none⟩) (by simp)).trans ((bel5.cell (p := ⟨w.heap.size, 0, none⟩) (by simp; omega)).trans g0)
      have k1 := (bel6.cell (p := ⟨w.heap.size, 1, none⟩) (by simp)).trans ((bel5.cell (p := ⟨w.heap.size, 1, none⟩) (by simp; omega)).trans g1)
      have k2 := (bel6.cell (p := ⟨w.heap.size, 2, none⟩) (by simp)).trans ((bel5.cell (p := ⟨w.heap.size, 2, none⟩) (by simp; omega)).trans g2)
      have bel06 : Below w.heap.size w w6 := (bel04.trans (bel5.mono (by omega))).trans (bel6.mono (by omega))
      clear g0 g1 g2 own4 own5 bel04 bel5 bel6 hw5
      have hl6 : (bs ++ [0]).length ≤ 140737488351300 := by rw [List.length_append]; simp; omega
      go_wp2_with fail
      refine (appc_any (w.heap.size + 1) _ _ k _ own6 (by omega) (by omega) hk64).mono ?_
      rintro E w7 ⟨v7, rfl, own7, bel7⟩
      have sz7 := bel7.size
      have own8 : Own .u8 5 w.heap.size w7 v7 (bs ++ Om.opEnc false k.data.toList v.data.toList) := by
        have : bs ++ Om.opEnc false k.data.toList v.data.toList = bs ++ [0] ++ Om.cnt k.data.toList := by unfold Om.opEnc; simp
        rw [this]
        exact own7.rebase (by omega)
      go_wp2
      go_ret2
      exact ⟨_, rfl, own8, bel06.trans (bel7.mono (by omega))⟩
    · have hk64 : k.size ≤ 64 := by omega
      have hv64 : v.size ≤ 64 := by omega
      generalize hn : (Om.opEnc true k.data.toList v.data.toList).length = n at *
      have HN := hide hn
      clear hn
      go_enter Tryz.func320, Tryz.ntmps320
      go_wp2_with fail
      refine (check_any true k v _ hk hv).mono ?_
      rintro E w1 ⟨rfl, bel1⟩
      rw [HC.out]
      have d0 := (bel1.cell (p := ⟨w.heap.size, 0, none⟩) (by simp [sz0])).trans c0
      have d1 := (bel1.cell (p := ⟨w.heap.size, 1, none⟩) (by simp [sz0])).trans c1
      have d2 := (bel1.cell (p := ⟨w.heap.size, 2, none⟩) (by simp [sz0])).trans c2
      have hb1 := hb0.below bel1
      have sz1 := bel1.size
      go_wp2_with fail
      refine (osize_any true k v _ HC.out).mono ?_
      rintro E w2 ⟨rfl, bel2⟩
      rw [HN.out]
      have sz2 := bel2.size
      have f0 := (bel2.cell (p := ⟨w.heap.size, 0, none⟩) (by simp; omega)).trans d0
      have f1 := (bel2.cell (p := ⟨w.heap.size, 1, none⟩) (by simp; omega)).trans d1
      have f2 := (bel2.cell (p := ⟨w.heap.size, 2, none⟩) (by simp; omega)).trans d2
      have hb2 := hb1.below bel2
      clear hb1 d0 d1 d2 c0 c1 c2 hb0 hw0
      have bel02 : Below w.heap.size w w2 := (bel0.trans (bel1.mono bel0.size)).trans (bel2.mono (by omega))
      clear bel0 bel1 bel2
      go_wp2_with (at_make; refine wpList_make_own _ rfl _ _ 28 rfl (w.heap.size + 1) 5 i0 (.int .u8 0) 1 Tryz.underlying28 hi hz0 hz1 _ _ _ (bs.length + n) rfl rfl (by omega) ?b2 ?b3 (by omega) ?_)
      case b2 => rw [hz2]; omega
      case b3 => unfold maxLen; omega
      intro w3 hown3 hgrow3
      have bel3 : Below w2.heap.size w2 w3 := (Below.refl _ _).grown hgrow3 (Nat.le_refl _) (by simp)
      have own3 : Own .u8 5 (w.heap.size + 1) w3 (.slice (some ⟨w2.heap.size, 0, none⟩) 0 (bs.length + n)) [] := ⟨by simp, hown3⟩
      have hb3 := hb2.below bel3
      have sz3 := bel3.size
      clear hown3 hgrow3 hb2
      go_wp2_with (at_builtin; refine wpList_append_is rfl (.tmp 19) (.tmp 20) 28 rfl .u8 5 (w.heap.size + 1) 1 Tryz.underlying28 Tryz.info5 (by decide) _ [] rfl own3 _ bs rfl hb3 (by simp; omega) (by omega) ?_)
      intro v4 w4 own4 bel4 _
      have sz4 := bel4.size
      have g0 := (bel4.cell (p := ⟨w.heap.size, 0, none⟩) (by simp)).trans ((bel3.cell (p := ⟨w.heap.size, 0, none⟩) (by simp; omega)).trans f0)
      have g1 := (bel4.cell (p := ⟨w.heap.size, 1, none⟩) (by simp)).trans ((bel3.cell (p := ⟨w.heap.size, 1, none⟩) (by simp; omega)).trans f1)
      have g2 := (bel4.cell (p := ⟨w.heap.size, 2, none⟩) (by simp)).trans ((bel3.cell (p := ⟨w.heap.size, 2, none⟩) (by simp; omega)).trans f2)
      have bel04 : Below w.heap.size w w4 := (bel02.trans (bel3.mono (by omega))).trans (bel4.mono (by omega))
      clear f0 f1 f2 hb3 own3 bel02 bel3 bel4
      obtain ⟨w5, hw5, sz5, bel5, own5⟩ := own_step .u8 5 w4 #[.int .u8 1] 1 [1] rfl rfl (by simp [maxLen]) (by simp [wf_u8])
      go_wp2_with (at_builtin; refine wpList_append_is rfl (.tmp 32) (.tmp 33) 28 rfl .u8 5 (w.heap.size + 1) 1 Tryz.underlying28 Tryz.info5 (by decide) _ bs rfl (own4.below bel5) _ [1] rfl own5.is (by simp; omega) (by omega) ?_)
      intro v6 w6 own6 bel6 _
      have sz6 := bel6.size
      have k0 := (bel6.cell (p := ⟨w.heap.size, 0, none⟩) (by simp)).trans ((bel5.cell (p := ⟨w.heap.size, 0, none⟩) (by simp; omega)).trans g0)
      have k1 := (bel6.cell (p := ⟨w.heap.size, 1, none⟩) (by simp)).trans ((bel5.cell (p := ⟨w.heap.size, 1, none⟩) (by simp; omega)).trans g1)
      have k2 := (bel6.cell (p := ⟨w.heap.size, 2, none⟩) (by simp)).trans ((bel5.cell (p := ⟨w.heap.size, 2, none⟩) (by simp; omega)).trans g2)
      have bel06 : Below w.heap.size w w6 := (bel04.trans (bel5.mono (by omega))).trans (bel6.mono (by omega))
      clear g0 g1 g2 own4 own5 bel04 bel5 bel6 hw5
      have hl6 : (bs ++ [1]).length ≤ 140737488351300 := by rw [List.length_append]; simp; omega
      go_wp2_with fail
      refine (appc_any (w.heap.size + 1) _ _ k _ own6 (by omega) (by omega) hk64).mono ?_
      rintro E w7 ⟨v7, rfl, own7, bel7⟩
      have sz7 := bel7.size
      have m2 := (bel7.cell (p := ⟨w.heap.size, 2, none⟩) (by simp)).trans k2
      have hl7 : (bs ++ [1] ++ Om.cnt k.data.toList).length ≤ 140737488351400 := by
        rw [List.length_append]
        have := Om.cnt_le (s := k.data.toList) (by rw [← Lib.size_eq]; omega)
        omega
      have bel07 : Below w.heap.size w w7 := bel06.trans (bel7.mono (by omega))
      clear own6 bel06 bel7 k0 k1 k2
      go_wp2_with fail
      refine (appc_any (w.heap.size + 1) _ _ v _ own7 (by omega) (by omega) hv64).mono ?_
      rintro E w8 ⟨v8, rfl, own8, bel8⟩
      have own9 : Own .u8 5 w.heap.size w8 v8 (bs ++ Om.opEnc true k.data.toList v.data.toList) := by
        have : bs ++ Om.opEnc true k.data.toList v.data.toList = bs ++ [1] ++ Om.cnt k.data.toList ++ Om.cnt v.data.toList := by unfold Om.opEnc; simp
        rw [this]
        exact own8.rebase (by omega)
      go_wp2
      go_ret2
      exact ⟨_, rfl, own9, bel07.trans (bel8.mono (by omega))⟩
  · rw [Om.appd_no hc, hc]
    have HC := hide hc
    clear hc
    go_enter Tryz.func320, Tryz.ntmps320
    go_wp2_with fail
    refine (check_any p k v _ hk hv).mono ?_
    rintro E w1 ⟨rfl, bel1⟩
    rw [HC.out]
    go_wp2
    go_ret2
    exact ⟨_, rfl, Own.nil _ _ _ _, bel0.trans (bel1.mono bel0.size)⟩

end Go.Proofs.YtajlhdmnincehaaGreatDoor
