/- Texts of one layer, one behind the other. -/
import Derived.Test.YthmecljkackmbaaGreatZ8
import Derived.Test.YthmecljkackmbaaGreatZ7
import Derived.Deep.RegionHeld3
import Derived.Test.YthmecljkackmbaaGreatZ5
/- The contracts of the document's Put, Append. -/
namespace Go.Proofs.YthmecljkackmbaaGreat
open Go.RowKit
set_option linter.unusedVariables false

set_option maxHeartbeats 400000 in
theorem putR_any (vb : Value) (bs : List Int) (x : Int) (w : World) (hb : Is .u8 w vb bs) (hl : bs.length ≤ 140737488352900) (h0 : 0 ≤ x) (h1 : x < 9223372036854775808) :
    Calls Tryz.prog 194 #[vb, .int .i64 x] w fun e w' => ∃ v, e = .returned v ∧ Own .u8 5 w.heap.size w' v (bs ++ Vm.enc x.toNat) ∧ Below w.heap.size w w' := by
  go_enter Tryz.func194, Tryz.ntmps194
  go_wp2_with fail
  refine (appR_any _ bs x _ hb (by omega) (by omega) (by omega)).mono ?_
  rintro E w1 ⟨v1, rfl, own1, bel1⟩
  go_wp2
  go_ret
  exact ⟨_, rfl, own1, bel1⟩

set_option maxHeartbeats 400000 in
theorem oappR_any (vb : Value) (bs : List Int) (p : Bool) (k v : ByteArray) (w : World) (hb : Is .u8 w vb bs) (hl : bs.length ≤ 140737488351232) (hk : k.size ≤ 140737488351232) (hv : v.size ≤ 140737488351232) :
    Calls Tryz.prog 195 #[vb, opv p k v] w fun E w' => ∃ v', E = .returned (.tuple #[v', .int .i64 (Om.chk p k.data.toList v.data.toList)]) ∧ Own .u8 5 w.heap.size w' v' (Om.appd bs p k.data.toList v.data.toList) ∧ Below w.heap.size w w' := by
  obtain ⟨w0, hw0, sz0, bel0, cell0⟩ := alloc_step w #[.bool p, .string k, .string v] 81
  have c0 := cell0 0 _ rfl
  have c1 := cell0 1 _ rfl
  have c2 := cell0 2 _ rfl
  clear cell0
  have hb0 := hb.below bel0
  unfold opv
  rcases Om.chk_two p k.data.toList v.data.toList with hc | hc
  · obtain ⟨ao, cap, hshape, _, _⟩ := hb.shape
    subst hshape
    have hh := Om.chk_ok' hc
    rw [← Lib.size_eq, ← Lib.size_eq] at hh
    have hh1 := hh.2.1
    have hh2 := hh.2.2.1
    rw [Om.appd_ok hc, hc]
    have HC := hide hc
    clear hc hh
    cases p
    · have hc64 := Om.cnt_le (s := k.data.toList) (by rw [← Lib.size_eq]; omega)
      have hek : Om.cnt k.data.toList = Vm.enc k.size ++ Om.ints k.data.toList := by unfold Om.cnt; rw [← Lib.size_eq]
      have hev : Om.cnt v.data.toList = Vm.enc v.size ++ Om.ints v.data.toList := by unfold Om.cnt; rw [← Lib.size_eq]
      have h10 : (Vm.enc k.size).length ≤ 10 := Vm.sz_le10 (x := k.size) (by omega)
      have h11 : (Vm.enc v.size).length ≤ 10 := Vm.sz_le10 (x := v.size) (by omega)
      have HEK := hide hek
      have HEV := hide hev
      clear hek hev
      go_enter Tryz.func195, Tryz.ntmps195
      go_wp2_with fail
      refine (checkR_any false k v _ hk hv).mono ?_
      rintro E w1 ⟨rfl, bel1⟩
      rw [HC.out]
      have d0 := (bel1.cell (p := ⟨w.heap.size, 0, none⟩) (by simp [sz0])).trans c0
      have d1 := (bel1.cell (p := ⟨w.heap.size, 1, none⟩) (by simp [sz0])).trans c1
      have d2 := (bel1.cell (p := ⟨w.heap.size, 2, none⟩) (by simp [sz0])).trans c2
      have hb1 := hb0.below bel1
      have sz1 := bel1.size
      have bel01 : Below w.heap.size w w1 := bel0.trans (bel1.mono bel0.size)
      clear c0 c1 c2 hb0 hw0 bel0 bel1
      go_wp2_with (at_builtin; refine wpList_append_is rfl (.tmp 14) (.tmp 15) 112 rfl .u8 5 (w.heap.size + 1) 1 Tryz.underlying112 Tryz.info5 (by decide) _ [] rfl (Own.nil _ _ _ _) _ bs rfl hb1 (by simp; omega) (by omega) ?_)
      intro v4 w4 own4 bel4 _
      have sz4 := bel4.size
      have g0 := (bel4.cell (p := ⟨w.heap.size, 0, none⟩) (by simp)).trans d0
      have g1 := (bel4.cell (p := ⟨w.heap.size, 1, none⟩) (by simp)).trans d1
      have g2 := (bel4.cell (p := ⟨w.heap.size, 2, none⟩) (by simp)).trans d2
      have bel04 : Below w.heap.size w w4 := bel01.trans (bel4.mono (by omega))
      clear d0 d1 d2 hb1 bel01 bel4
      obtain ⟨w5, hw5, sz5, bel5, own5⟩ := own_step .u8 5 w4 #[.int .u8 0] 1 [0] rfl rfl (by simp [maxLen]) (by simp [wf_u8])
      go_wp2_with (at_builtin; refine wpList_append_is rfl (.tmp 19) (.tmp 21) 112 rfl .u8 5 (w.heap.size + 1) 1 Tryz.underlying112 Tryz.info5 (by decide) _ bs rfl (own4.below bel5) _ [0] rfl own5.is (by simp; omega) (by omega) ?_)
      intro v6 w6 own6 bel6 _
      have sz6 := bel6.size
      have k0 := (bel6.cell (p := ⟨w.heap.size, 0, none⟩) (by simp)).trans ((bel5.cell (p := ⟨w.heap.size, 0, none⟩) (by simp; omega)).trans g0)
      have k1 := (bel6.cell (p := ⟨w.heap.size, 1, none⟩) (by simp)).trans ((bel5.cell (p := ⟨w.heap.size, 1, none⟩) (by simp; omega)).trans g1)
      have k2 := (bel6.cell (p := ⟨w.heap.size, 2, none⟩) (by simp)).trans ((bel5.cell (p := ⟨w.heap.size, 2, none⟩) (by simp; omega)).trans g2)
      have bel06 : Below w.heap.size w w6 := (bel04.trans (bel5.mono (by omega))).trans (bel6.mono (by omega))
      clear g0 g1 g2 own4 own5 bel04 bel5 bel6 hw5
      have hl6 : (bs ++ [0]).length ≤ 140737488351233 := by rw [List.length_append]; simp; omega
      generalize hz6 : bs ++ [0] = z6 at *
      have HZ6 := hide hz6
      clear hz6
      go_wp2_with fail
      refine (putR_any _ _ k.size _ own6.is (by omega) (by omega) (by omega)).mono ?_
      rintro E w7 ⟨v7, rfl, own7, bel7⟩
      rw [Int.toNat_natCast] at own7
      have sz7 := bel7.size
      have m0 := (bel7.cell (p := ⟨w.heap.size, 0, none⟩) (by simp; omega)).trans k0
      have m1 := (bel7.cell (p := ⟨w.heap.size, 1, none⟩) (by simp; omega)).trans k1
      have m2 := (bel7.cell (p := ⟨w.heap.size, 2, none⟩) (by simp; omega)).trans k2
      have bel07 : Below w.heap.size w w7 := bel06.trans (bel7.mono (by omega))
      clear k0 k1 k2 own6 bel06 bel7
      have hl7 : (z6 ++ Vm.enc k.size).length ≤ 140737488351300 := by rw [List.length_append]; omega
      generalize hz7 : z6 ++ Vm.enc k.size = z7 at *
      have HZ7 := hide hz7
      clear hz7
      go_wp2_with (at_builtin; refine wpList_append_str rfl (.tmp 28) (.tmp 30) 112 9 rfl 5 (w.heap.size + 1) Tryz.underlying112 Tryz.underlying9 Tryz.info5 _ z7 rfl (own7.rebase (by omega)) k rfl (by omega) (by omega) ?_)
      intro v8 w8 own8 bel8
      have sz8 := bel8.size
      have r0 := (bel8.cell (p := ⟨w.heap.size, 0, none⟩) (by simp)).trans m0
      have r1 := (bel8.cell (p := ⟨w.heap.size, 1, none⟩) (by simp)).trans m1
      have r2 := (bel8.cell (p := ⟨w.heap.size, 2, none⟩) (by simp)).trans m2
      have bel08 : Below w.heap.size w w8 := bel07.trans (bel8.mono (by omega))
      clear m0 m1 m2 own7 bel07 bel8
      have hl8 : (z7 ++ Om.ints k.data.toList).length ≤ 140737488351400 := by rw [List.length_append, Om.ints_len, ← Lib.size_eq]; omega
      generalize hz8 : z7 ++ Om.ints k.data.toList = z8 at *
      have HZ8 := hide hz8
      clear hz8
      have own9 : Own .u8 5 w.heap.size w8 v8 (bs ++ Om.opEnc false k.data.toList v.data.toList) := by
        have : bs ++ Om.opEnc false k.data.toList v.data.toList = z8 := by rw [← HZ8.out, ← HZ7.out, ← HZ6.out]; unfold Om.opEnc; rw [HEK.out]; simp
        rw [this]
        exact own8.rebase (by omega)
      go_wp2
      go_ret2
      exact ⟨_, rfl, own9, bel08⟩
    · have hc64 := Om.cnt_le (s := k.data.toList) (by rw [← Lib.size_eq]; omega)
      have hek : Om.cnt k.data.toList = Vm.enc k.size ++ Om.ints k.data.toList := by unfold Om.cnt; rw [← Lib.size_eq]
      have hev : Om.cnt v.data.toList = Vm.enc v.size ++ Om.ints v.data.toList := by unfold Om.cnt; rw [← Lib.size_eq]
      have h10 : (Vm.enc k.size).length ≤ 10 := Vm.sz_le10 (x := k.size) (by omega)
      have h11 : (Vm.enc v.size).length ≤ 10 := Vm.sz_le10 (x := v.size) (by omega)
      have HEK := hide hek
      have HEV := hide hev
      clear hek hev
      go_enter Tryz.func195, Tryz.ntmps195
      go_wp2_with fail
      refine (checkR_any true k v _ hk hv).mono ?_
      rintro E w1 ⟨rfl, bel1⟩
      rw [HC.out]
      have d0 := (bel1.cell (p := ⟨w.heap.size, 0, none⟩) (by simp [sz0])).trans c0
      have d1 := (bel1.cell (p := ⟨w.heap.size, 1, none⟩) (by simp [sz0])).trans c1
      have d2 := (bel1.cell (p := ⟨w.heap.size, 2, none⟩) (by simp [sz0])).trans c2
      have hb1 := hb0.below bel1
      have sz1 := bel1.size
      have bel01 : Below w.heap.size w w1 := bel0.trans (bel1.mono bel0.size)
      clear c0 c1 c2 hb0 hw0 bel0 bel1
      go_wp2_with (at_builtin; refine wpList_append_is rfl (.tmp 14) (.tmp 15) 112 rfl .u8 5 (w.heap.size + 1) 1 Tryz.underlying112 Tryz.info5 (by decide) _ [] rfl (Own.nil _ _ _ _) _ bs rfl hb1 (by simp; omega) (by omega) ?_)
      intro v4 w4 own4 bel4 _
      have sz4 := bel4.size
      have g0 := (bel4.cell (p := ⟨w.heap.size, 0, none⟩) (by simp)).trans d0
      have g1 := (bel4.cell (p := ⟨w.heap.size, 1, none⟩) (by simp)).trans d1
      have g2 := (bel4.cell (p := ⟨w.heap.size, 2, none⟩) (by simp)).trans d2
      have bel04 : Below w.heap.size w w4 := bel01.trans (bel4.mono (by omega))
      clear d0 d1 d2 hb1 bel01 bel4
      obtain ⟨w5, hw5, sz5, bel5, own5⟩ := own_step .u8 5 w4 #[.int .u8 1] 1 [1] rfl rfl (by simp [maxLen]) (by simp [wf_u8])
      go_wp2_with (at_builtin; refine wpList_append_is rfl (.tmp 19) (.tmp 21) 112 rfl .u8 5 (w.heap.size + 1) 1 Tryz.underlying112 Tryz.info5 (by decide) _ bs rfl (own4.below bel5) _ [1] rfl own5.is (by simp; omega) (by omega) ?_)
      intro v6 w6 own6 bel6 _
      have sz6 := bel6.size
      have k0 := (bel6.cell (p := ⟨w.heap.size, 0, none⟩) (by simp)).trans ((bel5.cell (p := ⟨w.heap.size, 0, none⟩) (by simp; omega)).trans g0)
      have k1 := (bel6.cell (p := ⟨w.heap.size, 1, none⟩) (by simp)).trans ((bel5.cell (p := ⟨w.heap.size, 1, none⟩) (by simp; omega)).trans g1)
      have k2 := (bel6.cell (p := ⟨w.heap.size, 2, none⟩) (by simp)).trans ((bel5.cell (p := ⟨w.heap.size, 2, none⟩) (by simp; omega)).trans g2)
      have bel06 : Below w.heap.size w w6 := (bel04.trans (bel5.mono (by omega))).trans (bel6.mono (by omega))
      clear g0 g1 g2 own4 own5 bel04 bel5 bel6 hw5
      have hl6 : (bs ++ [1]).length ≤ 140737488351233 := by rw [List.length_append]; simp; omega
      generalize hz6 : bs ++ [1] = z6 at *
      have HZ6 := hide hz6
      clear hz6
      go_wp2_with fail
      refine (putR_any _ _ k.size _ own6.is (by omega) (by omega) (by omega)).mono ?_
      rintro E w7 ⟨v7, rfl, own7, bel7⟩
      rw [Int.toNat_natCast] at own7
      have sz7 := bel7.size
      have m0 := (bel7.cell (p := ⟨w.heap.size, 0, none⟩) (by simp; omega)).trans k0
      have m1 := (bel7.cell (p := ⟨w.heap.size, 1, none⟩) (by simp; omega)).trans k1
      have m2 := (bel7.cell (p := ⟨w.heap.size, 2, none⟩) (by simp; omega)).trans k2
      have bel07 : Below w.heap.size w w7 := bel06.trans (bel7.mono (by omega))
      clear k0 k1 k2 own6 bel06 bel7
      have hl7 : (z6 ++ Vm.enc k.size).length ≤ 140737488351300 := by rw [List.length_append]; omega
      generalize hz7 : z6 ++ Vm.enc k.size = z7 at *
      have HZ7 := hide hz7
      clear hz7
      go_wp2_with (at_builtin; refine wpList_append_str rfl (.tmp 28) (.tmp 30) 112 9 rfl 5 (w.heap.size + 1) Tryz.underlying112 Tryz.underlying9 Tryz.info5 _ z7 rfl (own7.rebase (by omega)) k rfl (by omega) (by omega) ?_)
      intro v8 w8 own8 bel8
      have sz8 := bel8.size
      have r0 := (bel8.cell (p := ⟨w.heap.size, 0, none⟩) (by simp)).trans m0
      have r1 := (bel8.cell (p := ⟨w.heap.size, 1, none⟩) (by simp)).trans m1
      have r2 := (bel8.cell (p := ⟨w.heap.size, 2, none⟩) (by simp)).trans m2
      have bel08 : Below w.heap.size w w8 := bel07.trans (bel8.mono (by omega))
      clear m0 m1 m2 own7 bel07 bel8
      have hl8 : (z7 ++ Om.ints k.data.toList).length ≤ 140737488351400 := by rw [List.length_append, Om.ints_len, ← Lib.size_eq]; omega
      generalize hz8 : z7 ++ Om.ints k.data.toList = z8 at *
      have HZ8 := hide hz8
      clear hz8
      go_wp2_with fail
      refine (putR_any _ _ v.size _ own8.is (by omega) (by omega) (by omega)).mono ?_
      rintro E w9 ⟨v9, rfl, own9, bel9⟩
      rw [Int.toNat_natCast] at own9
      have sz9 := bel9.size
      have m2 := (bel9.cell (p := ⟨w.heap.size, 2, none⟩) (by simp; omega)).trans r2
      have bel09 : Below w.heap.size w w9 := bel08.trans (bel9.mono (by omega))
      clear own8 bel08 bel9 r0 r1 r2
      have hl9 : (z8 ++ Vm.enc v.size).length ≤ 140737488352900 := by rw [List.length_append]; omega
      generalize hz9 : z8 ++ Vm.enc v.size = z9 at *
      have HZ9 := hide hz9
      clear hz9
      go_wp2_with (at_builtin; refine wpList_append_str rfl (.tmp 39) (.tmp 41) 112 9 rfl 5 (w.heap.size + 1) Tryz.underlying112 Tryz.underlying9 Tryz.info5 _ z9 rfl (own9.rebase (by omega)) v rfl (by omega) (by omega) ?_)
      intro vx wx ownx belx
      have owny : Own .u8 5 w.heap.size wx vx (bs ++ Om.opEnc true k.data.toList v.data.toList) := by
        have : bs ++ Om.opEnc true k.data.toList v.data.toList = z9 ++ Om.ints v.data.toList := by rw [← HZ9.out, ← HZ8.out, ← HZ7.out, ← HZ6.out]; unfold Om.opEnc; rw [HEK.out, HEV.out]; simp
        rw [this]
        exact ownx.rebase (by omega)
      go_wp2
      go_ret2
      exact ⟨_, rfl, owny, bel09.trans (belx.mono (by omega))⟩
  · rw [Om.appd_no hc, hc]
    have HC := hide hc
    clear hc
    go_enter Tryz.func195, Tryz.ntmps195
    go_wp2_with fail
    refine (checkR_any p k v _ hk hv).mono ?_
    rintro E w1 ⟨rfl, bel1⟩
    rw [HC.out]
    go_wp2
    go_ret2
    exact ⟨_, rfl, Own.nil _ _ _ _, bel0.trans (bel1.mono bel0.size)⟩

end Go.Proofs.YthmecljkackmbaaGreat

/- The contracts of the document's Check and Append of a batch. -/
namespace Go.Proofs.YthmecljkackmbaaGreat
open Go.RowKit
set_option linter.unusedVariables false

set_option maxHeartbeats 400000 in
theorem bcheckR_any (vl : Value) (l : List Bm.Ov) (w : World) (h : IsO w vl l) (hf : FitO l) (hl : l.length ≤ 140737488355328) :
    Calls Tryz.prog 181 #[vl] w fun E w' => E = .returned (.int .i64 (Bm.chkL l)) ∧ Below w.heap.size w w' := by
  by_cases h0 : l.length = 0
  · have : l = [] := List.eq_nil_of_length_eq_zero h0
    subst this
    obtain ⟨ao, cap, rfl⟩ := h.bare
    clear h hf hl h0
    go_enter Tryz.func181, Tryz.ntmps181
    go_wp2
    go_ret
    exact ⟨rfl, Below.refl _ _⟩
  · by_cases h8 : 8 < l.length
    · obtain ⟨ao, cap, rfl, _, _⟩ := h.shape
      rw [Bm.chkL_long h8]
      clear h hf
      have e0 : ((l.length : Int) == 0) = false := by rw [beq_eq_false_iff_ne]; omega
      have e8 : (8 : Int) < l.length := by omega
      go_enter Tryz.func181, Tryz.ntmps181
      go_wp2
      go_ret
      exact ⟨rfl, Below.refl _ _⟩
    · obtain ⟨b1, o1, c1, rfl, _, _, hB, hcell⟩ := h.full (by omega)
      rw [Bm.chkL_mid h0 h8]
      have e0 : ((l.length : Int) == 0) = false := by rw [beq_eq_false_iff_ne]; omega
      have e8 : ¬ (8 : Int) < l.length := by omega
      clear h
      generalize hn : l.length = n at *
      have HN := hide hn
      have HC := hide hcell
      have HF := hide hf
      clear hn hcell hf
      go_enter Tryz.func181, Tryz.ntmps181
      go_wp2
      go_loopw [3] (fun i wr => ∃ (k : Nat), k ≤ n ∧ i = .int .i64 k ∧ Hid (∀ q ∈ l.take k, q.c = 0) ∧ Below w.heap.size w wr) (fun i _ => n - (intOf i).toNat)
      case atStart => exact ⟨0, by omega, rfl, hide (by simp), Below.refl _ _⟩
      case round =>
        obtain ⟨k, hk, rfl, HT, bel⟩ := hrel
        by_cases hlt : k < n
        · obtain ⟨o, ho⟩ : ∃ o, l[k]? = some o := ⟨l[k]'(by have := HN.out; omega), by rw [List.getElem?_eq_getElem]⟩
          obtain ⟨c0, c1, c2⟩ := HC.out k o ho
          have sz := bel.size
          have d0 := (bel.cell (p := ⟨b1, o1 + k * 3, none⟩) hB).trans c0
          have d1 := (bel.cell (p := ⟨b1, o1 + k * 3 + 1, none⟩) hB).trans c1
          have d2 := (bel.cell (p := ⟨b1, o1 + k * 3 + 2, none⟩) hB).trans c2
          have HO := hide ho
          clear c0 c1 c2 ho
          have hlt' : (k : Int) < n := by omega
          obtain ⟨hk1, hv1⟩ := HF.out o (List.mem_of_getElem? HO.out)
          go_wp2_with fail
          refine (checkR_any o.p o.k o.v _ hk1 hv1).mono ?_
          rintro E w1 ⟨rfl, bel1⟩
          have bel2 : Below w.heap.size w w1 := bel.trans (bel1.mono sz)
          clear bel1 d0 d1 d2
          rcases (show Om.chk o.p o.k.data.toList o.v.data.toList = 0 ∨ _ from Om.chk_two _ _ _) with hc | hc
          · rw [hc]
            have HT2 := hide (first_take HT.out HO.out hc)
            clear hc
            go_wp2
            go_roundw
            case rel => exact ⟨k + 1, by omega, by go_num, HT2, bel2⟩
            case measure => simp [intOf]; omega
          · rw [hc]
            have HB := hide (Bm.first_bad (List.mem_of_getElem? HO.out) (show Bm.Ov.c o ≠ 0 by unfold Bm.Ov.c Bm.Ov.kl Bm.Ov.vl; rw [hc]; simp))
            clear hc
            go_wp2
            go_ret
            exact ⟨ret_i64 HB.out.symm, bel2⟩
        · have hkn : k = n := by omega
          have HB : Hid (Bm.first l = 0) := hide (Bm.first_all (fun q hq => HT.out q (by rw [List.take_of_length_le (by have := HN.out; omega)]; exact hq)))
          have hlt' : ¬ (k : Int) < n := by omega
          go_wp2
          go_ret
          exact ⟨ret_i64 HB.out.symm, bel⟩

end Go.Proofs.YthmecljkackmbaaGreat

/- The contracts of Check and Same: the program's, the document's, the laws'. -/
namespace Go.Proofs.YthmecljkackmbaaGreat
open Go.RowKit
set_option linter.unusedVariables false

theorem inb_any (x : Int) (w : World) : Calls Tryz.prog 199 #[.int .i64 x] w fun E w' => E = .returned (.bool (decide (1 ≤ x ∧ x ≤ 1048576))) ∧ w = w' := by
  go_enter Tryz.func199, Tryz.ntmps199
  by_cases h1 : 1 ≤ x
  · by_cases h2 : x ≤ 1048576
    · go_wp2
      go_ret
      exact ⟨by simp [h1, h2], rfl⟩
    · go_wp2
      go_ret
      exact ⟨by simp; omega, rfl⟩
  · go_wp2
    go_ret
    exact ⟨by simp; omega, rfl⟩

set_option maxHeartbeats 400000 in
theorem ccheck_any (e n : Int) (v : Value) (l : List Bm.Ov) (w : World) (h : IsO w v l) (hf : FitO l) (hl : l.length ≤ 140737488355328) :
    Calls Tryz.prog 170 #[cmv e n v] w fun E w' => E = .returned (.int .i64 (Cm.chk e n l)) ∧ Below w.heap.size w w' := by
  unfold cmv
  obtain ⟨w1, hw1, sz1, bel1, hB⟩ := blk_step w #[.int .i64 e, .int .i64 n, v] 55
  have c0 := blk_cell hB 0 rfl
  have c1 := blk_cell hB 1 rfl
  have c2 := blk_cell hB 2 rfl
  have h1 := h.below bel1
  obtain ⟨ao, cap, rfl, _, _⟩ := h.shape
  clear hB
  go_enter Tryz.func170, Tryz.ntmps170
  by_cases he : 1 ≤ e ∧ e ≤ 1048576
  · have he' : decide (1 ≤ e ∧ e ≤ 1048576) = true := by simp [he]
    by_cases hn : 1 ≤ n ∧ n ≤ 1048576
    · have hn' : decide (1 ≤ n ∧ n ≤ 1048576) = true := by simp [hn]
      rw [Cm.chk_in ⟨he.1, he.2, hn.1, hn.2⟩]
      clear he hn
      go_wp2_with fail
      refine (inb_any e _).mono ?_
      rintro E w2 ⟨rfl, rfl⟩
      rw [he']
      go_wp2_with fail
      refine (inb_any n _).mono ?_
      rintro E w2 ⟨rfl, rfl⟩
      rw [hn']
      go_wp2_with fail
      refine (bcheck_any _ l _ h1 hf hl).mono ?_
      rintro E w3 ⟨rfl, bel3⟩
      have bel03 := bel1.trans (bel3.mono (by omega))
      go_wp2
      go_ret
      exact ⟨rfl, bel03⟩
    · have hn' : decide (1 ≤ n ∧ n ≤ 1048576) = false := by simpa using hn
      rw [Cm.chk_out (by omega)]
      clear he hn
      go_wp2_with fail
      refine (inb_any e _).mono ?_
      rintro E w2 ⟨rfl, rfl⟩
      rw [he']
      go_wp2_with fail
      refine (inb_any n _).mono ?_
      rintro E w2 ⟨rfl, rfl⟩
      rw [hn']
      go_wp2
      go_ret
      exact ⟨rfl, bel1⟩
  · have he' : decide (1 ≤ e ∧ e ≤ 1048576) = false := by simpa using he
    rw [Cm.chk_out (by omega)]
    clear he
    go_wp2_with fail
    refine (inb_any e _).mono ?_
    rintro E w2 ⟨rfl, rfl⟩
    rw [he']
    go_wp2
    go_ret
    exact ⟨rfl, bel1⟩

set_option maxHeartbeats 400000 in
theorem ccheckR_any (e n : Int) (v : Value) (l : List Bm.Ov) (w : World) (h : IsO w v l) (hf : FitO l) (hl : l.length ≤ 140737488355328) :
    Calls Tryz.prog 137 #[cmv e n v] w fun E w' => E = .returned (.int .i64 (Cm.chk e n l)) ∧ Below w.heap.size w w' := by
  unfold cmv
  obtain ⟨w1, hw1, sz1, bel1, hB⟩ := blk_step w #[.int .i64 e, .int .i64 n, v] 55
  have c0 := blk_cell hB 0 rfl
  have c1 := blk_cell hB 1 rfl
  have c2 := blk_cell hB 2 rfl
  have h1 := h.below bel1
  obtain ⟨ao, cap, rfl, _, _⟩ := h.shape
  clear hB
  go_enter Tryz.func137, Tryz.ntmps137
  by_cases hin : 1 ≤ e ∧ e ≤ 1048576 ∧ 1 ≤ n ∧ n ≤ 1048576
  · rw [Cm.chk_in hin]
    obtain ⟨g1, g2, g3, g4⟩ := hin
    go_wp2_with fail
    refine (bcheckR_any _ l _ h1 hf hl).mono ?_
    rintro E w3 ⟨rfl, bel3⟩
    have bel03 := bel1.trans (bel3.mono (by omega))
    go_wp2
    go_ret
    exact ⟨rfl, bel03⟩
  · rw [Cm.chk_out hin]
    by_cases g1 : e < 1
    · go_wp2
      go_ret
      exact ⟨rfl, bel1⟩
    · by_cases g2 : 1048576 < e
      · go_wp2
        go_ret
        exact ⟨rfl, bel1⟩
      · by_cases g3 : n < 1
        · go_wp2
          go_ret
          exact ⟨rfl, bel1⟩
        · have g4 : 1048576 < n := by omega
          go_wp2
          go_ret
          exact ⟨rfl, bel1⟩

/-- Whether two commits are the same. -/
def sameC (e n : Int) (l : List Bm.Ov) (e' n' : Int) (l' : List Bm.Ov) : Bool := (e == e') && ((n == n') && Bm.sameL l l')

theorem sameC_self (e n : Int) (l : List Bm.Ov) : sameC e n l e n l = true := by simp [sameC, Bm.sameL_self]

set_option maxHeartbeats 400000 in
theorem csameK_any (e n : Int) (v : Value) (l : List Bm.Ov) (e' n' : Int) (v' : Value) (l' : List Bm.Ov) (w : World) (h : IsO w v l) (h' : IsO w v' l') (hl : l.length ≤ 140737488355328) (hl' : l'.length ≤ 140737488355328) :
    Calls Tryz.prog 73 #[cmv e n v, cmv e' n' v'] w fun E w' => E = .returned (.bool (sameC e n l e' n' l')) ∧ Below w.heap.size w w' := by
  unfold cmv
  obtain ⟨w1, hw1, sz1, bel1, hB⟩ := blk_step w #[.int .i64 e, .int .i64 n, v] 55
  obtain ⟨w2, hw2, sz2, bel2, hC⟩ := blk_step w1 #[.int .i64 e', .int .i64 n', v'] 55
  rw [sz1] at hC
  have hB2 := (bel2.block _ (blk_lt hB)).trans hB
  have c0 := blk_cell hB2 0 rfl
  have c1 := blk_cell hB2 1 rfl
  have c2 := blk_cell hB2 2 rfl
  have d0 := blk_cell hC 0 rfl
  have d1 := blk_cell hC 1 rfl
  have d2 := blk_cell hC 2 rfl
  have bel02 : Below w.heap.size w w2 := bel1.trans (bel2.mono (by omega))
  have i1 := h.below bel02
  have i2 := h'.below bel02
  obtain ⟨ao, cap, rfl, _, _⟩ := h.shape
  obtain ⟨ao', cap', rfl, _, _⟩ := h'.shape
  clear hB hC hB2 bel1 bel2
  go_enter Tryz.func73, Tryz.ntmps73
  by_cases he : e = e'
  · have he' : (e == e') = true := by simp [he]
    by_cases hn : n = n'
    · have hn' : (n == n') = true := by simp [hn]
      have hs : sameC e n l e' n' l' = Bm.sameL l l' := by simp [sameC, he', hn']
      rw [hs]
      clear he hn hs
      go_wp2_with fail
      refine (sameO_any _ _ l l' _ i1 i2 hl hl').mono ?_
      rintro E w3 ⟨rfl, bel3⟩
      have bel03 := bel02.trans (bel3.mono (by omega))
      go_wp2
      go_ret
      exact ⟨rfl, bel03⟩
    · have hn' : (n == n') = false := by simpa using hn
      have hs : sameC e n l e' n' l' = false := by simp [sameC, hn']
      rw [hs]
      clear he hn hs
      go_wp2
      go_ret
      exact ⟨rfl, bel02⟩
  · have he' : (e == e') = false := by simpa using he
    have hs : sameC e n l e' n' l' = false := by simp [sameC, he']
    rw [hs]
    clear he hs
    go_wp2
    go_ret
    exact ⟨rfl, bel02⟩

end Go.Proofs.YthmecljkackmbaaGreat

/- The contracts of the laws' copies of ops: CopyOps, LentOps, KeptOps. -/
namespace Go.Proofs.YthmecljkackmbaaGreat
open Go.RowKit
set_option linter.unusedVariables false

/-- What stands behind ops that are lent. -/
def behind : Bm.Ov := ⟨true, ⟨#[98, 101, 104, 105, 110, 100]⟩, ⟨#[]⟩⟩

set_option maxHeartbeats 400000 in
theorem copyO_any (vl : Value) (l : List Bm.Ov) (w : World) (h : IsO w vl l) (hl : l.length * 40 ≤ 140737488355328) :
    Calls Tryz.prog 113 #[vl] w fun e w' => ∃ v, e = .returned v ∧ OwnO 81 w.heap.size w' v l ∧ Below w.heap.size w w' := by
  obtain ⟨w1, hw1, sz1, bel1, own1⟩ := ops_step 81 w #[] 0 [] rfl rfl (by simp [maxLen])
  have h1 := h.below bel1
  go_enter Tryz.func113, Tryz.ntmps113
  go_wp2_with (at_builtin; refine wpList_append_ops rfl (.tmp 3) (.tmp 4) 53 rfl 81 w.heap.size Tryz.underlying53 Tryz.info81 _ [] rfl own1 _ l rfl h1 (by simp; omega) (by omega) ?_)
  intro v2 w2 own2 bel2 _
  go_wp2
  go_ret
  exact ⟨_, rfl, by simpa using own2, bel1.trans bel2⟩

set_option maxHeartbeats 400000 in
theorem lentO_any (vl : Value) (l : List Bm.Ov) (w : World) (h : IsO w vl l) (hl : l.length * 40 ≤ 140737488351232) :
    Calls Tryz.prog 97 #[vl] w fun e w' => ∃ v, e = .returned v ∧ OwnO 81 w.heap.size w' v (l ++ [behind, behind, behind]) ∧ Below w.heap.size w w' := by
  have hc : l.length * 40 ≤ 140737488355328 := by omega
  have HK : Hid (∀ k : Nat, k < 3 → ((l ++ List.replicate k behind).length + [behind].length) * 40 ≤ 140737488355328) := hide (fun k hk => by
    rw [List.length_append, List.length_replicate, List.length_singleton]
    omega)
  have HC := hide hc
  clear hl hc
  go_enter Tryz.func97, Tryz.ntmps97
  go_wp2_with fail
  refine (copyO_any vl l _ h HC.out).mono ?_
  rintro E w0 ⟨v0, rfl, own0, bel0⟩
  have own0' : OwnO 81 w.heap.size w0 v0 (l ++ List.replicate 0 behind) := by simpa using own0
  clear own0
  go_wp2
  go_loopw [3, 4] (fun ov iv wr => ∃ k : Nat, k ≤ 3 ∧ iv = .int .i64 k ∧ OwnO 81 w.heap.size wr ov (l ++ List.replicate k behind) ∧ Below w.heap.size w wr) (fun _ iv _ => 3 - (intOf iv).toNat)
  case atStart => exact ⟨0, by omega, rfl, own0', bel0⟩
  case round =>
    obtain ⟨k, hk, rfl, own, bel⟩ := hrel
    have sz := bel.size
    by_cases hlt : k < 3
    · have hlt' : (k : Int) < 3 := by omega
      obtain ⟨w1, hw1, sz1, bel1, own1⟩ := ops_step 81 wr #[.bool true, .string ⟨#[98, 101, 104, 105, 110, 100]⟩, .string ⟨#[]⟩] 1 [behind] rfl rfl (by simp [maxLen])
      have own' := own.below bel1
      go_wp2_with (at_builtin; refine wpList_append_ops rfl (.tmp 11) (.tmp 13) 53 rfl 81 w.heap.size Tryz.underlying53 Tryz.info81 _ _ rfl own' _ [behind] rfl own1.is (HK.out k hlt) (by omega) ?_)
      intro v2 w2 own2 bel2 _
      have e2 : l ++ (List.replicate k behind ++ [behind]) = l ++ List.replicate (k + 1) behind := by rw [List.replicate_succ']
      rw [e2] at own2
      have bel3 := (bel.trans (bel1.mono sz)).trans bel2
      clear own own' own1 bel1 bel2 e2
      go_wp2
      go_roundw
      case rel => exact ⟨k + 1, by omega, by go_num, own2, bel3⟩
      case measure => simp [intOf]; omega
    · have hke : k = 3 := by omega
      subst hke
      go_wp2
      go_ret
      exact ⟨_, rfl, own, bel⟩

set_option maxHeartbeats 400000 in
theorem keptO_yes (vf vl : Value) (l fs : List Bm.Ov) (w : World) (hf : IsO w vf fs) (hl : IsO w vl l) (hll : l.length * 40 ≤ 140737488351232) (he : fs = l ++ [behind, behind, behind]) :
    Calls Tryz.prog 98 #[vf, vl] w fun e w' => e = .returned (.bool true) ∧ Below w.heap.size w w' := by
  have hfl : fs.length ≤ 140737488355328 := by rw [he]; simp; omega
  have HE := hide he
  have HL := hide hll
  clear he hll
  go_enter Tryz.func98, Tryz.ntmps98
  go_wp2_with fail
  refine (lentO_any vl l _ hl HL.out).mono ?_
  rintro E w1 ⟨v1, rfl, own1, bel1⟩
  rw [← HE.out] at own1
  go_wp2_with fail
  refine (sameO_any _ _ fs fs _ (hf.below bel1) own1.is (by omega) (by omega)).mono ?_
  rintro E w2 ⟨rfl, bel2⟩
  rw [Bm.sameL_self]
  go_wp2
  go_ret
  exact ⟨rfl, bel1.trans (bel2.mono bel1.size)⟩

end Go.Proofs.YthmecljkackmbaaGreat

/- The contracts of the laws' copies of one commit: CopyCommit, LentCommit, KeptCommit. -/
namespace Go.Proofs.YthmecljkackmbaaGreat
open Go.RowKit
set_option linter.unusedVariables false

/-- A slice of ops that was lent: those behind it stand in its room. -/
def LentV (base : Nat) (w : World) (v : Value) (l : List Bm.Ov) : Prop :=
  ∃ g cap, v = .slice (some ⟨g, 0, none⟩) l.length cap ∧ l.length + 3 ≤ cap ∧ cap ≤ maxLen ∧ OwnO 81 base w (.slice (some ⟨g, 0, none⟩) (l.length + 3) cap) (l ++ [behind, behind, behind])

theorem LentV.is {base : Nat} {w : World} {v : Value} {l : List Bm.Ov} (h : LentV base w v l) : IsO w v l := by
  obtain ⟨g, cap, rfl, hc, hm, ho⟩ := h
  have := ho.is.front l.length (by simp)
  rwa [List.take_left] at this

theorem LentV.below {base : Nat} {w w' : World} {v : Value} {l : List Bm.Ov} (h : LentV base w v l) (hb : Below w.heap.size w w') : LentV base w' v l := by
  obtain ⟨g, cap, rfl, hc, hm, ho⟩ := h
  exact ⟨g, cap, rfl, hc, hm, ho.below hb⟩

theorem LentV.keepT {e' base : Nat} {w w' : World} {v : Value} {l : List Bm.Ov} (h : LentV base w v l) (k : KeepT e' w w') (hne : 81 ≠ e') : LentV base w' v l := by
  obtain ⟨g, cap, rfl, hc, hm, ho⟩ := h
  exact ⟨g, cap, rfl, hc, hm, ho.keepT k hne⟩

theorem LentV.rebase {base base' : Nat} {w : World} {v : Value} {l : List Bm.Ov} (h : LentV base w v l) (hb : base' ≤ base) : LentV base' w v l := by
  obtain ⟨g, cap, rfl, hc, hm, ho⟩ := h
  exact ⟨g, cap, rfl, hc, hm, ho.rebase hb⟩

theorem lent_of {base : Nat} {w : World} {v : Value} {l : List Bm.Ov} (h : OwnO 81 base w v (l ++ [behind, behind, behind])) :
    ∃ g cap, v = .slice (some ⟨g, 0, none⟩) (l.length + 3) cap ∧ l.length + 3 ≤ cap ∧ cap ≤ maxLen ∧ OwnO 81 base w (.slice (some ⟨g, 0, none⟩) (l.length + 3) cap) (l ++ [behind, behind, behind]) := by
  have h' := h
  rcases h.2 with ⟨_, hn⟩ | ⟨g, cap, cur, hv, h1, hh, hc, hm, hs, ht⟩
  · simp at hn
  · rw [List.length_append, show [behind, behind, behind].length = 3 from rfl] at hv hc
    exact ⟨g, cap, hv, hc, hm, hv ▸ h'⟩

theorem run_front (g n m cap p : Nat) (hp : p ≤ cap) (wx : World) : (Instr.slice 53 (.slice (some ⟨g, 0, none⟩) n cap) none (some (.int .i64 p)) none).run Tryz.prog wx = .ok (.slice (some ⟨g, 0, none⟩) p cap) wx := by
  rw [run_slice_h wx 53 (some ⟨g, 0, none⟩) n cap Tryz.elemO .i64 _ (by omega) (by omega), Tryz.sizeO]
  simp only [Result.andThen, sliced]
  simp [Addr.add]

set_option maxHeartbeats 1000000 in
theorem lentC_any (e n : Int) (v : Value) (l : List Bm.Ov) (w : World) (h : IsO w v l) (hl : l.length * 40 ≤ 140737488351232) :
    Calls Tryz.prog 68 #[cmv e n v] w fun E w' => ∃ v', E = .returned (cmv e n v') ∧ LentV w.heap.size w' v' l ∧ Below w.heap.size w w' := by
  unfold cmv
  obtain ⟨w1, hw1, sz1, bel1, hB⟩ := blk_step w #[.int .i64 e, .int .i64 n, v] 55
  obtain ⟨w2, hw2, sz2, bel2, hR⟩ := blk_step w1 #[.int .i64 0, .int .i64 0, .slice none 0 0] 55
  rw [sz1] at hR
  have hB2 := (bel2.block w.heap.size (by omega)).trans hB
  have bel02 : Below w.heap.size w w2 := bel1.trans (bel2.mono (by omega))
  have h2 := h.below bel02
  obtain ⟨ao, cap, rfl, _, _⟩ := h.shape
  have c0 := blk_cell hB2 0 rfl
  have c1 := blk_cell hB2 1 rfl
  have c2 := blk_cell hB2 2 rfl
  have HB := hide hB2
  have HR := hide hR
  clear hB hB2 hR bel1 bel2
  go_enter Tryz.func68, Tryz.ntmps68
  go_wp2_with fail
  go_region_held3 (fun w' => w'.cell? ⟨w.heap.size, 0, none⟩ = some (.int .i64 e) ∧ w'.cell? ⟨w.heap.size, 1, none⟩ = some (.int .i64 n) ∧ w'.cell? ⟨w.heap.size, 2, none⟩ = some (.slice ao l.length cap)) (first | exact ⟨c0, c1, c2⟩ | exact ⟨a0, a1, a2⟩ | exact ⟨b0, b1, b2⟩ | go_keep)
    (first
    | (go_at_call 97; refine (lentO_any _ l _ (h2.drewN 1) hl).mono ?_; rintro E w3 ⟨v3, rfl, own3, bel3'⟩; have bel3 : Below w2.heap.size w2 w3 := ((Below.refl _ _).drew).trans bel3'; have sz3 := bel3.size; have hB3 := (bel3.block w.heap.size (by omega)).trans HB.out; have hR3 := (bel3.block (w.heap.size + 1) (by omega)).trans HR.out; have a0 := blk_cell hB3 0 rfl; have a1 := blk_cell hB3 1 rfl; have a2 := blk_cell hB3 2 rfl; obtain ⟨gh, ch, hv3, hcc, hcm, own3'⟩ := lent_of own3; subst hv3; have hfr := run_front gh (l.length + 3) 0 ch l.length (by omega); obtain ⟨V', hV', bV', gV', ⟨r0, r1, r2⟩, ⟨f0, f1, f2⟩, ⟨z0, z1, z2⟩⟩ := res_step hR3 (.int .i64 e) (.int .i64 n) (.slice (some ⟨gh, 0, none⟩) l.length ch); have belV' := below_put (bel02.trans (bel3.mono (by omega))) gV' (by omega) (by omega); have szV := gV'.size; have ownV' := (own3'.keptg gV' (show w.heap.size + 1 < w2.drew.heap.size by simp; omega)).rebase (base' := w.heap.size) (show w.heap.size ≤ w2.drew.heap.size by simp; omega); have hBV := (gV'.block w.heap.size (by omega) (by simp)).trans hB3; have b0 := blk_cell hBV 0 rfl; have b1 := blk_cell hBV 1 rfl; have b2 := blk_cell hBV 2 rfl; clear bel3' hB3 hR3 own3 own3' bV' gV' hBV))
  go_wp2
  refine bodyPost_ret (v := .agg #[.int .i64 e, .int .i64 n, .slice (some ⟨gh, 0, none⟩) l.length ch]) (by simp [results, Tryz.results68, go_sem, z0, z1, z2]) rfl ?_
  exact ⟨_, rfl, ⟨gh, ch, rfl, hcc, hcm, ownV'⟩, belV'⟩

set_option maxRecDepth 100000 in
set_option maxHeartbeats 1000000 in
theorem keptC_yes (e n : Int) (v v' : Value) (l : List Bm.Ov) (base : Nat) (w : World) (h : LentV base w v l) (h' : IsO w v' l) (hl : l.length * 40 ≤ 140737488351232) :
    Calls Tryz.prog 72 #[cmv e n v, cmv e n v'] w fun E w' => E = .returned (.bool true) ∧ Below w.heap.size w w' := by
  unfold cmv
  obtain ⟨w1, hw1, sz1, bel1, hB⟩ := blk_step w #[.int .i64 e, .int .i64 n, v] 55
  obtain ⟨w2, hw2, sz2, bel2, hC⟩ := blk_step w1 #[.int .i64 e, .int .i64 n, v'] 55
  rw [sz1] at hC
  have hB2 := (bel2.block _ (blk_lt hB)).trans hB
  have bel02 : Below w.heap.size w w2 := bel1.trans (bel2.mono (by omega))
  have h2 := h'.below bel02
  obtain ⟨g, cap, rfl, hgc, hgm, ho⟩ := h
  have ho2 := ho.below bel02
  obtain ⟨ao', cap', rfl, _, _⟩ := h'.shape
  have c0 := blk_cell hB2 0 rfl
  have c1 := blk_cell hB2 1 rfl
  have c2 := blk_cell hB2 2 rfl
  have d0 := blk_cell hC 0 rfl
  have d1 := blk_cell hC 1 rfl
  have d2 := blk_cell hC 2 rfl
  have hfr := run_front g l.length 0 cap (l.length + 3) (by omega)
  push_cast at hfr
  have HL := hide hl
  have hl' : (l.length : Int) + 3 < 9223372036854775808 := by omega
  have hcb : (l.length : Int) + 3 ≤ (cap : Int) := by omega
  have hc0 : (0 : Int) ≤ (l.length : Int) + 3 := by omega
  have htn : ((l.length : Int) + 3).toNat = l.length + 3 := by omega
  have hwr : IntKind.i64.wrap ((l.length : Int) + 3) = (l.length : Int) + 3 := wrap_i64_small _ (by omega) (by omega)
  clear hB hC hB2 bel1 bel2 ho hl
  go_enter Tryz.func72, Tryz.ntmps72
  go_wp2_with fail
  go_region_held3 (fun w' => (w'.cell? ⟨w.heap.size, 0, none⟩ = some (.int .i64 e) ∧ w'.cell? ⟨w.heap.size, 1, none⟩ = some (.int .i64 n) ∧ w'.cell? ⟨w.heap.size, 2, none⟩ = some (.slice (some ⟨g, 0, none⟩) l.length cap)) ∧ (w'.cell? ⟨w.heap.size + 1, 0, none⟩ = some (.int .i64 e) ∧ w'.cell? ⟨w.heap.size + 1, 1, none⟩ = some (.int .i64 n) ∧ w'.cell? ⟨w.heap.size + 1, 2, none⟩ = some (.slice ao' l.length cap'))) (first | exact ⟨⟨c0, c1, c2⟩, ⟨d0, d1, d2⟩⟩ | exact ⟨⟨a0, a1, a2⟩, ⟨b0, b1, b2⟩⟩ | go_keep)
    (first
    | (go_at_call 98; refine (keptO_yes _ _ l _ _ (ho2.is.drewN 1) (h2.drewN 1) HL.out rfl).mono ?_; rintro E w3 ⟨rfl, bel3'⟩; have bel3 : Below w2.heap.size w2 w3 := ((Below.refl _ _).drew).trans bel3'; have a0 := (bel3.cell (p := ⟨w.heap.size, 0, none⟩) (show w.heap.size < w2.heap.size by omega)).trans c0; have a1 := (bel3.cell (p := ⟨w.heap.size, 1, none⟩) (show w.heap.size < w2.heap.size by omega)).trans c1; have a2 := (bel3.cell (p := ⟨w.heap.size, 2, none⟩) (show w.heap.size < w2.heap.size by omega)).trans c2; have b0 := (bel3.cell (p := ⟨w.heap.size + 1, 0, none⟩) (show w.heap.size + 1 < w2.heap.size by omega)).trans d0; have b1 := (bel3.cell (p := ⟨w.heap.size + 1, 1, none⟩) (show w.heap.size + 1 < w2.heap.size by omega)).trans d1; have b2 := (bel3.cell (p := ⟨w.heap.size + 1, 2, none⟩) (show w.heap.size + 1 < w2.heap.size by omega)).trans d2; clear bel3'))
  go_wp2
  go_ret
  exact ⟨rfl, bel02.trans (bel3.mono (by omega))⟩

end Go.Proofs.YthmecljkackmbaaGreat

/- The contracts of mayBe and of run.Check: which runs may be. -/
namespace Go.Proofs.YthmecljkackmbaaGreat
open Go.RowKit
open Bm (Ov)
set_option linter.unusedVariables false

theorem Tryz.info93 : (Tryz.prog.info? 93).map (fun i => (i.zero, i.size, i.bytes)) = some (some (.agg #[.int .i64 0, .int .i64 0, .slice none 0 0]), 3, 40) := by kernel_rfl

theorem Tryz.elemN : Tryz.prog.underlying 69 = some (.slice (Tryz.prog.elem 69)) := by kernel_rfl

theorem Tryz.sizeN (wx : World) : (sizeOf (Tryz.prog.elem 69)).run Tryz.prog wx = .ok 3 wx := by kernel_rfl

/-- '<=' of keys. -/
theorem key_on {a b : ByteArray} (h : Tm.lt b a = true) : Op.bytesLess a.toList b.toList = false ∧ (a.toList == b.toList) = false := by
  rw [Tm.less_lt, Tm.eqk]
  exact ⟨Tm.lt_asy h, by simpa using (Tm.lt_ne h).symm⟩

theorem key_off {a b : ByteArray} (h : Tm.lt b a = false) : (Op.bytesLess a.toList b.toList = true ∧ a ≠ b) ∨ (Op.bytesLess a.toList b.toList = false ∧ (a.toList == b.toList) = true) := by
  rw [Tm.less_lt, Tm.eqk]
  cases hl : Tm.lt a b with
  | true => exact .inl ⟨rfl, Tm.lt_ne hl⟩
  | false => exact .inr ⟨rfl, by simpa using Tm.lt_tot hl h⟩

/-- An op more. -/
theorem may_next {l : List Ov} {k : Nat} {o : Ov} (h : Rn.may ⟨#[]⟩ (l.take k) = true) (ho : l[k]? = some o) (hc : o.c = 0) (hlt : Tm.lt (Rn.lstK ⟨#[]⟩ (l.take k)) o.k = true) : Rn.may ⟨#[]⟩ (l.take (k + 1)) = true ∧ Rn.lstK ⟨#[]⟩ (l.take (k + 1)) = o.k := by
  obtain ⟨h1, rfl⟩ := List.getElem?_eq_some_iff.1 ho
  rw [List.take_succ_eq_append_getElem h1, Rn.may_app, Rn.lstK_snoc, h]
  simp [Rn.may, hc, hlt]

theorem may_stop {l : List Ov} {k : Nat} {o : Ov} (ho : l[k]? = some o) (h : o.c ≠ 0 ∨ Tm.lt (Rn.lstK ⟨#[]⟩ (l.take k)) o.k = false) : Rn.may ⟨#[]⟩ l = false := by
  obtain ⟨h1, rfl⟩ := List.getElem?_eq_some_iff.1 ho
  have e : l = l.take k ++ (l[k] :: l.drop (k + 1)) := by rw [← List.drop_eq_getElem_cons h1, List.take_append_drop]
  have e2 : Rn.may ⟨#[]⟩ l = Rn.may ⟨#[]⟩ (l.take k ++ (l[k] :: l.drop (k + 1))) := congrArg _ e
  rw [e2, Rn.may_app]
  rcases h with h | h <;> simp [Rn.may, h]

set_option maxHeartbeats 1000000 in
theorem hmay_any (v : Value) (l : List Ov) (w : World) (h : IsO w v l) (hf : FitO l) (hl : l.length ≤ 140737488355328) :
    Calls Tryz.prog 188 #[v] w fun E w' => E = .returned (.bool (Rn.may ⟨#[]⟩ l)) ∧ Below w.heap.size w w' := by
  obtain ⟨ans, hans⟩ : ∃ x, Rn.may ⟨#[]⟩ l = x := ⟨_, rfl⟩
  rw [hans]
  have HA := hide hans
  obtain ⟨ao, cap, hsv, hcap, _⟩ := h.shape
  have HFULL := hide fun (h0 : 0 < l.length) => h.full h0
  subst hsv
  have HF := hide hf
  obtain ⟨n, hnn⟩ : ∃ n, l.length = n := ⟨_, rfl⟩
  rw [hnn] at HFULL hcap hl ⊢
  have HN := hide hnn
  clear h hf hnn hans
  go_enter Tryz.func188, Tryz.ntmps188
  go_wp2
  go_loopw [3, 8] (fun av i wr => ∃ (k : Nat) (ah : ByteArray), k ≤ n ∧ i = .int .i64 k ∧ av = .string ah ∧ Hid (Rn.may ⟨#[]⟩ (l.take k) = true ∧ Rn.lstK ⟨#[]⟩ (l.take k) = ah) ∧ Below w.heap.size w wr) (fun _ i _ => n - (intOf i).toNat)
  case atStart => exact ⟨0, ⟨#[]⟩, by omega, rfl, rfl, hide ⟨by simp [Rn.may], by simp [Rn.lstK]⟩, Below.refl _ _⟩
  case round =>
    obtain ⟨k, ah, hk, rfl, rfl, HT, bel⟩ := hrel
    have sz := bel.size
    by_cases hlt : k < n
    · obtain ⟨o, ho⟩ : ∃ o, l[k]? = some o := ⟨l[k]'(by have := HN.out; omega), by rw [List.getElem?_eq_getElem]⟩
      obtain ⟨b1, o1, cq, hvx, _, _, hB, hcell⟩ := HFULL.out (by omega)
      simp only [Value.slice.injEq, true_and] at hvx
      obtain ⟨rfl, rfl⟩ := hvx
      obtain ⟨c0, c1, c2⟩ := hcell k o ho
      have d0 := (bel.cell (p := ⟨b1, o1 + k * 3, none⟩) hB).trans c0
      have d1 := (bel.cell (p := ⟨b1, o1 + k * 3 + 1, none⟩) hB).trans c1
      have d2 := (bel.cell (p := ⟨b1, o1 + k * 3 + 2, none⟩) hB).trans c2
      have HO := hide ho
      clear c0 c1 c2 ho hcell
      have hlt' : (k : Int) < n := by omega
      obtain ⟨hk1, hv1⟩ := HF.out o (List.mem_of_getElem? HO.out)
      obtain ⟨W1, hW1, sz1, bW1, B1⟩ := blk_step wr #[.bool o.p, .string o.k, .string o.v] 81
      have e0 := blk_cell B1 0 rfl
      have e1 := blk_cell B1 1 rfl
      have e2 := blk_cell B1 2 rfl
      have b01 : Below w.heap.size w W1 := bel.trans (bW1.mono sz)
      clear B1 bW1
      go_wp2_with fail
      refine (check_any o.p o.k o.v _ hk1 hv1).mono ?_
      rintro E w1 ⟨rfl, bel1⟩
      have bel2 : Below w.heap.size w w1 := b01.trans (bel1.mono (by omega))
      have e1' := (bel1.cell (p := ⟨wr.heap.size, 1, none⟩) (show wr.heap.size < W1.heap.size by omega)).trans e1
      clear bel1 d0 d1 d2 e0 e1 e2
      rcases (show Om.chk o.p o.k.data.toList o.v.data.toList = 0 ∨ _ from Om.chk_two _ _ _) with hc | hc
      · rw [hc]
        have HC := hide (show o.c = 0 from hc)
        clear hc
        cases hlk : Tm.lt ah o.k with
        | true =>
          obtain ⟨q1, q2⟩ := key_on hlk
          have HT2 := hide (may_next HT.out.1 HO.out HC.out (by rw [HT.out.2]; exact hlk))
          clear hlk
          go_wp2
          go_roundw
          case rel => exact ⟨k + 1, o.k, by omega, by go_num, rfl, HT2, bel2⟩
          case measure => simp [intOf]; omega
        | false =>
          have hfo := HA.out
          rw [may_stop HO.out (.inr (by rw [HT.out.2]; exact hlk))] at hfo
          subst hfo
          rcases key_off hlk with ⟨q1, _⟩ | ⟨q1, q2⟩
          · clear hlk
            go_wp2
            go_ret
            exact ⟨rfl, bel2⟩
          · clear hlk
            go_wp2
            go_ret
            exact ⟨rfl, bel2⟩
      · rw [hc]
        have hfo := HA.out
        rw [may_stop HO.out (.inl (show o.c ≠ 0 by unfold Bm.Ov.c Bm.Ov.kl Bm.Ov.vl; rw [hc]; simp))] at hfo
        subst hfo
        clear hc
        go_wp2
        go_ret
        exact ⟨rfl, bel2⟩
    · have hlt' : ¬ (k : Int) < n := by omega
      have hfo := HA.out
      have h1 := HT.out.1
      rw [List.take_of_length_le (by have := HN.out; omega), hfo] at h1
      subst h1
      clear hfo
      go_wp2
      go_ret
      exact ⟨rfl, bel⟩

set_option maxHeartbeats 1000000 in
theorem hcheck_any (e n : Int) (v : Value) (l : List Ov) (w : World) (h : IsO w v l) (hf : FitO l) (hl : l.length ≤ 140737488355328) :
    Calls Tryz.prog 150 #[cmv e n v] w fun E w' => E = .returned (.int .i64 (Rn.chk e n l)) ∧ Below w.heap.size w w' := by
  unfold cmv
  obtain ⟨w1, hw1, sz1, bel1, hB⟩ := blk_step w #[.int .i64 e, .int .i64 n, v] 93
  have c0 := blk_cell hB 0 rfl
  have c1 := blk_cell hB 1 rfl
  have c2 := blk_cell hB 2 rfl
  have HM := hide (hmay_any v l w1 (h.below bel1) hf hl)
  obtain ⟨ao, cap, rfl, _, _⟩ := h.shape
  obtain ⟨ans, hans⟩ : ∃ x, Rn.chk e n l = x := ⟨_, rfl⟩
  rw [hans]
  have HA := hide hans
  have hlz : l.length = l.length := rfl
  by_cases hlong : 1024 < l.length
  · have hfo := HA.out
    rw [Rn.chk_long hlong] at hfo
    subst hfo
    have hlong' : (1024 : Int) < (l.length : Int) := by omega
    generalize l.length = m at *
    clear HA HM h hf hans hB
    go_enter Tryz.func150, Tryz.ntmps150
    go_wp2
    go_ret
    exact ⟨rfl, bel1⟩
  have hlong' : ¬ (1024 : Int) < (l.length : Int) := by omega
  by_cases h1 : e < 1
  · have hfo := HA.out
    rw [Rn.chk_no hlong fun h => by omega] at hfo
    subst hfo
    generalize l.length = m at *
    clear HA HM h hf hans hB
    go_enter Tryz.func150, Tryz.ntmps150
    go_wp2
    go_ret
    exact ⟨rfl, bel1⟩
  by_cases h2 : n < e
  · have hfo := HA.out
    rw [Rn.chk_no hlong fun h => by omega] at hfo
    subst hfo
    generalize l.length = m at *
    clear HA HM h hf hans hB
    go_enter Tryz.func150, Tryz.ntmps150
    go_wp2
    go_ret
    exact ⟨rfl, bel1⟩
  by_cases h3 : (1048576 : Int) < n
  · have hfo := HA.out
    rw [Rn.chk_no hlong fun h => by omega] at hfo
    subst hfo
    generalize l.length = m at *
    clear HA HM h hf hans hB
    go_enter Tryz.func150, Tryz.ntmps150
    go_wp2
    go_ret
    exact ⟨rfl, bel1⟩
  cases hm : Rn.may ⟨#[]⟩ l with
  | true =>
    have hfo := HA.out
    rw [Rn.chk_ok hlong ⟨by omega, by omega, by omega, hm⟩] at hfo
    subst hfo
    rw [hm] at HM
    generalize l.length = m at *
    clear HA h hf hans hB hm
    go_enter Tryz.func150, Tryz.ntmps150
    go_wp2_with fail
    refine HM.out.mono ?_
    rintro E w2 ⟨rfl, bel2⟩
    have bel02 := bel1.trans (bel2.mono bel1.size)
    go_wp2
    go_ret
    exact ⟨rfl, bel02⟩
  | false =>
    have hfo := HA.out
    rw [Rn.chk_no hlong fun h => by rw [hm] at h; simp at h] at hfo
    subst hfo
    rw [hm] at HM
    generalize l.length = m at *
    clear HA h hf hans hB hm
    go_enter Tryz.func150, Tryz.ntmps150
    go_wp2_with fail
    refine HM.out.mono ?_
    rintro E w2 ⟨rfl, bel2⟩
    have bel02 := bel1.trans (bel2.mono bel1.size)
    go_wp2
    go_ret
    exact ⟨rfl, bel02⟩

end Go.Proofs.YthmecljkackmbaaGreat

/- The contracts of Follows: the program's, the document's. -/
namespace Go.Proofs.YthmecljkackmbaaGreat
open Go.RowKit
set_option linter.unusedVariables false

/-- Two cells of a block are written. -/
theorem res_two {V : World} {R : Nat} {t : TypeId} {x y : Value} (hR : V.heap[R]? = some (.cells #[x, y] t (0, 0))) (a b : Value) :
    ∃ V', (V.setCell ⟨R, 0, none⟩ a).setCell ⟨R, 1, none⟩ b = V' ∧ V'.heap[R]? = some (.cells #[a, b] t (0, 0)) ∧ V.grownBy V' (some R) ∧
      (V.cell? ⟨R, 0, none⟩ = some x ∧ V.cell? ⟨R, 1, none⟩ = some y) ∧ (V.frozen? ⟨R, 0, none⟩ = false ∧ V.frozen? ⟨R, 1, none⟩ = false) ∧
      (V'.cell? ⟨R, 0, none⟩ = some a ∧ V'.cell? ⟨R, 1, none⟩ = some b) := by
  have h2 := set_cells (set_cells hR 0 a) 1 b
  exact ⟨_, rfl, h2, grown_trans (grown_setCell V ⟨R, 0, none⟩ a) (grown_setCell _ ⟨R, 1, none⟩ b), ⟨blk_cell hR 0 rfl, blk_cell hR 1 rfl⟩, ⟨blk_froz hR 0, blk_froz hR 1⟩, ⟨blk_cell h2 0 rfl, blk_cell h2 1 rfl⟩⟩

/-- A block of two cells, made and written. -/
theorem new_two (w : World) (t : TypeId) (x y a b : Value) : ∃ V, (((w.alloc (.cells #[x, y] t)).setCell ⟨w.heap.size, 0, none⟩ a).setCell ⟨w.heap.size, 1, none⟩ b = V) ∧ w.alloc (.cells #[a, b] t) = V ∧ V.heap.size = w.heap.size + 1 ∧ Below w.heap.size w V ∧ V.heap[w.heap.size]? = some (.cells #[a, b] t (0, 0)) ∧
    V.cell? ⟨w.heap.size, 0, none⟩ = some a ∧ V.cell? ⟨w.heap.size, 1, none⟩ = some b := by
  obtain ⟨V, h1, h2, h3, h4⟩ := blk_step w #[a, b] t
  refine ⟨V, ?_, h1, h2, h3, h4, blk_cell h4 0 rfl, blk_cell h4 1 rfl⟩
  rw [← h1]
  simp [go_sem]

/-- A fault as a value. -/
def flv (f : Int × Int) : Value := .agg #[.int .i64 f.1, .int .i64 f.2]

theorem Tryz.guardF (op : BinOp) (x y : Operand) (xs ys : Array Value) (w : World) : (eqGuard op 109 x y (.agg xs) (.agg ys)).run Tryz.prog w = .ok () w := run_eqGuard_agg w op 109 x y xs ys (by kernel_rfl)

theorem Tryz.neqF (a b c d : Int) (w : World) : (binOp .neq 109 (.agg #[.int .i64 a, .int .i64 b]) (.agg #[.int .i64 c, .int .i64 d])).run Tryz.prog w = .ok (.bool (!((a == c) && (b == d)))) w := by
  rw [run_neq_struct, run_equalIn_agg w 9999 109 _ _ (by kernel_rfl) (by kernel_rfl)]
  unfold Program.fieldsOf
  rw [Tryz.underlying109]
  simp [Op.eqFields, go_sem, Tryz.underlying24, Tryz.underlying3]
  by_cases h1 : a = c <;> by_cases h2 : b = d <;> simp [h1, h2]

set_option maxHeartbeats 400000 in
theorem flt_any (at' ep nu e n : Int) (v : Value) (l : List Bm.Ov) (w : World) (h : IsO w v l) (hf : FitO l) (hl : l.length ≤ 140737488355328) :
    Calls Tryz.prog 124 #[.int .i64 at', .int .i64 ep, .int .i64 nu, cmv e n v] w fun E w' => E = .returned (flv (Cm.flt at' ep nu ⟨e, n, l⟩)) ∧ Below w.heap.size w w' := by
  unfold cmv flv
  obtain ⟨fa, hfa⟩ : ∃ f, Cm.flt at' ep nu ⟨e, n, l⟩ = f := ⟨_, rfl⟩
  rw [hfa]
  have HF := hide hfa
  clear hfa
  obtain ⟨w1, hw1, sz1, bel1, hB⟩ := blk_step w #[.int .i64 e, .int .i64 n, v] 55
  obtain ⟨w2, hw2, sz2, bel2, hR⟩ := blk_step w1 #[.int .i64 0, .int .i64 0] 109
  rw [sz1] at hR
  have bel02 : Below w.heap.size w w2 := bel1.trans (bel2.mono (by omega))
  have hB2 := (bel2.block w.heap.size (by omega)).trans hB
  have c0 := blk_cell hB2 0 rfl
  have c1 := blk_cell hB2 1 rfl
  have c2 := blk_cell hB2 2 rfl
  have h2 := h.below bel02
  obtain ⟨ao, cap, rfl, _, _⟩ := h.shape
  have HB := hide hB2
  have HR := hide hR
  clear hB hB2 hR bel1 bel2
  go_enter Tryz.func124, Tryz.ntmps124
  go_wp2_with fail
  refine (ccheck_any e n _ l _ h2 hf hl).mono ?_
  rintro E w3 ⟨rfl, bel3⟩
  have sz3 := bel3.size
  have hB3 := (bel3.block w.heap.size (by omega)).trans HB.out
  have hR3 := (bel3.block (w.heap.size + 1) (by omega)).trans HR.out
  have bel03 := bel02.trans (bel3.mono (by omega))
  have d0 := blk_cell hB3 0 rfl
  have d1 := blk_cell hB3 1 rfl
  clear c0 c1 c2 HB HR hB3 bel02 bel3 h2
  by_cases hc : Cm.chk e n l = 0
  · obtain ⟨g1, g2, g3, g4, g5⟩ := Cm.chk_zero hc
    by_cases hq : n - 1 ≠ nu ∨ e < ep
    · obtain rfl : (15, at') = fa := (Cm.flt_off (c := ⟨e, n, l⟩) hc hq).symm.trans HF.out
      rw [hc]
      obtain ⟨V', hV', bV', gV', ⟨a0, a1⟩, ⟨f0, f1⟩, ⟨z0, z1⟩⟩ := res_two hR3 (.int .i64 15) (.int .i64 at')
      have belV' := below_put bel03 gV' (by omega) (by omega)
      clear hc bV' gV' hR3
      by_cases hq1 : n - 1 = nu
      · have hq2 : e < ep := by omega
        have hq3 : (n - 1 != nu) = false := by simpa using hq1
        clear hq hq1
        go_wp2
        refine bodyPost_ret (v := .agg #[.int .i64 15, .int .i64 at']) (by simp [results, Tryz.results124, go_sem, z0, z1]) rfl ?_
        exact ⟨rfl, belV'⟩
      · have hq3 : (n - 1 != nu) = true := by simpa using hq1
        clear hq hq1
        go_wp2
        refine bodyPost_ret (v := .agg #[.int .i64 15, .int .i64 at']) (by simp [results, Tryz.results124, go_sem, z0, z1]) rfl ?_
        exact ⟨rfl, belV'⟩
    · obtain rfl : (0, 0) = fa := (Cm.flt_on (c := ⟨e, n, l⟩) hc hq).symm.trans HF.out
      rw [hc]
      obtain ⟨V', hV', bV', gV', ⟨a0, a1⟩, ⟨f0, f1⟩, ⟨z0, z1⟩⟩ := res_two hR3 (.int .i64 0) (.int .i64 0)
      have belV' := below_put bel03 gV' (by omega) (by omega)
      have hq3 : (n - 1 != nu) = false := by simp; omega
      have hq2 : ¬ e < ep := by omega
      clear hc bV' gV' hR3 hq
      go_wp2
      refine bodyPost_ret (v := .agg #[.int .i64 0, .int .i64 0]) (by simp [results, Tryz.results124, go_sem, z0, z1]) rfl ?_
      exact ⟨rfl, belV'⟩
  · have hfo : (Cm.chk e n l, at') = fa := (Cm.flt_bad (c := ⟨e, n, l⟩) hc).symm.trans HF.out
    have hne : (Cm.chk e n l == 0) = false := by simpa using hc
    generalize Cm.chk e n l = ck at *
    subst hfo
    obtain ⟨V', hV', bV', gV', ⟨a0, a1⟩, ⟨f0, f1⟩, ⟨z0, z1⟩⟩ := res_two hR3 (.int .i64 ck) (.int .i64 at')
    have belV' := below_put bel03 gV' (by omega) (by omega)
    clear hc bV' gV' hR3
    go_wp2
    refine bodyPost_ret (v := .agg #[.int .i64 ck, .int .i64 at']) (by simp [results, Tryz.results124, go_sem, z0, z1]) rfl ?_
    exact ⟨rfl, belV'⟩

theorem cvs_drop {r : List Cw} {k : Nat} {c : Cw} (h : r[k]? = some c) : (cvs r).drop k = c.c :: (cvs r).drop (k + 1) := by
  obtain ⟨hk, rfl⟩ := List.getElem?_eq_some_iff.1 h
  unfold cvs
  rw [← List.map_drop, ← List.map_drop, List.drop_eq_getElem_cons hk, List.map_cons]

set_option maxHeartbeats 1000000 in
theorem cfol_any (ep0 nu0 : Int) (vl : Value) (r : List Cw) (w : World) (h : IsC w vl r) (hf : FitC r) (hl : r.length ≤ 140737488355328) :
    Calls Tryz.prog 58 #[.int .i64 ep0, .int .i64 nu0, vl] w fun E w' => E = .returned (flv (Cm.fol ep0 nu0 0 (cvs r))) ∧ Below w.heap.size w w' := by
  unfold flv
  obtain ⟨fa, hfa⟩ : ∃ f, Cm.fol ep0 nu0 0 (cvs r) = f := ⟨_, rfl⟩
  rw [hfa]
  have HF := hide hfa
  clear hfa
  obtain ⟨w1, hw1, sz1, bel1, hR⟩ := blk_step w #[.int .i64 0, .int .i64 0] 109
  have h1 := h.below bel1
  have hR0 := blk_cell hR 0 rfl
  have hR1 := blk_cell hR 1 rfl
  by_cases hz : r.length = 0
  · have : r = [] := List.eq_nil_of_length_eq_zero hz
    subst this
    obtain ⟨ao, cap, rfl, _, _⟩ := h.1.shape
    have hfo := HF.out
    simp only [cvs, List.map_nil, Cm.fol_nil] at hfo
    subst hfo
    obtain ⟨V', hV', bV', gV', ⟨a0, a1⟩, ⟨f0, f1⟩, ⟨z0, z1⟩⟩ := res_two hR (.int .i64 0) (.int .i64 0)
    have belV' := below_put bel1 gV' (by omega) (by omega)
    clear h h1 hf hl hz HF bV' gV' hR
    simp only [List.length_nil]
    go_enter Tryz.func58, Tryz.ntmps58
    go_wp2
    go_loopw [12] (fun iv wr => iv = .int .i64 0 ∧ wr = w1) (fun _ _ => 0)
    case atStart => exact ⟨rfl, rfl⟩
    case round =>
      obtain ⟨rfl, rfl⟩ := hrel
      go_wp2
      refine bodyPost_ret (v := .agg #[.int .i64 0, .int .i64 0]) (by simp [results, Tryz.results58, go_sem, z0, z1]) rfl ?_
      exact ⟨rfl, belV'⟩
  obtain ⟨b1, o1, c1, hvl, _, _, hB, hcell⟩ := h1.1.full (by omega)
  subst hvl
  have HIN := hide h1.2
  have HFIT := hide hf
  have HC := hide hcell
  have HRR := hide hR
  generalize hn : r.length = n at *
  have HN := hide hn
  clear h h1 hcell hf hR hR0 hR1 hn
  go_enter Tryz.func58, Tryz.ntmps58
  go_wp2
  go_loopw [0, 1, 12] (fun ev nv iv wr => ∃ (k : Nat) (ep nu : Int), k ≤ n ∧ iv = .int .i64 k ∧ ev = .int .i64 ep ∧ nv = .int .i64 nu ∧ Hid (Cm.fol ep nu k ((cvs r).drop k) = fa) ∧ Below w1.heap.size w1 wr) (fun _ _ iv _ => n - (intOf iv).toNat)
  case atStart => exact ⟨0, ep0, nu0, by omega, rfl, rfl, rfl, HF, Below.refl _ _⟩
  case round =>
    obtain ⟨k, ep, nu, hk, rfl, rfl, rfl, HT, bel⟩ := hrel
    have sz := bel.size
    by_cases hlt : k < n
    · obtain ⟨c, hc⟩ : ∃ c, r[k]? = some c := ⟨r[k]'(by have := HN.out; omega), by rw [List.getElem?_eq_getElem]⟩
      obtain ⟨e0, e1, e2⟩ := HC.out k c hc
      have d0 := (bel.cell (p := ⟨b1, o1 + k * 3, none⟩) hB).trans e0
      have d1 := (bel.cell (p := ⟨b1, o1 + k * 3 + 1, none⟩) hB).trans e1
      have d2 := (bel.cell (p := ⟨b1, o1 + k * 3 + 2, none⟩) hB).trans e2
      have hmem := List.mem_of_getElem? hc
      obtain ⟨i1, _, _⟩ := HIN.out c hmem
      have i2 := i1.below bel
      obtain ⟨hfc, hlc⟩ := HFIT.out c hmem
      have HCD := hide (cvs_drop hc)
      have hlt' : (k : Int) < n := by omega
      obtain ⟨ao, cp, hcv, _, _⟩ := i2.shape
      rw [hcv] at d2 i2
      obtain ⟨V, hV, hV2, szV, belV, bC, q0, q1, q2⟩ := new_step wr 55 (.int .i64 0) (.int .i64 0) (.slice none 0 0) (.int .i64 c.e) (.int .i64 c.n) (.slice ao c.l.length cp)
      have i3 := i2.below belV
      have BC := hide bC
      clear e0 e1 e2 hc hmem i1 i2 hcv bC
      go_wp2_with fail
      refine (flt_any k ep nu c.e c.n _ c.l _ i3 hfc (by omega)).mono ?_
      rintro E w3 ⟨rfl, bel3⟩
      have sz3 := bel3.size
      obtain ⟨fl, hfl⟩ : ∃ f, Cm.flt k ep nu ⟨c.e, c.n, c.l⟩ = f := ⟨_, rfl⟩
      unfold flv
      rw [hfl]
      have HFL := hide hfl
      clear hfl
      obtain ⟨fe, fp⟩ := fl
      simp only
      have bC3 := (bel3.block wr.heap.size (by omega)).trans BC.out
      obtain ⟨X, hX, hX2, szX, belX, bF, x0, x1⟩ := new_two w3 109 (.int .i64 0) (.int .i64 0) (.int .i64 fe) (.int .i64 fp)
      have bCX := (belX.block wr.heap.size (by omega)).trans bC3
      have u0 := blk_cell bCX 0 rfl
      have u1 := blk_cell bCX 1 rfl
      have belA : Below w1.heap.size w1 X := ((bel.trans (belV.mono (by omega))).trans (bel3.mono (by omega))).trans (belX.mono (by omega))
      have hRX := (belA.block w.heap.size (by omega)).trans HRR.out
      have hnq := Tryz.neqF fe fp 0 0
      have hgd := Tryz.guardF
      clear bel belV bel3 belX BC bC3 bCX bF i3 q0 q1 q2 d0 d1 d2 hV hV2
      by_cases hfe : fe = 0
      · have hz := Cm.flt_zero (a := k) (ep := ep) (nu := nu) (c := ⟨c.e, c.n, c.l⟩) (by rw [HFL.out]; exact hfe)
        have hfp : fp = 0 := by have := hz.2.2; rw [HFL.out] at this; exact this
        have HT2 : Hid (Cm.fol c.e c.n (k + 1) ((cvs r).drop (k + 1)) = fa) := hide (by
          have := HT.out
          rw [HCD.out] at this
          rw [← this]
          exact (Cm.fol_next (c := c.c) (by rw [show Cm.flt k ep nu c.c = (fe, fp) from HFL.out]; exact hfe)).symm)
        have hb : (!((fe == 0) && (fp == 0))) = false := by simp [hfe, hfp]
        rw [hb] at hnq
        clear hb hz hfe hfp hRX HFL HCD HT
        go_wp2_with fail
        go_quiet (fail)
        go_wp2
        go_roundw
        case rel => exact ⟨k + 1, c.e, c.n, by omega, by go_num, rfl, rfl, HT2, below_drewN belA _⟩
        case measure => simp [intOf]; omega
      · have hfo : (fe, fp) = fa := by
          have := HT.out
          rw [HCD.out] at this
          rw [← this, Cm.fol_stop (c := c.c) (by rw [show Cm.flt k ep nu c.c = (fe, fp) from HFL.out]; exact hfe)]
          exact HFL.out.symm
        have hb : (!((fe == 0) && (fp == 0))) = true := by simp [hfe]
        rw [hb] at hnq
        subst hfo
        obtain ⟨V', hV', bV', gV', ⟨a0, a1⟩, ⟨f0, f1⟩, ⟨z0, z1⟩⟩ := res_two hRX (.int .i64 fe) (.int .i64 fp)
        have belV' := below_put (bel1.trans (belA.mono (by omega))) gV' (by omega) (by omega)
        clear hb hfe hRX HFL HCD HT HF bV' gV' u0 u1 belA
        go_wp2
        refine bodyPost_ret (v := .agg #[.int .i64 fe, .int .i64 fp]) (by simp [results, Tryz.results58, go_sem, z0, z1]) rfl ?_
        exact ⟨rfl, belV'⟩
    · have hlt' : ¬ (k : Int) < n := by omega
      have hfo : (0, 0) = fa := by
        have := HT.out
        rw [List.drop_of_length_le (by unfold cvs; rw [List.length_map, HN.out]; omega), Cm.fol_nil] at this
        exact this
      subst hfo
      have hRX := (bel.block w.heap.size (by omega)).trans HRR.out
      obtain ⟨V', hV', bV', gV', ⟨a0, a1⟩, ⟨f0, f1⟩, ⟨z0, z1⟩⟩ := res_two hRX (.int .i64 0) (.int .i64 0)
      have belV' := below_put (bel1.trans (bel.mono (by omega))) gV' (by omega) (by omega)
      clear hRX HT HF bV' gV' bel
      go_wp2
      refine bodyPost_ret (v := .agg #[.int .i64 0, .int .i64 0]) (by simp [results, Tryz.results58, go_sem, z0, z1]) rfl ?_
      exact ⟨rfl, belV'⟩

set_option maxHeartbeats 1000000 in
theorem cfolR_any (ep0 nu0 : Int) (vl : Value) (r : List Cw) (w : World) (h : IsC w vl r) (hf : FitC r) (hl : r.length ≤ 140737488355328) :
    Calls Tryz.prog 69 #[.int .i64 ep0, .int .i64 nu0, vl] w fun E w' => E = .returned (flv (Cm.fol ep0 nu0 0 (cvs r))) ∧ Below w.heap.size w w' := by
  unfold flv
  obtain ⟨fa, hfa⟩ : ∃ f, Cm.fol ep0 nu0 0 (cvs r) = f := ⟨_, rfl⟩
  rw [hfa]
  have HF := hide hfa
  clear hfa
  obtain ⟨w1, hw1, sz1, bel1, hR⟩ := blk_step w #[.int .i64 0, .int .i64 0] 109
  have h1 := h.below bel1
  by_cases hz : r.length = 0
  · have : r = [] := List.eq_nil_of_length_eq_zero hz
    subst this
    obtain ⟨ao, cap, rfl, _, _⟩ := h.1.shape
    have hfo := HF.out
    simp only [cvs, List.map_nil, Cm.fol_nil] at hfo
    subst hfo
    obtain ⟨V', hV', bV', gV', ⟨a0, a1⟩, ⟨f0, f1⟩, ⟨z0, z1⟩⟩ := res_two hR (.int .i64 0) (.int .i64 0)
    have belV' := below_put bel1 gV' (by omega) (by omega)
    clear h h1 hf hl hz HF bV' gV' hR
    simp only [List.length_nil]
    go_enter Tryz.func69, Tryz.ntmps69
    go_wp2
    go_loopw [7] (fun iv wr => iv = .int .i64 0 ∧ wr = w1) (fun _ _ => 0)
    case atStart => exact ⟨rfl, rfl⟩
    case round =>
      obtain ⟨rfl, rfl⟩ := hrel
      go_wp2
      refine bodyPost_ret (v := .agg #[.int .i64 0, .int .i64 0]) (by simp [results, Tryz.results69, go_sem, z0, z1]) rfl ?_
      exact ⟨rfl, belV'⟩
  obtain ⟨b1, o1, c1, hvl, _, _, hB, hcell⟩ := h1.1.full (by omega)
  subst hvl
  have HIN := hide h1.2
  have HFIT := hide hf
  have HC := hide hcell
  have HRR := hide hR
  generalize hn : r.length = n at *
  have HN := hide hn
  clear h h1 hcell hf hR hn
  go_enter Tryz.func69, Tryz.ntmps69
  go_wp2
  go_loopw [0, 1, 7] (fun ev nv iv wr => ∃ (k : Nat) (ep nu : Int), k ≤ n ∧ iv = .int .i64 k ∧ ev = .int .i64 ep ∧ nv = .int .i64 nu ∧ Hid (Cm.fol ep nu k ((cvs r).drop k) = fa) ∧ Below w1.heap.size w1 wr) (fun _ _ iv _ => n - (intOf iv).toNat)
  case atStart => exact ⟨0, ep0, nu0, by omega, rfl, rfl, rfl, HF, Below.refl _ _⟩
  case round =>
    obtain ⟨k, ep, nu, hk, rfl, rfl, rfl, HT, bel⟩ := hrel
    have sz := bel.size
    by_cases hlt : k < n
    · obtain ⟨c, hc⟩ : ∃ c, r[k]? = some c := ⟨r[k]'(by have := HN.out; omega), by rw [List.getElem?_eq_getElem]⟩
      obtain ⟨e0, e1, e2⟩ := HC.out k c hc
      have d0 := (bel.cell (p := ⟨b1, o1 + k * 3, none⟩) hB).trans e0
      have d1 := (bel.cell (p := ⟨b1, o1 + k * 3 + 1, none⟩) hB).trans e1
      have d2 := (bel.cell (p := ⟨b1, o1 + k * 3 + 2, none⟩) hB).trans e2
      have hmem := List.mem_of_getElem? hc
      obtain ⟨i1, _, _⟩ := HIN.out c hmem
      have i2 := i1.below bel
      obtain ⟨hfc, hlc⟩ := HFIT.out c hmem
      have HCD := hide (cvs_drop hc)
      have hlt' : (k : Int) < n := by omega
      clear hc hmem i1
      go_wp2_with fail
      refine (ccheckR_any c.e c.n _ c.l _ i2 hfc (by omega)).mono ?_
      rintro E w3 ⟨rfl, bel3⟩
      have sz3 := bel3.size
      have belA : Below w1.heap.size w1 w3 := bel.trans (bel3.mono (by omega))
      have u0 := (belA.cell (p := ⟨b1, o1 + k * 3, none⟩) hB).trans e0
      have u1 := (belA.cell (p := ⟨b1, o1 + k * 3 + 1, none⟩) hB).trans e1
      have hRX := (belA.block w.heap.size (by omega)).trans HRR.out
      clear bel bel3 d0 d1 d2 e0 e1 e2 i2
      by_cases hck : Cm.chk c.e c.n c.l = 0
      · rw [hck]
        obtain ⟨g1, g2, g3, g4, g5⟩ := Cm.chk_zero hck
        by_cases hq : c.n - 1 ≠ nu ∨ c.e < ep
        · obtain rfl : (15, (k : Int)) = fa := by
            have := HT.out
            rw [HCD.out, Cm.fol_off (c := c.c) hck hq] at this
            exact this
          obtain ⟨V', hV', bV', gV', ⟨a0, a1⟩, ⟨f0, f1⟩, ⟨z0, z1⟩⟩ := res_two hRX (.int .i64 15) (.int .i64 k)
          have belV' := below_put (bel1.trans (belA.mono (by omega))) gV' (by omega) (by omega)
          clear hck hRX HCD HT HF bV' gV' belA
          by_cases hq1 : c.n - 1 = nu
          · have hq2 : c.e < ep := by omega
            have hq3 : (c.n - 1 != nu) = false := by simpa using hq1
            clear hq hq1
            go_wp2
            refine bodyPost_ret (v := .agg #[.int .i64 15, .int .i64 k]) (by simp [results, Tryz.results69, go_sem, z0, z1]) rfl ?_
            exact ⟨rfl, belV'⟩
          · have hq3 : (c.n - 1 != nu) = true := by simpa using hq1
            clear hq hq1
            go_wp2
            refine bodyPost_ret (v := .agg #[.int .i64 15, .int .i64 k]) (by simp [results, Tryz.results69, go_sem, z0, z1]) rfl ?_
            exact ⟨rfl, belV'⟩
        · have HT2 : Hid (Cm.fol c.e c.n (k + 1) ((cvs r).drop (k + 1)) = fa) := hide (by
            have := HT.out
            rw [HCD.out, Cm.fol_on (c := c.c) hck hq] at this
            exact this)
          have hq3 : (c.n - 1 != nu) = false := by simp; omega
          have hq2 : ¬ c.e < ep := by omega
          clear hck hRX HCD HT hq
          go_wp2_with fail
          go_quiet (fail)
          go_wp2
          go_roundw
          case rel => exact ⟨k + 1, c.e, c.n, by omega, by go_num, rfl, rfl, HT2, below_drewN belA _⟩
          case measure => simp [intOf]; omega
      · have hfo : (Cm.chk c.e c.n c.l, (k : Int)) = fa := by
          have := HT.out
          rw [HCD.out, Cm.fol_bad (c := c.c) hck] at this
          exact this
        have hne : (Cm.chk c.e c.n c.l == 0) = false := by simpa using hck
        generalize Cm.chk c.e c.n c.l = ck at *
        subst hfo
        obtain ⟨V', hV', bV', gV', ⟨a0, a1⟩, ⟨f0, f1⟩, ⟨z0, z1⟩⟩ := res_two hRX (.int .i64 ck) (.int .i64 k)
        have belV' := below_put (bel1.trans (belA.mono (by omega))) gV' (by omega) (by omega)
        clear hck hRX HCD HT HF bV' gV' belA
        go_wp2
        refine bodyPost_ret (v := .agg #[.int .i64 ck, .int .i64 k]) (by simp [results, Tryz.results69, go_sem, z0, z1]) rfl ?_
        exact ⟨rfl, belV'⟩
    · have hlt' : ¬ (k : Int) < n := by omega
      have hfo : (0, 0) = fa := by
        have := HT.out
        rw [List.drop_of_length_le (by unfold cvs; rw [List.length_map, HN.out]; omega), Cm.fol_nil] at this
        exact this
      subst hfo
      have hRX := (bel.block w.heap.size (by omega)).trans HRR.out
      obtain ⟨V', hV', bV', gV', ⟨a0, a1⟩, ⟨f0, f1⟩, ⟨z0, z1⟩⟩ := res_two hRX (.int .i64 0) (.int .i64 0)
      have belV' := below_put (bel1.trans (bel.mono (by omega))) gV' (by omega) (by omega)
      clear hRX HT HF bV' gV' bel
      go_wp2
      refine bodyPost_ret (v := .agg #[.int .i64 0, .int .i64 0]) (by simp [results, Tryz.results69, go_sem, z0, z1]) rfl ?_
      exact ⟨rfl, belV'⟩

end Go.Proofs.YthmecljkackmbaaGreat

/- The contracts of the laws' copies of lists of commits: CopyCommits, LentCommits, KeptCommits. -/
namespace Go.Proofs.YthmecljkackmbaaGreat
open Go.RowKit
set_option linter.unusedVariables false

theorem cw_ext {c d : Cw} (h : c.c = d.c) : c.e = d.e ∧ c.n = d.n ∧ c.l = d.l := by
  unfold Cw.c at h
  simpa using h

theorem cvs_at {r s : List Cw} (h : cvs r = cvs s) {k : Nat} {c : Cw} (hc : r[k]? = some c) : ∃ d, s[k]? = some d ∧ c.e = d.e ∧ c.n = d.n ∧ c.l = d.l := by
  have h1 : (cvs r)[k]? = some c.c := by unfold cvs; rw [List.getElem?_map, hc]; rfl
  rw [h] at h1
  unfold cvs at h1
  rw [List.getElem?_map, Option.map_eq_some_iff] at h1
  obtain ⟨d, hd, he⟩ := h1
  obtain ⟨e1, e2, e3⟩ := cw_ext he
  exact ⟨d, hd, e1.symm, e2.symm, e3.symm⟩

theorem cvs_len {r s : List Cw} (h : cvs r = cvs s) : r.length = s.length := by
  have := congrArg List.length h
  simpa [cvs] using this

theorem cvs_take (r : List Cw) (k : Nat) : cvs (r.take k) = (cvs r).take k := by unfold cvs; rw [List.map_take]

theorem cvs_snoc {rs r : List Cw} {k : Nat} {c d : Cw} (h : cvs rs = cvs (r.take k)) (hd : r[k]? = some d) (he : c.c = d.c) : cvs (rs ++ [c]) = cvs (r.take (k + 1)) := by
  obtain ⟨hk, rfl⟩ := List.getElem?_eq_some_iff.1 hd
  rw [List.take_succ_eq_append_getElem hk]
  unfold cvs at h ⊢
  rw [List.map_append, List.map_append, h]
  simp [he]

/-- The loop of CopyCommits: what was made of the first ones. -/
def CopyR (base : Nat) (w : World) (rs : List Cw) : Prop := ∀ c ∈ rs, OwnO 81 base w c.v c.l
def LentR (base : Nat) (w : World) (rs : List Cw) : Prop := ∀ c ∈ rs, LentV base w c.v c.l

theorem CopyR.inC {base : Nat} {w : World} {rs r : List Cw} (h : CopyR base w rs) (he : cvs rs = cvs r) {w' : World} (hr : InC w' r) : InC w rs := by
  intro c hc
  obtain ⟨k, hk⟩ := List.getElem?_of_mem hc
  obtain ⟨d, hd, e1, e2, _⟩ := cvs_at he hk
  obtain ⟨_, i1, i2⟩ := hr d (List.mem_of_getElem? hd)
  exact ⟨(h c hc).is, by rw [e1]; exact i1, by rw [e2]; exact i2⟩

theorem LentR.inC {base : Nat} {w : World} {rs r : List Cw} (h : LentR base w rs) (he : cvs rs = cvs r) {w' : World} (hr : InC w' r) : InC w rs := by
  intro c hc
  obtain ⟨k, hk⟩ := List.getElem?_of_mem hc
  obtain ⟨d, hd, e1, e2, _⟩ := cvs_at he hk
  obtain ⟨_, i1, i2⟩ := hr d (List.mem_of_getElem? hd)
  exact ⟨(h c hc).is, by rw [e1]; exact i1, by rw [e2]; exact i2⟩

theorem fit_same {rs r : List Cw} (he : cvs rs = cvs r) (hr : FitC r) : FitC rs := by
  intro c hc
  obtain ⟨k, hk⟩ := List.getElem?_of_mem hc
  obtain ⟨d, hd, _, _, e3⟩ := cvs_at he hk
  rw [e3]
  exact hr d (List.mem_of_getElem? hd)

theorem CopyR.below {base : Nat} {w w' : World} {rs : List Cw} (h : CopyR base w rs) (hb : Below w.heap.size w w') : CopyR base w' rs := fun c hc => (h c hc).below hb

theorem LentR.below {base : Nat} {w w' : World} {rs : List Cw} (h : LentR base w rs) (hb : Below w.heap.size w w') : LentR base w' rs := fun c hc => (h c hc).below hb

theorem CopyR.keepT {base : Nat} {w w' : World} {rs : List Cw} (h : CopyR base w rs) (hb : KeepT 55 w w') : CopyR base w' rs := fun c hc => (h c hc).keepT hb (by decide)

theorem LentR.keepT {base : Nat} {w w' : World} {rs : List Cw} (h : LentR base w rs) (hb : KeepT 55 w w') : LentR base w' rs := fun c hc => (h c hc).keepT hb (by decide)

theorem CopyR.snoc {base : Nat} {w : World} {rs : List Cw} (h : CopyR base w rs) {c : Cw} (hc : OwnO 81 base w c.v c.l) : CopyR base w (rs ++ [c]) := fun d hd => (List.mem_append.1 hd).elim (h d) (fun h => by rw [List.mem_singleton.1 h]; exact hc)

theorem LentR.snoc {base : Nat} {w : World} {rs : List Cw} (h : LentR base w rs) {c : Cw} (hc : LentV base w c.v c.l) : LentR base w (rs ++ [c]) := fun d hd => (List.mem_append.1 hd).elim (h d) (fun h => by rw [List.mem_singleton.1 h]; exact hc)

/-- What stands behind commits that are lent. -/
def behC : Cw := ⟨-7, 0, .slice none 0 0, []⟩

set_option maxHeartbeats 1000000 in
theorem lentCs_any (vl : Value) (r : List Cw) (w : World) (h : IsC w vl r) (hf : FitC r) (hl : r.length ≤ 1000) :
    Calls Tryz.prog 23 #[vl] w fun E w' => ∃ v rs, E = .returned v ∧ OwnR 55 w.heap.size w' v (rs ++ [behC, behC, behC]) ∧ cvs rs = cvs r ∧ LentR w.heap.size w' rs ∧ Below w.heap.size w w' := by
  obtain ⟨ao, cap, hvl, _, _⟩ := h.1.shape
  have hcell : 0 < r.length → ∃ b1 o1 c1, vl = .slice (some ⟨b1, o1, none⟩) r.length c1 ∧ b1 < w.heap.size ∧ ∀ i c, r[i]? = some c → w.cell? ⟨b1, o1 + i * 3, none⟩ = some (.int .i64 c.e) ∧ w.cell? ⟨b1, o1 + i * 3 + 1, none⟩ = some (.int .i64 c.n) ∧ w.cell? ⟨b1, o1 + i * 3 + 2, none⟩ = some c.v := by
    intro hp
    obtain ⟨b1, o1, c1, hv, _, _, hB, hc⟩ := h.1.full hp
    exact ⟨b1, o1, c1, hv, hB, hc⟩
  subst hvl
  have HIN := hide h.2
  have HFIT := hide hf
  have HC := hide hcell
  generalize hn : r.length = n at *
  have HN := hide hn
  clear h hcell hf hn
  go_enter Tryz.func23, Tryz.ntmps23
  go_wp2
  go_loopw [3, 4] (fun ov iv wr => ∃ (k : Nat) (rs : List Cw), k ≤ n ∧ iv = .int .i64 k ∧ rs.length = k ∧ Hid (OwnR 55 w.heap.size wr ov rs ∧ cvs rs = cvs (r.take k) ∧ LentR w.heap.size wr rs) ∧ Below w.heap.size w wr) (fun _ iv _ => n - (intOf iv).toNat)
  case atStart => exact ⟨0, [], by omega, rfl, rfl, ⟨OwnR.nil _ _ _, rfl, fun c hc => by simp at hc⟩, Below.refl _ _⟩
  case round =>
    obtain ⟨k, rs, hk, rfl, hrl, HT, bel⟩ := hrel
    have sz := bel.size
    by_cases hlt : k < n
    · obtain ⟨b1, o1, c1, hvx, hB, hcell⟩ := HC.out (by have := HN.out; omega)
      simp only [Value.slice.injEq, true_and] at hvx
      obtain ⟨rfl, rfl⟩ := hvx
      obtain ⟨c, hc⟩ : ∃ c, r[k]? = some c := ⟨r[k]'(by have := HN.out; omega), by rw [List.getElem?_eq_getElem]⟩
      obtain ⟨e0, e1, e2⟩ := hcell k c hc
      have d0 := (bel.cell (p := ⟨b1, o1 + k * 3, none⟩) hB).trans e0
      have d1 := (bel.cell (p := ⟨b1, o1 + k * 3 + 1, none⟩) hB).trans e1
      have d2 := (bel.cell (p := ⟨b1, o1 + k * 3 + 2, none⟩) hB).trans e2
      have hmem := List.mem_of_getElem? hc
      obtain ⟨i1, _, _⟩ := HIN.out c hmem
      have i2 := i1.below bel
      obtain ⟨hfc, hlc⟩ := HFIT.out c hmem
      have HCK := hide hc
      have hlt' : (k : Int) < n := by omega
      clear hc hmem i1 e0 e1 e2 hcell
      go_wp2_with fail
      refine (lentC_any c.e c.n _ c.l _ i2 hlc).mono ?_
      rintro E w2 ⟨v2, rfl, own2, bel2⟩
      unfold cmv
      have sz2 := bel2.size
      obtain ⟨ah, ch, hv2, _, _⟩ := own2.is.shape
      subst hv2
      obtain ⟨w3, hw3, sz3, bel3, own3⟩ := coms_step 55 w2 #[.int .i64 c.e, .int .i64 c.n, .slice ah c.l.length ch] 1 [⟨c.e, c.n, .slice ah c.l.length ch, c.l⟩] rfl rfl (by simp [maxLen])
      obtain ⟨hO, hE, hP⟩ := HT.out
      have bel23 : Below wr.heap.size wr w3 := bel2.trans (bel3.mono (by omega))
      have hO3 := hO.below bel23
      have hP3 := hP.below bel23
      have own23 := (own2.below bel3).rebase (base' := w.heap.size) (by omega)
      have hlk : (rs.length + [(⟨c.e, c.n, .slice ah c.l.length ch, c.l⟩ : Cw)].length) * 40 ≤ 140737488355328 := by rw [List.length_singleton]; omega
      have HE := hide hE
      have HP := hide hP3
      have bel03 : Below w.heap.size w w3 := bel.trans (bel23.mono (by omega))
      clear HT hO hP hP3 hE bel2 bel3 bel23 own2 bel d0 d1 d2 i2
      go_wp2_with (at_builtin; refine wpList_append_coms rfl (.tmp 12) (.tmp 18) 27 rfl 55 w.heap.size Tryz.underlying27 Tryz.info55 _ rs rfl hO3 _ _ rfl own3.row (by intro c hc; rw [List.mem_singleton.1 hc]; rfl) hlk (by omega) ?_)
      intro v4 w4 own4 bel4 kp4
      have HT2 : Hid (OwnR 55 w.heap.size w4 v4 (rs ++ [⟨c.e, c.n, .slice ah c.l.length ch, c.l⟩]) ∧ cvs (rs ++ [⟨c.e, c.n, .slice ah c.l.length ch, c.l⟩]) = cvs (r.take (k + 1)) ∧ LentR w.heap.size w4 (rs ++ [⟨c.e, c.n, .slice ah c.l.length ch, c.l⟩])) :=
        ⟨own4, cvs_snoc HE.out HCK.out rfl, (HP.out.keepT kp4).snoc (own23.keepT kp4 (by decide))⟩
      have bel04 := bel03.trans bel4
      clear own4 kp4 own23 own3 hO3 HE HP bel03 bel4 hlk
      go_wp2
      go_roundw
      case rel => exact ⟨k + 1, _, by omega, by go_num, by rw [List.length_append, hrl]; rfl, HT2, bel04⟩
      case measure => simp [intOf]; omega
    · have hlt' : ¬ (k : Int) < n := by omega
      have HE : Hid (cvs rs = cvs r) := hide (by rw [HT.out.2.1, List.take_of_length_le (by have := HN.out; omega)])
      have HS := HT.out.1
      have HLR := hide HT.out.2.2
      have hS0 : Hid (OwnR 55 w.heap.size wr _ (rs ++ List.replicate 0 behC) ∧ LentR w.heap.size wr rs) := ⟨by simpa using HS, HT.out.2.2⟩
      clear HT HS HLR
      go_wp2
      go_loopw [3, 5] (fun ov iv wq => ∃ (j : Nat), j ≤ 3 ∧ iv = .int .i64 j ∧ Hid (OwnR 55 w.heap.size wq ov (rs ++ List.replicate j behC) ∧ LentR w.heap.size wq rs) ∧ Below w.heap.size w wq) (fun _ iv _ => 3 - (intOf iv).toNat)
      case atStart => exact ⟨0, by omega, rfl, hS0, bel⟩
      case round =>
        obtain ⟨j, hj, rfl, HJ, belJ⟩ := hrel
        have szJ := belJ.size
        by_cases hlj : j < 3
        · have hlj' : (j : Int) < 3 := by omega
          obtain ⟨w3, hw3, sz3, bel3, own3⟩ := coms_step 55 wr #[.int .i64 (-7), .int .i64 0, .slice none 0 0] 1 [behC] rfl rfl (by simp [maxLen])
          have hO3 := HJ.out.1.below bel3
          have HP := hide (HJ.out.2.below bel3)
          have hlk : ((rs ++ List.replicate j behC).length + [behC].length) * 40 ≤ 140737488355328 := by rw [List.length_append, List.length_replicate, List.length_singleton]; omega
          have bel03 : Below w.heap.size w w3 := belJ.trans (bel3.mono (by omega))
          clear HJ belJ bel3 hS0
          go_wp2_with (at_builtin; refine wpList_append_coms rfl (.tmp 24) (.tmp 26) 27 rfl 55 w.heap.size Tryz.underlying27 Tryz.info55 _ _ rfl hO3 _ [behC] rfl own3.row (by intro c hc; rw [List.mem_singleton.1 hc]; rfl) hlk (by omega) ?_)
          intro v4 w4 own4 bel4 kp4
          have HT2 : Hid (OwnR 55 w.heap.size w4 v4 (rs ++ List.replicate (j + 1) behC) ∧ LentR w.heap.size w4 rs) := ⟨by rw [List.replicate_succ']; exact own4, HP.out.keepT kp4⟩
          have bel04 := bel03.trans bel4
          clear own4 kp4 own3 hO3 HP bel03 bel4 hlk
          go_wp2
          go_roundw
          case rel => exact ⟨j + 1, by omega, by go_num, HT2, bel04⟩
          case measure => simp [intOf]; omega
        · have hlj' : ¬ (j : Int) < 3 := by omega
          have hj3 : j = 3 := by omega
          subst hj3
          clear hS0
          go_wp2
          go_ret
          exact ⟨_, rfl, rs, HJ.out.1, HE.out, HJ.out.2, belJ⟩

end Go.Proofs.YthmecljkackmbaaGreat

/- The contract of the laws' KeptCommits. -/
namespace Go.Proofs.YthmecljkackmbaaGreat
open Go.RowKit
set_option linter.unusedVariables false

theorem row_at {w : World} {b o : Nat} {r : List Cw} (h : ∀ i c, r[i]? = some c → w.cell? ⟨b, o + i * 3, none⟩ = some (.int .i64 c.e) ∧ w.cell? ⟨b, o + i * 3 + 1, none⟩ = some (.int .i64 c.n) ∧ w.cell? ⟨b, o + i * 3 + 2, none⟩ = some c.v) {w' : World} {base : Nat} (hb : Below base w w') (hB : b < base) {k : Nat} {c : Cw} (hc : r[k]? = some c) :
    w'.cell? ⟨b, o + k * 3, none⟩ = some (.int .i64 c.e) ∧ w'.cell? ⟨b, o + k * 3 + 1, none⟩ = some (.int .i64 c.n) ∧ w'.cell? ⟨b, o + k * 3 + 2, none⟩ = some c.v := by
  obtain ⟨e0, e1, e2⟩ := h k c hc
  exact ⟨(hb.cell (p := ⟨b, o + k * 3, none⟩) hB).trans e0, (hb.cell (p := ⟨b, o + k * 3 + 1, none⟩) hB).trans e1, (hb.cell (p := ⟨b, o + k * 3 + 2, none⟩) hB).trans e2⟩

set_option maxRecDepth 100000 in
set_option maxHeartbeats 2000000 in
theorem keptCs_yes (vf vl : Value) (rs r : List Cw) (base : Nat) (w : World) (hw : RowC w vf (rs ++ [behC, behC, behC])) (he : cvs rs = cvs r) (hr : LentR base w rs) (h : IsC w vl r) (hf : FitC r) (hl : r.length ≤ 1000) :
    Calls Tryz.prog 25 #[vf, vl] w fun E w' => E = .returned (.bool true) ∧ Below w.heap.size w w' := by
  have hlen := cvs_len he
  obtain ⟨b2, o2, c2, hvf, hcf, hmf, hB2, hcell2⟩ := hw.full (by simp)
  have hfl : (rs ++ [behC, behC, behC]).length = r.length + 3 := by rw [List.length_append, hlen]; rfl
  rw [hfl] at hvf hcf
  subst hvf
  obtain ⟨ao, cap, hvl, _, _⟩ := h.1.shape
  have hcell : 0 < r.length → ∃ b1 o1 c1, vl = .slice (some ⟨b1, o1, none⟩) r.length c1 ∧ b1 < w.heap.size ∧ ∀ i c, r[i]? = some c → w.cell? ⟨b1, o1 + i * 3, none⟩ = some (.int .i64 c.e) ∧ w.cell? ⟨b1, o1 + i * 3 + 1, none⟩ = some (.int .i64 c.n) ∧ w.cell? ⟨b1, o1 + i * 3 + 2, none⟩ = some c.v := by
    intro hp
    obtain ⟨b1, o1, c1, hv, _, _, hB, hc⟩ := h.1.full hp
    exact ⟨b1, o1, c1, hv, hB, hc⟩
  subst hvl
  have HIN := hide h.2
  have HFIT := hide hf
  have HC := hide hcell
  have HC2 := hide hcell2
  have HE := hide he
  have HL := hide hr
  generalize hn : r.length = n at *
  have HN := hide hn
  have HRS := hide hlen
  have hne : (((n : Int) + 3) != ((n : Int) + 3)) = false := by simp
  clear h hcell hcell2 hf hn he hr hlen hfl hw
  go_enter Tryz.func25, Tryz.ntmps25
  go_wp2
  go_loopw [5] (fun iv wr => ∃ (k : Nat), k ≤ n ∧ iv = .int .i64 k ∧ Below w.heap.size w wr) (fun iv _ => n - (intOf iv).toNat)
  case atStart => exact ⟨0, by omega, rfl, Below.refl _ _⟩
  case round =>
    obtain ⟨k, hk, rfl, bel⟩ := hrel
    have sz := bel.size
    by_cases hlt : k < n
    · obtain ⟨b1, o1, c1, hvx, hB, hcell⟩ := HC.out (by have := HN.out; omega)
      simp only [Value.slice.injEq, true_and] at hvx
      obtain ⟨rfl, rfl⟩ := hvx
      obtain ⟨c, hc⟩ : ∃ c, rs[k]? = some c := ⟨rs[k]'(by have := HN.out; have := HRS.out; omega), by rw [List.getElem?_eq_getElem]⟩
      obtain ⟨d, hd, q1, q2, q3⟩ := cvs_at HE.out hc
      have hc' : (rs ++ [behC, behC, behC])[k]? = some c := by rw [List.getElem?_append_left (by have := HRS.out; omega)]; exact hc
      obtain ⟨d0, d1, d2⟩ := row_at hcell bel hB hd
      obtain ⟨c0, c1', c2'⟩ := row_at HC2.out bel hB2 hc'
      have hmem := List.mem_of_getElem? hd
      obtain ⟨i1, _, _⟩ := HIN.out d hmem
      obtain ⟨_, hld⟩ := HFIT.out d hmem
      have i2 := i1.below bel
      have l2 := (HL.out c (List.mem_of_getElem? hc)).below bel
      rw [← q1] at d0
      rw [← q2] at d1
      rw [← q3] at i2 hld
      have hlt' : (k : Int) < n := by omega
      have hlt2 : (k : Int) < (n : Int) + 3 := by omega
      have hlt0 : (0 : Int) ≤ (k : Int) := by omega
      have hB2' : b2 < wr.heap.size := by omega
      have hB1' : b1 < wr.heap.size := by omega
      have HLD := hide hld
      clear hc hd q1 q2 q3 hc' hmem i1 hcell hld
      go_wp2_with fail
      go_region_held3 (fun w' => (w'.cell? ⟨b2, o2 + k * 3, none⟩ = some (.int .i64 c.e) ∧ w'.cell? ⟨b2, o2 + k * 3 + 1, none⟩ = some (.int .i64 c.n) ∧ w'.cell? ⟨b2, o2 + k * 3 + 2, none⟩ = some c.v) ∧ (w'.cell? ⟨b1, o1 + k * 3, none⟩ = some (.int .i64 c.e) ∧ w'.cell? ⟨b1, o1 + k * 3 + 1, none⟩ = some (.int .i64 c.n) ∧ w'.cell? ⟨b1, o1 + k * 3 + 2, none⟩ = some d.v)) (first | exact ⟨⟨c0, c1', c2'⟩, ⟨d0, d1, d2⟩⟩ | exact ⟨⟨a0, a1, a2⟩, ⟨x0, x1, x2⟩⟩ | go_keep)
        (first
        | (go_at_call 72; refine (keptC_yes c.e c.n _ _ c.l base _ (l2.below ((Below.refl _ _).drew)) (i2.drewN 1) HLD.out).mono ?_; rintro E w3 ⟨rfl, bel3'⟩; have bel3 : Below wr.heap.size wr w3 := ((Below.refl _ _).drew).trans bel3'; have a0 := (bel3.cell (p := ⟨b2, o2 + k * 3, none⟩) hB2').trans c0; have a1 := (bel3.cell (p := ⟨b2, o2 + k * 3 + 1, none⟩) hB2').trans c1'; have a2 := (bel3.cell (p := ⟨b2, o2 + k * 3 + 2, none⟩) hB2').trans c2'; have x0 := (bel3.cell (p := ⟨b1, o1 + k * 3, none⟩) hB1').trans d0; have x1 := (bel3.cell (p := ⟨b1, o1 + k * 3 + 1, none⟩) hB1').trans d1; have x2 := (bel3.cell (p := ⟨b1, o1 + k * 3 + 2, none⟩) hB1').trans d2; clear bel3'))
      have belR := bel.trans (bel3.mono (by omega))
      clear a0 a1 a2 x0 x1 x2 c0 c1' c2' d0 d1 d2 l2 i2 bel3 bel
      go_wp2
      go_roundw
      case rel => exact ⟨k + 1, by omega, by go_num, belR⟩
      case measure => simp [intOf]; omega
    · have hlt' : ¬ (k : Int) < n := by omega
      go_wp2
      go_loopw [6] (fun iv wr => ∃ (j : Nat), j ≤ 3 ∧ iv = .int .i64 ((n : Int) + (j : Int)) ∧ Below w.heap.size w wr) (fun iv _ => n + 3 - (intOf iv).toNat)
      case atStart => exact ⟨0, by omega, by simp, bel⟩
      case round =>
        obtain ⟨j, hj, rfl, belJ⟩ := hrel
        have szJ := belJ.size
        by_cases hlj : j < 3
        · have hc' : (rs ++ [behC, behC, behC])[n + j]? = some behC := by
            have := HRS.out
            rw [List.getElem?_append_right (by omega), this, Nat.add_sub_cancel_left]
            rcases (show j = 0 ∨ j = 1 ∨ j = 2 by omega) with rfl | rfl | rfl <;> rfl
          obtain ⟨c0, c1', c2'⟩ := row_at HC2.out belJ hB2 hc'
          have hj1 : (n : Int) + (j : Int) < (n : Int) + 3 := by omega
          have hj0 : (0 : Int) ≤ (n : Int) + (j : Int) := by omega
          have hjn : ((n : Int) + (j : Int)).toNat = n + j := by omega
          simp only [behC] at c0 c1' c2'
          clear hc'
          go_wp2_with fail
          refine (csameK_any (-7) 0 _ [] (-7) 0 _ [] _ (IsO.nil _) (IsO.nil _) (by simp) (by simp)).mono ?_
          rintro E w3 ⟨rfl, bel3⟩
          rw [sameC_self]
          have belR := belJ.trans (bel3.mono (by omega))
          clear c0 c1' c2' bel3
          go_wp2
          go_roundw
          case rel => exact ⟨j + 1, by omega, by go_num, belR⟩
          case measure => simp [intOf]; omega
        · have hj3 : j = 3 := by omega
          subst hj3
          go_wp2
          go_ret
          exact ⟨rfl, belJ⟩

end Go.Proofs.YthmecljkackmbaaGreat

/- An append of commits inside a region that draws its order; front and back parts of a list of commits by their values; a variable that is no fault. -/
namespace Go.Proofs.YthmecljkackmbaaGreat
open Go.RowKit
set_option linter.unusedVariables false

/-- 'append(out, xs...)' of commits inside a region that draws its order. -/
theorem step_append_coms {P : Program} {ops : Array Oper} {o : Oper} {a : Act} {w : World} {K : Act → World → Prop} {Q : Exit → Act → World → Prop} {E : Prop} (hgd : o.guard = none) (s x : Operand) (t : TypeId)
    (ho : o.op = .call { callee := .builtin .append, args := #[s, x], argTypes := #[t, t] })
    (e : TypeId) (base : Nat) (ht : P.underlying t = some (.slice e)) (hinfo : (P.info? e).map (fun i => (i.zero, i.size, i.bytes)) = some (some (.agg #[.int .i64 0, .int .i64 0, .slice none 0 0]), 3, 40))
    (v : Value) (l : List Cw) (hs : a.eval s = v) (hown : OwnR e base w v l) (vx : Value) (m : List Cw) (hx : a.eval x = vx) (his : RowC w vx m) (hone : ∀ c ∈ m, c.v.oneCell' = true)
    (hlen : (l.length + m.length) * 40 ≤ 140737488355328) (hbase : base ≤ w.heap.size)
    (h : ∀ v' w', OwnR e base w' v' (l ++ m) → Below base w w' → KeepT e w w' → K (a.put o.dst v') w') :
    if Region.wanted o (yielded ops a.tmps) = true then Oper.wp P o a w K Q else E := by
  have hw : Region.wanted o (yielded ops a.tmps) = true := by simp [Region.wanted, hgd]
  rw [if_pos hw]
  obtain ⟨i, hi, hz, hsize, hb⟩ := info_parts hinfo
  have hn : l.length + m.length ≤ 140737488355328 := by omega
  rcases his with ⟨hv, hy⟩ | ⟨ad, cap, hv, h1, h2, hc⟩
  · subst hy
    have hrun := run_append_owned_none (P := P) (w := w) base t o.type e i 3 ht hi v l.length _ hown
    have hk := h v w (by simpa using hown) (Below.refl _ _) (KeepT.refl _ _)
    unfold Oper.wp
    simp [execOp, ho, resolve, invoke, builtin, hs, hx.trans hv, hrun, Result.andThen]
    exact hk
  · refine wp_append_own w s x t ho base e i _ 3 40 ht hi hz hsize hb rfl (by decide) v l.length _ hs hown ad m.length cap (ccells m) (hx.trans hv) (ccells_len m) hc (ccells_cell m hone) (by unfold maxLen; omega) hlen hbase ?_
    intro v' w' ho' hg _
    refine h v' w' (by unfold OwnR; rw [ccells_app, List.length_append]; exact ho') ((Below.refl _ _).grown hg hbase fun k' hk => ?_) (KeepT.of_row hown hg)
    exact (World.ownsRow.lt hown k' hk).1

theorem RowC.front {w : World} {ad : Addr} {n cap : Nat} {l : List Cw} (h : RowC w (.slice (some ad) n cap) l) (p : Nat) (hp : p ≤ l.length) : RowC w (.slice (some ad) p cap) (l.take p) := by
  have hl : (l.take p).length = p := by rw [List.length_take]; omega
  rcases h with ⟨hv, _⟩ | ⟨ad', cap', hv, h1, h2, hc⟩
  · simp at hv
  · simp at hv
    obtain ⟨rfl, rfl, rfl⟩ := hv
    refine .inr ⟨ad, cap, by rw [hl], by omega, h2, fun j u hj => hc j u ?_⟩
    rw [ccells_take, List.getElem?_take] at hj
    split at hj
    · exact hj
    · simp at hj

theorem RowC.back {w : World} {b off n cap : Nat} {l : List Cw} (h : RowC w (.slice (some ⟨b, off, none⟩) n cap) l) (p : Nat) (hp : p < l.length) : RowC w (.slice (some ⟨b, off + p * 3, none⟩) (l.length - p) (cap - p)) (l.drop p) := by
  rcases h with ⟨hv, _⟩ | ⟨ad', cap', hv, h1, h2, hc⟩
  · simp at hv
  · simp at hv
    obtain ⟨rfl, rfl, rfl⟩ := hv
    refine .inr ⟨⟨b, off + p * 3, none⟩, cap - p, by simp, by simp; omega, by omega, fun j u hj => ?_⟩
    rw [ccells_drop, List.getElem?_drop] at hj
    have := hc _ _ hj
    rw [add_at] at this ⊢
    rw [Nat.add_assoc]
    exact this

theorem run_frontC (b off n cap p : Nat) (hp : p ≤ cap) (wx : World) : (Instr.slice 27 (.slice (some ⟨b, off, none⟩) n cap) none (some (.int .i64 p)) none).run Tryz.prog wx = .ok (.slice (some ⟨b, off, none⟩) p cap) wx := by
  rw [run_slice_h wx 27 (some ⟨b, off, none⟩) n cap Tryz.elemC .i64 _ (by omega) (by omega), Tryz.sizeC]
  simp only [Result.andThen, sliced]
  simp [Addr.add]

theorem run_backC (b off n cap p : Nat) (hp : p < n) (hn : n ≤ cap) (wx : World) : (Instr.slice 27 (.slice (some ⟨b, off, none⟩) n cap) (some (.int .i64 p)) none none).run Tryz.prog wx = .ok (.slice (some ⟨b, off + p * 3, none⟩) (n - p) (cap - p)) wx := by
  rw [run_slice_l wx 27 (some ⟨b, off, none⟩) n cap Tryz.elemC .i64 _ (by omega) (by omega), Tryz.sizeC]
  have hne : ¬ cap = p := by omega
  simp [Result.andThen, sliced, hne, add_at]

/-- 'none := api.Fault{}'. -/
theorem none_step (w : World) (t : TypeId) : ∃ V, w.alloc (.cells #[.int .i64 0, .int .i64 0] t) = V ∧ V.heap.size = w.heap.size + 1 ∧ Below w.heap.size w V ∧ V.heap[w.heap.size]? = some (.cells #[.int .i64 0, .int .i64 0] t (0, 0)) ∧
    (V.cell? ⟨w.heap.size, 0, none⟩ = some (.int .i64 0) ∧ V.cell? ⟨w.heap.size, 1, none⟩ = some (.int .i64 0)) ∧ (V.frozen? ⟨w.heap.size, 0, none⟩ = false ∧ V.frozen? ⟨w.heap.size, 1, none⟩ = false) ∧
    (V.setCell ⟨w.heap.size, 0, none⟩ (.int .i64 0) = V ∧ V.setCell ⟨w.heap.size, 1, none⟩ (.int .i64 0) = V) := by
  obtain ⟨V, h1, h2, h3, h4⟩ := blk_step w #[.int .i64 0, .int .i64 0] t
  exact ⟨V, h1, h2, h3, h4, ⟨blk_cell h4 0 rfl, blk_cell h4 1 rfl⟩, ⟨blk_froz h4 0, blk_froz h4 1⟩, ⟨set_same h4 (j := 0) rfl, set_same h4 (j := 1) rfl⟩⟩

/-- No fault, or one. -/
theorem fol_two (r : List Cm.Cv) (ep nu : Int) : (Cm.Good ep nu r ∧ Cm.fol ep nu 0 r = (0, 0)) ∨ (¬ Cm.Good ep nu r ∧ (Cm.fol ep nu 0 r).1 ≠ 0) := by
  by_cases h : Cm.Good ep nu r
  · have h1 := (Cm.fol_good r ep nu 0).2 h
    exact .inl ⟨h, Prod.ext h1 (Cm.fol_at r ep nu 0 h1)⟩
  · exact .inr ⟨h, fun h1 => h ((Cm.fol_good r ep nu 0).1 h1)⟩

end Go.Proofs.YthmecljkackmbaaGreat
