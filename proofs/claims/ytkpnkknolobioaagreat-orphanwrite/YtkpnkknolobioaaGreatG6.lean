/- Texts of one layer, one behind the other. -/
import Derived.Test.YtkpnkknolobioaaGreatG4
import Derived.Test.YtkpnkknolobioaaGreatG5
/- The contracts of the document's Check and Append of a batch. -/
namespace Go.Proofs.YtkpnkknolobioaaGreat
open Go.RowKit
set_option linter.unusedVariables false

set_option maxHeartbeats 400000 in
theorem bcheckR_any (vl : Value) (l : List Bm.Ov) (w : World) (h : IsO w vl l) (hf : FitO l) (hl : l.length ≤ 140737488355328) :
    Calls Tryz.prog 106 #[vl] w fun E w' => E = .returned (.int .i64 (Bm.chkL l)) ∧ Below w.heap.size w w' := by
  by_cases h0 : l.length = 0
  · have : l = [] := List.eq_nil_of_length_eq_zero h0
    subst this
    obtain ⟨ao, cap, rfl⟩ := h.bare
    clear h hf hl h0
    go_enter Tryz.func106, Tryz.ntmps106
    go_wp2
    go_ret
    exact ⟨rfl, Below.refl _ _⟩
  · by_cases h8 : 8 < l.length
    · obtain ⟨ao, cap, rfl, _, _⟩ := h.shape
      rw [Bm.chkL_long h8]
      clear h hf
      have e0 : ((l.length : Int) == 0) = false := by rw [beq_eq_false_iff_ne]; omega
      have e8 : (8 : Int) < l.length := by omega
      go_enter Tryz.func106, Tryz.ntmps106
      go_wp2
      go_ret
      exact ⟨rfl, Below.refl _ _⟩
    · obtain ⟨b1, o1, c1, rfl, _, _, hB, hcell⟩ := h.full (by omega)
      rw [Bm.chkL_mid h0 h8]
      have e0 : ((l.length : Int) == 0) = false := by rw [beq_eq_false_iff_ne]; omega
      have e8 : ¬ (8 : Int) < l.length := by omega
      clear h
      generalize hn : l.length = n at *
      have HN := hide hn
      have HC := hide hcell
      have HF := hide hf
      clear hn hcell hf
      go_enter Tryz.func106, Tryz.ntmps106
      go_wp2
      go_loopw [3] (fun i wr => ∃ (k : Nat), k ≤ n ∧ i = .int .i64 k ∧ Hid (∀ q ∈ l.take k, q.c = 0) ∧ Below w.heap.size w wr) (fun i _ => n - (intOf i).toNat)
      case atStart => exact ⟨0, by omega, rfl, hide (by simp), Below.refl _ _⟩
      case round =>
        obtain ⟨k, hk, rfl, HT, bel⟩ := hrel
        by_cases hlt : k < n
        · obtain ⟨o, ho⟩ : ∃ o, l[k]? = some o := ⟨l[k]'(by have := HN.out; omega), by rw [List.getElem?_eq_getElem]⟩
          obtain ⟨c0, c1, c2⟩ := HC.out k o ho
          have sz := bel.size
          have d0 := (bel.cell (p := ⟨b1, o1 + k * 3, none⟩) hB).trans c0
          have d1 := (bel.cell (p := ⟨b1, o1 + k * 3 + 1, none⟩) hB).trans c1
          have d2 := (bel.cell (p := ⟨b1, o1 + k * 3 + 2, none⟩) hB).trans c2
          have HO := hide ho
          clear c0 c1 c2 ho
          have hlt' : (k : Int) < n := by omega
          obtain ⟨hk1, hv1⟩ := HF.out o (List.mem_of_getElem? HO.out)
          go_wp2_with fail
          refine (checkR_any o.p o.k o.v _ hk1 hv1).mono ?_
          rintro E w1 ⟨rfl, bel1⟩
          have bel2 : Below w.heap.size w w1 := bel.trans (bel1.mono sz)
          clear bel1 d0 d1 d2
          rcases (show Om.chk o.p o.k.data.toList o.v.data.toList = 0 ∨ _ from Om.chk_two _ _ _) with hc | hc
          · rw [hc]
            have HT2 := hide (first_take HT.out HO.out hc)
            clear hc
            go_wp2
            go_roundw
            case rel => exact ⟨k + 1, by omega, by go_num, HT2, bel2⟩
            case measure => simp [intOf]; omega
          · rw [hc]
            have HB := hide (Bm.first_bad (List.mem_of_getElem? HO.out) (show Bm.Ov.c o ≠ 0 by unfold Bm.Ov.c Bm.Ov.kl Bm.Ov.vl; rw [hc]; simp))
            clear hc
            go_wp2
            go_ret
            exact ⟨ret_i64 HB.out.symm, bel2⟩
        · have hkn : k = n := by omega
          have HB : Hid (Bm.first l = 0) := hide (Bm.first_all (fun q hq => HT.out q (by rw [List.take_of_length_le (by have := HN.out; omega)]; exact hq)))
          have hlt' : ¬ (k : Int) < n := by omega
          go_wp2
          go_ret
          exact ⟨ret_i64 HB.out.symm, bel⟩

set_option maxHeartbeats 2000000 in
theorem bappR_any (vb : Value) (bs : List Int) (vl : Value) (l : List Bm.Ov) (w : World) (hb : Is .u8 w vb bs) (hl : bs.length ≤ 140737488351232) (h : IsO w vl l) (hf : FitO l) (hll : l.length ≤ 140737488355328) :
    Calls Tryz.prog 99 #[vb, vl] w fun E w' => ∃ v', E = .returned (.tuple #[v', .int .i64 (Bm.chkL l)]) ∧ Own .u8 5 w.heap.size w' v' (Bm.appB bs l) ∧ Below w.heap.size w w' := by
  by_cases hc : Bm.chkL l = 0
  · rw [hc, Bm.appB_ok hc]
    obtain ⟨h1, h8, h3⟩ := Bm.chkL_zero hc
    obtain ⟨b1, o1, c1, rfl, _, _, hB, hcell⟩ := h.full (by omega)
    have HC := hide hc
    have HL := hide hcell
    have H3 := hide h3
    have HE := hide (encL_small hc)
    have hz1 : (Vm.enc l.length).length = 1 := Vm.sz_lo (by omega)
    have hlen : (l.length : Int) ≤ 8 := by omega
    clear hc hcell h3
    go_enter Tryz.func99, Tryz.ntmps99
    go_wp2_with fail
    refine (bcheckR_any _ l _ h hf hll).mono ?_
    rintro E w1 ⟨rfl, bel1⟩
    rw [HC.out]
    have sz1 := bel1.size
    have hb1 := hb.below bel1
    go_wp2_with fail
    refine (putR_any _ bs l.length _ hb1 (by omega) (by omega) (by omega)).mono ?_
    rintro E w3 ⟨v3, rfl, own3, bel3⟩
    rw [Int.toNat_natCast] at own3
    replace own3 := own3.rebase sz1
    have sz3 := bel3.size
    have bel03 : Below w.heap.size w w3 := bel1.trans (bel3.mono sz1)
    clear bel1 bel3 hb1
    go_wp2
    go_loopw [7, 8, 9] (fun ov av i wr => ∃ (k : Nat) (ah : ByteArray), k ≤ l.length ∧ i = .int .i64 k ∧ av = .string ah ∧ Hid (ah.data.toList = Bm.lst [] (l.take k)) ∧ ah.size ≤ 64 ∧ Own .u8 5 w.heap.size wr ov (bs ++ Vm.enc l.length ++ Bm.encL [] (l.take k)) ∧ Below w.heap.size w wr) (fun _ _ i _ => l.length - (intOf i).toNat)
    case atStart => exact ⟨0, ⟨#[]⟩, by omega, rfl, rfl, hide rfl, by simp [ByteArray.size], by simpa [Bm.encL] using own3, bel03⟩
    case round =>
      obtain ⟨k, ah, hk, rfl, rfl, HA, hah, own, bel⟩ := hrel
      have sz := bel.size
      by_cases hlt : k < l.length
      · obtain ⟨⟨op, ok, ov⟩, ho⟩ : ∃ o, l[k]? = some o := ⟨l[k], by rw [List.getElem?_eq_getElem]⟩
        obtain ⟨c0, c1, c2⟩ := HL.out k _ ho
        have d0 := (bel.cell (p := ⟨b1, o1 + k * 3, none⟩) hB).trans c0
        have d1 := (bel.cell (p := ⟨b1, o1 + k * 3 + 1, none⟩) hB).trans c1
        have d2 := (bel.cell (p := ⟨b1, o1 + k * 3 + 2, none⟩) hB).trans c2
        simp only at d0 d1 d2
        have hoc := Om.chk_ok' (H3.out _ (List.mem_of_getElem? ho))
        simp only [Bm.Ov.kl, Bm.Ov.vl, ← Lib.size_eq] at hoc
        have hk16 := hoc.2.1
        have hv32 := hoc.2.2.1
        have hel := HE.out k
        have E5 : Hid (bs ++ Vm.enc l.length ++ Bm.encL [] (l.take (k + 1)) = bs ++ Vm.enc l.length ++ Bm.encL [] (l.take k) ++ Bm.encO ah.data.toList ⟨op, ok, ov⟩) := hide (by rw [encL_take ho, HA.out, ← List.append_assoc])
        have HA2 : Hid (ok.data.toList = Bm.lst [] (l.take (k + 1))) := hide (by rw [lst_take ho, Bm.lst_snoc]; rfl)
        have hlz : (bs ++ Vm.enc l.length ++ Bm.encL [] (l.take k)).length ≤ 140737488352000 := by simp only [List.length_append]; omega
        generalize bs ++ Vm.enc l.length ++ Bm.encL [] (l.take k) = zs at *
        obtain ⟨n, hn⟩ : ∃ n, Bm.com ah.data.toList ok.data.toList = n := ⟨_, rfl⟩
        have hcl := (Bm.com_le ah.data.toList ok.data.toList).2.1
        rw [hn, ← Lib.size_eq] at hcl
        have HN := hide hn
        have hz2 : (Vm.enc n).length = 1 := Vm.sz_lo (by omega)
        have hz3 : (Vm.enc (ok.size - n)).length = 1 := Vm.sz_lo (by omega)
        have hz4 : (Vm.enc ov.size).length = 1 := Vm.sz_lo (by omega)
        have hz5 : (Om.ints (List.drop n ok.data.toList)).length ≤ 16 := by rw [Om.ints_len, List.length_drop, ← Lib.size_eq]; omega
        have hdt := drop_take_len ok n
        have hsub : (ok.size : Int) - n = ((ok.size - n : Nat) : Int) := by omega
        clear c0 c1 c2 ho hoc hn hel
        have hlt' : (k : Int) < l.length := by omega
        cases op
        · obtain ⟨w4, hw4, sz4, bel4, blk4⟩ := blk_step wr #[.bool false, .string ok, .string ov] 93
          have f0 := blk_cell blk4 0 rfl
          have f1 := blk_cell blk4 1 rfl
          have f2 := blk_cell blk4 2 rfl
          have own4 := own.below bel4
          obtain ⟨w5, hw5, sz5, bel5, own5⟩ := own_step .u8 5 w4 #[.int .u8 0] 1 [0] rfl rfl (by simp [maxLen]) (by simp [wf_u8])
          rw [sz4] at own5
          have own4' := own4.below bel5
          have B5 := hide ((bel5.block wr.heap.size (by omega)).trans blk4)
          clear blk4 own own4
          go_wp2_with (at_builtin; refine wpList_append_is rfl (.tmp 34) (.tmp 36) 22 rfl .u8 5 w.heap.size 1 Tryz.underlying22 Tryz.info5 (by decide) _ zs rfl own4' _ [0] rfl own5.is (by simp; omega) (by omega) ?_)
          intro v6 w6 own6 bel6 gr6
          have kp6 := KeepT.of_grown own4' gr6
          have B6 := hide (kp6 _ _ _ _ B5.out (by decide))
          have g1 := blk_cell B6.out 1 rfl
          have belA := ((bel.trans (bel4.mono sz)).trans (bel5.mono (by omega))).trans bel6
          have sz6 := bel6.size
          have l6 : (zs ++ [0] : List Int).length ≤ 140737488352001 := by simp; omega
          clear own4' own5 bel4 bel5 bel6 gr6 kp6 B5 f0 f1 f2 hw4 hw5
          generalize hz6 : (zs ++ [0] : List Int) = z6 at *
          have HZ6 := hide hz6
          clear hz6
          go_wp2_with fail
          refine (sharedR_any ah ok _ (by omega) (by omega)).mono ?_
          rintro E w7 ⟨rfl, bel7⟩
          rw [HN.out]
          have own7 := own6.below bel7
          have B7 := hide ((bel7.block wr.heap.size (by omega)).trans B6.out)
          have sz7 := bel7.size
          have belB := belA.trans (bel7.mono (by omega))
          clear own6 belA bel7 B6 g1
          go_wp2_with fail
          refine (putR_any _ z6 n _ own7.is (by omega) (by omega) (by omega)).mono ?_
          rintro E w8 ⟨v8, rfl, own8, bel8⟩
          rw [Int.toNat_natCast] at own8
          have B8 := hide ((bel8.block wr.heap.size (by omega)).trans B7.out)
          have g1 := blk_cell B8.out 1 rfl
          have sz8 := bel8.size
          have l8 : (z6 ++ Vm.enc n).length ≤ 140737488352002 := by rw [List.length_append]; omega
          have belC := belB.trans (bel8.mono (by omega))
          clear own7 belB bel8 B7
          generalize hz8 : z6 ++ Vm.enc n = z8 at *
          have HZ8 := hide hz8
          clear hz8
          go_wp2_with fail
          refine (putR_any _ z8 ((ok.size - n : Nat) : Int) _ own8.is (by omega) (by omega) (by omega)).mono ?_
          rintro E w9 ⟨v9, rfl, own9, bel9⟩
          rw [Int.toNat_natCast] at own9
          have B9 := hide ((bel9.block wr.heap.size (by omega)).trans B8.out)
          have g1 := blk_cell B9.out 1 rfl
          have sz9 := bel9.size
          have l9 : (z8 ++ Vm.enc (ok.size - n)).length ≤ 140737488352003 := by rw [List.length_append]; omega
          have belD := belC.trans (bel9.mono (by omega))
          clear own8 belC bel9 B8
          generalize hz9 : z8 ++ Vm.enc (ok.size - n) = z9 at *
          have HZ9 := hide hz9
          clear hz9
          go_wp2_with (at_builtin; refine wpList_append_str2 rfl (.tmp 52) (.tmp 56) 22 9 rfl 5 w8.heap.size Tryz.underlying22 Tryz.underlying9 Tryz.info5 _ _ rfl own9 _ rfl ?q1 (by omega) ?_)
          case q1 => simp; omega
          intro v10 w10 own10 bel10 kp10
          have B10 := hide (kp10 _ _ _ _ B9.out (by decide))
          have h0 := blk_cell B10.out 0 rfl
          have h1 := blk_cell B10.out 1 rfl
          have h2 := blk_cell B10.out 2 rfl
          have sz10 := bel10.size
          have belE := belD.trans (bel10.mono (by omega))
          clear own9 belD bel10 B9 kp10
          generalize hz10 : z9 ++ Om.ints (List.drop n ok.data.toList) = z10 at *
          have HZ10 := hide hz10
          clear hz10
          have own11 := own10.rebase (base' := w.heap.size) (by omega)
          have e11 : z10 = bs ++ Vm.enc l.length ++ Bm.encL [] (l.take (k + 1)) := by
            rw [← HZ10.out, ← HZ9.out, ← HZ8.out, ← HZ6.out, E5.out, encO_del (HN.out)]
            simp
          rw [e11] at own11
          clear own10 e11
          go_wp2
          go_roundw
          case rel => exact ⟨k + 1, ok, by omega, by go_num, rfl, HA2, by omega, own11, belE⟩
          case measure => simp [intOf]; omega
        · obtain ⟨w4, hw4, sz4, bel4, blk4⟩ := blk_step wr #[.bool true, .string ok, .string ov] 93
          have f0 := blk_cell blk4 0 rfl
          have f1 := blk_cell blk4 1 rfl
          have f2 := blk_cell blk4 2 rfl
          have own4 := own.below bel4
          obtain ⟨w5, hw5, sz5, bel5, own5⟩ := own_step .u8 5 w4 #[.int .u8 1] 1 [1] rfl rfl (by simp [maxLen]) (by simp [wf_u8])
          rw [sz4] at own5
          have own4' := own4.below bel5
          have B5 := hide ((bel5.block wr.heap.size (by omega)).trans blk4)
          clear blk4 own own4
          go_wp2_with (at_builtin; refine wpList_append_is rfl (.tmp 34) (.tmp 36) 22 rfl .u8 5 w.heap.size 1 Tryz.underlying22 Tryz.info5 (by decide) _ zs rfl own4' _ [1] rfl own5.is (by simp; omega) (by omega) ?_)
          intro v6 w6 own6 bel6 gr6
          have kp6 := KeepT.of_grown own4' gr6
          have B6 := hide (kp6 _ _ _ _ B5.out (by decide))
          have g1 := blk_cell B6.out 1 rfl
          have belA := ((bel.trans (bel4.mono sz)).trans (bel5.mono (by omega))).trans bel6
          have sz6 := bel6.size
          have l6 : (zs ++ [1] : List Int).length ≤ 140737488352001 := by simp; omega
          clear own4' own5 bel4 bel5 bel6 gr6 kp6 B5 f0 f1 f2 hw4 hw5
          generalize hz6 : (zs ++ [1] : List Int) = z6 at *
          have HZ6 := hide hz6
          clear hz6
          go_wp2_with fail
          refine (sharedR_any ah ok _ (by omega) (by omega)).mono ?_
          rintro E w7 ⟨rfl, bel7⟩
          rw [HN.out]
          have own7 := own6.below bel7
          have B7 := hide ((bel7.block wr.heap.size (by omega)).trans B6.out)
          have sz7 := bel7.size
          have belB := belA.trans (bel7.mono (by omega))
          clear own6 belA bel7 B6 g1
          go_wp2_with fail
          refine (putR_any _ z6 n _ own7.is (by omega) (by omega) (by omega)).mono ?_
          rintro E w8 ⟨v8, rfl, own8, bel8⟩
          rw [Int.toNat_natCast] at own8
          have B8 := hide ((bel8.block wr.heap.size (by omega)).trans B7.out)
          have g1 := blk_cell B8.out 1 rfl
          have sz8 := bel8.size
          have l8 : (z6 ++ Vm.enc n).length ≤ 140737488352002 := by rw [List.length_append]; omega
          have belC := belB.trans (bel8.mono (by omega))
          clear own7 belB bel8 B7
          generalize hz8 : z6 ++ Vm.enc n = z8 at *
          have HZ8 := hide hz8
          clear hz8
          go_wp2_with fail
          refine (putR_any _ z8 ((ok.size - n : Nat) : Int) _ own8.is (by omega) (by omega) (by omega)).mono ?_
          rintro E w9 ⟨v9, rfl, own9, bel9⟩
          rw [Int.toNat_natCast] at own9
          have B9 := hide ((bel9.block wr.heap.size (by omega)).trans B8.out)
          have g1 := blk_cell B9.out 1 rfl
          have sz9 := bel9.size
          have l9 : (z8 ++ Vm.enc (ok.size - n)).length ≤ 140737488352003 := by rw [List.length_append]; omega
          have belD := belC.trans (bel9.mono (by omega))
          clear own8 belC bel9 B8
          generalize hz9 : z8 ++ Vm.enc (ok.size - n) = z9 at *
          have HZ9 := hide hz9
          clear hz9
          go_wp2_with (at_builtin; refine wpList_append_str2 rfl (.tmp 52) (.tmp 56) 22 9 rfl 5 w8.heap.size Tryz.underlying22 Tryz.underlying9 Tryz.info5 _ _ rfl own9 _ rfl ?q1 (by omega) ?_)
          case q1 => simp; omega
          intro v10 w10 own10 bel10 kp10
          have B10 := hide (kp10 _ _ _ _ B9.out (by decide))
          have h0 := blk_cell B10.out 0 rfl
          have h1 := blk_cell B10.out 1 rfl
          have h2 := blk_cell B10.out 2 rfl
          have sz10 := bel10.size
          have belE := belD.trans (bel10.mono (by omega))
          clear own9 belD bel10 B9 kp10
          generalize hz10 : z9 ++ Om.ints (List.drop n ok.data.toList) = z10 at *
          have HZ10 := hide hz10
          clear hz10
          have l10 : z10.length ≤ 140737488352100 := by rw [← HZ10.out, List.length_append]; omega
          go_wp2_with fail
          refine (putR_any _ z10 ov.size _ own10.is (by omega) (by omega) (by omega)).mono ?_
          rintro E w11 ⟨v11, rfl, own11, bel11⟩
          rw [Int.toNat_natCast] at own11
          have B11 := hide ((bel11.block wr.heap.size (by omega)).trans B10.out)
          have k2 := blk_cell B11.out 2 rfl
          have sz11 := bel11.size
          have l11 : (z10 ++ Vm.enc ov.size).length ≤ 140737488352103 := by rw [List.length_append]; omega
          have belF := belE.trans (bel11.mono (by omega))
          clear own10 belE bel11 B10 h0 h1 h2
          generalize hz11 : z10 ++ Vm.enc ov.size = z11 at *
          have HZ11 := hide hz11
          clear hz11
          go_wp2_with (at_builtin; refine wpList_append_str2 rfl (.tmp 65) (.tmp 67) 22 9 rfl 5 w10.heap.size Tryz.underlying22 Tryz.underlying9 Tryz.info5 _ _ rfl own11 ov rfl (by omega) (by omega) ?_)
          intro v12 w12 own12 bel12 kp12
          have B12 := kp12 _ _ _ _ B11.out (by decide)
          have m1 := blk_cell B12 1 rfl
          have belG := belF.trans (bel12.mono (by omega))
          have own13 := own12.rebase (base' := w.heap.size) (by omega)
          have e13 : z11 ++ Om.ints ov.data.toList = bs ++ Vm.enc l.length ++ Bm.encL [] (l.take (k + 1)) := by
            rw [← HZ11.out, ← HZ10.out, ← HZ9.out, ← HZ8.out, ← HZ6.out, E5.out, encO_put (HN.out)]
            simp
          rw [e13] at own13
          clear own12 own11 e13 B12 kp12 bel12 B11 k2 belF
          go_wp2
          go_roundw
          case rel => exact ⟨k + 1, ok, by omega, by go_num, rfl, HA2, by omega, own13, belG⟩
          case measure => simp [intOf]; omega
      · have hlt' : ¬ (k : Int) < l.length := by omega
        rw [List.take_of_length_le (by omega), List.append_assoc] at own
        go_wp2
        go_ret2
        exact ⟨_, rfl, own, bel⟩
  · rw [Bm.appB_no hc]
    obtain ⟨c, hcc⟩ : ∃ c, Bm.chkL l = c := ⟨_, rfl⟩
    have h0 : (c != 0) = true := by rw [← hcc]; simpa using hc
    obtain ⟨ao, cp, rfl, _, _⟩ := hb.shape
    rw [hcc]
    have HC := hide hcc
    clear hc hcc
    go_enter Tryz.func99, Tryz.ntmps99
    go_wp2_with fail
    refine (bcheckR_any _ l _ h hf hll).mono ?_
    rintro E w1 ⟨rfl, bel1⟩
    rw [HC.out]
    go_wp2
    go_ret2
    exact ⟨_, rfl, Own.nil _ _ _ _, bel1⟩

end Go.Proofs.YtkpnkknolobioaaGreat

/- The contracts of Check and Same: the program's, the document's, the laws'. -/
namespace Go.Proofs.YtkpnkknolobioaaGreat
open Go.RowKit
set_option linter.unusedVariables false

theorem inb_any (x : Int) (w : World) : Calls Tryz.prog 90 #[.int .i64 x] w fun E w' => E = .returned (.bool (decide (1 ≤ x ∧ x ≤ 1048576))) ∧ w = w' := by
  go_enter Tryz.func90, Tryz.ntmps90
  by_cases h1 : 1 ≤ x
  · by_cases h2 : x ≤ 1048576
    · go_wp2
      go_ret
      exact ⟨by simp [h1, h2], rfl⟩
    · go_wp2
      go_ret
      exact ⟨by simp; omega, rfl⟩
  · go_wp2
    go_ret
    exact ⟨by simp; omega, rfl⟩

set_option maxHeartbeats 400000 in
theorem ccheck_any (e n : Int) (v : Value) (l : List Bm.Ov) (w : World) (h : IsO w v l) (hf : FitO l) (hl : l.length ≤ 140737488355328) :
    Calls Tryz.prog 76 #[cmv e n v] w fun E w' => E = .returned (.int .i64 (Cm.chk e n l)) ∧ Below w.heap.size w w' := by
  unfold cmv
  obtain ⟨w1, hw1, sz1, bel1, hB⟩ := blk_step w #[.int .i64 e, .int .i64 n, v] 59
  have c0 := blk_cell hB 0 rfl
  have c1 := blk_cell hB 1 rfl
  have c2 := blk_cell hB 2 rfl
  have h1 := h.below bel1
  obtain ⟨ao, cap, rfl, _, _⟩ := h.shape
  clear hB
  go_enter Tryz.func76, Tryz.ntmps76
  by_cases he : 1 ≤ e ∧ e ≤ 1048576
  · have he' : decide (1 ≤ e ∧ e ≤ 1048576) = true := by simp [he]
    by_cases hn : 1 ≤ n ∧ n ≤ 1048576
    · have hn' : decide (1 ≤ n ∧ n ≤ 1048576) = true := by simp [hn]
      rw [Cm.chk_in ⟨he.1, he.2, hn.1, hn.2⟩]
      clear he hn
      go_wp2_with fail
      refine (inb_any e _).mono ?_
      rintro E w2 ⟨rfl, rfl⟩
      rw [he']
      go_wp2_with fail
      refine (inb_any n _).mono ?_
      rintro E w2 ⟨rfl, rfl⟩
      rw [hn']
      go_wp2_with fail
      refine (bcheck_any _ l _ h1 hf hl).mono ?_
      rintro E w3 ⟨rfl, bel3⟩
      have bel03 := bel1.trans (bel3.mono (by omega))
      go_wp2
      go_ret
      exact ⟨rfl, bel03⟩
    · have hn' : decide (1 ≤ n ∧ n ≤ 1048576) = false := by simpa using hn
      rw [Cm.chk_out (by omega)]
      clear he hn
      go_wp2_with fail
      refine (inb_any e _).mono ?_
      rintro E w2 ⟨rfl, rfl⟩
      rw [he']
      go_wp2_with fail
      refine (inb_any n _).mono ?_
      rintro E w2 ⟨rfl, rfl⟩
      rw [hn']
      go_wp2
      go_ret
      exact ⟨rfl, bel1⟩
  · have he' : decide (1 ≤ e ∧ e ≤ 1048576) = false := by simpa using he
    rw [Cm.chk_out (by omega)]
    clear he
    go_wp2_with fail
    refine (inb_any e _).mono ?_
    rintro E w2 ⟨rfl, rfl⟩
    rw [he']
    go_wp2
    go_ret
    exact ⟨rfl, bel1⟩

set_option maxHeartbeats 400000 in
theorem ccheckR_any (e n : Int) (v : Value) (l : List Bm.Ov) (w : World) (h : IsO w v l) (hf : FitO l) (hl : l.length ≤ 140737488355328) :
    Calls Tryz.prog 98 #[cmv e n v] w fun E w' => E = .returned (.int .i64 (Cm.chk e n l)) ∧ Below w.heap.size w w' := by
  unfold cmv
  obtain ⟨w1, hw1, sz1, bel1, hB⟩ := blk_step w #[.int .i64 e, .int .i64 n, v] 59
  have c0 := blk_cell hB 0 rfl
  have c1 := blk_cell hB 1 rfl
  have c2 := blk_cell hB 2 rfl
  have h1 := h.below bel1
  obtain ⟨ao, cap, rfl, _, _⟩ := h.shape
  clear hB
  go_enter Tryz.func98, Tryz.ntmps98
  by_cases hin : 1 ≤ e ∧ e ≤ 1048576 ∧ 1 ≤ n ∧ n ≤ 1048576
  · rw [Cm.chk_in hin]
    obtain ⟨g1, g2, g3, g4⟩ := hin
    go_wp2_with fail
    refine (bcheckR_any _ l _ h1 hf hl).mono ?_
    rintro E w3 ⟨rfl, bel3⟩
    have bel03 := bel1.trans (bel3.mono (by omega))
    go_wp2
    go_ret
    exact ⟨rfl, bel03⟩
  · rw [Cm.chk_out hin]
    by_cases g1 : e < 1
    · go_wp2
      go_ret
      exact ⟨rfl, bel1⟩
    · by_cases g2 : 1048576 < e
      · go_wp2
        go_ret
        exact ⟨rfl, bel1⟩
      · by_cases g3 : n < 1
        · go_wp2
          go_ret
          exact ⟨rfl, bel1⟩
        · have g4 : 1048576 < n := by omega
          go_wp2
          go_ret
          exact ⟨rfl, bel1⟩

/-- Whether two commits are the same. -/
def sameC (e n : Int) (l : List Bm.Ov) (e' n' : Int) (l' : List Bm.Ov) : Bool := (e == e') && ((n == n') && Bm.sameL l l')

theorem sameC_self (e n : Int) (l : List Bm.Ov) : sameC e n l e n l = true := by simp [sameC, Bm.sameL_self]

set_option maxHeartbeats 400000 in
theorem csameK_any (e n : Int) (v : Value) (l : List Bm.Ov) (e' n' : Int) (v' : Value) (l' : List Bm.Ov) (w : World) (h : IsO w v l) (h' : IsO w v' l') (hl : l.length ≤ 140737488355328) (hl' : l'.length ≤ 140737488355328) :
    Calls Tryz.prog 48 #[cmv e n v, cmv e' n' v'] w fun E w' => E = .returned (.bool (sameC e n l e' n' l')) ∧ Below w.heap.size w w' := by
  unfold cmv
  obtain ⟨w1, hw1, sz1, bel1, hB⟩ := blk_step w #[.int .i64 e, .int .i64 n, v] 59
  obtain ⟨w2, hw2, sz2, bel2, hC⟩ := blk_step w1 #[.int .i64 e', .int .i64 n', v'] 59
  rw [sz1] at hC
  have hB2 := (bel2.block _ (blk_lt hB)).trans hB
  have c0 := blk_cell hB2 0 rfl
  have c1 := blk_cell hB2 1 rfl
  have c2 := blk_cell hB2 2 rfl
  have d0 := blk_cell hC 0 rfl
  have d1 := blk_cell hC 1 rfl
  have d2 := blk_cell hC 2 rfl
  have bel02 : Below w.heap.size w w2 := bel1.trans (bel2.mono (by omega))
  have i1 := h.below bel02
  have i2 := h'.below bel02
  obtain ⟨ao, cap, rfl, _, _⟩ := h.shape
  obtain ⟨ao', cap', rfl, _, _⟩ := h'.shape
  clear hB hC hB2 bel1 bel2
  go_enter Tryz.func48, Tryz.ntmps48
  by_cases he : e = e'
  · have he' : (e == e') = true := by simp [he]
    by_cases hn : n = n'
    · have hn' : (n == n') = true := by simp [hn]
      have hs : sameC e n l e' n' l' = Bm.sameL l l' := by simp [sameC, he', hn']
      rw [hs]
      clear he hn hs
      go_wp2_with fail
      refine (sameO_any _ _ l l' _ i1 i2 hl hl').mono ?_
      rintro E w3 ⟨rfl, bel3⟩
      have bel03 := bel02.trans (bel3.mono (by omega))
      go_wp2
      go_ret
      exact ⟨rfl, bel03⟩
    · have hn' : (n == n') = false := by simpa using hn
      have hs : sameC e n l e' n' l' = false := by simp [sameC, hn']
      rw [hs]
      clear he hn hs
      go_wp2
      go_ret
      exact ⟨rfl, bel02⟩
  · have he' : (e == e') = false := by simpa using he
    have hs : sameC e n l e' n' l' = false := by simp [sameC, he']
    rw [hs]
    clear he hs
    go_wp2
    go_ret
    exact ⟨rfl, bel02⟩

end Go.Proofs.YtkpnkknolobioaaGreat
