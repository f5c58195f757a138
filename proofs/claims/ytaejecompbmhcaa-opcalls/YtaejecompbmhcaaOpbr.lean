/- The contracts of the document's Put, Append. -/
import Derived.Test.YtaejecompbmhcaaOpar
import Derived.Test.YtaejecompbmhcaaOpb
import Derived.Test.YtaejecompbmhcaaRefone
namespace Go.Proofs.Ytaejecompbmhcaa
open Go.RowKit
set_option linter.unusedVariables false

set_option maxHeartbeats 400000 in
theorem putR_any (vb : Value) (bs : List Int) (x : Int) (w : World) (hb : Is .u8 w vb bs) (hl : bs.length ≤ 140737488351500) (h0 : 0 ≤ x) (h1 : x < 9223372036854775808) :
    Calls Try.prog 40 #[vb, .int .i64 x] w fun e w' => ∃ v, e = .returned v ∧ Own .u8 5 w.heap.size w' v (bs ++ Vm.enc x.toNat) ∧ Below w.heap.size w w' := by
  go_enter Try.func40, Try.ntmps40
  go_wp2_with fail
  refine (appR_any _ bs x _ hb (by omega) (by omega) (by omega)).mono ?_
  rintro E w1 ⟨v1, rfl, own1, bel1⟩
  go_wp2
  go_ret
  exact ⟨_, rfl, own1, bel1⟩

set_option maxHeartbeats 400000 in
theorem oappR_any (vb : Value) (bs : List Int) (p : Bool) (k v : ByteArray) (w : World) (hb : Is .u8 w vb bs) (hl : bs.length ≤ 140737488351232) (hk : k.size ≤ 140737488351232) (hv : v.size ≤ 140737488351232) :
    Calls Try.prog 17 #[vb, opv p k v] w fun E w' => ∃ v', E = .returned (.tuple #[v', .int .i64 (Om.chk p k.data.toList v.data.toList)]) ∧ Own .u8 5 w.heap.size w' v' (Om.appd bs p k.data.toList v.data.toList) ∧ Below w.heap.size w w' := by
  obtain ⟨w0, hw0, sz0, bel0, cell0⟩ := alloc_step w #[.bool p, .string k, .string v] 23
  have c0 := cell0 0 _ rfl
  have c1 := cell0 1 _ rfl
  have c2 := cell0 2 _ rfl
  clear cell0
  have hb0 := hb.below bel0
  unfold opv
  rcases Om.chk_two p k.data.toList v.data.toList with hc | hc
  · obtain ⟨ao, cap, hshape, _, _⟩ := hb.shape
    subst hshape
    have hh := Om.chk_ok' hc
    rw [← Lib.size_eq, ← Lib.size_eq] at hh
    have hh1 := hh.2.1
    have hh2 := hh.2.2.1
    rw [Om.appd_ok hc, hc]
    have HC := hide hc
    clear hc hh
    cases p
    · have hc64 := Om.cnt_le (s := k.data.toList) (by rw [← Lib.size_eq]; omega)
      have hek : Om.cnt k.data.toList = Vm.enc k.size ++ Om.ints k.data.toList := by unfold Om.cnt; rw [← Lib.size_eq]
      have hev : Om.cnt v.data.toList = Vm.enc v.size ++ Om.ints v.data.toList := by unfold Om.cnt; rw [← Lib.size_eq]
      have h10 : (Vm.enc k.size).length ≤ 10 := Vm.sz_le10 (x := k.size) (by omega)
      have h11 : (Vm.enc v.size).length ≤ 10 := Vm.sz_le10 (x := v.size) (by omega)
      have HEK := hide hek
      have HEV := hide hev
      clear hek hev
      go_enter Try.func17, Try.ntmps17
      go_wp2_with fail
      refine (checkR_any false k v _ hk hv).mono ?_
      rintro E w1 ⟨rfl, bel1⟩
      rw [HC.out]
      have d0 := (bel1.cell (p := ⟨w.heap.size, 0, none⟩) (by simp [sz0])).trans c0
      have d1 := (bel1.cell (p := ⟨w.heap.size, 1, none⟩) (by simp [sz0])).trans c1
      have d2 := (bel1.cell (p := ⟨w.heap.size, 2, none⟩) (by simp [sz0])).trans c2
      have hb1 := hb0.below bel1
      have sz1 := bel1.size
      have bel01 : Below w.heap.size w w1 := bel0.trans (bel1.mono bel0.size)
      clear c0 c1 c2 hb0 hw0 bel0 bel1
      go_wp2_with (at_builtin; refine wpList_append_is rfl (.tmp 14) (.tmp 15) 26 rfl .u8 5 (w.heap.size + 1) 1 Try.underlying26 Try.info5 (by decide) _ [] rfl (Own.nil _ _ _ _) _ bs rfl hb1 (by simp; omega) (by omega) ?_)
      intro v4 w4 own4 bel4 _
      have sz4 := bel4.size
      have g0 := (bel4.cell (p := ⟨w.heap.size, 0, none⟩) (by simp)).trans d0
      have g1 := (bel4.cell (p := ⟨w.heap.size, 1, none⟩) (by simp)).trans d1
      have g2 := (bel4.cell (p := ⟨w.heap.size, 2, none⟩) (by simp)).trans d2
      have bel04 : Below w.heap.size w w4 := bel01.trans (bel4.mono (by omega))
      clear d0 d1 d2 hb1 bel01 bel4
      obtain ⟨w5, hw5, sz5, bel5, own5⟩ := own_step .u8 5 w4 #[.int .u8 0] 1 [0] rfl rfl (by simp [maxLen]) (by simp [wf_u8])
      go_wp2_with (at_builtin; refine wpList_append_is rfl (.tmp 19) (.tmp 21) 26 rfl .u8 5 (w.heap.size + 1) 1 Try.underlying26 Try.info5 (by decide) _ bs rfl (own4.below bel5) _ [0] rfl own5.is (by simp; omega) (by omega) ?_)
      intro v6 w6 own6 bel6 _
      have sz6 := bel6.size
      have k0 := (bel6.cell (p := ⟨w.heap.size, 0, none⟩) (by simp)).trans ((bel5.cell (p := ⟨w.heap.size, 0, none⟩) (by simp; omega)).trans g0)
      have k1 := (bel6.cell (p := ⟨w.heap.size, 1, none⟩) (by simp)).trans ((bel5.cell (p := ⟨w.heap.size, 1, none⟩) (by simp; omega)).trans g1)
      have k2 := (bel6.cell (p := ⟨w.heap.size, 2, none⟩) (by simp)).trans ((bel5.cell (p := ⟨w.heap.size, 2, none⟩) (by simp; omega)).trans g2)
      have bel06 : Below w.heap.size w w6 := (bel04.trans (bel5.mono (by omega))).trans (bel6.mono (by omega))
      clear g0 g1 g2 own4 own5 bel04 bel5 bel6 hw5
      have hl6 : (bs ++ [0]).length ≤ 140737488351233 := by rw [List.length_append]; simp; omega
      generalize hz6 : bs ++ [0] = z6 at *
      have HZ6 := hide hz6
      clear hz6
      go_wp2_with fail
      refine (putR_any _ _ k.size _ own6.is (by omega) (by omega) (by omega)).mono ?_
      rintro E w7 ⟨v7, rfl, own7, bel7⟩
      rw [Int.toNat_natCast] at own7
      have sz7 := bel7.size
      have m0 := (bel7.cell (p := ⟨w.heap.size, 0, none⟩) (by simp; omega)).trans k0
      have m1 := (bel7.cell (p := ⟨w.heap.size, 1, none⟩) (by simp; omega)).trans k1
      have m2 := (bel7.cell (p := ⟨w.heap.size, 2, none⟩) (by simp; omega)).trans k2
      have bel07 : Below w.heap.size w w7 := bel06.trans (bel7.mono (by omega))
      clear k0 k1 k2 own6 bel06 bel7
      have hl7 : (z6 ++ Vm.enc k.size).length ≤ 140737488351300 := by rw [List.length_append]; omega
      generalize hz7 : z6 ++ Vm.enc k.size = z7 at *
      have HZ7 := hide hz7
      clear hz7
      go_wp2_with (at_builtin; refine wpList_append_str rfl (.tmp 28) (.tmp 30) 26 9 rfl 5 (w.heap.size + 1) Try.underlying26 Try.underlying9 Try.info5 _ z7 rfl (own7.rebase (by omega)) k rfl (by omega) (by omega) ?_)
      intro v8 w8 own8 bel8
      have sz8 := bel8.size
      have r0 := (bel8.cell (p := ⟨w.heap.size, 0, none⟩) (by simp)).trans m0
      have r1 := (bel8.cell (p := ⟨w.heap.size, 1, none⟩) (by simp)).trans m1
      have r2 := (bel8.cell (p := ⟨w.heap.size, 2, none⟩) (by simp)).trans m2
      have bel08 : Below w.heap.size w w8 := bel07.trans (bel8.mono (by omega))
      clear m0 m1 m2 own7 bel07 bel8
      have hl8 : (z7 ++ Om.ints k.data.toList).length ≤ 140737488351400 := by rw [List.length_append, Om.ints_len, ← Lib.size_eq]; omega
      generalize hz8 : z7 ++ Om.ints k.data.toList = z8 at *
      have HZ8 := hide hz8
      clear hz8
      have own9 : Own .u8 5 w.heap.size w8 v8 (bs ++ Om.opEnc false k.data.toList v.data.toList) := by
        have : bs ++ Om.opEnc false k.data.toList v.data.toList = z8 := by rw [← HZ8.out, ← HZ7.out, ← HZ6.out]; unfold Om.opEnc; rw [HEK.out]; simp
        rw [this]
        exact own8.rebase (by omega)
      go_wp2
      go_ret2
      exact ⟨_, rfl, own9, bel08⟩
    · have hc64 := Om.cnt_le (s := k.data.toList) (by rw [← Lib.size_eq]; omega)
      have hek : Om.cnt k.data.toList = Vm.enc k.size ++ Om.ints k.data.toList := by unfold Om.cnt; rw [← Lib.size_eq]
      have hev : Om.cnt v.data.toList = Vm.enc v.size ++ Om.ints v.data.toList := by unfold Om.cnt; rw [← Lib.size_eq]
      have h10 : (Vm.enc k.size).length ≤ 10 := Vm.sz_le10 (x := k.size) (by omega)
      have h11 : (Vm.enc v.size).length ≤ 10 := Vm.sz_le10 (x := v.size) (by omega)
      have HEK := hide hek
      have HEV := hide hev
      clear hek hev
      go_enter Try.func17, Try.ntmps17
      go_wp2_with fail
      refine (checkR_any true k v _ hk hv).mono ?_
      rintro E w1 ⟨rfl, bel1⟩
      rw [HC.out]
      have d0 := (bel1.cell (p := ⟨w.heap.size, 0, none⟩) (by simp [sz0])).trans c0
      have d1 := (bel1.cell (p := ⟨w.heap.size, 1, none⟩) (by simp [sz0])).trans c1
      have d2 := (bel1.cell (p := ⟨w.heap.size, 2, none⟩) (by simp [sz0])).trans c2
      have hb1 := hb0.below bel1
      have sz1 := bel1.size
      have bel01 : Below w.heap.size w w1 := bel0.trans (bel1.mono bel0.size)
      clear c0 c1 c2 hb0 hw0 bel0 bel1
      go_wp2_with (at_builtin; refine wpList_append_is rfl (.tmp 14) (.tmp 15) 26 rfl .u8 5 (w.heap.size + 1) 1 Try.underlying26 Try.info5 (by decide) _ [] rfl (Own.nil _ _ _ _) _ bs rfl hb1 (by simp; omega) (by omega) ?_)
      intro v4 w4 own4 bel4 _
      have sz4 := bel4.size
      have g0 := (bel4.cell (p := ⟨w.heap.size, 0, none⟩) (by simp)).trans d0
      have g1 := (bel4.cell (p := ⟨w.heap.size, 1, none⟩) (by simp)).trans d1
      have g2 := (bel4.cell (p := ⟨w.heap.size, 2, none⟩) (by simp)).trans d2
      have bel04 : Below w.heap.size w w4 := bel01.trans (bel4.mono (by omega))
      clear d0 d1 d2 hb1 bel01 bel4
      obtain ⟨w5, hw5, sz5, bel5, own5⟩ := own_step .u8 5 w4 #[.int .u8 1] 1 [1] rfl rfl (by simp [maxLen]) (by simp [wf_u8])
      go_wp2_with (at_builtin; refine wpList_append_is rfl (.tmp 19) (.tmp 21) 26 rfl .u8 5 (w.heap.size + 1) 1 Try.underlying26 Try.info5 (by decide) _ bs rfl (own4.below bel5) _ [1] rfl own5.is (by simp; omega) (by omega) ?_)
      intro v6 w6 own6 bel6 _
      have sz6 := bel6.size
      have k0 := (bel6.cell (p := ⟨w.heap.size, 0, none⟩) (by simp)).trans ((bel5.cell (p := ⟨w.heap.size, 0, none⟩) (by simp; omega)).trans g0)
      have k1 := (bel6.cell (p := ⟨w.heap.size, 1, none⟩) (by simp)).trans ((bel5.cell (p := ⟨w.heap.size, 1, none⟩) (by simp; omega)).trans g1)
      have k2 := (bel6.cell (p := ⟨w.heap.size, 2, none⟩) (by simp)).trans ((bel5.cell (p := ⟨w.heap.size, 2, none⟩) (by simp; omega)).trans g2)
      have bel06 : Below w.heap.size w w6 := (bel04.trans (bel5.mono (by omega))).trans (bel6.mono (by omega))
      clear g0 g1 g2 own4 own5 bel04 bel5 bel6 hw5
      have hl6 : (bs ++ [1]).length ≤ 140737488351233 := by rw [List.length_append]; simp; omega
      generalize hz6 : bs ++ [1] = z6 at *
      have HZ6 := hide hz6
      clear hz6
      go_wp2_with fail
      refine (putR_any _ _ k.size _ own6.is (by omega) (by omega) (by omega)).mono ?_
      rintro E w7 ⟨v7, rfl, own7, bel7⟩
      rw [Int.toNat_natCast] at own7
      have sz7 := bel7.size
      have m0 := (bel7.cell (p := ⟨w.heap.size, 0, none⟩) (by simp; omega)).trans k0
      have m1 := (bel7.cell (p := ⟨w.heap.size, 1, none⟩) (by simp; omega)).trans k1
      have m2 := (bel7.cell (p := ⟨w.heap.size, 2, none⟩) (by simp; omega)).trans k2
      have bel07 : Below w.heap.size w w7 := bel06.trans (bel7.mono (by omega))
      clear k0 k1 k2 own6 bel06 bel7
      have hl7 : (z6 ++ Vm.enc k.size).length ≤ 140737488351300 := by rw [List.length_append]; omega
      generalize hz7 : z6 ++ Vm.enc k.size = z7 at *
      have HZ7 := hide hz7
      clear hz7
      go_wp2_with (at_builtin; refine wpList_append_str rfl (.tmp 28) (.tmp 30) 26 9 rfl 5 (w.heap.size + 1) Try.underlying26 Try.underlying9 Try.info5 _ z7 rfl (own7.rebase (by omega)) k rfl (by omega) (by omega) ?_)
      intro v8 w8 own8 bel8
      have sz8 := bel8.size
      have r0 := (bel8.cell (p := ⟨w.heap.size, 0, none⟩) (by simp)).trans m0
      have r1 := (bel8.cell (p := ⟨w.heap.size, 1, none⟩) (by simp)).trans m1
      have r2 := (bel8.cell (p := ⟨w.heap.size, 2, none⟩) (by simp)).trans m2
      have bel08 : Below w.heap.size w w8 := bel07.trans (bel8.mono (by omega))
      clear m0 m1 m2 own7 bel07 bel8
      have hl8 : (z7 ++ Om.ints k.data.toList).length ≤ 140737488351400 := by rw [List.length_append, Om.ints_len, ← Lib.size_eq]; omega
      generalize hz8 : z7 ++ Om.ints k.data.toList = z8 at *
      have HZ8 := hide hz8
      clear hz8
      go_wp2_with fail
      refine (putR_any _ _ v.size _ own8.is (by omega) (by omega) (by omega)).mono ?_
      rintro E w9 ⟨v9, rfl, own9, bel9⟩
      rw [Int.toNat_natCast] at own9
      have sz9 := bel9.size
      have m2 := (bel9.cell (p := ⟨w.heap.size, 2, none⟩) (by simp; omega)).trans r2
      have bel09 : Below w.heap.size w w9 := bel08.trans (bel9.mono (by omega))
      clear own8 bel08 bel9 r0 r1 r2
      have hl9 : (z8 ++ Vm.enc v.size).length ≤ 140737488351500 := by rw [List.length_append]; omega
      generalize hz9 : z8 ++ Vm.enc v.size = z9 at *
      have HZ9 := hide hz9
      clear hz9
      go_wp2_with (at_builtin; refine wpList_append_str rfl (.tmp 39) (.tmp 41) 26 9 rfl 5 (w.heap.size + 1) Try.underlying26 Try.underlying9 Try.info5 _ z9 rfl (own9.rebase (by omega)) v rfl (by omega) (by omega) ?_)
      intro vx wx ownx belx
      have owny : Own .u8 5 w.heap.size wx vx (bs ++ Om.opEnc true k.data.toList v.data.toList) := by
        have : bs ++ Om.opEnc true k.data.toList v.data.toList = z9 ++ Om.ints v.data.toList := by rw [← HZ9.out, ← HZ8.out, ← HZ7.out, ← HZ6.out]; unfold Om.opEnc; rw [HEK.out, HEV.out]; simp
        rw [this]
        exact ownx.rebase (by omega)
      go_wp2
      go_ret2
      exact ⟨_, rfl, owny, bel09.trans (belx.mono (by omega))⟩
  · rw [Om.appd_no hc, hc]
    have HC := hide hc
    clear hc
    go_enter Try.func17, Try.ntmps17
    go_wp2_with fail
    refine (checkR_any p k v _ hk hv).mono ?_
    rintro E w1 ⟨rfl, bel1⟩
    rw [HC.out]
    go_wp2
    go_ret2
    exact ⟨_, rfl, Own.nil _ _ _ _, bel0.trans (bel1.mono bel0.size)⟩

end Go.Proofs.Ytaejecompbmhcaa
