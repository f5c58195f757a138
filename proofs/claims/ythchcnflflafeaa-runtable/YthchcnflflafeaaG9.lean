/- Texts of one layer, one behind the other. -/
import Derived.Test.YthchcnflflafeaaG8
import Derived.Test.YthchcnflflafeaaG7
import Derived.Deep.RegionHeld3
import Derived.Test.YthchcnflflafeaaG5
/- The contracts of the document's Put, Append. -/
namespace Go.Proofs.Ythchcnflflafeaa
open Go.RowKit
set_option linter.unusedVariables false

set_option maxHeartbeats 400000 in
theorem putR_any (vb : Value) (bs : List Int) (x : Int) (w : World) (hb : Is .u8 w vb bs) (hl : bs.length ≤ 140737488352900) (h0 : 0 ≤ x) (h1 : x < 9223372036854775808) :
    Calls Try.prog 55 #[vb, .int .i64 x] w fun e w' => ∃ v, e = .returned v ∧ Own .u8 5 w.heap.size w' v (bs ++ Vm.enc x.toNat) ∧ Below w.heap.size w w' := by
  go_enter Try.func55, Try.ntmps55
  go_wp2_with fail
  refine (appR_any _ bs x _ hb (by omega) (by omega) (by omega)).mono ?_
  rintro E w1 ⟨v1, rfl, own1, bel1⟩
  go_wp2
  go_ret
  exact ⟨_, rfl, own1, bel1⟩

set_option maxHeartbeats 400000 in
theorem oappR_any (vb : Value) (bs : List Int) (p : Bool) (k v : ByteArray) (w : World) (hb : Is .u8 w vb bs) (hl : bs.length ≤ 140737488351232) (hk : k.size ≤ 140737488351232) (hv : v.size ≤ 140737488351232) :
    Calls Try.prog 56 #[vb, opv p k v] w fun E w' => ∃ v', E = .returned (.tuple #[v', .int .i64 (Om.chk p k.data.toList v.data.toList)]) ∧ Own .u8 5 w.heap.size w' v' (Om.appd bs p k.data.toList v.data.toList) ∧ Below w.heap.size w w' := by
  obtain ⟨w0, hw0, sz0, bel0, cell0⟩ := alloc_step w #[.bool p, .string k, .string v] 35
  have c0 := cell0 0 _ rfl
  have c1 := cell0 1 _ rfl
  have c2 := cell0 2 _ rfl
  clear cell0
  have hb0 := hb.below bel0
  unfold opv
  rcases Om.chk_two p k.data.toList v.data.toList with hc | hc
  · obtain ⟨ao, cap, hshape, _, _⟩ := hb.shape
    subst hshape
    have hh := Om.chk_ok' hc
    rw [← Lib.size_eq, ← Lib.size_eq] at hh
    have hh1 := hh.2.1
    have hh2 := hh.2.2.1
    rw [Om.appd_ok hc, hc]
    have HC := hide hc
    clear hc hh
    cases p
    · have hc64 := Om.cnt_le (s := k.data.toList) (by rw [← Lib.size_eq]; omega)
      have hek : Om.cnt k.data.toList = Vm.enc k.size ++ Om.ints k.data.toList := by unfold Om.cnt; rw [← Lib.size_eq]
      have hev : Om.cnt v.data.toList = Vm.enc v.size ++ Om.ints v.data.toList := by unfold Om.cnt; rw [← Lib.size_eq]
      have h10 : (Vm.enc k.size).length ≤ 10 := Vm.sz_le10 (x := k.size) (by omega)
      have h11 : (Vm.enc v.size).length ≤ 10 := Vm.sz_le10 (x := v.size) (by omega)
      have HEK := hide hek
      have HEV := hide hev
      clear hek hev
      go_enter Try.func56, Try.ntmps56
      go_wp2_with fail
      refine (checkR_any false k v _ hk hv).mono ?_
      rintro E w1 ⟨rfl, bel1⟩
      rw [HC.out]
      have d0 := (bel1.cell (p := ⟨w.heap.size, 0, none⟩) (by simp [sz0])).trans c0
      have d1 := (bel1.cell (p := ⟨w.heap.size, 1, none⟩) (by simp [sz0])).trans c1
      have d2 := (bel1.cell (p := ⟨w.heap.size, 2, none⟩) (by simp [sz0])).trans c2
      have hb1 := hb0.below bel1
      have sz1 := bel1.size
      have bel01 : Below w.heap.size w w1 := bel0.trans (bel1.mono bel0.size)
      clear c0 c1 c2 hb0 hw0 bel0 bel1
      go_wp2_with (at_builtin; refine wpList_append_is rfl (.tmp 14) (.tmp 15) 38 rfl .u8 5 (w.heap.size + 1) 1 Try.underlying38 Try.info5 (by decide) _ [] rfl (Own.nil _ _ _ _) _ bs rfl hb1 (by simp; omega) (by omega) ?_)
      intro v4 w4 own4 bel4 _
      have sz4 := bel4.size
      have g0 := (bel4.cell (p := ⟨w.heap.size, 0, none⟩) (by simp)).trans d0
      have g1 := (bel4.cell (p := ⟨w.heap.size, 1, none⟩) (by simp)).trans d1
      have g2 := (bel4.cell (p := ⟨w.heap.size, 2, none⟩) (by simp)).trans d2
      have bel04 : Below w.heap.size w w4 := bel01.trans (bel4.mono (by omega))
      clear d0 d1 d2 hb1 bel01 bel4
      obtain ⟨w5, hw5, sz5, bel5, own5⟩ := own_step .u8 5 w4 #[.int .u8 0] 1 [0] rfl rfl (by simp [maxLen]) (by simp [wf_u8])
      go_wp2_with (at_builtin; refine wpList_append_is rfl (.tmp 19) (.tmp 21) 38 rfl .u8 5 (w.heap.size + 1) 1 Try.underlying38 Try.info5 (by decide) _ bs rfl (own4.below bel5) _ [0] rfl own5.is (by simp; omega) (by omega) ?_)
      intro v6 w6 own6 bel6 _
      have sz6 := bel6.size
      have k0 := (bel6.cell (p := ⟨w.heap.size, 0, none⟩) (by simp)).trans ((bel5.cell (p := ⟨w.heap.size, 0, none⟩) (by simp; omega)).trans g0)
      have k1 := (bel6.cell (p := ⟨w.heap.size, 1, none⟩) (by simp)).trans ((bel5.cell (p := ⟨w.heap.size, 1, none⟩) (by simp; omega)).trans g1)
      have k2 := (bel6.cell (p := ⟨w.heap.size, 2, none⟩) (by simp)).trans ((bel5.cell (p := ⟨w.heap.size, 2, none⟩) (by simp; omega)).trans g2)
      have bel06 : Below w.heap.size w w6 := (bel04.trans (bel5.mono (by omega))).trans (bel6.mono (by omega))
      clear g0 g1 g2 own4 own5 bel04 bel5 bel6 hw5
      have hl6 : (bs ++ [0]).length ≤ 140737488351233 := by rw [List.length_append]; simp; omega
      generalize hz6 : bs ++ [0] = z6 at *
      have HZ6 := hide hz6
      clear hz6
      go_wp2_with fail
      refine (putR_any _ _ k.size _ own6.is (by omega) (by omega) (by omega)).mono ?_
      rintro E w7 ⟨v7, rfl, own7, bel7⟩
      rw [Int.toNat_natCast] at own7
      have sz7 := bel7.size
      have m0 := (bel7.cell (p := ⟨w.heap.size, 0, none⟩) (by simp; omega)).trans k0
      have m1 := (bel7.cell (p := ⟨w.heap.size, 1, none⟩) (by simp; omega)).trans k1
      have m2 := (bel7.cell (p := ⟨w.heap.size, 2, none⟩) (by simp; omega)).trans k2
      have bel07 : Below w.heap.size w w7 := bel06.trans (bel7.mono (by omega))
      clear k0 k1 k2 own6 bel06 bel7
      have hl7 : (z6 ++ Vm.enc k.size).length ≤ 140737488351300 := by rw [List.length_append]; omega
      generalize hz7 : z6 ++ Vm.enc k.size = z7 at *
      have HZ7 := hide hz7
      clear hz7
      go_wp2_with (at_builtin; refine wpList_append_str rfl (.tmp 28) (.tmp 30) 38 9 rfl 5 (w.heap.size + 1) Try.underlying38 Try.underlying9 Try.info5 _ z7 rfl (own7.rebase (by omega)) k rfl (by omega) (by omega) ?_)
      intro v8 w8 own8 bel8
      have sz8 := bel8.size
      have r0 := (bel8.cell (p := ⟨w.heap.size, 0, none⟩) (by simp)).trans m0
      have r1 := (bel8.cell (p := ⟨w.heap.size, 1, none⟩) (by simp)).trans m1
      have r2 := (bel8.cell (p := ⟨w.heap.size, 2, none⟩) (by simp)).trans m2
      have bel08 : Below w.heap.size w w8 := bel07.trans (bel8.mono (by omega))
      clear m0 m1 m2 own7 bel07 bel8
      have hl8 : (z7 ++ Om.ints k.data.toList).length ≤ 140737488351400 := by rw [List.length_append, Om.ints_len, ← Lib.size_eq]; omega
      generalize hz8 : z7 ++ Om.ints k.data.toList = z8 at *
      have HZ8 := hide hz8
      clear hz8
      have own9 : Own .u8 5 w.heap.size w8 v8 (bs ++ Om.opEnc false k.data.toList v.data.toList) := by
        have : bs ++ Om.opEnc false k.data.toList v.data.toList = z8 := by rw [← HZ8.out, ← HZ7.out, ← HZ6.out]; unfold Om.opEnc; rw [HEK.out]; simp
        rw [this]
        exact own8.rebase (by omega)
      go_wp2
      go_ret2
      exact ⟨_, rfl, own9, bel08⟩
    · have hc64 := Om.cnt_le (s := k.data.toList) (by rw [← Lib.size_eq]; omega)
      have hek : Om.cnt k.data.toList = Vm.enc k.size ++ Om.ints k.data.toList := by unfold Om.cnt; rw [← Lib.size_eq]
      have hev : Om.cnt v.data.toList = Vm.enc v.size ++ Om.ints v.data.toList := by unfold Om.cnt; rw [← Lib.size_eq]
      have h10 : (Vm.enc k.size).length ≤ 10 := Vm.sz_le10 (x := k.size) (by omega)
      have h11 : (Vm.enc v.size).length ≤ 10 := Vm.sz_le10 (x := v.size) (by omega)
      have HEK := hide hek
      have HEV := hide hev
      clear hek hev
      go_enter Try.func56, Try.ntmps56
      go_wp2_with fail
      refine (checkR_any true k v _ hk hv).mono ?_
      rintro E w1 ⟨rfl, bel1⟩
      rw [HC.out]
      have d0 := (bel1.cell (p := ⟨w.heap.size, 0, none⟩) (by simp [sz0])).trans c0
      have d1 := (bel1.cell (p := ⟨w.heap.size, 1, none⟩) (by simp [sz0])).trans c1
      have d2 := (bel1.cell (p := ⟨w.heap.size, 2, none⟩) (by simp [sz0])).trans c2
      have hb1 := hb0.below bel1
      have sz1 := bel1.size
      have bel01 : Below w.heap.size w w1 := bel0.trans (bel1.mono bel0.size)
      clear c0 c1 c2 hb0 hw0 bel0 bel1
      go_wp2_with (at_builtin; refine wpList_append_is rfl (.tmp 14) (.tmp 15) 38 rfl .u8 5 (w.heap.size + 1) 1 Try.underlying38 Try.info5 (by decide) _ [] rfl (Own.nil _ _ _ _) _ bs rfl hb1 (by simp; omega) (by omega) ?_)
      intro v4 w4 own4 bel4 _
      have sz4 := bel4.size
      have g0 := (bel4.cell (p := ⟨w.heap.size, 0, none⟩) (by simp)).trans d0
      have g1 := (bel4.cell (p := ⟨w.heap.size, 1, none⟩) (by simp)).trans d1
      have g2 := (bel4.cell (p := ⟨w.heap.size, 2, none⟩) (by simp)).trans d2
      have bel04 : Below w.heap.size w w4 := bel01.trans (bel4.mono (by omega))
      clear d0 d1 d2 hb1 bel01 bel4
      obtain ⟨w5, hw5, sz5, bel5, own5⟩ := own_step .u8 5 w4 #[.int .u8 1] 1 [1] rfl rfl (by simp [maxLen]) (by simp [wf_u8])
      go_wp2_with (at_builtin; refine wpList_append_is rfl (.tmp 19) (.tmp 21) 38 rfl .u8 5 (w.heap.size + 1) 1 Try.underlying38 Try.info5 (by decide) _ bs rfl (own4.below bel5) _ [1] rfl own5.is (by simp; omega) (by omega) ?_)
      intro v6 w6 own6 bel6 _
      have sz6 := bel6.size
      have k0 := (bel6.cell (p := ⟨w.heap.size, 0, none⟩) (by simp)).trans ((bel5.cell (p := ⟨w.heap.size, 0, none⟩) (by simp; omega)).trans g0)
      have k1 := (bel6.cell (p := ⟨w.heap.size, 1, none⟩) (by simp)).trans ((bel5.cell (p := ⟨w.heap.size, 1, none⟩) (by simp; omega)).trans g1)
      have k2 := (bel6.cell (p := ⟨w.heap.size, 2, none⟩) (by simp)).trans ((bel5.cell (p := ⟨w.heap.size, 2, none⟩) (by simp; omega)).trans g2)
      have bel06 : Below w.heap.size w w6 := (bel04.trans (bel5.mono (by omega))).trans (bel6.mono (by omega))
      clear g0 g1 g2 own4 own5 bel04 bel5 bel6 hw5
      have hl6 : (bs ++ [1]).length ≤ 140737488351233 := by rw [List.length_append]; simp; omega
      generalize hz6 : bs ++ [1] = z6 at *
      have HZ6 := hide hz6
      clear hz6
      go_wp2_with fail
      refine (putR_any _ _ k.size _ own6.is (by omega) (by omega) (by omega)).mono ?_
      rintro E w7 ⟨v7, rfl, own7, bel7⟩
      rw [Int.toNat_natCast] at own7
      have sz7 := bel7.size
      have m0 := (bel7.cell (p := ⟨w.heap.size, 0, none⟩) (by simp; omega)).trans k0
      have m1 := (bel7.cell (p := ⟨w.heap.size, 1, none⟩) (by simp; omega)).trans k1
      have m2 := (bel7.cell (p := ⟨w.heap.size, 2, none⟩) (by simp; omega)).trans k2
      have bel07 : Below w.heap.size w w7 := bel06.trans (bel7.mono (by omega))
      clear k0 k1 k2 own6 bel06 bel7
      have hl7 : (z6 ++ Vm.enc k.size).length ≤ 140737488351300 := by rw [List.length_append]; omega
      generalize hz7 : z6 ++ Vm.enc k.size = z7 at *
      have HZ7 := hide hz7
      clear hz7
      go_wp2_with (at_builtin; refine wpList_append_str rfl (.tmp 28) (.tmp 30) 38 9 rfl 5 (w.heap.size + 1) Try.underlying38 Try.underlying9 Try.info5 _ z7 rfl (own7.rebase (by omega)) k rfl (by omega) (by omega) ?_)
      intro v8 w8 own8 bel8
      have sz8 := bel8.size
      have r0 := (bel8.cell (p := ⟨w.heap.size, 0, none⟩) (by simp)).trans m0
      have r1 := (bel8.cell (p := ⟨w.heap.size, 1, none⟩) (by simp)).trans m1
      have r2 := (bel8.cell (p := ⟨w.heap.size, 2, none⟩) (by simp)).trans m2
      have bel08 : Below w.heap.size w w8 := bel07.trans (bel8.mono (by omega))
      clear m0 m1 m2 own7 bel07 bel8
      have hl8 : (z7 ++ Om.ints k.data.toList).length ≤ 140737488351400 := by rw [List.length_append, Om.ints_len, ← Lib.size_eq]; omega
      generalize hz8 : z7 ++ Om.ints k.data.toList = z8 at *
      have HZ8 := hide hz8
      clear hz8
      go_wp2_with fail
      refine (putR_any _ _ v.size _ own8.is (by omega) (by omega) (by omega)).mono ?_
      rintro E w9 ⟨v9, rfl, own9, bel9⟩
      rw [Int.toNat_natCast] at own9
      have sz9 := bel9.size
      have m2 := (bel9.cell (p := ⟨w.heap.size, 2, none⟩) (by simp; omega)).trans r2
      have bel09 : Below w.heap.size w w9 := bel08.trans (bel9.mono (by omega))
      clear own8 bel08 bel9 r0 r1 r2
      have hl9 : (z8 ++ Vm.enc v.size).length ≤ 140737488352900 := by rw [List.length_append]; omega
      generalize hz9 : z8 ++ Vm.enc v.size = z9 at *
      have HZ9 := hide hz9
      clear hz9
      go_wp2_with (at_builtin; refine wpList_append_str rfl (.tmp 39) (.tmp 41) 38 9 rfl 5 (w.heap.size + 1) Try.underlying38 Try.underlying9 Try.info5 _ z9 rfl (own9.rebase (by omega)) v rfl (by omega) (by omega) ?_)
      intro vx wx ownx belx
      have owny : Own .u8 5 w.heap.size wx vx (bs ++ Om.opEnc true k.data.toList v.data.toList) := by
        have : bs ++ Om.opEnc true k.data.toList v.data.toList = z9 ++ Om.ints v.data.toList := by rw [← HZ9.out, ← HZ8.out, ← HZ7.out, ← HZ6.out]; unfold Om.opEnc; rw [HEK.out, HEV.out]; simp
        rw [this]
        exact ownx.rebase (by omega)
      go_wp2
      go_ret2
      exact ⟨_, rfl, owny, bel09.trans (belx.mono (by omega))⟩
  · rw [Om.appd_no hc, hc]
    have HC := hide hc
    clear hc
    go_enter Try.func56, Try.ntmps56
    go_wp2_with fail
    refine (checkR_any p k v _ hk hv).mono ?_
    rintro E w1 ⟨rfl, bel1⟩
    rw [HC.out]
    go_wp2
    go_ret2
    exact ⟨_, rfl, Own.nil _ _ _ _, bel0.trans (bel1.mono bel0.size)⟩

end Go.Proofs.Ythchcnflflafeaa

/- The contracts of the document's Check and Append of a batch. -/
namespace Go.Proofs.Ythchcnflflafeaa
open Go.RowKit
set_option linter.unusedVariables false

end Go.Proofs.Ythchcnflflafeaa

/- The contracts of Check and Same: the program's, the document's, the laws'. -/
namespace Go.Proofs.Ythchcnflflafeaa
open Go.RowKit
set_option linter.unusedVariables false

/-- Whether two commits are the same. -/
def sameC (e n : Int) (l : List Bm.Ov) (e' n' : Int) (l' : List Bm.Ov) : Bool := (e == e') && ((n == n') && Bm.sameL l l')

theorem sameC_self (e n : Int) (l : List Bm.Ov) : sameC e n l e n l = true := by simp [sameC, Bm.sameL_self]

end Go.Proofs.Ythchcnflflafeaa

/- The contracts of the laws' copies of ops: CopyOps, LentOps, KeptOps. -/
namespace Go.Proofs.Ythchcnflflafeaa
open Go.RowKit
set_option linter.unusedVariables false

/-- What stands behind ops that are lent. -/
def behind : Bm.Ov := ⟨true, ⟨#[98, 101, 104, 105, 110, 100]⟩, ⟨#[]⟩⟩

set_option maxHeartbeats 400000 in
theorem copyO_any (vl : Value) (l : List Bm.Ov) (w : World) (h : IsO w vl l) (hl : l.length * 40 ≤ 140737488355328) :
    Calls Try.prog 51 #[vl] w fun e w' => ∃ v, e = .returned v ∧ OwnO 35 w.heap.size w' v l ∧ Below w.heap.size w w' := by
  obtain ⟨w1, hw1, sz1, bel1, own1⟩ := ops_step 35 w #[] 0 [] rfl rfl (by simp [maxLen])
  have h1 := h.below bel1
  go_enter Try.func51, Try.ntmps51
  go_wp2_with (at_builtin; refine wpList_append_ops rfl (.tmp 3) (.tmp 4) 30 rfl 35 w.heap.size Try.underlying30 Try.info35 _ [] rfl own1 _ l rfl h1 (by simp; omega) (by omega) ?_)
  intro v2 w2 own2 bel2 _
  go_wp2
  go_ret
  exact ⟨_, rfl, by simpa using own2, bel1.trans bel2⟩

set_option maxHeartbeats 400000 in
theorem lentO_any (vl : Value) (l : List Bm.Ov) (w : World) (h : IsO w vl l) (hl : l.length * 40 ≤ 140737488351232) :
    Calls Try.prog 15 #[vl] w fun e w' => ∃ v, e = .returned v ∧ OwnO 35 w.heap.size w' v (l ++ [behind, behind, behind]) ∧ Below w.heap.size w w' := by
  have hc : l.length * 40 ≤ 140737488355328 := by omega
  have HK : Hid (∀ k : Nat, k < 3 → ((l ++ List.replicate k behind).length + [behind].length) * 40 ≤ 140737488355328) := hide (fun k hk => by
    rw [List.length_append, List.length_replicate, List.length_singleton]
    omega)
  have HC := hide hc
  clear hl hc
  go_enter Try.func15, Try.ntmps15
  go_wp2_with fail
  refine (copyO_any vl l _ h HC.out).mono ?_
  rintro E w0 ⟨v0, rfl, own0, bel0⟩
  have own0' : OwnO 35 w.heap.size w0 v0 (l ++ List.replicate 0 behind) := by simpa using own0
  clear own0
  go_wp2
  go_loopw [3, 4] (fun ov iv wr => ∃ k : Nat, k ≤ 3 ∧ iv = .int .i64 k ∧ OwnO 35 w.heap.size wr ov (l ++ List.replicate k behind) ∧ Below w.heap.size w wr) (fun _ iv _ => 3 - (intOf iv).toNat)
  case atStart => exact ⟨0, by omega, rfl, own0', bel0⟩
  case round =>
    obtain ⟨k, hk, rfl, own, bel⟩ := hrel
    have sz := bel.size
    by_cases hlt : k < 3
    · have hlt' : (k : Int) < 3 := by omega
      obtain ⟨w1, hw1, sz1, bel1, own1⟩ := ops_step 35 wr #[.bool true, .string ⟨#[98, 101, 104, 105, 110, 100]⟩, .string ⟨#[]⟩] 1 [behind] rfl rfl (by simp [maxLen])
      have own' := own.below bel1
      go_wp2_with (at_builtin; refine wpList_append_ops rfl (.tmp 11) (.tmp 13) 30 rfl 35 w.heap.size Try.underlying30 Try.info35 _ _ rfl own' _ [behind] rfl own1.is (HK.out k hlt) (by omega) ?_)
      intro v2 w2 own2 bel2 _
      have e2 : l ++ (List.replicate k behind ++ [behind]) = l ++ List.replicate (k + 1) behind := by rw [List.replicate_succ']
      rw [e2] at own2
      have bel3 := (bel.trans (bel1.mono sz)).trans bel2
      clear own own' own1 bel1 bel2 e2
      go_wp2
      go_roundw
      case rel => exact ⟨k + 1, by omega, by go_num, own2, bel3⟩
      case measure => simp [intOf]; omega
    · have hke : k = 3 := by omega
      subst hke
      go_wp2
      go_ret
      exact ⟨_, rfl, own, bel⟩

set_option maxHeartbeats 400000 in
theorem keptO_yes (vf vl : Value) (l fs : List Bm.Ov) (w : World) (hf : IsO w vf fs) (hl : IsO w vl l) (hll : l.length * 40 ≤ 140737488351232) (he : fs = l ++ [behind, behind, behind]) :
    Calls Try.prog 24 #[vf, vl] w fun e w' => e = .returned (.bool true) ∧ Below w.heap.size w w' := by
  have hfl : fs.length ≤ 140737488355328 := by rw [he]; simp; omega
  have HE := hide he
  have HL := hide hll
  clear he hll
  go_enter Try.func24, Try.ntmps24
  go_wp2_with fail
  refine (lentO_any vl l _ hl HL.out).mono ?_
  rintro E w1 ⟨v1, rfl, own1, bel1⟩
  rw [← HE.out] at own1
  go_wp2_with fail
  refine (sameO_any _ _ fs fs _ (hf.below bel1) own1.is (by omega) (by omega)).mono ?_
  rintro E w2 ⟨rfl, bel2⟩
  rw [Bm.sameL_self]
  go_wp2
  go_ret
  exact ⟨rfl, bel1.trans (bel2.mono bel1.size)⟩

end Go.Proofs.Ythchcnflflafeaa

/- The contracts of the laws' copies of one commit: CopyCommit, LentCommit, KeptCommit. -/
namespace Go.Proofs.Ythchcnflflafeaa
open Go.RowKit
set_option linter.unusedVariables false

/-- A slice of ops that was lent: those behind it stand in its room. -/
def LentV (base : Nat) (w : World) (v : Value) (l : List Bm.Ov) : Prop :=
  ∃ g cap, v = .slice (some ⟨g, 0, none⟩) l.length cap ∧ l.length + 3 ≤ cap ∧ cap ≤ maxLen ∧ OwnO 35 base w (.slice (some ⟨g, 0, none⟩) (l.length + 3) cap) (l ++ [behind, behind, behind])

theorem LentV.is {base : Nat} {w : World} {v : Value} {l : List Bm.Ov} (h : LentV base w v l) : IsO w v l := by
  obtain ⟨g, cap, rfl, hc, hm, ho⟩ := h
  have := ho.is.front l.length (by simp)
  rwa [List.take_left] at this

theorem LentV.below {base : Nat} {w w' : World} {v : Value} {l : List Bm.Ov} (h : LentV base w v l) (hb : Below w.heap.size w w') : LentV base w' v l := by
  obtain ⟨g, cap, rfl, hc, hm, ho⟩ := h
  exact ⟨g, cap, rfl, hc, hm, ho.below hb⟩

theorem LentV.keepT {e' base : Nat} {w w' : World} {v : Value} {l : List Bm.Ov} (h : LentV base w v l) (k : KeepT e' w w') (hne : 35 ≠ e') : LentV base w' v l := by
  obtain ⟨g, cap, rfl, hc, hm, ho⟩ := h
  exact ⟨g, cap, rfl, hc, hm, ho.keepT k hne⟩

theorem LentV.rebase {base base' : Nat} {w : World} {v : Value} {l : List Bm.Ov} (h : LentV base w v l) (hb : base' ≤ base) : LentV base' w v l := by
  obtain ⟨g, cap, rfl, hc, hm, ho⟩ := h
  exact ⟨g, cap, rfl, hc, hm, ho.rebase hb⟩

theorem lent_of {base : Nat} {w : World} {v : Value} {l : List Bm.Ov} (h : OwnO 35 base w v (l ++ [behind, behind, behind])) :
    ∃ g cap, v = .slice (some ⟨g, 0, none⟩) (l.length + 3) cap ∧ l.length + 3 ≤ cap ∧ cap ≤ maxLen ∧ OwnO 35 base w (.slice (some ⟨g, 0, none⟩) (l.length + 3) cap) (l ++ [behind, behind, behind]) := by
  have h' := h
  rcases h.2 with ⟨_, hn⟩ | ⟨g, cap, cur, hv, h1, hh, hc, hm, hs, ht⟩
  · simp at hn
  · rw [List.length_append, show [behind, behind, behind].length = 3 from rfl] at hv hc
    exact ⟨g, cap, hv, hc, hm, hv ▸ h'⟩

theorem run_front (g n m cap p : Nat) (hp : p ≤ cap) (wx : World) : (Instr.slice 30 (.slice (some ⟨g, 0, none⟩) n cap) none (some (.int .i64 p)) none).run Try.prog wx = .ok (.slice (some ⟨g, 0, none⟩) p cap) wx := by
  rw [run_slice_h wx 30 (some ⟨g, 0, none⟩) n cap Try.elemO .i64 _ (by omega) (by omega), Try.sizeO]
  simp only [Result.andThen, sliced]
  simp [Addr.add]

end Go.Proofs.Ythchcnflflafeaa

/- The contracts of mayBe and of run.Check: which runs may be. -/
namespace Go.Proofs.Ythchcnflflafeaa
open Go.RowKit
open Bm (Ov)
set_option linter.unusedVariables false

theorem Try.info32 : (Try.prog.info? 32).map (fun i => (i.zero, i.size, i.bytes)) = some (some (.agg #[.int .i64 0, .int .i64 0, .slice none 0 0]), 3, 40) := by kernel_rfl

theorem Try.elemN : Try.prog.underlying 47 = some (.slice (Try.prog.elem 47)) := by kernel_rfl

theorem Try.sizeN (wx : World) : (sizeOf (Try.prog.elem 47)).run Try.prog wx = .ok 3 wx := by kernel_rfl

/-- '<=' of keys. -/
theorem key_on {a b : ByteArray} (h : Tm.lt b a = true) : Op.bytesLess a.toList b.toList = false ∧ (a.toList == b.toList) = false := by
  rw [Tm.less_lt, Tm.eqk]
  exact ⟨Tm.lt_asy h, by simpa using (Tm.lt_ne h).symm⟩

theorem key_off {a b : ByteArray} (h : Tm.lt b a = false) : (Op.bytesLess a.toList b.toList = true ∧ a ≠ b) ∨ (Op.bytesLess a.toList b.toList = false ∧ (a.toList == b.toList) = true) := by
  rw [Tm.less_lt, Tm.eqk]
  cases hl : Tm.lt a b with
  | true => exact .inl ⟨rfl, Tm.lt_ne hl⟩
  | false => exact .inr ⟨rfl, by simpa using Tm.lt_tot hl h⟩

/-- An op more. -/
theorem may_next {l : List Ov} {k : Nat} {o : Ov} (h : Rn.may ⟨#[]⟩ (l.take k) = true) (ho : l[k]? = some o) (hc : o.c = 0) (hlt : Tm.lt (Rn.lstK ⟨#[]⟩ (l.take k)) o.k = true) : Rn.may ⟨#[]⟩ (l.take (k + 1)) = true ∧ Rn.lstK ⟨#[]⟩ (l.take (k + 1)) = o.k := by
  obtain ⟨h1, rfl⟩ := List.getElem?_eq_some_iff.1 ho
  rw [List.take_succ_eq_append_getElem h1, Rn.may_app, Rn.lstK_snoc, h]
  simp [Rn.may, hc, hlt]

theorem may_stop {l : List Ov} {k : Nat} {o : Ov} (ho : l[k]? = some o) (h : o.c ≠ 0 ∨ Tm.lt (Rn.lstK ⟨#[]⟩ (l.take k)) o.k = false) : Rn.may ⟨#[]⟩ l = false := by
  obtain ⟨h1, rfl⟩ := List.getElem?_eq_some_iff.1 ho
  have e : l = l.take k ++ (l[k] :: l.drop (k + 1)) := by rw [← List.drop_eq_getElem_cons h1, List.take_append_drop]
  have e2 : Rn.may ⟨#[]⟩ l = Rn.may ⟨#[]⟩ (l.take k ++ (l[k] :: l.drop (k + 1))) := congrArg _ e
  rw [e2, Rn.may_app]
  rcases h with h | h <;> simp [Rn.may, h]

set_option maxHeartbeats 1000000 in
theorem hmay_any (v : Value) (l : List Ov) (w : World) (h : IsO w v l) (hf : FitO l) (hl : l.length ≤ 140737488355328) :
    Calls Try.prog 50 #[v] w fun E w' => E = .returned (.bool (Rn.may ⟨#[]⟩ l)) ∧ Below w.heap.size w w' := by
  obtain ⟨ans, hans⟩ : ∃ x, Rn.may ⟨#[]⟩ l = x := ⟨_, rfl⟩
  rw [hans]
  have HA := hide hans
  obtain ⟨ao, cap, hsv, hcap, _⟩ := h.shape
  have HFULL := hide fun (h0 : 0 < l.length) => h.full h0
  subst hsv
  have HF := hide hf
  obtain ⟨n, hnn⟩ : ∃ n, l.length = n := ⟨_, rfl⟩
  rw [hnn] at HFULL hcap hl ⊢
  have HN := hide hnn
  clear h hf hnn hans
  go_enter Try.func50, Try.ntmps50
  go_wp2
  go_loopw [3, 8] (fun av i wr => ∃ (k : Nat) (ah : ByteArray), k ≤ n ∧ i = .int .i64 k ∧ av = .string ah ∧ Hid (Rn.may ⟨#[]⟩ (l.take k) = true ∧ Rn.lstK ⟨#[]⟩ (l.take k) = ah) ∧ Below w.heap.size w wr) (fun _ i _ => n - (intOf i).toNat)
  case atStart => exact ⟨0, ⟨#[]⟩, by omega, rfl, rfl, hide ⟨by simp [Rn.may], by simp [Rn.lstK]⟩, Below.refl _ _⟩
  case round =>
    obtain ⟨k, ah, hk, rfl, rfl, HT, bel⟩ := hrel
    have sz := bel.size
    by_cases hlt : k < n
    · obtain ⟨o, ho⟩ : ∃ o, l[k]? = some o := ⟨l[k]'(by have := HN.out; omega), by rw [List.getElem?_eq_getElem]⟩
      obtain ⟨b1, o1, cq, hvx, _, _, hB, hcell⟩ := HFULL.out (by omega)
      simp only [Value.slice.injEq, true_and] at hvx
      obtain ⟨rfl, rfl⟩ := hvx
      obtain ⟨c0, c1, c2⟩ := hcell k o ho
      have d0 := (bel.cell (p := ⟨b1, o1 + k * 3, none⟩) hB).trans c0
      have d1 := (bel.cell (p := ⟨b1, o1 + k * 3 + 1, none⟩) hB).trans c1
      have d2 := (bel.cell (p := ⟨b1, o1 + k * 3 + 2, none⟩) hB).trans c2
      have HO := hide ho
      clear c0 c1 c2 ho hcell
      have hlt' : (k : Int) < n := by omega
      obtain ⟨hk1, hv1⟩ := HF.out o (List.mem_of_getElem? HO.out)
      obtain ⟨W1, hW1, sz1, bW1, B1⟩ := blk_step wr #[.bool o.p, .string o.k, .string o.v] 35
      have e0 := blk_cell B1 0 rfl
      have e1 := blk_cell B1 1 rfl
      have e2 := blk_cell B1 2 rfl
      have b01 : Below w.heap.size w W1 := bel.trans (bW1.mono sz)
      clear B1 bW1
      go_wp2_with fail
      refine (check_any o.p o.k o.v _ hk1 hv1).mono ?_
      rintro E w1 ⟨rfl, bel1⟩
      have bel2 : Below w.heap.size w w1 := b01.trans (bel1.mono (by omega))
      have e1' := (bel1.cell (p := ⟨wr.heap.size, 1, none⟩) (show wr.heap.size < W1.heap.size by omega)).trans e1
      clear bel1 d0 d1 d2 e0 e1 e2
      rcases (show Om.chk o.p o.k.data.toList o.v.data.toList = 0 ∨ _ from Om.chk_two _ _ _) with hc | hc
      · rw [hc]
        have HC := hide (show o.c = 0 from hc)
        clear hc
        cases hlk : Tm.lt ah o.k with
        | true =>
          obtain ⟨q1, q2⟩ := key_on hlk
          have HT2 := hide (may_next HT.out.1 HO.out HC.out (by rw [HT.out.2]; exact hlk))
          clear hlk
          go_wp2
          go_roundw
          case rel => exact ⟨k + 1, o.k, by omega, by go_num, rfl, HT2, bel2⟩
          case measure => simp [intOf]; omega
        | false =>
          have hfo := HA.out
          rw [may_stop HO.out (.inr (by rw [HT.out.2]; exact hlk))] at hfo
          subst hfo
          rcases key_off hlk with ⟨q1, _⟩ | ⟨q1, q2⟩
          · clear hlk
            go_wp2
            go_ret
            exact ⟨rfl, bel2⟩
          · clear hlk
            go_wp2
            go_ret
            exact ⟨rfl, bel2⟩
      · rw [hc]
        have hfo := HA.out
        rw [may_stop HO.out (.inl (show o.c ≠ 0 by unfold Bm.Ov.c Bm.Ov.kl Bm.Ov.vl; rw [hc]; simp))] at hfo
        subst hfo
        clear hc
        go_wp2
        go_ret
        exact ⟨rfl, bel2⟩
    · have hlt' : ¬ (k : Int) < n := by omega
      have hfo := HA.out
      have h1 := HT.out.1
      rw [List.take_of_length_le (by have := HN.out; omega), hfo] at h1
      subst h1
      clear hfo
      go_wp2
      go_ret
      exact ⟨rfl, bel⟩

set_option maxHeartbeats 1000000 in
theorem hcheck_any (e n : Int) (v : Value) (l : List Ov) (w : World) (h : IsO w v l) (hf : FitO l) (hl : l.length ≤ 140737488355328) :
    Calls Try.prog 14 #[cmv e n v] w fun E w' => E = .returned (.int .i64 (Rn.chk e n l)) ∧ Below w.heap.size w w' := by
  unfold cmv
  obtain ⟨w1, hw1, sz1, bel1, hB⟩ := blk_step w #[.int .i64 e, .int .i64 n, v] 32
  have c0 := blk_cell hB 0 rfl
  have c1 := blk_cell hB 1 rfl
  have c2 := blk_cell hB 2 rfl
  have HM := hide (hmay_any v l w1 (h.below bel1) hf hl)
  obtain ⟨ao, cap, rfl, _, _⟩ := h.shape
  obtain ⟨ans, hans⟩ : ∃ x, Rn.chk e n l = x := ⟨_, rfl⟩
  rw [hans]
  have HA := hide hans
  have hlz : l.length = l.length := rfl
  by_cases hlong : 1024 < l.length
  · have hfo := HA.out
    rw [Rn.chk_long hlong] at hfo
    subst hfo
    have hlong' : (1024 : Int) < (l.length : Int) := by omega
    generalize l.length = m at *
    clear HA HM h hf hans hB
    go_enter Try.func14, Try.ntmps14
    go_wp2
    go_ret
    exact ⟨rfl, bel1⟩
  have hlong' : ¬ (1024 : Int) < (l.length : Int) := by omega
  by_cases h1 : e < 1
  · have hfo := HA.out
    rw [Rn.chk_no hlong fun h => by omega] at hfo
    subst hfo
    generalize l.length = m at *
    clear HA HM h hf hans hB
    go_enter Try.func14, Try.ntmps14
    go_wp2
    go_ret
    exact ⟨rfl, bel1⟩
  by_cases h2 : n < e
  · have hfo := HA.out
    rw [Rn.chk_no hlong fun h => by omega] at hfo
    subst hfo
    generalize l.length = m at *
    clear HA HM h hf hans hB
    go_enter Try.func14, Try.ntmps14
    go_wp2
    go_ret
    exact ⟨rfl, bel1⟩
  by_cases h3 : (1048576 : Int) < n
  · have hfo := HA.out
    rw [Rn.chk_no hlong fun h => by omega] at hfo
    subst hfo
    generalize l.length = m at *
    clear HA HM h hf hans hB
    go_enter Try.func14, Try.ntmps14
    go_wp2
    go_ret
    exact ⟨rfl, bel1⟩
  cases hm : Rn.may ⟨#[]⟩ l with
  | true =>
    have hfo := HA.out
    rw [Rn.chk_ok hlong ⟨by omega, by omega, by omega, hm⟩] at hfo
    subst hfo
    rw [hm] at HM
    generalize l.length = m at *
    clear HA h hf hans hB hm
    go_enter Try.func14, Try.ntmps14
    go_wp2_with fail
    refine HM.out.mono ?_
    rintro E w2 ⟨rfl, bel2⟩
    have bel02 := bel1.trans (bel2.mono bel1.size)
    go_wp2
    go_ret
    exact ⟨rfl, bel02⟩
  | false =>
    have hfo := HA.out
    rw [Rn.chk_no hlong fun h => by rw [hm] at h; simp at h] at hfo
    subst hfo
    rw [hm] at HM
    generalize l.length = m at *
    clear HA h hf hans hB hm
    go_enter Try.func14, Try.ntmps14
    go_wp2_with fail
    refine HM.out.mono ?_
    rintro E w2 ⟨rfl, bel2⟩
    have bel02 := bel1.trans (bel2.mono bel1.size)
    go_wp2
    go_ret
    exact ⟨rfl, bel02⟩

end Go.Proofs.Ythchcnflflafeaa

/- The contracts of Follows: the program's, the document's. -/
namespace Go.Proofs.Ythchcnflflafeaa
open Go.RowKit
set_option linter.unusedVariables false

/-- Two cells of a block are written. -/
theorem res_two {V : World} {R : Nat} {t : TypeId} {x y : Value} (hR : V.heap[R]? = some (.cells #[x, y] t (0, 0))) (a b : Value) :
    ∃ V', (V.setCell ⟨R, 0, none⟩ a).setCell ⟨R, 1, none⟩ b = V' ∧ V'.heap[R]? = some (.cells #[a, b] t (0, 0)) ∧ V.grownBy V' (some R) ∧
      (V.cell? ⟨R, 0, none⟩ = some x ∧ V.cell? ⟨R, 1, none⟩ = some y) ∧ (V.frozen? ⟨R, 0, none⟩ = false ∧ V.frozen? ⟨R, 1, none⟩ = false) ∧
      (V'.cell? ⟨R, 0, none⟩ = some a ∧ V'.cell? ⟨R, 1, none⟩ = some b) := by
  have h2 := set_cells (set_cells hR 0 a) 1 b
  exact ⟨_, rfl, h2, grown_trans (grown_setCell V ⟨R, 0, none⟩ a) (grown_setCell _ ⟨R, 1, none⟩ b), ⟨blk_cell hR 0 rfl, blk_cell hR 1 rfl⟩, ⟨blk_froz hR 0, blk_froz hR 1⟩, ⟨blk_cell h2 0 rfl, blk_cell h2 1 rfl⟩⟩

/-- A block of two cells, made and written. -/
theorem new_two (w : World) (t : TypeId) (x y a b : Value) : ∃ V, (((w.alloc (.cells #[x, y] t)).setCell ⟨w.heap.size, 0, none⟩ a).setCell ⟨w.heap.size, 1, none⟩ b = V) ∧ w.alloc (.cells #[a, b] t) = V ∧ V.heap.size = w.heap.size + 1 ∧ Below w.heap.size w V ∧ V.heap[w.heap.size]? = some (.cells #[a, b] t (0, 0)) ∧
    V.cell? ⟨w.heap.size, 0, none⟩ = some a ∧ V.cell? ⟨w.heap.size, 1, none⟩ = some b := by
  obtain ⟨V, h1, h2, h3, h4⟩ := blk_step w #[a, b] t
  refine ⟨V, ?_, h1, h2, h3, h4, blk_cell h4 0 rfl, blk_cell h4 1 rfl⟩
  rw [← h1]
  simp [go_sem]

/-- A fault as a value. -/
def flv (f : Int × Int) : Value := .agg #[.int .i64 f.1, .int .i64 f.2]

theorem cvs_drop {r : List Cw} {k : Nat} {c : Cw} (h : r[k]? = some c) : (cvs r).drop k = c.c :: (cvs r).drop (k + 1) := by
  obtain ⟨hk, rfl⟩ := List.getElem?_eq_some_iff.1 h
  unfold cvs
  rw [← List.map_drop, ← List.map_drop, List.drop_eq_getElem_cons hk, List.map_cons]

end Go.Proofs.Ythchcnflflafeaa

/- The contracts of the laws' copies of lists of commits: CopyCommits, LentCommits, KeptCommits. -/
namespace Go.Proofs.Ythchcnflflafeaa
open Go.RowKit
set_option linter.unusedVariables false

theorem cw_ext {c d : Cw} (h : c.c = d.c) : c.e = d.e ∧ c.n = d.n ∧ c.l = d.l := by
  unfold Cw.c at h
  simpa using h

theorem cvs_at {r s : List Cw} (h : cvs r = cvs s) {k : Nat} {c : Cw} (hc : r[k]? = some c) : ∃ d, s[k]? = some d ∧ c.e = d.e ∧ c.n = d.n ∧ c.l = d.l := by
  have h1 : (cvs r)[k]? = some c.c := by unfold cvs; rw [List.getElem?_map, hc]; rfl
  rw [h] at h1
  unfold cvs at h1
  rw [List.getElem?_map, Option.map_eq_some_iff] at h1
  obtain ⟨d, hd, he⟩ := h1
  obtain ⟨e1, e2, e3⟩ := cw_ext he
  exact ⟨d, hd, e1.symm, e2.symm, e3.symm⟩

theorem cvs_len {r s : List Cw} (h : cvs r = cvs s) : r.length = s.length := by
  have := congrArg List.length h
  simpa [cvs] using this

theorem cvs_take (r : List Cw) (k : Nat) : cvs (r.take k) = (cvs r).take k := by unfold cvs; rw [List.map_take]

theorem cvs_snoc {rs r : List Cw} {k : Nat} {c d : Cw} (h : cvs rs = cvs (r.take k)) (hd : r[k]? = some d) (he : c.c = d.c) : cvs (rs ++ [c]) = cvs (r.take (k + 1)) := by
  obtain ⟨hk, rfl⟩ := List.getElem?_eq_some_iff.1 hd
  rw [List.take_succ_eq_append_getElem hk]
  unfold cvs at h ⊢
  rw [List.map_append, List.map_append, h]
  simp [he]

/-- The loop of CopyCommits: what was made of the first ones. -/
def CopyR (base : Nat) (w : World) (rs : List Cw) : Prop := ∀ c ∈ rs, OwnO 35 base w c.v c.l
def LentR (base : Nat) (w : World) (rs : List Cw) : Prop := ∀ c ∈ rs, LentV base w c.v c.l

theorem CopyR.inC {base : Nat} {w : World} {rs r : List Cw} (h : CopyR base w rs) (he : cvs rs = cvs r) {w' : World} (hr : InC w' r) : InC w rs := by
  intro c hc
  obtain ⟨k, hk⟩ := List.getElem?_of_mem hc
  obtain ⟨d, hd, e1, e2, _⟩ := cvs_at he hk
  obtain ⟨_, i1, i2⟩ := hr d (List.mem_of_getElem? hd)
  exact ⟨(h c hc).is, by rw [e1]; exact i1, by rw [e2]; exact i2⟩

theorem LentR.inC {base : Nat} {w : World} {rs r : List Cw} (h : LentR base w rs) (he : cvs rs = cvs r) {w' : World} (hr : InC w' r) : InC w rs := by
  intro c hc
  obtain ⟨k, hk⟩ := List.getElem?_of_mem hc
  obtain ⟨d, hd, e1, e2, _⟩ := cvs_at he hk
  obtain ⟨_, i1, i2⟩ := hr d (List.mem_of_getElem? hd)
  exact ⟨(h c hc).is, by rw [e1]; exact i1, by rw [e2]; exact i2⟩

theorem fit_same {rs r : List Cw} (he : cvs rs = cvs r) (hr : FitC r) : FitC rs := by
  intro c hc
  obtain ⟨k, hk⟩ := List.getElem?_of_mem hc
  obtain ⟨d, hd, _, _, e3⟩ := cvs_at he hk
  rw [e3]
  exact hr d (List.mem_of_getElem? hd)

theorem CopyR.below {base : Nat} {w w' : World} {rs : List Cw} (h : CopyR base w rs) (hb : Below w.heap.size w w') : CopyR base w' rs := fun c hc => (h c hc).below hb

theorem LentR.below {base : Nat} {w w' : World} {rs : List Cw} (h : LentR base w rs) (hb : Below w.heap.size w w') : LentR base w' rs := fun c hc => (h c hc).below hb

theorem CopyR.snoc {base : Nat} {w : World} {rs : List Cw} (h : CopyR base w rs) {c : Cw} (hc : OwnO 35 base w c.v c.l) : CopyR base w (rs ++ [c]) := fun d hd => (List.mem_append.1 hd).elim (h d) (fun h => by rw [List.mem_singleton.1 h]; exact hc)

theorem LentR.snoc {base : Nat} {w : World} {rs : List Cw} (h : LentR base w rs) {c : Cw} (hc : LentV base w c.v c.l) : LentR base w (rs ++ [c]) := fun d hd => (List.mem_append.1 hd).elim (h d) (fun h => by rw [List.mem_singleton.1 h]; exact hc)

/-- What stands behind commits that are lent. -/
def behC : Cw := ⟨-7, 0, .slice none 0 0, []⟩

end Go.Proofs.Ythchcnflflafeaa

/- The contract of the laws' KeptCommits. -/
namespace Go.Proofs.Ythchcnflflafeaa
open Go.RowKit
set_option linter.unusedVariables false

theorem row_at {w : World} {b o : Nat} {r : List Cw} (h : ∀ i c, r[i]? = some c → w.cell? ⟨b, o + i * 3, none⟩ = some (.int .i64 c.e) ∧ w.cell? ⟨b, o + i * 3 + 1, none⟩ = some (.int .i64 c.n) ∧ w.cell? ⟨b, o + i * 3 + 2, none⟩ = some c.v) {w' : World} {base : Nat} (hb : Below base w w') (hB : b < base) {k : Nat} {c : Cw} (hc : r[k]? = some c) :
    w'.cell? ⟨b, o + k * 3, none⟩ = some (.int .i64 c.e) ∧ w'.cell? ⟨b, o + k * 3 + 1, none⟩ = some (.int .i64 c.n) ∧ w'.cell? ⟨b, o + k * 3 + 2, none⟩ = some c.v := by
  obtain ⟨e0, e1, e2⟩ := h k c hc
  exact ⟨(hb.cell (p := ⟨b, o + k * 3, none⟩) hB).trans e0, (hb.cell (p := ⟨b, o + k * 3 + 1, none⟩) hB).trans e1, (hb.cell (p := ⟨b, o + k * 3 + 2, none⟩) hB).trans e2⟩

end Go.Proofs.Ythchcnflflafeaa

/- An append of commits inside a region that draws its order; front and back parts of a list of commits by their values; a variable that is no fault. -/
namespace Go.Proofs.Ythchcnflflafeaa
open Go.RowKit
set_option linter.unusedVariables false

/-- 'append(out, xs...)' of commits inside a region that draws its order. -/
theorem step_append_coms {P : Program} {ops : Array Oper} {o : Oper} {a : Act} {w : World} {K : Act → World → Prop} {Q : Exit → Act → World → Prop} {E : Prop} (hgd : o.guard = none) (s x : Operand) (t : TypeId)
    (ho : o.op = .call { callee := .builtin .append, args := #[s, x], argTypes := #[t, t] })
    (e : TypeId) (base : Nat) (ht : P.underlying t = some (.slice e)) (hinfo : (P.info? e).map (fun i => (i.zero, i.size, i.bytes)) = some (some (.agg #[.int .i64 0, .int .i64 0, .slice none 0 0]), 3, 40))
    (v : Value) (l : List Cw) (hs : a.eval s = v) (hown : OwnR e base w v l) (vx : Value) (m : List Cw) (hx : a.eval x = vx) (his : RowC w vx m) (hone : ∀ c ∈ m, c.v.oneCell' = true)
    (hlen : (l.length + m.length) * 40 ≤ 140737488355328) (hbase : base ≤ w.heap.size)
    (h : ∀ v' w', OwnR e base w' v' (l ++ m) → Below base w w' → KeepT e w w' → K (a.put o.dst v') w') :
    if Region.wanted o (yielded ops a.tmps) = true then Oper.wp P o a w K Q else E := by
  have hw : Region.wanted o (yielded ops a.tmps) = true := by simp [Region.wanted, hgd]
  rw [if_pos hw]
  obtain ⟨i, hi, hz, hsize, hb⟩ := info_parts hinfo
  have hn : l.length + m.length ≤ 140737488355328 := by omega
  rcases his with ⟨hv, hy⟩ | ⟨ad, cap, hv, h1, h2, hc⟩
  · subst hy
    have hrun := run_append_owned_none (P := P) (w := w) base t o.type e i 3 ht hi v l.length _ hown
    have hk := h v w (by simpa using hown) (Below.refl _ _) (KeepT.refl _ _)
    unfold Oper.wp
    simp [execOp, ho, resolve, invoke, builtin, hs, hx.trans hv, hrun, Result.andThen]
    exact hk
  · refine wp_append_own w s x t ho base e i _ 3 40 ht hi hz hsize hb rfl (by decide) v l.length _ hs hown ad m.length cap (ccells m) (hx.trans hv) (ccells_len m) hc (ccells_cell m hone) (by unfold maxLen; omega) hlen hbase ?_
    intro v' w' ho' hg _
    refine h v' w' (by unfold OwnR; rw [ccells_app, List.length_append]; exact ho') ((Below.refl _ _).grown hg hbase fun k' hk => ?_) (KeepT.of_row hown hg)
    exact (World.ownsRow.lt hown k' hk).1

theorem RowC.front {w : World} {ad : Addr} {n cap : Nat} {l : List Cw} (h : RowC w (.slice (some ad) n cap) l) (p : Nat) (hp : p ≤ l.length) : RowC w (.slice (some ad) p cap) (l.take p) := by
  have hl : (l.take p).length = p := by rw [List.length_take]; omega
  rcases h with ⟨hv, _⟩ | ⟨ad', cap', hv, h1, h2, hc⟩
  · simp at hv
  · simp at hv
    obtain ⟨rfl, rfl, rfl⟩ := hv
    refine .inr ⟨ad, cap, by rw [hl], by omega, h2, fun j u hj => hc j u ?_⟩
    rw [ccells_take, List.getElem?_take] at hj
    split at hj
    · exact hj
    · simp at hj

theorem RowC.back {w : World} {b off n cap : Nat} {l : List Cw} (h : RowC w (.slice (some ⟨b, off, none⟩) n cap) l) (p : Nat) (hp : p < l.length) : RowC w (.slice (some ⟨b, off + p * 3, none⟩) (l.length - p) (cap - p)) (l.drop p) := by
  rcases h with ⟨hv, _⟩ | ⟨ad', cap', hv, h1, h2, hc⟩
  · simp at hv
  · simp at hv
    obtain ⟨rfl, rfl, rfl⟩ := hv
    refine .inr ⟨⟨b, off + p * 3, none⟩, cap - p, by simp, by simp; omega, by omega, fun j u hj => ?_⟩
    rw [ccells_drop, List.getElem?_drop] at hj
    have := hc _ _ hj
    rw [add_at] at this ⊢
    rw [Nat.add_assoc]
    exact this

/-- 'none := api.Fault{}'. -/
theorem none_step (w : World) (t : TypeId) : ∃ V, w.alloc (.cells #[.int .i64 0, .int .i64 0] t) = V ∧ V.heap.size = w.heap.size + 1 ∧ Below w.heap.size w V ∧ V.heap[w.heap.size]? = some (.cells #[.int .i64 0, .int .i64 0] t (0, 0)) ∧
    (V.cell? ⟨w.heap.size, 0, none⟩ = some (.int .i64 0) ∧ V.cell? ⟨w.heap.size, 1, none⟩ = some (.int .i64 0)) ∧ (V.frozen? ⟨w.heap.size, 0, none⟩ = false ∧ V.frozen? ⟨w.heap.size, 1, none⟩ = false) ∧
    (V.setCell ⟨w.heap.size, 0, none⟩ (.int .i64 0) = V ∧ V.setCell ⟨w.heap.size, 1, none⟩ (.int .i64 0) = V) := by
  obtain ⟨V, h1, h2, h3, h4⟩ := blk_step w #[.int .i64 0, .int .i64 0] t
  exact ⟨V, h1, h2, h3, h4, ⟨blk_cell h4 0 rfl, blk_cell h4 1 rfl⟩, ⟨blk_froz h4 0, blk_froz h4 1⟩, ⟨set_same h4 (j := 0) rfl, set_same h4 (j := 1) rfl⟩⟩

/-- No fault, or one. -/
theorem fol_two (r : List Cm.Cv) (ep nu : Int) : (Cm.Good ep nu r ∧ Cm.fol ep nu 0 r = (0, 0)) ∨ (¬ Cm.Good ep nu r ∧ (Cm.fol ep nu 0 r).1 ≠ 0) := by
  by_cases h : Cm.Good ep nu r
  · have h1 := (Cm.fol_good r ep nu 0).2 h
    exact .inl ⟨h, Prod.ext h1 (Cm.fol_at r ep nu 0 h1)⟩
  · exact .inr ⟨h, fun h1 => h ((Cm.fol_good r ep nu 0).1 h1)⟩

end Go.Proofs.Ythchcnflflafeaa
