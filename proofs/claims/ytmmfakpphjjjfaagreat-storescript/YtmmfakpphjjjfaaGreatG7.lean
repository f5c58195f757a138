/- Texts of one layer, one behind the other. -/
import Derived.Test.YtmmfakpphjjjfaaGreatG4
import Derived.Test.YtmmfakpphjjjfaaGreatG6
import Derived.Test.YtmmfakpphjjjfaaGreatG5
/- The contracts of the document's Append, Read, Small. -/
namespace Go.Proofs.YtmmfakpphjjjfaaGreat
open Go.RowKit
set_option linter.unusedVariables false

set_option maxHeartbeats 400000 in
theorem appR_any (vb : Value) (bs : List Int) (x : Int) (w : World) (hb : Is .u8 w vb bs) (hlb : bs.length ≤ 140737488353000) (h0 : 0 ≤ x) (h1 : x < 18446744073709551616) :
  Calls Tryz.prog 176 #[vb, .int .u64 x] w fun e w' => ∃ v, e = .returned v ∧ Own .u8 5 w.heap.size w' v (bs ++ Vm.enc x.toNat) ∧ Below w.heap.size w w' := by
 have hm := Vm.sz_le10 (x := x.toNat) (by omega)
 go_enter Tryz.func176, Tryz.ntmps176
 go_wp2_with (at_builtin; refine wpList_append_is rfl (.tmp 6) (.tmp 7) 66 rfl .u8 5 w.heap.size 1 Tryz.underlying66 Tryz.info5 (by decide) _ [] rfl (Own.nil _ _ _ _) _ bs rfl hb (by simp; omega) (Nat.le_refl _) ?_)
 intro v1 w1 own1 bel1 _
 go_wp2
 go_loopw [1, 5] (fun xx vv wr => ∃ (y : Int) (zs : List Int), 0 ≤ y ∧ y < 18446744073709551616 ∧ xx = .int .u64 y ∧ zs.length ≤ 140737488353010 ∧ Own .u8 5 w.heap.size wr vv zs ∧ zs ++ Vm.enc y.toNat = bs ++ Vm.enc x.toNat ∧ Below w.heap.size w wr) (fun xx _ _ => (intOf xx).toNat)
 case atStart => exact ⟨x, bs, h0, h1, rfl, by omega, own1, rfl, bel1⟩
 case round =>
  obtain ⟨y, zs, hy0, hy1, rfl, hl, own, heq, belr⟩ := hrel
  have HE := hide heq
  clear heq own1 bel1
  have szr := belr.size
  by_cases hy : 128 ≤ y
  ·have e1 : y % 128 % 256 = y % 128 := by omega
   have e2 : (y % 128 + 128) % 256 = y % 128 + 128 := by omega
   have W := wf_u8 (z := y % 128 + 128) (by omega) (by omega)
   go_wp2_with (at_builtin; refine wpList_append_is rfl (.tmp 11) (.tmp 16) 66 rfl .u8 5 w.heap.size 1 Tryz.underlying66 Tryz.info5 (by decide) _ zs rfl (own.below ((Below.refl _ _).alloc (Nat.le_refl _) _)) _ [y % 128 + 128] rfl (Is.one .u8 _ _ 5 W) (by simp; omega) (by simp; omega) ?_)
   intro v2 w2 own2 bel2 _
   have HE2 : zs ++ [y % 128 + 128] ++ Vm.enc (y / 128).toNat = bs ++ Vm.enc x.toNat := by
    rw [← HE.out, Vm.enc_hi (x := y.toNat) (by omega)]
    have : (y / 128).toNat = y.toNat / 128 := by omega
    have : ((y.toNat % 128 + 128 : Nat) : Int) = y % 128 + 128 := by omega
    simp_all
   have HL : zs.length + 1 ≤ 140737488353010 := by
    have := congrArg List.length HE2
    have := Vm.sz_pos (y / 128).toNat
    simp at *
    unfold Vm.sz at *
    omega
   have HE3 := hide HE2
   have b3 := (belr.alloc szr _).trans bel2
   clear HE2 own e1 e2
   go_wp2
   go_roundw
   case rel => exact ⟨y / 128, zs ++ [y % 128 + 128], by omega, by omega, rfl, by simp; omega, own2, HE3.out, b3⟩
   case measure => simp [intOf]; omega
  ·have e1 : y % 256 = y := by omega
   have W := wf_u8 (z := y) hy0 (by omega)
   go_wp2_with (at_builtin; refine wpList_append_is rfl (.tmp 20) (.tmp 23) 66 rfl .u8 5 w.heap.size 1 Tryz.underlying66 Tryz.info5 (by decide) _ zs rfl (own.below ((Below.refl _ _).alloc (Nat.le_refl _) _)) _ [y] rfl (Is.one .u8 _ _ 5 W) (by simp; omega) (by simp; omega) ?_)
   intro v2 w2 own2 bel2 _
   go_wp2
   go_ret
   refine ⟨_, rfl, ?_, (belr.alloc szr _).trans bel2⟩
   rw [← HE.out, Vm.enc_lo (x := y.toNat) (by omega), Int.toNat_of_nonneg hy0]
   exact own2

set_option maxHeartbeats 400000 in
theorem readR_any (vb : Value) (bs : List Int) (x n e : Int) (w : World) (hb : Is .u8 w vb bs) (hl : bs.length ≤ 150000000000000) (hR : Vm.Res bs x n e) :
  Calls Tryz.prog 168 #[vb] w fun E w' => E = .returned (.tuple #[.int .u64 x, .int .i64 n, .int .i64 e]) ∧ Below w.heap.size w w' := by
 by_cases hz : 0 < bs.length
 ·have hbyte := fun i => hb.byte i
  have HBY := hide hbyte
  obtain ⟨b1, o1, c1, rfl, _, _, hB1, hc1⟩ := hb.full hz
  have HC := hide hc1
  clear hc1 hbyte hb
  go_enter Tryz.func168, Tryz.ntmps168
  go_wp2
  go_loopw [5, 6] (fun xx nn wr => ∃ (acc : Nat) (k : Nat), k ≤ bs.length ∧ xx = .int .u64 acc ∧ nn = .int .i64 k ∧ ((k ≤ 9 ∧ Vm.Inv bs k acc) ∨ (k = 10 ∧ ∀ u : Nat, u < 18446744073709551616 → ¬ Vm.enc u <+: bs)) ∧ Below w.heap.size w wr) (fun _ nn _ => 10 - (intOf nn).toNat)
  case atStart => exact ⟨0, 0, by omega, rfl, rfl, .inl ⟨by omega, Vm.inv_start bs⟩, Below.refl _ _⟩
  case round =>
   obtain ⟨acc, k, hk2, rfl, rfl, hst, bel⟩ := hrel
   have HST := hide hst
   clear hst
   by_cases hlt : k < bs.length
   ·by_cases hk9 : k ≤ 9
    ·have HI : Hid (Vm.Inv bs k acc) := by
      rcases HST.out with ⟨_, h⟩ | ⟨h, _⟩
      ·exact h
      ·omega
     clear HST
     have g1 := (bel.cell (p := ⟨b1, o1 + k, none⟩) hB1).trans (HC.out k hlt)
     have hlt' : (k : Int) < bs.length := by omega
     have hc0 := HBY.out k
     generalize hcc : bs.getD k 0 = c at *
     have HCC := hide hcc
     have h71 := wrap_u64_small (c % 128) (by omega) (by omega)
     have hfit := Vm.dd_fits c HI.out hk9
     have e1 := or_shift_cut acc k c hc0.1 hc0.2 hk9 HI.out.1 hfit
     clear hcc
     generalize hna : acc + Vm.dd k c * 128 ^ k = na at *
     have HNA := hide hna
     clear hna
     by_cases h128 : c < 128
     ·go_wp2_with fail
      refine (appR_any _ [] na _ (Is.nil _ _) (by simp) (by omega) (by omega)).mono ?_
      rintro E w1 ⟨v1, rfl, own1, bel1⟩
      rw [Int.toNat_natCast, List.nil_append] at own1
      have bel2 := bel.trans (bel1.mono bel.size)
      obtain ⟨b2, o2, c2, hv, hcap, hcm, _, hc2⟩ := own1.is.full (Vm.sz_pos na)
      subst hv
      have HC2 := hide hc2
      clear hc2 own1 bel bel1
      have hm10 : (Vm.enc na).length ≤ 10 := Vm.sz_le10 hfit
      by_cases hsz : Vm.sz na = k + 1
      ·have hlen : (Vm.enc na).length = k + 1 := hsz
       have g2 := HC2.out k (by rw [hlen]; omega)
       generalize (Vm.enc na).length = m at *
       have ht : ((m : Int) != (k : Int) + 1) = false := by simp; omega
       have hkm : (k : Int) < m := by omega
       have HSZ := hide hsz
       clear hlen hsz
       by_cases hd : (Vm.enc na).getD k 0 = c
       ·rw [hd] at g2
        have HD := hide hd
        clear hd
        have hcc : (c != c) = false := by simp
        go_wp2
        go_ret3
        have G := @Vm.dd_good bs k acc c HI.out hlt HCC.out hc0.1 h128
        rw [HNA.out] at G
        exact ⟨ret3 (good_ret hR hfit (G HSZ.out HD.out) HSZ.out), bel2⟩
       ·have G := @Vm.dd_bad_last bs k acc c HI.out hk9 hlt HCC.out hc0.1 h128
        rw [HNA.out] at G
        have HG := hide (G HSZ.out hd)
        have hcc : ((Vm.enc na).getD k 0 != c) = true := by simpa using hd
        clear G hd
        generalize (Vm.enc na).getD k 0 = d at *
        go_wp2
        go_ret3
        exact ⟨ret3 (Vm.res_bad hR HG.out), bel2⟩
      ·have G := @Vm.dd_bad_len bs k acc c HI.out hk9 hlt HCC.out hc0.1 h128
       rw [HNA.out] at G
       have HG := hide (G hsz)
       have hlen : (Vm.enc na).length ≠ k + 1 := hsz
       generalize (Vm.enc na).length = m at *
       have ht : ((m : Int) != (k : Int) + 1) = true := by simp; omega
       clear G hsz hlen
       go_wp2
       go_ret3
       exact ⟨ret3 (Vm.res_bad hR HG.out), bel2⟩
     ·by_cases h9 : k = 9
      ·have HT : Hid (∀ u : Nat, u < 18446744073709551616 → ¬ Vm.enc u <+: bs) := by
        have h1 := HI.out
        have h2 := HCC.out
        rw [h9] at h1 h2 hlt
        exact Vm.inv_ten h1 hlt h2 (by omega) hc0.2
       have h10 : k + 1 = 10 := by omega
       have H10 := hide h10
       clear h9 h10
       go_wp2
       go_roundw
       case rel => exact ⟨na, k + 1, by omega, rfl, by go_num, .inr ⟨H10.out, HT.out⟩, bel⟩
       case measure => simp [intOf]; omega
      ·have HN := hide (Vm.inv_step HI.out hlt HCC.out (by omega) hc0.2)
       have e : Vm.dd k c = (c % 128).toNat := by unfold Vm.dd; rw [if_pos (by omega)]
       have HN2 : Hid (Vm.Inv bs (k + 1) na) := by
        have := HNA.out
        rw [e] at this
        rw [← this]
        exact HN.out
       clear e HN
       go_wp2
       go_roundw
       case rel => exact ⟨na, k + 1, by omega, rfl, by go_num, .inl ⟨by omega, HN2.out⟩, bel⟩
       case measure => simp [intOf]; omega
    ·have HB : Hid (∀ u : Nat, u < 18446744073709551616 → ¬ Vm.enc u <+: bs) := by
      rcases HST.out with ⟨h, _⟩ | ⟨_, h⟩
      ·omega
      ·exact h
     clear HST
     go_wp2
     go_ret3
     exact ⟨ret3 (Vm.res_bad hR HB.out), bel⟩
   ·have HB : Hid (∀ u : Nat, u < 18446744073709551616 → ¬ Vm.enc u <+: bs) := by
     rcases HST.out with ⟨_, h⟩ | ⟨_, h⟩
     ·exact Vm.inv_short h (by omega)
     ·exact h
    clear HST
    go_wp2
    go_ret3
    exact ⟨ret3 (Vm.res_bad hR HB.out), bel⟩
 ·have hx : bs = [] := List.eq_nil_of_length_eq_zero (by omega)
  subst hx
  obtain ⟨a1, c1, rfl⟩ := hb.bare
  clear hb hl hz
  go_enter Tryz.func168, Tryz.ntmps168
  go_wp2
  refine wp_loop_rounds 1 ?_
  rw [rounds_succ]
  go_wp2
  go_ret3
  exact ⟨ret3 (Vm.res_bad hR (fun u _ => Vm.pre_nil u)), Below.refl _ _⟩

set_option maxHeartbeats 400000 in
theorem smallR_any (vb : Value) (bs : List Int) (most u i g : Int) (w : World) (hb : Is .u8 w vb bs) (hl : bs.length ≤ 150000000000000) (hm : most < 9223372036854775808) (hm' : -9223372036854775808 ≤ most) (hS : SRes bs most u i g) :
  Calls Tryz.prog 151 #[vb, .int .i64 most] w fun E w' => E = .returned (.tuple #[.int .i64 u, .int .i64 i, .int .i64 g]) ∧ Below w.heap.size w w' := by
 rcases hS with ⟨hR, h0, h1, hg⟩ | ⟨hu, hi, hg, x, n, e, hR, hcase⟩
 ·have hbd := Vm.res_bounds hR
  have hq : ((0 : Int) != 0) = false := by simp
  subst hg
  go_enter Tryz.func151, Tryz.ntmps151
  go_wp2_with (go_at_call 168; refine (readR_any _ _ _ _ _ _ hb hl hR).mono ?_; rintro E w1 ⟨rfl, bel⟩)
  go_ret3
  exact ⟨rfl, bel⟩
 ·have hbd := Vm.res_bounds hR
  subst hu hi hg
  rcases hcase with he | ⟨he, h | ⟨h, h'⟩⟩
  ·subst he
   go_enter Tryz.func151, Tryz.ntmps151
   go_wp2_with (go_at_call 168; refine (readR_any _ _ _ _ _ _ hb hl hR).mono ?_; rintro E w1 ⟨rfl, bel⟩)
   go_ret3
   exact ⟨rfl, bel⟩
  ·subst he
   go_enter Tryz.func151, Tryz.ntmps151
   go_wp2_with (go_at_call 168; refine (readR_any _ _ _ _ _ _ hb hl hR).mono ?_; rintro E w1 ⟨rfl, bel⟩)
   go_ret3
   exact ⟨rfl, bel⟩
  ·subst he
   go_enter Tryz.func151, Tryz.ntmps151
   go_wp2_with (go_at_call 168; refine (readR_any _ _ _ _ _ _ hb hl hR).mono ?_; rintro E w1 ⟨rfl, bel⟩)
   go_ret3
   exact ⟨rfl, bel⟩

set_option maxHeartbeats 400000 in
theorem putR_any (vb : Value) (bs : List Int) (x : Int) (w : World) (hb : Is .u8 w vb bs) (hl : bs.length ≤ 140737488352900) (h0 : 0 ≤ x) (h1 : x < 9223372036854775808) :
  Calls Tryz.prog 162 #[vb, .int .i64 x] w fun e w' => ∃ v, e = .returned v ∧ Own .u8 5 w.heap.size w' v (bs ++ Vm.enc x.toNat) ∧ Below w.heap.size w w' := by
 go_enter Tryz.func162, Tryz.ntmps162
 go_wp2_with fail
 refine (appR_any _ bs x _ hb (by omega) (by omega) (by omega)).mono ?_
 rintro E w1 ⟨v1, rfl, own1, bel1⟩
 go_wp2
 go_ret
 exact ⟨_, rfl, own1, bel1⟩

set_option maxHeartbeats 400000 in
theorem oappR_any (vb : Value) (bs : List Int) (p : Bool) (k v : ByteArray) (w : World) (hb : Is .u8 w vb bs) (hl : bs.length ≤ 140737488351232) (hk : k.size ≤ 140737488351232) (hv : v.size ≤ 140737488351232) :
  Calls Tryz.prog 163 #[vb, opv p k v] w fun E w' => ∃ v', E = .returned (.tuple #[v', .int .i64 (Om.chk p k.data.toList v.data.toList)]) ∧ Own .u8 5 w.heap.size w' v' (Om.appd bs p k.data.toList v.data.toList) ∧ Below w.heap.size w w' := by
 obtain ⟨w0, hw0, sz0, bel0, cell0⟩ := alloc_step w #[.bool p, .string k, .string v] 65
 have c0 := cell0 0 _ rfl
 have c1 := cell0 1 _ rfl
 have c2 := cell0 2 _ rfl
 clear cell0
 have hb0 := hb.below bel0
 unfold opv
 rcases Om.chk_two p k.data.toList v.data.toList with hc | hc
 ·obtain ⟨ao, cap, hshape, _, _⟩ := hb.shape
  subst hshape
  have hh := Om.chk_ok' hc
  rw [← Lib.size_eq, ← Lib.size_eq] at hh
  have hh1 := hh.2.1
  have hh2 := hh.2.2.1
  rw [Om.appd_ok hc, hc]
  have HC := hide hc
  clear hc hh
  cases p
  ·have hc64 := Om.cnt_le (s := k.data.toList) (by rw [← Lib.size_eq]; omega)
   have hek : Om.cnt k.data.toList = Vm.enc k.size ++ Om.ints k.data.toList := by unfold Om.cnt; rw [← Lib.size_eq]
   have hev : Om.cnt v.data.toList = Vm.enc v.size ++ Om.ints v.data.toList := by unfold Om.cnt; rw [← Lib.size_eq]
   have h10 : (Vm.enc k.size).length ≤ 10 := Vm.sz_le10 (x := k.size) (by omega)
   have h11 : (Vm.enc v.size).length ≤ 10 := Vm.sz_le10 (x := v.size) (by omega)
   have HEK := hide hek
   have HEV := hide hev
   clear hek hev
   go_enter Tryz.func163, Tryz.ntmps163
   go_wp2_with fail
   refine (checkR_any false k v _ hk hv).mono ?_
   rintro E w1 ⟨rfl, bel1⟩
   rw [HC.out]
   have d0 := (bel1.cell (p := ⟨w.heap.size, 0, none⟩) (by simp [sz0])).trans c0
   have d1 := (bel1.cell (p := ⟨w.heap.size, 1, none⟩) (by simp [sz0])).trans c1
   have d2 := (bel1.cell (p := ⟨w.heap.size, 2, none⟩) (by simp [sz0])).trans c2
   have hb1 := hb0.below bel1
   have sz1 := bel1.size
   have bel01 : Below w.heap.size w w1 := bel0.trans (bel1.mono bel0.size)
   clear c0 c1 c2 hb0 hw0 bel0 bel1
   go_wp2_with (at_builtin; refine wpList_append_is rfl (.tmp 14) (.tmp 15) 66 rfl .u8 5 (w.heap.size + 1) 1 Tryz.underlying66 Tryz.info5 (by decide) _ [] rfl (Own.nil _ _ _ _) _ bs rfl hb1 (by simp; omega) (by omega) ?_)
   intro v4 w4 own4 bel4 _
   have sz4 := bel4.size
   have g0 := (bel4.cell (p := ⟨w.heap.size, 0, none⟩) (by simp)).trans d0
   have g1 := (bel4.cell (p := ⟨w.heap.size, 1, none⟩) (by simp)).trans d1
   have g2 := (bel4.cell (p := ⟨w.heap.size, 2, none⟩) (by simp)).trans d2
   have bel04 : Below w.heap.size w w4 := bel01.trans (bel4.mono (by omega))
   clear d0 d1 d2 hb1 bel01 bel4
   obtain ⟨w5, hw5, sz5, bel5, own5⟩ := own_step .u8 5 w4 #[.int .u8 0] 1 [0] rfl rfl (by simp [maxLen]) (by simp [wf_u8])
   go_wp2_with (at_builtin; refine wpList_append_is rfl (.tmp 19) (.tmp 21) 66 rfl .u8 5 (w.heap.size + 1) 1 Tryz.underlying66 Tryz.info5 (by decide) _ bs rfl (own4.below bel5) _ [0] rfl own5.is (by simp; omega) (by omega) ?_)
   intro v6 w6 own6 bel6 _
   have sz6 := bel6.size
   have k0 := (bel6.cell (p := ⟨w.heap.size, 0, none⟩) (by simp)).trans ((bel5.cell (p := ⟨w.heap.size, 0, none⟩) (by simp; omega)).trans g0)
   have k1 := (bel6.cell (p := ⟨w.heap.size, 1, none⟩) (by simp)).trans ((bel5.cell (p := ⟨w.heap.size, 1, none⟩) (by simp; omega)).trans g1)
   have k2 := (bel6.cell (p := ⟨w.heap.size, 2, none⟩) (by simp)).trans ((bel5.cell (p := ⟨w.heap.size, 2, none⟩) (by simp; omega)).trans g2)
   have bel06 : Below w.heap.size w w6 := (bel04.trans (bel5.mono (by omega))).trans (bel6.mono (by omega))
   clear g0 g1 g2 own4 own5 bel04 bel5 bel6 hw5
   have hl6 : (bs ++ [0]).length ≤ 140737488351233 := by rw [List.length_append]; simp; omega
   generalize hz6 : bs ++ [0] = z6 at *
   have HZ6 := hide hz6
   clear hz6
   go_wp2_with fail
   refine (putR_any _ _ k.size _ own6.is (by omega) (by omega) (by omega)).mono ?_
   rintro E w7 ⟨v7, rfl, own7, bel7⟩
   rw [Int.toNat_natCast] at own7
   have sz7 := bel7.size
   have m0 := (bel7.cell (p := ⟨w.heap.size, 0, none⟩) (by simp; omega)).trans k0
   have m1 := (bel7.cell (p := ⟨w.heap.size, 1, none⟩) (by simp; omega)).trans k1
   have m2 := (bel7.cell (p := ⟨w.heap.size, 2, none⟩) (by simp; omega)).trans k2
   have bel07 : Below w.heap.size w w7 := bel06.trans (bel7.mono (by omega))
   clear k0 k1 k2 own6 bel06 bel7
   have hl7 : (z6 ++ Vm.enc k.size).length ≤ 140737488351300 := by rw [List.length_append]; omega
   generalize hz7 : z6 ++ Vm.enc k.size = z7 at *
   have HZ7 := hide hz7
   clear hz7
   go_wp2_with (at_builtin; refine wpList_append_str rfl (.tmp 28) (.tmp 30) 66 9 rfl 5 (w.heap.size + 1) Tryz.underlying66 Tryz.underlying9 Tryz.info5 _ z7 rfl (own7.rebase (by omega)) k rfl (by omega) (by omega) ?_)
   intro v8 w8 own8 bel8
   have sz8 := bel8.size
   have r0 := (bel8.cell (p := ⟨w.heap.size, 0, none⟩) (by simp)).trans m0
   have r1 := (bel8.cell (p := ⟨w.heap.size, 1, none⟩) (by simp)).trans m1
   have r2 := (bel8.cell (p := ⟨w.heap.size, 2, none⟩) (by simp)).trans m2
   have bel08 : Below w.heap.size w w8 := bel07.trans (bel8.mono (by omega))
   clear m0 m1 m2 own7 bel07 bel8
   have hl8 : (z7 ++ Om.ints k.data.toList).length ≤ 140737488351400 := by rw [List.length_append, Om.ints_len, ← Lib.size_eq]; omega
   generalize hz8 : z7 ++ Om.ints k.data.toList = z8 at *
   have HZ8 := hide hz8
   clear hz8
   have own9 : Own .u8 5 w.heap.size w8 v8 (bs ++ Om.opEnc false k.data.toList v.data.toList) := by
    have : bs ++ Om.opEnc false k.data.toList v.data.toList = z8 := by rw [← HZ8.out, ← HZ7.out, ← HZ6.out]; unfold Om.opEnc; rw [HEK.out]; simp
    rw [this]
    exact own8.rebase (by omega)
   go_wp2
   go_ret2
   exact ⟨_, rfl, own9, bel08⟩
  ·have hc64 := Om.cnt_le (s := k.data.toList) (by rw [← Lib.size_eq]; omega)
   have hek : Om.cnt k.data.toList = Vm.enc k.size ++ Om.ints k.data.toList := by unfold Om.cnt; rw [← Lib.size_eq]
   have hev : Om.cnt v.data.toList = Vm.enc v.size ++ Om.ints v.data.toList := by unfold Om.cnt; rw [← Lib.size_eq]
   have h10 : (Vm.enc k.size).length ≤ 10 := Vm.sz_le10 (x := k.size) (by omega)
   have h11 : (Vm.enc v.size).length ≤ 10 := Vm.sz_le10 (x := v.size) (by omega)
   have HEK := hide hek
   have HEV := hide hev
   clear hek hev
   go_enter Tryz.func163, Tryz.ntmps163
   go_wp2_with fail
   refine (checkR_any true k v _ hk hv).mono ?_
   rintro E w1 ⟨rfl, bel1⟩
   rw [HC.out]
   have d0 := (bel1.cell (p := ⟨w.heap.size, 0, none⟩) (by simp [sz0])).trans c0
   have d1 := (bel1.cell (p := ⟨w.heap.size, 1, none⟩) (by simp [sz0])).trans c1
   have d2 := (bel1.cell (p := ⟨w.heap.size, 2, none⟩) (by simp [sz0])).trans c2
   have hb1 := hb0.below bel1
   have sz1 := bel1.size
   have bel01 : Below w.heap.size w w1 := bel0.trans (bel1.mono bel0.size)
   clear c0 c1 c2 hb0 hw0 bel0 bel1
   go_wp2_with (at_builtin; refine wpList_append_is rfl (.tmp 14) (.tmp 15) 66 rfl .u8 5 (w.heap.size + 1) 1 Tryz.underlying66 Tryz.info5 (by decide) _ [] rfl (Own.nil _ _ _ _) _ bs rfl hb1 (by simp; omega) (by omega) ?_)
   intro v4 w4 own4 bel4 _
   have sz4 := bel4.size
   have g0 := (bel4.cell (p := ⟨w.heap.size, 0, none⟩) (by simp)).trans d0
   have g1 := (bel4.cell (p := ⟨w.heap.size, 1, none⟩) (by simp)).trans d1
   have g2 := (bel4.cell (p := ⟨w.heap.size, 2, none⟩) (by simp)).trans d2
   have bel04 : Below w.heap.size w w4 := bel01.trans (bel4.mono (by omega))
   clear d0 d1 d2 hb1 bel01 bel4
   obtain ⟨w5, hw5, sz5, bel5, own5⟩ := own_step .u8 5 w4 #[.int .u8 1] 1 [1] rfl rfl (by simp [maxLen]) (by simp [wf_u8])
   go_wp2_with (at_builtin; refine wpList_append_is rfl (.tmp 19) (.tmp 21) 66 rfl .u8 5 (w.heap.size + 1) 1 Tryz.underlying66 Tryz.info5 (by decide) _ bs rfl (own4.below bel5) _ [1] rfl own5.is (by simp; omega) (by omega) ?_)
   intro v6 w6 own6 bel6 _
   have sz6 := bel6.size
   have k0 := (bel6.cell (p := ⟨w.heap.size, 0, none⟩) (by simp)).trans ((bel5.cell (p := ⟨w.heap.size, 0, none⟩) (by simp; omega)).trans g0)
   have k1 := (bel6.cell (p := ⟨w.heap.size, 1, none⟩) (by simp)).trans ((bel5.cell (p := ⟨w.heap.size, 1, none⟩) (by simp; omega)).trans g1)
   have k2 := (bel6.cell (p := ⟨w.heap.size, 2, none⟩) (by simp)).trans ((bel5.cell (p := ⟨w.heap.size, 2, none⟩) (by simp; omega)).trans g2)
   have bel06 : Below w.heap.size w w6 := (bel04.trans (bel5.mono (by omega))).trans (bel6.mono (by omega))
   clear g0 g1 g2 own4 own5 bel04 bel5 bel6 hw5
   have hl6 : (bs ++ [1]).length ≤ 140737488351233 := by rw [List.length_append]; simp; omega
   generalize hz6 : bs ++ [1] = z6 at *
   have HZ6 := hide hz6
   clear hz6
   go_wp2_with fail
   refine (putR_any _ _ k.size _ own6.is (by omega) (by omega) (by omega)).mono ?_
   rintro E w7 ⟨v7, rfl, own7, bel7⟩
   rw [Int.toNat_natCast] at own7
   have sz7 := bel7.size
   have m0 := (bel7.cell (p := ⟨w.heap.size, 0, none⟩) (by simp; omega)).trans k0
   have m1 := (bel7.cell (p := ⟨w.heap.size, 1, none⟩) (by simp; omega)).trans k1
   have m2 := (bel7.cell (p := ⟨w.heap.size, 2, none⟩) (by simp; omega)).trans k2
   have bel07 : Below w.heap.size w w7 := bel06.trans (bel7.mono (by omega))
   clear k0 k1 k2 own6 bel06 bel7
   have hl7 : (z6 ++ Vm.enc k.size).length ≤ 140737488351300 := by rw [List.length_append]; omega
   generalize hz7 : z6 ++ Vm.enc k.size = z7 at *
   have HZ7 := hide hz7
   clear hz7
   go_wp2_with (at_builtin; refine wpList_append_str rfl (.tmp 28) (.tmp 30) 66 9 rfl 5 (w.heap.size + 1) Tryz.underlying66 Tryz.underlying9 Tryz.info5 _ z7 rfl (own7.rebase (by omega)) k rfl (by omega) (by omega) ?_)
   intro v8 w8 own8 bel8
   have sz8 := bel8.size
   have r0 := (bel8.cell (p := ⟨w.heap.size, 0, none⟩) (by simp)).trans m0
   have r1 := (bel8.cell (p := ⟨w.heap.size, 1, none⟩) (by simp)).trans m1
   have r2 := (bel8.cell (p := ⟨w.heap.size, 2, none⟩) (by simp)).trans m2
   have bel08 : Below w.heap.size w w8 := bel07.trans (bel8.mono (by omega))
   clear m0 m1 m2 own7 bel07 bel8
   have hl8 : (z7 ++ Om.ints k.data.toList).length ≤ 140737488351400 := by rw [List.length_append, Om.ints_len, ← Lib.size_eq]; omega
   generalize hz8 : z7 ++ Om.ints k.data.toList = z8 at *
   have HZ8 := hide hz8
   clear hz8
   go_wp2_with fail
   refine (putR_any _ _ v.size _ own8.is (by omega) (by omega) (by omega)).mono ?_
   rintro E w9 ⟨v9, rfl, own9, bel9⟩
   rw [Int.toNat_natCast] at own9
   have sz9 := bel9.size
   have m2 := (bel9.cell (p := ⟨w.heap.size, 2, none⟩) (by simp; omega)).trans r2
   have bel09 : Below w.heap.size w w9 := bel08.trans (bel9.mono (by omega))
   clear own8 bel08 bel9 r0 r1 r2
   have hl9 : (z8 ++ Vm.enc v.size).length ≤ 140737488352900 := by rw [List.length_append]; omega
   generalize hz9 : z8 ++ Vm.enc v.size = z9 at *
   have HZ9 := hide hz9
   clear hz9
   go_wp2_with (at_builtin; refine wpList_append_str rfl (.tmp 39) (.tmp 41) 66 9 rfl 5 (w.heap.size + 1) Tryz.underlying66 Tryz.underlying9 Tryz.info5 _ z9 rfl (own9.rebase (by omega)) v rfl (by omega) (by omega) ?_)
   intro vx wx ownx belx
   have owny : Own .u8 5 w.heap.size wx vx (bs ++ Om.opEnc true k.data.toList v.data.toList) := by
    have : bs ++ Om.opEnc true k.data.toList v.data.toList = z9 ++ Om.ints v.data.toList := by rw [← HZ9.out, ← HZ8.out, ← HZ7.out, ← HZ6.out]; unfold Om.opEnc; rw [HEK.out, HEV.out]; simp
    rw [this]
    exact ownx.rebase (by omega)
   go_wp2
   go_ret2
   exact ⟨_, rfl, owny, bel09.trans (belx.mono (by omega))⟩
 ·rw [Om.appd_no hc, hc]
  have HC := hide hc
  clear hc
  go_enter Tryz.func163, Tryz.ntmps163
  go_wp2_with fail
  refine (checkR_any p k v _ hk hv).mono ?_
  rintro E w1 ⟨rfl, bel1⟩
  rw [HC.out]
  go_wp2
  go_ret2
  exact ⟨_, rfl, Own.nil _ _ _ _, bel0.trans (bel1.mono bel0.size)⟩

set_option maxHeartbeats 400000 in
theorem bcheckR_any (vl : Value) (l : List Bm.Ov) (w : World) (h : IsO w vl l) (hf : FitO l) (hl : l.length ≤ 140737488355328) :
  Calls Tryz.prog 129 #[vl] w fun E w' => E = .returned (.int .i64 (Bm.chkL l)) ∧ Below w.heap.size w w' := by
 by_cases h0 : l.length = 0
 ·have : l = [] := List.eq_nil_of_length_eq_zero h0
  subst this
  obtain ⟨ao, cap, rfl⟩ := h.bare
  clear h hf hl h0
  go_enter Tryz.func129, Tryz.ntmps129
  go_wp2
  go_ret
  exact ⟨rfl, Below.refl _ _⟩
 ·by_cases h8 : 8 < l.length
  ·obtain ⟨ao, cap, rfl, _, _⟩ := h.shape
   rw [Bm.chkL_long h8]
   clear h hf
   have e0 : ((l.length : Int) == 0) = false := by rw [beq_eq_false_iff_ne]; omega
   have e8 : (8 : Int) < l.length := by omega
   go_enter Tryz.func129, Tryz.ntmps129
   go_wp2
   go_ret
   exact ⟨rfl, Below.refl _ _⟩
  ·obtain ⟨b1, o1, c1, rfl, _, _, hB, hcell⟩ := h.full (by omega)
   rw [Bm.chkL_mid h0 h8]
   have e0 : ((l.length : Int) == 0) = false := by rw [beq_eq_false_iff_ne]; omega
   have e8 : ¬ (8 : Int) < l.length := by omega
   clear h
   generalize hn : l.length = n at *
   have HN := hide hn
   have HC := hide hcell
   have HF := hide hf
   clear hn hcell hf
   go_enter Tryz.func129, Tryz.ntmps129
   go_wp2
   go_loopw [3] (fun i wr => ∃ (k : Nat), k ≤ n ∧ i = .int .i64 k ∧ Hid (∀ q ∈ l.take k, q.c = 0) ∧ Below w.heap.size w wr) (fun i _ => n - (intOf i).toNat)
   case atStart => exact ⟨0, by omega, rfl, hide (by simp), Below.refl _ _⟩
   case round =>
    obtain ⟨k, hk, rfl, HT, bel⟩ := hrel
    by_cases hlt : k < n
    ·obtain ⟨o, ho⟩ : ∃ o, l[k]? = some o := ⟨l[k]'(by have := HN.out; omega), by rw [List.getElem?_eq_getElem]⟩
     obtain ⟨c0, c1, c2⟩ := HC.out k o ho
     have sz := bel.size
     have d0 := (bel.cell (p := ⟨b1, o1 + k * 3, none⟩) hB).trans c0
     have d1 := (bel.cell (p := ⟨b1, o1 + k * 3 + 1, none⟩) hB).trans c1
     have d2 := (bel.cell (p := ⟨b1, o1 + k * 3 + 2, none⟩) hB).trans c2
     have HO := hide ho
     clear c0 c1 c2 ho
     have hlt' : (k : Int) < n := by omega
     obtain ⟨hk1, hv1⟩ := HF.out o (List.mem_of_getElem? HO.out)
     go_wp2_with fail
     refine (checkR_any o.p o.k o.v _ hk1 hv1).mono ?_
     rintro E w1 ⟨rfl, bel1⟩
     have bel2 : Below w.heap.size w w1 := bel.trans (bel1.mono sz)
     clear bel1 d0 d1 d2
     rcases (show Om.chk o.p o.k.data.toList o.v.data.toList = 0 ∨ _ from Om.chk_two _ _ _) with hc | hc
     ·rw [hc]
      have HT2 := hide (first_take HT.out HO.out hc)
      clear hc
      go_wp2
      go_roundw
      case rel => exact ⟨k + 1, by omega, by go_num, HT2, bel2⟩
      case measure => simp [intOf]; omega
     ·rw [hc]
      have HB := hide (Bm.first_bad (List.mem_of_getElem? HO.out) (show Bm.Ov.c o ≠ 0 by unfold Bm.Ov.c Bm.Ov.kl Bm.Ov.vl; rw [hc]; simp))
      clear hc
      go_wp2
      go_ret
      exact ⟨ret_i64 HB.out.symm, bel2⟩
    ·have hkn : k = n := by omega
     have HB : Hid (Bm.first l = 0) := hide (Bm.first_all (fun q hq => HT.out q (by rw [List.take_of_length_le (by have := HN.out; omega)]; exact hq)))
     have hlt' : ¬ (k : Int) < n := by omega
     go_wp2
     go_ret
     exact ⟨ret_i64 HB.out.symm, bel⟩

theorem inb_any (x : Int) (w : World) : Calls Tryz.prog 156 #[.int .i64 x] w fun E w' => E = .returned (.bool (decide (1 ≤ x ∧ x ≤ 1048576))) ∧ w = w' := by
 go_enter Tryz.func156, Tryz.ntmps156
 by_cases h1 : 1 ≤ x
 ·by_cases h2 : x ≤ 1048576
  ·go_wp2
   go_ret
   exact ⟨by simp [h1, h2], rfl⟩
  ·go_wp2
   go_ret
   exact ⟨by simp; omega, rfl⟩
 ·go_wp2
  go_ret
  exact ⟨by simp; omega, rfl⟩

set_option maxHeartbeats 400000 in
theorem ccheck_any (e n : Int) (v : Value) (l : List Bm.Ov) (w : World) (h : IsO w v l) (hf : FitO l) (hl : l.length ≤ 140737488355328) :
  Calls Tryz.prog 125 #[cmv e n v] w fun E w' => E = .returned (.int .i64 (Cm.chk e n l)) ∧ Below w.heap.size w w' := by
 unfold cmv
 obtain ⟨w1, hw1, sz1, bel1, hB⟩ := blk_step w #[.int .i64 e, .int .i64 n, v] 50
 have c0 := blk_cell hB 0 rfl
 have c1 := blk_cell hB 1 rfl
 have c2 := blk_cell hB 2 rfl
 have h1 := h.below bel1
 obtain ⟨ao, cap, rfl, _, _⟩ := h.shape
 clear hB
 go_enter Tryz.func125, Tryz.ntmps125
 by_cases he : 1 ≤ e ∧ e ≤ 1048576
 ·have he' : decide (1 ≤ e ∧ e ≤ 1048576) = true := by simp [he]
  by_cases hn : 1 ≤ n ∧ n ≤ 1048576
  ·have hn' : decide (1 ≤ n ∧ n ≤ 1048576) = true := by simp [hn]
   rw [Cm.chk_in ⟨he.1, he.2, hn.1, hn.2⟩]
   clear he hn
   go_wp2_with fail
   refine (inb_any e _).mono ?_
   rintro E w2 ⟨rfl, rfl⟩
   rw [he']
   go_wp2_with fail
   refine (inb_any n _).mono ?_
   rintro E w2 ⟨rfl, rfl⟩
   rw [hn']
   go_wp2_with fail
   refine (bcheck_any _ l _ h1 hf hl).mono ?_
   rintro E w3 ⟨rfl, bel3⟩
   have bel03 := bel1.trans (bel3.mono (by omega))
   go_wp2
   go_ret
   exact ⟨rfl, bel03⟩
  ·have hn' : decide (1 ≤ n ∧ n ≤ 1048576) = false := by simpa using hn
   rw [Cm.chk_out (by omega)]
   clear he hn
   go_wp2_with fail
   refine (inb_any e _).mono ?_
   rintro E w2 ⟨rfl, rfl⟩
   rw [he']
   go_wp2_with fail
   refine (inb_any n _).mono ?_
   rintro E w2 ⟨rfl, rfl⟩
   rw [hn']
   go_wp2
   go_ret
   exact ⟨rfl, bel1⟩
 ·have he' : decide (1 ≤ e ∧ e ≤ 1048576) = false := by simpa using he
  rw [Cm.chk_out (by omega)]
  clear he
  go_wp2_with fail
  refine (inb_any e _).mono ?_
  rintro E w2 ⟨rfl, rfl⟩
  rw [he']
  go_wp2
  go_ret
  exact ⟨rfl, bel1⟩

set_option maxHeartbeats 400000 in
theorem ccheckR_any (e n : Int) (v : Value) (l : List Bm.Ov) (w : World) (h : IsO w v l) (hf : FitO l) (hl : l.length ≤ 140737488355328) :
  Calls Tryz.prog 83 #[cmv e n v] w fun E w' => E = .returned (.int .i64 (Cm.chk e n l)) ∧ Below w.heap.size w w' := by
 unfold cmv
 obtain ⟨w1, hw1, sz1, bel1, hB⟩ := blk_step w #[.int .i64 e, .int .i64 n, v] 50
 have c0 := blk_cell hB 0 rfl
 have c1 := blk_cell hB 1 rfl
 have c2 := blk_cell hB 2 rfl
 have h1 := h.below bel1
 obtain ⟨ao, cap, rfl, _, _⟩ := h.shape
 clear hB
 go_enter Tryz.func83, Tryz.ntmps83
 by_cases hin : 1 ≤ e ∧ e ≤ 1048576 ∧ 1 ≤ n ∧ n ≤ 1048576
 ·rw [Cm.chk_in hin]
  obtain ⟨g1, g2, g3, g4⟩ := hin
  go_wp2_with fail
  refine (bcheckR_any _ l _ h1 hf hl).mono ?_
  rintro E w3 ⟨rfl, bel3⟩
  have bel03 := bel1.trans (bel3.mono (by omega))
  go_wp2
  go_ret
  exact ⟨rfl, bel03⟩
 ·rw [Cm.chk_out hin]
  by_cases g1 : e < 1
  ·go_wp2
   go_ret
   exact ⟨rfl, bel1⟩
  ·by_cases g2 : 1048576 < e
   ·go_wp2
    go_ret
    exact ⟨rfl, bel1⟩
   ·by_cases g3 : n < 1
    ·go_wp2
     go_ret
     exact ⟨rfl, bel1⟩
    ·have g4 : 1048576 < n := by omega
     go_wp2
     go_ret
     exact ⟨rfl, bel1⟩

def sameC (e n : Int) (l : List Bm.Ov) (e' n' : Int) (l' : List Bm.Ov) : Bool := (e == e') && ((n == n') && Bm.sameL l l')

theorem sameC_self (e n : Int) (l : List Bm.Ov) : sameC e n l e n l = true := by simp [sameC, Bm.sameL_self]

set_option maxHeartbeats 400000 in
theorem csameK_any (e n : Int) (v : Value) (l : List Bm.Ov) (e' n' : Int) (v' : Value) (l' : List Bm.Ov) (w : World) (h : IsO w v l) (h' : IsO w v' l') (hl : l.length ≤ 140737488355328) (hl' : l'.length ≤ 140737488355328) :
  Calls Tryz.prog 47 #[cmv e n v, cmv e' n' v'] w fun E w' => E = .returned (.bool (sameC e n l e' n' l')) ∧ Below w.heap.size w w' := by
 unfold cmv
 obtain ⟨w1, hw1, sz1, bel1, hB⟩ := blk_step w #[.int .i64 e, .int .i64 n, v] 50
 obtain ⟨w2, hw2, sz2, bel2, hC⟩ := blk_step w1 #[.int .i64 e', .int .i64 n', v'] 50
 rw [sz1] at hC
 have hB2 := (bel2.block _ (blk_lt hB)).trans hB
 have c0 := blk_cell hB2 0 rfl
 have c1 := blk_cell hB2 1 rfl
 have c2 := blk_cell hB2 2 rfl
 have d0 := blk_cell hC 0 rfl
 have d1 := blk_cell hC 1 rfl
 have d2 := blk_cell hC 2 rfl
 have bel02 : Below w.heap.size w w2 := bel1.trans (bel2.mono (by omega))
 have i1 := h.below bel02
 have i2 := h'.below bel02
 obtain ⟨ao, cap, rfl, _, _⟩ := h.shape
 obtain ⟨ao', cap', rfl, _, _⟩ := h'.shape
 clear hB hC hB2 bel1 bel2
 go_enter Tryz.func47, Tryz.ntmps47
 by_cases he : e = e'
 ·have he' : (e == e') = true := by simp [he]
  by_cases hn : n = n'
  ·have hn' : (n == n') = true := by simp [hn]
   have hs : sameC e n l e' n' l' = Bm.sameL l l' := by simp [sameC, he', hn']
   rw [hs]
   clear he hn hs
   go_wp2_with fail
   refine (sameO_any _ _ l l' _ i1 i2 hl hl').mono ?_
   rintro E w3 ⟨rfl, bel3⟩
   have bel03 := bel02.trans (bel3.mono (by omega))
   go_wp2
   go_ret
   exact ⟨rfl, bel03⟩
  ·have hn' : (n == n') = false := by simpa using hn
   have hs : sameC e n l e' n' l' = false := by simp [sameC, hn']
   rw [hs]
   clear he hn hs
   go_wp2
   go_ret
   exact ⟨rfl, bel02⟩
 ·have he' : (e == e') = false := by simpa using he
  have hs : sameC e n l e' n' l' = false := by simp [sameC, he']
  rw [hs]
  clear he hs
  go_wp2
  go_ret
  exact ⟨rfl, bel02⟩

def behind : Bm.Ov := ⟨true, ⟨#[98, 101, 104, 105, 110, 100]⟩, ⟨#[]⟩⟩

set_option maxHeartbeats 400000 in
theorem copyO_any (vl : Value) (l : List Bm.Ov) (w : World) (h : IsO w vl l) (hl : l.length * 40 ≤ 140737488355328) :
  Calls Tryz.prog 120 #[vl] w fun e w' => ∃ v, e = .returned v ∧ OwnO 65 w.heap.size w' v l ∧ Below w.heap.size w w' := by
 obtain ⟨w1, hw1, sz1, bel1, own1⟩ := ops_step 65 w #[] 0 [] rfl rfl (by simp [maxLen])
 have h1 := h.below bel1
 go_enter Tryz.func120, Tryz.ntmps120
 go_wp2_with (at_builtin; refine wpList_append_ops rfl (.tmp 3) (.tmp 4) 48 rfl 65 w.heap.size Tryz.underlying48 Tryz.info65 _ [] rfl own1 _ l rfl h1 (by simp; omega) (by omega) ?_)
 intro v2 w2 own2 bel2 _
 go_wp2
 go_ret
 exact ⟨_, rfl, by simpa using own2, bel1.trans bel2⟩

set_option maxHeartbeats 400000 in
theorem lentO_any (vl : Value) (l : List Bm.Ov) (w : World) (h : IsO w vl l) (hl : l.length * 40 ≤ 140737488351232) :
  Calls Tryz.prog 76 #[vl] w fun e w' => ∃ v, e = .returned v ∧ OwnO 65 w.heap.size w' v (l ++ [behind, behind, behind]) ∧ Below w.heap.size w w' := by
 have hc : l.length * 40 ≤ 140737488355328 := by omega
 have HK : Hid (∀ k : Nat, k < 3 → ((l ++ List.replicate k behind).length + [behind].length) * 40 ≤ 140737488355328) := hide (fun k hk => by
  rw [List.length_append, List.length_replicate, List.length_singleton]
  omega)
 have HC := hide hc
 clear hl hc
 go_enter Tryz.func76, Tryz.ntmps76
 go_wp2_with fail
 refine (copyO_any vl l _ h HC.out).mono ?_
 rintro E w0 ⟨v0, rfl, own0, bel0⟩
 have own0' : OwnO 65 w.heap.size w0 v0 (l ++ List.replicate 0 behind) := by simpa using own0
 clear own0
 go_wp2
 go_loopw [3, 4] (fun ov iv wr => ∃ k : Nat, k ≤ 3 ∧ iv = .int .i64 k ∧ OwnO 65 w.heap.size wr ov (l ++ List.replicate k behind) ∧ Below w.heap.size w wr) (fun _ iv _ => 3 - (intOf iv).toNat)
 case atStart => exact ⟨0, by omega, rfl, own0', bel0⟩
 case round =>
  obtain ⟨k, hk, rfl, own, bel⟩ := hrel
  have sz := bel.size
  by_cases hlt : k < 3
  ·have hlt' : (k : Int) < 3 := by omega
   obtain ⟨w1, hw1, sz1, bel1, own1⟩ := ops_step 65 wr #[.bool true, .string ⟨#[98, 101, 104, 105, 110, 100]⟩, .string ⟨#[]⟩] 1 [behind] rfl rfl (by simp [maxLen])
   have own' := own.below bel1
   go_wp2_with (at_builtin; refine wpList_append_ops rfl (.tmp 11) (.tmp 13) 48 rfl 65 w.heap.size Tryz.underlying48 Tryz.info65 _ _ rfl own' _ [behind] rfl own1.is (HK.out k hlt) (by omega) ?_)
   intro v2 w2 own2 bel2 _
   have e2 : l ++ (List.replicate k behind ++ [behind]) = l ++ List.replicate (k + 1) behind := by rw [List.replicate_succ']
   rw [e2] at own2
   have bel3 := (bel.trans (bel1.mono sz)).trans bel2
   clear own own' own1 bel1 bel2 e2
   go_wp2
   go_roundw
   case rel => exact ⟨k + 1, by omega, by go_num, own2, bel3⟩
   case measure => simp [intOf]; omega
  ·have hke : k = 3 := by omega
   subst hke
   go_wp2
   go_ret
   exact ⟨_, rfl, own, bel⟩

set_option maxHeartbeats 400000 in
theorem keptO_yes (vf vl : Value) (l fs : List Bm.Ov) (w : World) (hf : IsO w vf fs) (hl : IsO w vl l) (hll : l.length * 40 ≤ 140737488351232) (he : fs = l ++ [behind, behind, behind]) :
  Calls Tryz.prog 86 #[vf, vl] w fun e w' => e = .returned (.bool true) ∧ Below w.heap.size w w' := by
 have hfl : fs.length ≤ 140737488355328 := by rw [he]; simp; omega
 have HE := hide he
 have HL := hide hll
 clear he hll
 go_enter Tryz.func86, Tryz.ntmps86
 go_wp2_with fail
 refine (lentO_any vl l _ hl HL.out).mono ?_
 rintro E w1 ⟨v1, rfl, own1, bel1⟩
 rw [← HE.out] at own1
 go_wp2_with fail
 refine (sameO_any _ _ fs fs _ (hf.below bel1) own1.is (by omega) (by omega)).mono ?_
 rintro E w2 ⟨rfl, bel2⟩
 rw [Bm.sameL_self]
 go_wp2
 go_ret
 exact ⟨rfl, bel1.trans (bel2.mono bel1.size)⟩

end Go.Proofs.YtmmfakpphjjjfaaGreat
