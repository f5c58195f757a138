/- Texts of one layer, one behind the other. -/
import Derived.Test.YtkpnkknolobioaaGreatG2
import Derived.Test.YtkpnkknolobioaaGreatG1
import Derived.Lib.Strings
import Derived.Lib.AppendStr
import Derived.Lib.UnsafeStr
import Derived.Deep.RegionLaw
import Derived.Laws.OwnMore
/- The contracts of varint Size, Append, Read, Small. -/
namespace Go.Proofs.YtkpnkknolobioaaGreat
open Go.RowKit
set_option linter.unusedVariables false

theorem size_done {y : Int} {n m : Nat} (h0 : 0 ≤ y) (hs : Vm.sz y.toNat + n = m + 1) (h : (y / 128 == 0) = true) : (n : Int) = m := by
  have h := beq_iff_eq.1 h
  have := Vm.sz_lo (x := y.toNat) (by omega)
  omega

theorem size_next {y : Int} {n m : Nat} (h0 : 0 ≤ y) (hs : Vm.sz y.toNat + n = m + 1) (hm : m ≤ 10) (h : (y / 128 == 0) = false) :
    Vm.sz (y / 128).toNat + (n + 1) = m + 1 ∧ n + 1 ≤ 10 ∧ (y / 128).toNat < y.toNat := by
  have h := beq_eq_false_iff_ne.1 h
  have := Vm.sz_hi (x := y.toNat) (by omega)
  have e : (y / 128).toNat = y.toNat / 128 := by omega
  have := Vm.sz_pos (y / 128).toNat
  rw [e] at *
  omega

set_option maxHeartbeats 400000 in
theorem size_any (x : Int) (w : World) (h0 : 0 ≤ x) (h1 : x < 18446744073709551616) :
    Calls Tryz.prog 89 #[.int .u64 x] w fun e w' => e = .returned (.int .i64 (Vm.sz x.toNat)) ∧ w = w' := by
  have hm := Vm.sz_le10 (x := x.toNat) (by omega)
  go_enter Tryz.func89, Tryz.ntmps89
  go_wp2
  go_loop [0, 3] (fun xx nn => ∃ (y : Int) (n : Nat), 0 ≤ y ∧ y < 18446744073709551616 ∧ 1 ≤ n ∧ n ≤ 10 ∧ xx = .int .u64 y ∧ nn = .int .i64 n ∧ Vm.sz y.toNat + n = Vm.sz x.toNat + 1) (fun xx _ => (intOf xx).toNat)
  case atStart => exact ⟨x, 1, h0, h1, by omega, by omega, rfl, rfl, rfl⟩
  case round =>
    obtain ⟨y, n, hy0, hy1, hn0, hn1, rfl, rfl, hs⟩ := hrel
    have HS : Hid (Vm.sz y.toNat + n = Vm.sz x.toNat + 1) := hs
    clear hs
    go_wp2
    · have hb : (y / 128 == 0) = true := by assumption
      go_ret
      exact ⟨ret_i64 (size_done hy0 HS.out hb), rfl⟩
    · have hb : (y / 128 == 0) = false := by assumption
      have R := size_next hy0 HS.out hm hb
      go_round
      case rel => exact ⟨y / 128, n + 1, by omega, by omega, by omega, R.2.1, rfl, by go_num, R.1⟩
      case measure => simp [intOf]; omega

set_option maxHeartbeats 400000 in
theorem app_any (vb : Value) (bs : List Int) (x : Int) (w : World) (hb : Is .u8 w vb bs) (hlb : bs.length ≤ 140737488351232) (h0 : 0 ≤ x) (h1 : x < 18446744073709551616) :
    Calls Tryz.prog 75 #[vb, .int .u64 x] w fun e w' => ∃ v, e = .returned v ∧ Own .u8 5 w.heap.size w' v (bs ++ Vm.enc x.toNat) ∧ Below w.heap.size w w' := by
  have hm := Vm.sz_le10 (x := x.toNat) (by omega)
  obtain ⟨ao, cap, hv⟩ : ∃ ao cap, vb = .slice ao bs.length cap := by
    rcases hb.2 with ⟨h, e⟩ | ⟨ad, cap, hv, _⟩
    · subst e; exact ⟨none, 0, h⟩
    · exact ⟨some ad, cap, hv⟩
  subst hv
  obtain ⟨i0, hi, hz0, hz1, hz2⟩ := info_parts Tryz.info5
  go_enter Tryz.func75, Tryz.ntmps75
  go_wp2_with (first | (go_at_call 89; refine (size_any x _ h0 h1).mono ?_; rintro e w' ⟨rfl, rfl⟩) | (at_make; refine wpList_make_own _ rfl _ _ 22 rfl w.heap.size 5 i0 (.int .u8 0) 1 Tryz.underlying22 hi hz0 hz1 _ _ _ (bs.length + Vm.sz x.toNat) rfl rfl (by omega) ?b2 ?b3 (Nat.le_refl _) ?_))
  case b2 => rw [hz2]; omega
  case b3 => unfold maxLen; omega
  intro w0 hown0 hgrow0
  have bel0 : Below w.heap.size w w0 := (Below.refl _ _).grown hgrow0 (Nat.le_refl _) (by simp)
  have own0 : Own .u8 5 w.heap.size w0 (.slice (some ⟨w.heap.size, 0, none⟩) 0 (bs.length + Vm.sz x.toNat)) [] := ⟨by simp, hown0⟩
  have is0 := hb.below bel0
  have sz0 := bel0.size
  clear hown0 hgrow0
  go_wp2_with (at_builtin; refine wpList_append_is rfl (.tmp 12) (.tmp 13) 22 rfl .u8 5 w.heap.size 1 Tryz.underlying22 Tryz.info5 (by decide) _ [] rfl own0 _ bs rfl is0 (by simp; omega) sz0 ?_)
  intro v1 w1 own1 bel1 _
  have bel := bel0.trans bel1
  clear own0 is0 bel0 bel1 sz0
  go_wp2
  go_loopw [1, 5] (fun xx vv wr => ∃ (y : Int) (zs : List Int), 0 ≤ y ∧ y < 18446744073709551616 ∧ xx = .int .u64 y ∧ zs.length ≤ 140737488351242 ∧ Own .u8 5 w.heap.size wr vv zs ∧ zs ++ Vm.enc y.toNat = bs ++ Vm.enc x.toNat ∧ Below w.heap.size w wr) (fun xx _ _ => (intOf xx).toNat)
  case atStart => exact ⟨x, bs, h0, h1, rfl, by omega, own1, rfl, bel⟩
  case round =>
    obtain ⟨y, zs, hy0, hy1, rfl, hl, own, heq, belr⟩ := hrel
    have HE := hide heq
    clear heq own1 bel
    have szr := belr.size
    by_cases hy : y ≤ 127
    · have e1 : y % 256 = y := by omega
      have W := wf_u8 (z := y) hy0 (by omega)
      go_wp2_with (at_builtin; refine wpList_append_is rfl (.tmp 17) (.tmp 20) 22 rfl .u8 5 w.heap.size 1 Tryz.underlying22 Tryz.info5 (by decide) _ zs rfl (own.below ((Below.refl _ _).alloc (Nat.le_refl _) _)) _ [y] rfl (Is.one .u8 _ _ 5 W) (by simp; omega) (by simp; omega) ?_)
      intro v2 w2 own2 bel2 _
      go_wp2
      go_ret
      refine ⟨_, rfl, ?_, (belr.alloc szr _).trans bel2⟩
      rw [← HE.out, Vm.enc_lo (x := y.toNat) (by omega), Int.toNat_of_nonneg hy0]
      exact own2
    · have e1 := and127_u64 y hy0 hy1
      have e2 : y % 128 % 256 = y % 128 := by omega
      have e3 := or128_u8 (y % 128) (by omega) (by omega)
      have W := wf_u8 (z := y % 128 + 128) (by omega) (by omega)
      go_wp2_with (at_builtin; refine wpList_append_is rfl (.tmp 22) (.tmp 27) 22 rfl .u8 5 w.heap.size 1 Tryz.underlying22 Tryz.info5 (by decide) _ zs rfl (own.below ((Below.refl _ _).alloc (Nat.le_refl _) _)) _ [y % 128 + 128] rfl (Is.one .u8 _ _ 5 W) (by simp; omega) (by simp; omega) ?_)
      intro v2 w2 own2 bel2 _
      have HE2 : zs ++ [y % 128 + 128] ++ Vm.enc (y / 128).toNat = bs ++ Vm.enc x.toNat := by
        rw [← HE.out, Vm.enc_hi (x := y.toNat) (by omega)]
        have : (y / 128).toNat = y.toNat / 128 := by omega
        have : ((y.toNat % 128 + 128 : Nat) : Int) = y % 128 + 128 := by omega
        simp_all
      have HL : zs.length + 1 ≤ 140737488351242 := by
        have := congrArg List.length HE2
        have := Vm.sz_pos (y / 128).toNat
        simp at *
        unfold Vm.sz at *
        omega
      have HE3 := hide HE2
      have b3 := (belr.alloc szr _).trans bel2
      clear HE2 own e1 e2 e3
      go_wp2
      go_roundw
      case rel => exact ⟨y / 128, zs ++ [y % 128 + 128], by omega, by omega, rfl, by simp; omega, own2, HE3.out, b3⟩
      case measure => simp [intOf]; omega

theorem ret3 {x n e x' n' e' : Int} (h : x = x' ∧ n = n' ∧ e = e') : Ending.returned (.tuple #[.int .u64 x', .int .i64 n', .int .i64 e']) = .returned (.tuple #[.int .u64 x, .int .i64 n, .int .i64 e]) := by
  obtain ⟨rfl, rfl, rfl⟩ := h; rfl

theorem good_ret {bs : List Int} {x n e : Int} (hR : Vm.Res bs x n e) {u k : Nat} (hu : u < 18446744073709551616) (hp : Vm.enc u <+: bs) (hs : Vm.sz u = k + 1) : x = (u : Int) ∧ n = (k : Int) + 1 ∧ e = 0 := by
  have := Vm.res_good hR hu hp
  omega

set_option maxHeartbeats 400000 in
theorem read_any (vb : Value) (bs : List Int) (x n e : Int) (w : World) (hb : Is .u8 w vb bs) (hl : bs.length ≤ 150000000000000) (hR : Vm.Res bs x n e) :
    Calls Tryz.prog 104 #[vb] w fun E w' => E = .returned (.tuple #[.int .u64 x, .int .i64 n, .int .i64 e]) ∧ w = w' := by
  by_cases hz : 0 < bs.length
  · have hbyte := fun i => hb.byte i
    have HBY := hide hbyte
    obtain ⟨b1, o1, c1, rfl, _, _, hB1, hc1⟩ := hb.full hz
    have HC := hide hc1
    clear hc1 hbyte hb
    go_enter Tryz.func104, Tryz.ntmps104
    go_wp2
    go_loop [2, 3] (fun xx nn => ∃ (acc : Nat) (k : Nat), k ≤ 9 ∧ k ≤ bs.length ∧ xx = .int .u64 acc ∧ nn = .int .i64 k ∧ Vm.Inv bs k acc) (fun _ nn => 10 - (intOf nn).toNat)
    case atStart => exact ⟨0, 0, by omega, by omega, rfl, rfl, Vm.inv_start bs⟩
    case round =>
      obtain ⟨acc, k, hk, hk2, rfl, rfl, hinv⟩ := hrel
      have HI := hide hinv
      clear hinv
      by_cases hlt : k < bs.length
      · have hq : ((k : Int) == (bs.length : Int)) = false := by simp; omega
        have g1 := HC.out k hlt
        have hlt' : (k : Int) < bs.length := by omega
        have hc0 := HBY.out k
        generalize hcc : bs.getD k 0 = c at *
        have HCC := hide hcc
        have h70 := and127_u8 c hc0.1 hc0.2
        have h71 := wrap_u64_small (c % 128) (by omega) (by omega)
        clear hcc
        by_cases h9 : k = 9
        · have h9' : ((k : Int) == 9) = true := by simp [h9]
          have H9 := hide h9
          have HI9 : Hid (Vm.Inv bs 9 acc) := by have := HI.out; rw [h9] at this; exact this
          have HC9 : Hid (bs.getD 9 0 = c) := by have := HCC.out; rw [h9] at this; exact this
          clear h9
          by_cases hc1 : 1 < c
          · go_wp2
            go_ret3
            exact ⟨ret3 (Vm.res_bad hR (Vm.inv_wide HI9.out (by rw [← H9.out]; exact hlt) HC9.out hc1 hc0.2)), rfl⟩
          · have hfit : acc + (c % 128).toNat * 128 ^ k < 18446744073709551616 := by rw [H9.out]; exact Vm.inv_fits9 HI9.out hc0.1 (by omega)
            have e1 := or_shift acc k (c % 128) (by omega) HI.out.1 hfit
            generalize hna : acc + (c % 128).toNat * 128 ^ k = na at *
            have HNA := hide hna
            clear hna
            have hk1 : 1 ≤ k := by have := H9.out; omega
            have hk1' : 1 < (k : Int) + 1 := by omega
            by_cases hcz : c = 0
            · have hcz' : (c == 0) = true := by simp [hcz]
              have HZ := hide hcz
              clear hcz
              go_wp2
              go_ret3
              exact ⟨ret3 (Vm.res_bad hR (Vm.inv_zero HI.out hlt (HCC.out.trans HZ.out) hk1)), rfl⟩
            · have hcz' : (c == 0) = false := by simp [hcz]
              have G := hide (Vm.inv_end HI.out hlt HCC.out hc0.1 (by omega) (.inl (by omega)))
              go_wp2
              go_ret3
              have G := G.out
              rw [HNA.out] at G
              exact ⟨ret3 (good_ret hR hfit G.1 G.2), rfl⟩
        · have h9' : ((k : Int) == 9) = false := by simp; omega
          have hfit := Vm.inv_fits HI.out (c := c) (by omega) hc0.1
          have e1 := or_shift acc k (c % 128) (by omega) HI.out.1 hfit
          generalize hna : acc + (c % 128).toNat * 128 ^ k = na at *
          have HNA := hide hna
          clear hna
          by_cases h128 : c ≤ 127
          · by_cases hk1 : 1 ≤ k
            · have hk1' : 1 < (k : Int) + 1 := by omega
              by_cases hcz : c = 0
              · have hcz' : (c == 0) = true := by simp [hcz]
                have HZ := hide hcz
                clear hcz
                go_wp2
                go_ret3
                exact ⟨ret3 (Vm.res_bad hR (Vm.inv_zero HI.out hlt (HCC.out.trans HZ.out) hk1)), rfl⟩
              · have hcz' : (c == 0) = false := by simp [hcz]
                have G := hide (Vm.inv_end HI.out hlt HCC.out hc0.1 (by omega) (.inl (by omega)))
                go_wp2
                go_ret3
                have G := G.out
                rw [HNA.out] at G
                exact ⟨ret3 (good_ret hR hfit G.1 G.2), rfl⟩
            · have hk1' : ¬ 1 < (k : Int) + 1 := by omega
              have G := hide (Vm.inv_end HI.out hlt HCC.out hc0.1 (by omega) (.inr (by omega)))
              go_wp2
              go_ret3
              have G := G.out
              rw [HNA.out] at G
              exact ⟨ret3 (good_ret hR hfit G.1 G.2), rfl⟩
          · go_wp2
            go_round
            case rel => exact ⟨na, k + 1, by omega, by omega, rfl, by go_num, by have := Vm.inv_step HI.out hlt HCC.out (by omega) hc0.2; rw [HNA.out] at this; exact this⟩
            case measure => simp [intOf]; omega
      · have hq : ((k : Int) == (bs.length : Int)) = true := by simp; omega
        go_wp2
        go_ret3
        exact ⟨ret3 (Vm.res_bad hR (Vm.inv_short HI.out (by omega))), rfl⟩
  · have hx : bs = [] := List.eq_nil_of_length_eq_zero (by omega)
    subst hx
    obtain ⟨a1, c1, rfl⟩ := hb.bare
    clear hb hl hz
    go_enter Tryz.func104, Tryz.ntmps104
    go_wp2
    refine wp_loop_rounds 1 ?_
    rw [rounds_succ]
    go_wp2
    go_ret3
    exact ⟨ret3 (Vm.res_bad hR (fun u _ => Vm.pre_nil u)), rfl⟩

/-- What Small comes to. -/
def SRes (bs : List Int) (most u i g : Int) : Prop :=
  (Vm.Res bs u i 0 ∧ 0 ≤ most ∧ u ≤ most ∧ g = 0) ∨ (u = 0 ∧ i = 0 ∧ g = 5 ∧ ∃ x n e, Vm.Res bs x n e ∧ (e = 5 ∨ (e = 0 ∧ (most < 0 ∨ (0 ≤ most ∧ most < x)))))

theorem sres_is (bs : List Int) (most : Int) : ∃ u i g, SRes bs most u i g := by
  obtain ⟨x, n, e, hR⟩ := Vm.res_is bs
  have hb := Vm.res_bounds hR
  by_cases h : e = 0 ∧ 0 ≤ most ∧ x ≤ most
  · obtain ⟨rfl, h1, h2⟩ := h
    exact ⟨x, n, 0, .inl ⟨hR, h1, h2, rfl⟩⟩
  · exact ⟨0, 0, 5, .inr ⟨rfl, rfl, rfl, x, n, e, hR, by omega⟩⟩

set_option maxHeartbeats 400000 in
theorem small_any (vb : Value) (bs : List Int) (most u i g : Int) (w : World) (hb : Is .u8 w vb bs) (hl : bs.length ≤ 150000000000000) (hm : most < 9223372036854775808) (hm' : -9223372036854775808 ≤ most) (hS : SRes bs most u i g) :
    Calls Tryz.prog 95 #[vb, .int .i64 most] w fun E w' => E = .returned (.tuple #[.int .i64 u, .int .i64 i, .int .i64 g]) ∧ w = w' := by
  rcases hS with ⟨hR, h0, h1, hg⟩ | ⟨hu, hi, hg, x, n, e, hR, hcase⟩
  · have hbd := Vm.res_bounds hR
    have hq : ((0 : Int) != 0) = false := by simp
    subst hg
    go_enter Tryz.func95, Tryz.ntmps95
    go_wp2_with (go_at_call 104; refine (read_any _ _ _ _ _ _ hb hl hR).mono ?_; rintro E w1 ⟨rfl, rfl⟩)
    go_ret3
    exact ⟨rfl, rfl⟩
  · have hbd := Vm.res_bounds hR
    subst hu hi hg
    rcases hcase with he | ⟨he, h | ⟨h, h'⟩⟩
    · subst he
      go_enter Tryz.func95, Tryz.ntmps95
      go_wp2_with (go_at_call 104; refine (read_any _ _ _ _ _ _ hb hl hR).mono ?_; rintro E w1 ⟨rfl, rfl⟩)
      go_ret3
      exact ⟨rfl, rfl⟩
    · subst he
      go_enter Tryz.func95, Tryz.ntmps95
      go_wp2_with (go_at_call 104; refine (read_any _ _ _ _ _ _ hb hl hR).mono ?_; rintro E w1 ⟨rfl, rfl⟩)
      go_ret3
      exact ⟨rfl, rfl⟩
    · subst he
      go_enter Tryz.func95, Tryz.ntmps95
      go_wp2_with (go_at_call 104; refine (read_any _ _ _ _ _ _ hb hl hR).mono ?_; rintro E w1 ⟨rfl, rfl⟩)
      go_ret3
      exact ⟨rfl, rfl⟩

end Go.Proofs.YtkpnkknolobioaaGreat

/- The contracts of op's Check, size. -/
namespace Go.Proofs.YtkpnkknolobioaaGreat
open Go.RowKit
set_option linter.unusedVariables false

/-- An op as a value. -/
def opv (p : Bool) (k v : ByteArray) : Value := .agg #[.bool p, .string k, .string v]

theorem chk_size (p : Bool) (k v : ByteArray) : Om.chk p k.data.toList v.data.toList = if 1 ≤ k.size ∧ k.size ≤ 16 ∧ v.size ≤ 32 ∧ (p = true ∨ v.toList.isEmpty = true) then 0 else 2 := by
  unfold Om.chk
  simp only [Lib.toList_data, List.isEmpty_iff, Lib.size_eq]

set_option maxHeartbeats 400000 in
theorem check_any (p : Bool) (k v : ByteArray) (w : World) (hk : k.size ≤ 140737488351232) (hv : v.size ≤ 140737488351232) :
    Calls Tryz.prog 101 #[opv p k v] w fun E w' => E = .returned (.int .i64 (Om.chk p k.data.toList v.data.toList)) ∧ Below w.heap.size w w' := by
  unfold opv
  obtain ⟨c, hc⟩ : ∃ c, Om.chk p k.data.toList v.data.toList = c := ⟨_, rfl⟩
  rw [hc]
  have HC := hide hc
  clear hc
  go_enter Tryz.func101, Tryz.ntmps101
  go_wp2
  all_goals go_ret
  all_goals refine ⟨ret_i64 ?_, (Below.refl _ _).alloc (Nat.le_refl _) _⟩
  all_goals rw [← HC.out, chk_size]
  all_goals clear HC
  all_goals (cases p <;> simp_all <;> first | omega | (intros; omega))

section
variable {P : Program} {w : World} {ops : Array Oper} {rest : List Oper} {o : Oper} {a : Act} {Q : Exit → Act → World → Prop}

/-- 'out = append(out, s...)', s a string. -/
theorem wpList_append_str (hgd : o.guard = none) (sl x : Operand) (t u : TypeId)
    (ho : o.op = .call { callee := .builtin .append, args := #[sl, x], argTypes := #[t, u] })
    (e : TypeId) (base : Nat) (ht : P.underlying t = some (.slice e)) (hu : P.underlying u = some .string) (hinfo : (P.info? e).map (fun i => (i.zero, i.size, i.bytes)) = some (some (.int .u8 0), 1, 1))
    (v : Value) (zs : List Int) (hs : a.eval sl = v) (hown : Own .u8 e base w v zs) (s : ByteArray) (hx : a.eval x = .string s)
    (hlen : zs.length + s.size ≤ 140737488355328) (hbase : base ≤ w.heap.size)
    (h : ∀ v' w', Own .u8 e base w' v' (zs ++ Om.ints s.data.toList) → Below base w w' → wpList P ops Q rest (a.put o.dst v') w') : wpList P ops Q (o :: rest) a w := by
  obtain ⟨i, hi, hz, hsize, hb⟩ := info_parts hinfo
  refine Lib.wpList_append_own_string w hgd sl x t u ho base e i ht hu hi hz hsize hb v zs.length _ hs hown.2 s hx (by unfold maxLen; omega) hlen hbase fun v' w' h1 h2 _ => ?_
  refine h v' w' ⟨?_, ?_⟩ ((Below.refl _ _).grown h2 hbase fun k' hk => (hown.2.lt k' hk).1)
  · intro z hz
    rcases List.mem_append.1 hz with hz | hz
    · exact hown.1 z hz
    · unfold Om.ints at hz
      obtain ⟨c, _, rfl⟩ := List.mem_map.1 hz
      have := c.toNat_lt
      exact wf_u8 (by omega) (by omega)
  · have e1 : zs.length + s.size = (zs ++ Om.ints s.data.toList).length := by rw [List.length_append, Om.ints_len, Lib.size_eq]
    rw [e1] at h1
    simpa [Lib.strCells_eq, Lib.byteCells, Om.ints, List.map_append, Function.comp_def] using h1

end

end Go.Proofs.YtkpnkknolobioaaGreat

/- A cut of a row of integers, told as one fact of the slice expression; its length. No program. -/
namespace Go.Proofs.YtkpnkknolobioaaGreat
open Go.RowKit
set_option linter.unusedVariables false

section
variable {P : Program} {k : IntKind} {w : World} {v : Value} {zs : List Int}

/-- 'v[l:p]'. -/
theorem Is.slice_lh (h : Is k w v zs) {t : TypeId} (ht : P.underlying t = some (.slice (P.elem t))) (hs : ∀ wx, (sizeOf (P.elem t)).run P wx = .ok 1 wx) (l p : Nat) (hl : l ≤ p) (hp : p ≤ zs.length) :
    ∃ vs, (∀ wx, (Instr.slice t v (some (.int .i64 l)) (some (.int .i64 p)) none).run P wx = .ok vs wx) ∧ Is k w vs ((zs.drop l).take (p - l)) := by
  have hlen : ((zs.drop l).take (p - l)).length = p - l := by rw [List.length_take, List.length_drop]; omega
  have hwf : ∀ z ∈ (zs.drop l).take (p - l), (Lit.int k z).wf = true := fun z hz => h.1 z (List.mem_of_mem_drop (List.mem_of_mem_take hz))
  rcases h.2 with ⟨hv, hz⟩ | ⟨ad, cap, hv, h1, h2, hc⟩
  · subst hz hv
    simp at hp
    subst hp
    obtain rfl : l = 0 := by omega
    refine ⟨.slice none 0 0, fun wx => ?_, Is.nil _ _⟩
    rw [run_slice_lh wx t none 0 0 ht .i64 .i64 _ _ (by omega) (by omega) (by omega), hs]
    rfl
  · subst hv
    by_cases hcl : cap = l
    · have hpl : p = l := by omega
      subst hpl
      refine ⟨.slice (some ad) 0 0, fun wx => ?_, hwf, .inr ⟨ad, 0, by rw [hlen]; simp, by rw [hlen]; simp, by simp, fun i hi => by rw [hlen] at hi; omega⟩⟩
      rw [run_slice_lh wx t (some ad) zs.length cap ht .i64 .i64 _ _ (by omega) (by omega) (by omega), hs]
      simp [Result.andThen, sliced, hcl]
    · refine ⟨.slice (some (ad.add l)) (p - l) (cap - l), fun wx => ?_, hwf, .inr ⟨ad.add l, cap - l, by rw [hlen], by rw [hlen]; omega, by omega, fun i hi => ?_⟩⟩
      · rw [run_slice_lh wx t (some ad) zs.length cap ht .i64 .i64 _ _ (by omega) (by omega) (by omega), hs]
        simp [Result.andThen, sliced, hcl]
      · rw [hlen] at hi
        have e : (ad.add l).add i = ad.add (l + i) := by
          unfold Addr.add
          by_cases h0 : l = 0 <;> by_cases h3 : i = 0 <;> simp [h0, h3, Nat.add_assoc]
        rw [e, hc (l + i) (by omega)]
        simp [List.getD, hi]

/-- 'v[l:]'. -/
theorem Is.slice_l (h : Is k w v zs) {t : TypeId} (ht : P.underlying t = some (.slice (P.elem t))) (hs : ∀ wx, (sizeOf (P.elem t)).run P wx = .ok 1 wx) (l : Nat) (hl : l ≤ zs.length) :
    ∃ vs, (∀ wx, (Instr.slice t v (some (.int .i64 l)) none none).run P wx = .ok vs wx) ∧ Is k w vs (zs.drop l) := by
  obtain ⟨vs, h1, h2⟩ := h.slice_lh ht hs l zs.length hl (Nat.le_refl _)
  rw [List.take_of_length_le (by simp)] at h2
  refine ⟨vs, fun wx => ?_, h2⟩
  obtain ⟨ao, cap, rfl, hcap, _⟩ := h.shape
  rw [← h1 wx, run_slice_lh wx t ao zs.length cap ht .i64 .i64 _ _ (by omega) (by omega) (by omega), run_slice_l wx t ao zs.length cap ht .i64 _ (by omega) (by omega)]
  simp

/-- 'len(v)'. -/
theorem Is.len_run (h : Is k w v zs) {t : TypeId} (ht : P.underlying t = some (.slice (P.elem t))) : ∀ ty wx, (Builtin.len_ #[t] ty #[v]).run P wx = .ok (goInt zs.length) wx := by
  intro ty wx
  obtain ⟨ao, cap, rfl, _, _⟩ := h.shape
  simp [Builtin.len_, run_underlying ht]

end

/-- 'append(out, xs...)' inside a region that draws its order: out nil or the call's own, xs whatever slice of the same numbers. -/
theorem step_append_is {P : Program} {ops : Array Oper} {o : Oper} {a : Act} {w : World} {K : Act → World → Prop} {Q : Exit → Act → World → Prop} {E : Prop} (hgd : o.guard = none) (s x : Operand) (t : TypeId)
    (ho : o.op = .call { callee := .builtin .append, args := #[s, x], argTypes := #[t, t] })
    (k : IntKind) (e : TypeId) (base bytes : Nat) (ht : P.underlying t = some (.slice e)) (hinfo : (P.info? e).map (fun i => (i.zero, i.size, i.bytes)) = some (some (.int k 0), 1, bytes)) (hby : 0 < bytes ∧ bytes ≤ 65536)
    (v : Value) (zs : List Int) (hs : a.eval s = v) (hown : Own k e base w v zs) (vx : Value) (ys : List Int) (hx : a.eval x = vx) (his : Is k w vx ys)
    (hlen : (zs.length + ys.length) * bytes ≤ 150000000000000) (hbase : base ≤ w.heap.size)
    (h : ∀ v' w', Own k e base w' v' (zs ++ ys) → Below base w w' → w.grownBy w' v.ownBlock → K (a.put o.dst v') w') :
    if Region.wanted o (yielded ops a.tmps) = true then Oper.wp P o a w K Q else E := by
  have hw : Region.wanted o (yielded ops a.tmps) = true := by simp [Region.wanted, hgd]
  rw [if_pos hw]
  obtain ⟨i, hi, hz, hsize, hb⟩ := info_parts hinfo
  have hn : zs.length + ys.length ≤ 150000000000000 := Nat.le_trans (Nat.le_mul_of_pos_right _ hby.1) hlen
  have hwf : ∀ z ∈ zs ++ ys, (Lit.int k z).wf = true := by
    intro z hz
    rcases List.mem_append.1 hz with hz | hz
    · exact hown.1 z hz
    · exact his.1 z hz
  rcases his.2 with ⟨hv, hy⟩ | ⟨ad, cap, hv, h1, h2, hc⟩
  · subst hy
    have hrun := run_append_owned_none (P := P) (w := w) base t o.type e i 1 ht hi v zs.length _ hown.2
    have hk := h v w ⟨hwf, by simpa using hown.2⟩ (Below.refl _ _) (World.grownBy.refl _ _)
    unfold Oper.wp
    simp [execOp, ho, resolve, invoke, builtin, hs, hx.trans hv, hrun, Result.andThen]
    exact hk
  · refine wp_append_wide w s x t ho base e i (.int k 0) 1 bytes ht hi hz hsize hb rfl (by decide) hby v zs.length _ hs hown.2 ad ys.length cap (ys.map (Value.int k)) (hx.trans hv) (by simp) ?_ (ints_oneCell k ys) hlen hbase ?_
    · intro j u hj
      rw [List.getElem?_map, Option.map_eq_some_iff] at hj
      obtain ⟨z, hz, rfl⟩ := hj
      obtain ⟨hj, hz⟩ := List.getElem?_eq_some_iff.1 hz
      rw [hc j hj, List.getD_eq_getElem?_getD, List.getElem?_eq_getElem hj, hz]
      rfl
    · intro v' w' ho' hg
      refine h v' w' ⟨hwf, by simpa [List.map_append] using ho'⟩ ((Below.refl _ _).grown hg hbase fun k' hk => ?_) hg
      exact (hown.2.lt k' hk).1

theorem grown_of_below {w w' : World} (h : Below w.heap.size w w') (row : Option Nat) : w.grownBy w' row := ⟨h.os, h.tape, h.output, h.size, fun i hi _ => h.block i hi⟩

theorem grown_setCell (w : World) (a : Addr) (u : Value) : w.grownBy (w.setCell a u) (some a.block) :=
  ⟨rfl, rfl, rfl, by simp [World.setCell], fun i _ hne => Below.heap_setCell _ _ _ _ (fun e => hne (by rw [e]))⟩

theorem set_cells {w : World} {g : Nat} {cs : Array Value} {t : TypeId} {fr : Nat × Nat} (hg : w.heap[g]? = some (.cells cs t fr)) (j : Nat) (u : Value) : (w.setCell ⟨g, j, none⟩ u).heap[g]? = some (.cells (cs.setIfInBounds j u) t fr) := by
  simp [World.setCell, Array.getElem?_modify, hg]

end Go.Proofs.YtkpnkknolobioaaGreat

/- Blocks of cells: one that a call has made, its cells, a store into it. No program. -/
namespace Go.Proofs.YtkpnkknolobioaaGreat
open Go.RowKit
set_option linter.unusedVariables false

theorem blk_cell {w : World} {g : Nat} {cs : Array Value} {t : TypeId} {fr : Nat × Nat} (hg : w.heap[g]? = some (.cells cs t fr)) (j : Nat) {u : Value} (hj : cs[j]? = some u) : w.cell? ⟨g, j, none⟩ = some u := by simp [World.cell?, hg, hj]
theorem blk_froz {w : World} {g : Nat} {cs : Array Value} {t : TypeId} (hg : w.heap[g]? = some (.cells cs t (0, 0))) (j : Nat) : w.frozen? ⟨g, j, none⟩ = false := by simp [World.frozen?, hg]

theorem blk_step (w : World) (cs : Array Value) (e : TypeId) : ∃ W, w.alloc (.cells cs e) = W ∧ W.heap.size = w.heap.size + 1 ∧ Below w.heap.size w W ∧ W.heap[w.heap.size]? = some (.cells cs e (0, 0)) := by
  refine ⟨_, rfl, by simp, (Below.refl _ _).alloc (Nat.le_refl _) _, heap_alloc_new w _⟩

theorem blk_lt {w : World} {g : Nat} {o : Obj} (h : w.heap[g]? = some o) : g < w.heap.size := (Array.getElem?_eq_some_iff.1 h).1

theorem set_same {w : World} {g j : Nat} {cs : Array Value} {t : TypeId} {fr : Nat × Nat} {u : Value} (hg : w.heap[g]? = some (.cells cs t fr)) (hj : cs[j]? = some u) : w.setCell ⟨g, j, none⟩ u = w := by
  have h2 : cs.setIfInBounds j u = cs := by
    apply Array.ext_getElem?
    intro i
    rw [Array.getElem?_setIfInBounds]
    by_cases h : j = i
    · subst h
      rw [if_pos rfl, hj]
      have := (Array.getElem?_eq_some_iff.1 hj).1
      simp [this]
    · rw [if_neg h]
  have : (w.setCell ⟨g, j, none⟩ u).heap = w.heap := by
    apply Array.ext_getElem?
    intro i
    by_cases h : i = g
    · subst h
      rw [set_cells hg, h2, hg]
    · exact Below.heap_setCell _ _ _ _ h
  have e : w.setCell ⟨g, j, none⟩ u = { w with heap := (w.setCell ⟨g, j, none⟩ u).heap } := rfl
  rw [e, this]

theorem grown_fresh {w V V' : World} {row : Option Nat} {R : Nat} (h : w.grownBy V row) (hp : V.grownBy V' (some R)) (hR : w.heap.size ≤ R) : w.grownBy V' row :=
  ⟨hp.os.trans h.os, hp.tape.trans h.tape, hp.output.trans h.output, Nat.le_trans h.size hp.size, fun i hi hne => (hp.block i (Nat.lt_of_lt_of_le hi h.size) (by simp; omega)).trans (h.block i hi hne)⟩

theorem put3 {V : World} {R : Nat} {t : TypeId} {fr : Nat × Nat} {x y z : Value} (hR : V.heap[R]? = some (.cells #[x, y, z] t fr)) (a b c : Value) :
    ∃ V', ((V.setCell ⟨R, 0, none⟩ a).setCell ⟨R, 1, none⟩ b).setCell ⟨R, 2, none⟩ c = V' ∧ V'.heap[R]? = some (.cells #[a, b, c] t fr) ∧ V.grownBy V' (some R) :=
  ⟨_, rfl, set_cells (set_cells (set_cells hR 0 a) 1 b) 2 c, grown_trans (grown_trans (grown_setCell V ⟨R, 0, none⟩ a) (grown_setCell _ ⟨R, 1, none⟩ b)) (grown_setCell _ ⟨R, 2, none⟩ c)⟩

/-- Three cells of a block are written. -/
theorem res_step {V : World} {R : Nat} {t : TypeId} {x y z : Value} (hR : V.heap[R]? = some (.cells #[x, y, z] t (0, 0))) (a b c : Value) :
    ∃ V', ((V.setCell ⟨R, 0, none⟩ a).setCell ⟨R, 1, none⟩ b).setCell ⟨R, 2, none⟩ c = V' ∧ V'.heap[R]? = some (.cells #[a, b, c] t (0, 0)) ∧ V.grownBy V' (some R) ∧
      (V.cell? ⟨R, 0, none⟩ = some x ∧ V.cell? ⟨R, 1, none⟩ = some y ∧ V.cell? ⟨R, 2, none⟩ = some z) ∧ (V.frozen? ⟨R, 0, none⟩ = false ∧ V.frozen? ⟨R, 1, none⟩ = false ∧ V.frozen? ⟨R, 2, none⟩ = false) ∧
      (V'.cell? ⟨R, 0, none⟩ = some a ∧ V'.cell? ⟨R, 1, none⟩ = some b ∧ V'.cell? ⟨R, 2, none⟩ = some c) := by
  obtain ⟨V', h1, h2, h3⟩ := put3 hR a b c
  exact ⟨V', h1, h2, h3, ⟨blk_cell hR 0 rfl, blk_cell hR 1 rfl, blk_cell hR 2 rfl⟩, ⟨blk_froz hR 0, blk_froz hR 1, blk_froz hR 2⟩, ⟨blk_cell h2 0 rfl, blk_cell h2 1 rfl, blk_cell h2 2 rfl⟩⟩

theorem below_put {w V V' : World} {R base : Nat} (h : Below base w V) (hg : V.grownBy V' (some R)) (hb : base ≤ R) (hs : base ≤ V.heap.size) : Below base w V' := h.grown hg hs (fun k hk => by simp at hk; omega)

/-- A block of three cells, made and written. -/
theorem new_step (w : World) (t : TypeId) (x y z a b c : Value) : ∃ V, ((((w.alloc (.cells #[x, y, z] t)).setCell ⟨w.heap.size, 0, none⟩ a).setCell ⟨w.heap.size, 1, none⟩ b).setCell ⟨w.heap.size, 2, none⟩ c = V) ∧ w.alloc (.cells #[a, b, c] t) = V ∧ V.heap.size = w.heap.size + 1 ∧ Below w.heap.size w V ∧ V.heap[w.heap.size]? = some (.cells #[a, b, c] t (0, 0)) ∧
    V.cell? ⟨w.heap.size, 0, none⟩ = some a ∧ V.cell? ⟨w.heap.size, 1, none⟩ = some b ∧ V.cell? ⟨w.heap.size, 2, none⟩ = some c := by
  obtain ⟨V, h1, h2, h3, h4⟩ := blk_step w #[a, b, c] t
  refine ⟨V, ?_, h1, h2, h3, h4, blk_cell h4 0 rfl, blk_cell h4 1 rfl, blk_cell h4 2 rfl⟩
  rw [← h1]
  simp [go_sem]

theorem wrap_i64_small (z : Int) (h0 : -9223372036854775808 ≤ z) (h1 : z < 9223372036854775808) : IntKind.i64.wrap z = z := by
  unfold IntKind.wrap
  simp [IntKind.bits, IntKind.signed]
  omega

theorem put_c {V : World} {R : Nat} {t : TypeId} {cs : Array Value} (hR : V.heap[R]? = some (.cells cs t (0, 0))) (j : Nat) (u : Value) :
    ∃ V', V.setCell ⟨R, j, none⟩ u = V' ∧ V'.heap[R]? = some (.cells (cs.setIfInBounds j u) t (0, 0)) ∧ V.grownBy V' (some R) ∧ V.frozen? ⟨R, j, none⟩ = false :=
  ⟨_, rfl, set_cells hR j u, grown_setCell _ _ _, blk_froz hR j⟩

end Go.Proofs.YtkpnkknolobioaaGreat

/- Rows of ops in memory: what a slice of ops reads as ('IsO'), one of the call's own ('OwnO'), an append between the two. -/
namespace Go.Proofs.YtkpnkknolobioaaGreat
open Go.RowKit
set_option linter.unusedVariables false

/-- An op's cells. -/
def ocell (o : Bm.Ov) : List Value := [.bool o.p, .string o.k, .string o.v]
def ocells : List Bm.Ov → List Value
  | [] => []
  | o :: r => ocell o ++ ocells r

theorem ocells_len : ∀ (l : List Bm.Ov), (ocells l).length = l.length * 3
  | [] => rfl
  | o :: r => by
    have := ocells_len r
    simp only [ocells, ocell, List.length_append, List.length_cons, List.length_nil]
    omega

theorem ocells_app : ∀ (l m : List Bm.Ov), ocells (l ++ m) = ocells l ++ ocells m
  | [], _ => rfl
  | o :: l, m => by simp only [List.cons_append, ocells, ocells_app l m, List.append_assoc]

theorem ocells_one (o : Bm.Ov) : ocells [o] = ocell o := by simp [ocells]

theorem ocells_cell : ∀ (l : List Bm.Ov), ∀ u ∈ ocells l, u.oneCell' = true
  | [], u, h => by simp [ocells] at h
  | o :: r, u, h => by
    rcases List.mem_append.1 h with h | h
    · simp only [ocell, List.mem_cons, List.not_mem_nil, or_false] at h
      rcases h with rfl | rfl | rfl <;> rfl
    · exact ocells_cell r u h

theorem ocells_at : ∀ (l : List Bm.Ov) (i : Nat) (hi : i < l.length), (ocells l)[i * 3]? = some (.bool l[i].p) ∧ (ocells l)[i * 3 + 1]? = some (.string l[i].k) ∧ (ocells l)[i * 3 + 2]? = some (.string l[i].v)
  | [], _, hi => by simp at hi
  | o :: r, 0, hi => by simp [ocells, ocell]
  | o :: r, i + 1, hi => by
    have := ocells_at r i (by simpa using hi)
    simp only [ocells, ocell]
    rw [show (i + 1) * 3 = i * 3 + 3 by omega]
    simpa [List.getElem?_append] using this

/-- A slice value that reads as the ops l. -/
def IsO (w : World) (v : Value) (l : List Bm.Ov) : Prop :=
  (v = .slice none 0 0 ∧ l = []) ∨ ∃ ad cap, v = .slice (some ad) l.length cap ∧ l.length ≤ cap ∧ cap ≤ maxLen ∧ ∀ j u, (ocells l)[j]? = some u → w.cell? (ad.add j) = some u

/-- A slice value of the call's own that holds the ops l. -/
def OwnO (e : TypeId) (base : Nat) (w : World) (v : Value) (l : List Bm.Ov) : Prop := w.ownsRow base e 3 v l.length (ocells l)

/-- Their texts are not too long for a machine. -/
def FitO (l : List Bm.Ov) : Prop := ∀ o ∈ l, o.k.size ≤ 140737488351232 ∧ o.v.size ≤ 140737488351232

theorem IsO.nil (w : World) : IsO w (.slice none 0 0) [] := .inl ⟨rfl, rfl⟩
theorem OwnO.nil (e : TypeId) (base : Nat) (w : World) : OwnO e base w (.slice none 0 0) [] := World.ownsRow_nil _ _ _ _

theorem IsO.below {w w' : World} {v : Value} {l : List Bm.Ov} (h : IsO w v l) (hb : Below w.heap.size w w') : IsO w' v l := by
  rcases h with h | ⟨ad, cap, hv, h1, h2, hc⟩
  · exact .inl h
  · refine .inr ⟨ad, cap, hv, h1, h2, fun j u hj => ?_⟩
    have := hc j u hj
    rw [hb.cell (World.block_lt_of_cell? _ _ this)]
    exact this

theorem IsO.drewN {w : World} {v : Value} {l : List Bm.Ov} (h : IsO w v l) (n : Nat) : IsO (w.drewN n) v l := h.below (below_drewN (Below.refl _ _) n)

theorem IsO.shape {w : World} {v : Value} {l : List Bm.Ov} (h : IsO w v l) : ∃ ao cap, v = .slice ao l.length cap ∧ l.length ≤ cap ∧ cap ≤ maxLen := by
  rcases h with ⟨hv, e⟩ | ⟨ad, cap, hv, h1, h2, _⟩
  · subst e; exact ⟨none, 0, hv, by simp, by simp⟩
  · exact ⟨some ad, cap, hv, h1, h2⟩

theorem IsO.bare {w : World} {v : Value} (h : IsO w v []) : ∃ ao cap, v = .slice ao 0 cap := by
  obtain ⟨ao, cap, h, _⟩ := h.shape
  exact ⟨ao, cap, h⟩

theorem IsO.full {w : World} {v : Value} {l : List Bm.Ov} (h : IsO w v l) (hne : 0 < l.length) :
    ∃ b off cap, v = .slice (some ⟨b, off, none⟩) l.length cap ∧ l.length ≤ cap ∧ cap ≤ maxLen ∧ b < w.heap.size ∧
      ∀ i o, l[i]? = some o → w.cell? ⟨b, off + i * 3, none⟩ = some (.bool o.p) ∧ w.cell? ⟨b, off + i * 3 + 1, none⟩ = some (.string o.k) ∧ w.cell? ⟨b, off + i * 3 + 2, none⟩ = some (.string o.v) := by
  rcases h with ⟨_, h⟩ | ⟨⟨b, off, spot⟩, cap, hv, h1, h2, hc⟩
  · subst h; simp at hne
  · have h0 := hc 0 _ (ocells_at l 0 hne).1
    have hspot : spot = none := by simpa [Addr.add] using World.cell?_spot h0
    subst hspot
    refine ⟨b, off, cap, hv, h1, h2, World.block_lt_of_cell? _ _ h0, fun i o hio => ?_⟩
    obtain ⟨hi, rfl⟩ := List.getElem?_eq_some_iff.1 hio
    obtain ⟨g1, g2, g3⟩ := ocells_at l i hi
    have k1 := hc _ _ g1
    have k2 := hc _ _ g2
    have k3 := hc _ _ g3
    rw [add_at] at k1 k2 k3
    exact ⟨k1, by rw [Nat.add_assoc]; exact k2, by rw [Nat.add_assoc]; exact k3⟩

theorem OwnO.is {e base : Nat} {w : World} {v : Value} {l : List Bm.Ov} (h : OwnO e base w v l) : IsO w v l := by
  rcases h.2 with ⟨hv, hn⟩ | ⟨g, cap, cur, hv, h1, hh, hc, hm, hs, ht⟩
  · exact .inl ⟨hv, List.eq_nil_of_length_eq_zero hn⟩
  · refine .inr ⟨⟨g, 0, none⟩, cap, hv, hc, hm, fun j u hj => ?_⟩
    exact h.cells (by rw [hv]; rfl) j u hj

theorem OwnO.below {e base : Nat} {w w' : World} {v : Value} {l : List Bm.Ov} (h : OwnO e base w v l) (hb : Below w.heap.size w w') : OwnO e base w' v l := by
  refine ⟨h.1, ?_⟩
  rcases h.2 with h | ⟨g, cap, cur, hv, h1, hh, r⟩
  · exact .inl h
  · refine .inr ⟨g, cap, cur, hv, h1, ?_, r⟩
    rw [hb.block g (Array.getElem?_eq_some_iff.1 hh).1]
    exact hh

theorem OwnO.kept {e base : Nat} {w w' : World} {v : Value} {l : List Bm.Ov} {row : Option Nat} (h : OwnO e base w v l) (hg : w.grownBy w' row) (hne : v.ownBlock = none ∨ v.ownBlock ≠ row) : OwnO e base w' v l := World.ownsRow.kept h hg hne

theorem OwnO.rebase {e base base' : Nat} {w : World} {v : Value} {l : List Bm.Ov} (h : OwnO e base w v l) (hb : base' ≤ base) : OwnO e base' w v l := by
  refine ⟨h.1, ?_⟩
  rcases h.2 with h | ⟨g, cap, cur, hv, h1, r⟩
  · exact .inl h
  · exact .inr ⟨g, cap, cur, hv, by omega, r⟩

theorem OwnO.block {e base : Nat} {w : World} {v : Value} {l : List Bm.Ov} (h : OwnO e base w v l) : ∀ b, v.ownBlock = some b → base ≤ b ∧ b < w.heap.size := World.ownsRow.lt h

/-- Ops laid in a new block. -/
theorem ops_step (e : TypeId) (w : World) (cs : Array Value) (n : Nat) (l : List Bm.Ov) (hn : l.length = n) (h : cs.toList = ocells l) (hm : n ≤ maxLen) :
    ∃ W, w.alloc (.cells cs e) = W ∧ W.heap.size = w.heap.size + 1 ∧ Below w.heap.size w W ∧ OwnO e w.heap.size W (.slice (some ⟨w.heap.size, 0, none⟩) n n) l := by
  subst hn
  refine ⟨_, rfl, by simp, (Below.refl _ _).alloc (Nat.le_refl _) _, ?_⟩
  have ho := World.ownsRow_lit (base := w.heap.size) (e := e) (size := 3) w cs l.length (Nat.le_refl _) hm (by have := congrArg List.length h; rw [ocells_len] at this; simpa using this)
  rw [h] at ho
  exact ho

section
variable {P : Program} {w : World} {ops : Array Oper} {rest : List Oper} {o : Oper} {a : Act} {Q : Exit → Act → World → Prop}

/-- 'out = append(out, xs...)' of ops: out nil or the call's own. -/
theorem wpList_append_ops (hgd : o.guard = none) (s x : Operand) (t : TypeId)
    (ho : o.op = .call { callee := .builtin .append, args := #[s, x], argTypes := #[t, t] })
    (e : TypeId) (base : Nat) (ht : P.underlying t = some (.slice e)) (hinfo : (P.info? e).map (fun i => (i.zero, i.size, i.bytes)) = some (some (.agg #[.bool false, .string ⟨#[]⟩, .string ⟨#[]⟩]), 3, 40))
    (v : Value) (l : List Bm.Ov) (hs : a.eval s = v) (hown : OwnO e base w v l) (vx : Value) (m : List Bm.Ov) (hx : a.eval x = vx) (his : IsO w vx m)
    (hlen : (l.length + m.length) * 40 ≤ 140737488355328) (hbase : base ≤ w.heap.size)
    (h : ∀ v' w', OwnO e base w' v' (l ++ m) → Below base w w' → w.grownBy w' v.ownBlock → wpList P ops Q rest (a.put o.dst v') w') : wpList P ops Q (o :: rest) a w := by
  obtain ⟨i, hi, hz, hsize, hb⟩ := info_parts hinfo
  have hn : l.length + m.length ≤ 140737488355328 := by omega
  rcases his with ⟨hv, hy⟩ | ⟨ad, cap, hv, h1, h2, hc⟩
  · subst hy
    refine wpList_append_own_none hgd s x t ho base e i 3 ht hi v l.length _ hs hown (hx.trans hv) (h v w (by simpa using hown) (Below.refl _ _) (World.grownBy.refl _ _))
  · refine wpList_append_own w hgd s x t ho base e i _ 3 40 ht hi hz hsize hb rfl (by decide) v l.length _ hs hown ad m.length cap (ocells m) (hx.trans hv) (ocells_len m) hc (ocells_cell m) (by unfold maxLen; omega) hlen hbase ?_
    intro v' w' ho' hg _
    refine h v' w' (by unfold OwnO; rw [ocells_app, List.length_append]; exact ho') ((Below.refl _ _).grown hg hbase fun k' hk => ?_) hg
    exact (World.ownsRow.lt hown k' hk).1

end

theorem Tryz.info93 : (Tryz.prog.info? 93).map (fun i => (i.zero, i.size, i.bytes)) = some (some (.agg #[.bool false, .string ⟨#[]⟩, .string ⟨#[]⟩]), 3, 40) := by kernel_rfl

end Go.Proofs.YtkpnkknolobioaaGreat
