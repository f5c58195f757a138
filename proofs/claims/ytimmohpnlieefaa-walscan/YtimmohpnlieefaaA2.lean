/- Texts of one layer, one behind the other. -/
import Derived.Test.YtimmohpnlieefaaA1
import Derived.Lib.Strings
import Derived.Lib.AppendStr
import Derived.Lib.UnsafeStr
import Derived.Lib.SliceRun
import Derived.Shelf.Abstract
import Derived.Laws.StructEq
/- The contracts of varint Size, Append, Read, Small. -/
namespace Go.Proofs.Ytimmohpnlieefaa
open Go.RowKit
set_option linter.unusedVariables false

theorem size_done {y : Int} {n m : Nat} (h0 : 0 ≤ y) (hs : Vm.sz y.toNat + n = m + 1) (h : (y / 128 == 0) = true) : (n : Int) = m := by
  have h := beq_iff_eq.1 h
  have := Vm.sz_lo (x := y.toNat) (by omega)
  omega

theorem size_next {y : Int} {n m : Nat} (h0 : 0 ≤ y) (hs : Vm.sz y.toNat + n = m + 1) (hm : m ≤ 10) (h : (y / 128 == 0) = false) :
    Vm.sz (y / 128).toNat + (n + 1) = m + 1 ∧ n + 1 ≤ 10 ∧ (y / 128).toNat < y.toNat := by
  have h := beq_eq_false_iff_ne.1 h
  have := Vm.sz_hi (x := y.toNat) (by omega)
  have e : (y / 128).toNat = y.toNat / 128 := by omega
  have := Vm.sz_pos (y / 128).toNat
  rw [e] at *
  omega

set_option maxHeartbeats 400000 in
theorem size_any (x : Int) (w : World) (h0 : 0 ≤ x) (h1 : x < 18446744073709551616) :
    Calls Try.prog 109 #[.int .u64 x] w fun e w' => e = .returned (.int .i64 (Vm.sz x.toNat)) ∧ w = w' := by
  have hm := Vm.sz_le10 (x := x.toNat) (by omega)
  go_enter Try.func109, Try.ntmps109
  go_wp2
  go_loop [0, 3] (fun xx nn => ∃ (y : Int) (n : Nat), 0 ≤ y ∧ y < 18446744073709551616 ∧ 1 ≤ n ∧ n ≤ 10 ∧ xx = .int .u64 y ∧ nn = .int .i64 n ∧ Vm.sz y.toNat + n = Vm.sz x.toNat + 1) (fun xx _ => (intOf xx).toNat)
  case atStart => exact ⟨x, 1, h0, h1, by omega, by omega, rfl, rfl, rfl⟩
  case round =>
    obtain ⟨y, n, hy0, hy1, hn0, hn1, rfl, rfl, hs⟩ := hrel
    have HS : Hid (Vm.sz y.toNat + n = Vm.sz x.toNat + 1) := hs
    clear hs
    go_wp2
    · have hb : (y / 128 == 0) = true := by assumption
      go_ret
      exact ⟨ret_i64 (size_done hy0 HS.out hb), rfl⟩
    · have hb : (y / 128 == 0) = false := by assumption
      have R := size_next hy0 HS.out hm hb
      go_round
      case rel => exact ⟨y / 128, n + 1, by omega, by omega, by omega, R.2.1, rfl, by go_num, R.1⟩
      case measure => simp [intOf]; omega

set_option maxHeartbeats 400000 in
theorem app_any (vb : Value) (bs : List Int) (x : Int) (w : World) (hb : Is .u8 w vb bs) (hlb : bs.length ≤ 140737488351232) (h0 : 0 ≤ x) (h1 : x < 18446744073709551616) :
    Calls Try.prog 98 #[vb, .int .u64 x] w fun e w' => ∃ v, e = .returned v ∧ Own .u8 5 w.heap.size w' v (bs ++ Vm.enc x.toNat) ∧ Below w.heap.size w w' := by
  have hm := Vm.sz_le10 (x := x.toNat) (by omega)
  obtain ⟨ao, cap, hv⟩ : ∃ ao cap, vb = .slice ao bs.length cap := by
    rcases hb.2 with ⟨h, e⟩ | ⟨ad, cap, hv, _⟩
    · subst e; exact ⟨none, 0, h⟩
    · exact ⟨some ad, cap, hv⟩
  subst hv
  obtain ⟨i0, hi, hz0, hz1, hz2⟩ := info_parts Try.info5
  go_enter Try.func98, Try.ntmps98
  go_wp2_with (first | (go_at_call 109; refine (size_any x _ h0 h1).mono ?_; rintro e w' ⟨rfl, rfl⟩) | (at_make; refine wpList_make_own _ rfl _ _ 37 rfl w.heap.size 5 i0 (.int .u8 0) 1 Try.underlying37 hi hz0 hz1 _ _ _ (bs.length + Vm.sz x.toNat) rfl rfl (by omega) ?b2 ?b3 (Nat.le_refl _) ?_))
  case b2 => rw [hz2]; omega
  case b3 => unfold maxLen; omega
  intro w0 hown0 hgrow0
  have bel0 : Below w.heap.size w w0 := (Below.refl _ _).grown hgrow0 (Nat.le_refl _) (by simp)
  have own0 : Own .u8 5 w.heap.size w0 (.slice (some ⟨w.heap.size, 0, none⟩) 0 (bs.length + Vm.sz x.toNat)) [] := ⟨by simp, hown0⟩
  have is0 := hb.below bel0
  have sz0 := bel0.size
  clear hown0 hgrow0
  go_wp2_with (at_builtin; refine wpList_append_is rfl (.tmp 12) (.tmp 13) 37 rfl .u8 5 w.heap.size 1 Try.underlying37 Try.info5 (by decide) _ [] rfl own0 _ bs rfl is0 (by simp; omega) sz0 ?_)
  intro v1 w1 own1 bel1 _
  have bel := bel0.trans bel1
  clear own0 is0 bel0 bel1 sz0
  go_wp2
  go_loopw [1, 5] (fun xx vv wr => ∃ (y : Int) (zs : List Int), 0 ≤ y ∧ y < 18446744073709551616 ∧ xx = .int .u64 y ∧ zs.length ≤ 140737488351242 ∧ Own .u8 5 w.heap.size wr vv zs ∧ zs ++ Vm.enc y.toNat = bs ++ Vm.enc x.toNat ∧ Below w.heap.size w wr) (fun xx _ _ => (intOf xx).toNat)
  case atStart => exact ⟨x, bs, h0, h1, rfl, by omega, own1, rfl, bel⟩
  case round =>
    obtain ⟨y, zs, hy0, hy1, rfl, hl, own, heq, belr⟩ := hrel
    have HE := hide heq
    clear heq own1 bel
    have szr := belr.size
    by_cases hy : y ≤ 127
    · have e1 : y % 256 = y := by omega
      have W := wf_u8 (z := y) hy0 (by omega)
      go_wp2_with (at_builtin; refine wpList_append_is rfl (.tmp 17) (.tmp 20) 37 rfl .u8 5 w.heap.size 1 Try.underlying37 Try.info5 (by decide) _ zs rfl (own.below ((Below.refl _ _).alloc (Nat.le_refl _) _)) _ [y] rfl (Is.one .u8 _ _ 5 W) (by simp; omega) (by simp; omega) ?_)
      intro v2 w2 own2 bel2 _
      go_wp2
      go_ret
      refine ⟨_, rfl, ?_, (belr.alloc szr _).trans bel2⟩
      rw [← HE.out, Vm.enc_lo (x := y.toNat) (by omega), Int.toNat_of_nonneg hy0]
      exact own2
    · have e1 := and127_u64 y hy0 hy1
      have e2 : y % 128 % 256 = y % 128 := by omega
      have e3 := or128_u8 (y % 128) (by omega) (by omega)
      have W := wf_u8 (z := y % 128 + 128) (by omega) (by omega)
      go_wp2_with (at_builtin; refine wpList_append_is rfl (.tmp 22) (.tmp 27) 37 rfl .u8 5 w.heap.size 1 Try.underlying37 Try.info5 (by decide) _ zs rfl (own.below ((Below.refl _ _).alloc (Nat.le_refl _) _)) _ [y % 128 + 128] rfl (Is.one .u8 _ _ 5 W) (by simp; omega) (by simp; omega) ?_)
      intro v2 w2 own2 bel2 _
      have HE2 : zs ++ [y % 128 + 128] ++ Vm.enc (y / 128).toNat = bs ++ Vm.enc x.toNat := by
        rw [← HE.out, Vm.enc_hi (x := y.toNat) (by omega)]
        have : (y / 128).toNat = y.toNat / 128 := by omega
        have : ((y.toNat % 128 + 128 : Nat) : Int) = y % 128 + 128 := by omega
        simp_all
      have HL : zs.length + 1 ≤ 140737488351242 := by
        have := congrArg List.length HE2
        have := Vm.sz_pos (y / 128).toNat
        simp at *
        unfold Vm.sz at *
        omega
      have HE3 := hide HE2
      have b3 := (belr.alloc szr _).trans bel2
      clear HE2 own e1 e2 e3
      go_wp2
      go_roundw
      case rel => exact ⟨y / 128, zs ++ [y % 128 + 128], by omega, by omega, rfl, by simp; omega, own2, HE3.out, b3⟩
      case measure => simp [intOf]; omega

theorem ret3 {x n e x' n' e' : Int} (h : x = x' ∧ n = n' ∧ e = e') : Ending.returned (.tuple #[.int .u64 x', .int .i64 n', .int .i64 e']) = .returned (.tuple #[.int .u64 x, .int .i64 n, .int .i64 e]) := by
  obtain ⟨rfl, rfl, rfl⟩ := h; rfl

theorem good_ret {bs : List Int} {x n e : Int} (hR : Vm.Res bs x n e) {u k : Nat} (hu : u < 18446744073709551616) (hp : Vm.enc u <+: bs) (hs : Vm.sz u = k + 1) : x = (u : Int) ∧ n = (k : Int) + 1 ∧ e = 0 := by
  have := Vm.res_good hR hu hp
  omega

set_option maxHeartbeats 400000 in
theorem read_any (vb : Value) (bs : List Int) (x n e : Int) (w : World) (hb : Is .u8 w vb bs) (hl : bs.length ≤ 150000000000000) (hR : Vm.Res bs x n e) :
    Calls Try.prog 105 #[vb] w fun E w' => E = .returned (.tuple #[.int .u64 x, .int .i64 n, .int .i64 e]) ∧ w = w' := by
  by_cases hz : 0 < bs.length
  · have hbyte := fun i => hb.byte i
    have HBY := hide hbyte
    obtain ⟨b1, o1, c1, rfl, _, _, hB1, hc1⟩ := hb.full hz
    have HC := hide hc1
    clear hc1 hbyte hb
    go_enter Try.func105, Try.ntmps105
    go_wp2
    go_loop [2, 3] (fun xx nn => ∃ (acc : Nat) (k : Nat), k ≤ 9 ∧ k ≤ bs.length ∧ xx = .int .u64 acc ∧ nn = .int .i64 k ∧ Vm.Inv bs k acc) (fun _ nn => 10 - (intOf nn).toNat)
    case atStart => exact ⟨0, 0, by omega, by omega, rfl, rfl, Vm.inv_start bs⟩
    case round =>
      obtain ⟨acc, k, hk, hk2, rfl, rfl, hinv⟩ := hrel
      have HI := hide hinv
      clear hinv
      by_cases hlt : k < bs.length
      · have hq : ((k : Int) == (bs.length : Int)) = false := by simp; omega
        have g1 := HC.out k hlt
        have hlt' : (k : Int) < bs.length := by omega
        have hc0 := HBY.out k
        generalize hcc : bs.getD k 0 = c at *
        have HCC := hide hcc
        have h70 := and127_u8 c hc0.1 hc0.2
        have h71 := wrap_u64_small (c % 128) (by omega) (by omega)
        clear hcc
        by_cases h9 : k = 9
        · have h9' : ((k : Int) == 9) = true := by simp [h9]
          have H9 := hide h9
          have HI9 : Hid (Vm.Inv bs 9 acc) := by have := HI.out; rw [h9] at this; exact this
          have HC9 : Hid (bs.getD 9 0 = c) := by have := HCC.out; rw [h9] at this; exact this
          clear h9
          by_cases hc1 : 1 < c
          · go_wp2
            go_ret3
            exact ⟨ret3 (Vm.res_bad hR (Vm.inv_wide HI9.out (by rw [← H9.out]; exact hlt) HC9.out hc1 hc0.2)), rfl⟩
          · have hfit : acc + (c % 128).toNat * 128 ^ k < 18446744073709551616 := by rw [H9.out]; exact Vm.inv_fits9 HI9.out hc0.1 (by omega)
            have e1 := or_shift acc k (c % 128) (by omega) HI.out.1 hfit
            generalize hna : acc + (c % 128).toNat * 128 ^ k = na at *
            have HNA := hide hna
            clear hna
            have hk1 : 1 ≤ k := by have := H9.out; omega
            have hk1' : 1 < (k : Int) + 1 := by omega
            by_cases hcz : c = 0
            · have hcz' : (c == 0) = true := by simp [hcz]
              have HZ := hide hcz
              clear hcz
              go_wp2
              go_ret3
              exact ⟨ret3 (Vm.res_bad hR (Vm.inv_zero HI.out hlt (HCC.out.trans HZ.out) hk1)), rfl⟩
            · have hcz' : (c == 0) = false := by simp [hcz]
              have G := hide (Vm.inv_end HI.out hlt HCC.out hc0.1 (by omega) (.inl (by omega)))
              go_wp2
              go_ret3
              have G := G.out
              rw [HNA.out] at G
              exact ⟨ret3 (good_ret hR hfit G.1 G.2), rfl⟩
        · have h9' : ((k : Int) == 9) = false := by simp; omega
          have hfit := Vm.inv_fits HI.out (c := c) (by omega) hc0.1
          have e1 := or_shift acc k (c % 128) (by omega) HI.out.1 hfit
          generalize hna : acc + (c % 128).toNat * 128 ^ k = na at *
          have HNA := hide hna
          clear hna
          by_cases h128 : c ≤ 127
          · by_cases hk1 : 1 ≤ k
            · have hk1' : 1 < (k : Int) + 1 := by omega
              by_cases hcz : c = 0
              · have hcz' : (c == 0) = true := by simp [hcz]
                have HZ := hide hcz
                clear hcz
                go_wp2
                go_ret3
                exact ⟨ret3 (Vm.res_bad hR (Vm.inv_zero HI.out hlt (HCC.out.trans HZ.out) hk1)), rfl⟩
              · have hcz' : (c == 0) = false := by simp [hcz]
                have G := hide (Vm.inv_end HI.out hlt HCC.out hc0.1 (by omega) (.inl (by omega)))
                go_wp2
                go_ret3
                have G := G.out
                rw [HNA.out] at G
                exact ⟨ret3 (good_ret hR hfit G.1 G.2), rfl⟩
            · have hk1' : ¬ 1 < (k : Int) + 1 := by omega
              have G := hide (Vm.inv_end HI.out hlt HCC.out hc0.1 (by omega) (.inr (by omega)))
              go_wp2
              go_ret3
              have G := G.out
              rw [HNA.out] at G
              exact ⟨ret3 (good_ret hR hfit G.1 G.2), rfl⟩
          · go_wp2
            go_round
            case rel => exact ⟨na, k + 1, by omega, by omega, rfl, by go_num, by have := Vm.inv_step HI.out hlt HCC.out (by omega) hc0.2; rw [HNA.out] at this; exact this⟩
            case measure => simp [intOf]; omega
      · have hq : ((k : Int) == (bs.length : Int)) = true := by simp; omega
        go_wp2
        go_ret3
        exact ⟨ret3 (Vm.res_bad hR (Vm.inv_short HI.out (by omega))), rfl⟩
  · have hx : bs = [] := List.eq_nil_of_length_eq_zero (by omega)
    subst hx
    obtain ⟨a1, c1, rfl⟩ := hb.bare
    clear hb hl hz
    go_enter Try.func105, Try.ntmps105
    go_wp2
    refine wp_loop_rounds 1 ?_
    rw [rounds_succ]
    go_wp2
    go_ret3
    exact ⟨ret3 (Vm.res_bad hR (fun u _ => Vm.pre_nil u)), rfl⟩

/-- What Small comes to. -/
def SRes (bs : List Int) (most u i g : Int) : Prop :=
  (Vm.Res bs u i 0 ∧ 0 ≤ most ∧ u ≤ most ∧ g = 0) ∨ (u = 0 ∧ i = 0 ∧ g = 5 ∧ ∃ x n e, Vm.Res bs x n e ∧ (e = 5 ∨ (e = 0 ∧ (most < 0 ∨ (0 ≤ most ∧ most < x)))))

theorem sres_is (bs : List Int) (most : Int) : ∃ u i g, SRes bs most u i g := by
  obtain ⟨x, n, e, hR⟩ := Vm.res_is bs
  have hb := Vm.res_bounds hR
  by_cases h : e = 0 ∧ 0 ≤ most ∧ x ≤ most
  · obtain ⟨rfl, h1, h2⟩ := h
    exact ⟨x, n, 0, .inl ⟨hR, h1, h2, rfl⟩⟩
  · exact ⟨0, 0, 5, .inr ⟨rfl, rfl, rfl, x, n, e, hR, by omega⟩⟩

set_option maxHeartbeats 400000 in
theorem small_any (vb : Value) (bs : List Int) (most u i g : Int) (w : World) (hb : Is .u8 w vb bs) (hl : bs.length ≤ 150000000000000) (hm : most < 9223372036854775808) (hm' : -9223372036854775808 ≤ most) (hS : SRes bs most u i g) :
    Calls Try.prog 95 #[vb, .int .i64 most] w fun E w' => E = .returned (.tuple #[.int .i64 u, .int .i64 i, .int .i64 g]) ∧ w = w' := by
  rcases hS with ⟨hR, h0, h1, hg⟩ | ⟨hu, hi, hg, x, n, e, hR, hcase⟩
  · have hbd := Vm.res_bounds hR
    have hq : ((0 : Int) != 0) = false := by simp
    subst hg
    go_enter Try.func95, Try.ntmps95
    go_wp2_with (go_at_call 105; refine (read_any _ _ _ _ _ _ hb hl hR).mono ?_; rintro E w1 ⟨rfl, rfl⟩)
    go_ret3
    exact ⟨rfl, rfl⟩
  · have hbd := Vm.res_bounds hR
    subst hu hi hg
    rcases hcase with he | ⟨he, h | ⟨h, h'⟩⟩
    · subst he
      go_enter Try.func95, Try.ntmps95
      go_wp2_with (go_at_call 105; refine (read_any _ _ _ _ _ _ hb hl hR).mono ?_; rintro E w1 ⟨rfl, rfl⟩)
      go_ret3
      exact ⟨rfl, rfl⟩
    · subst he
      go_enter Try.func95, Try.ntmps95
      go_wp2_with (go_at_call 105; refine (read_any _ _ _ _ _ _ hb hl hR).mono ?_; rintro E w1 ⟨rfl, rfl⟩)
      go_ret3
      exact ⟨rfl, rfl⟩
    · subst he
      go_enter Try.func95, Try.ntmps95
      go_wp2_with (go_at_call 105; refine (read_any _ _ _ _ _ _ hb hl hR).mono ?_; rintro E w1 ⟨rfl, rfl⟩)
      go_ret3
      exact ⟨rfl, rfl⟩

end Go.Proofs.Ytimmohpnlieefaa

/- The contracts of op's Check, size. -/
namespace Go.Proofs.Ytimmohpnlieefaa
open Go.RowKit
set_option linter.unusedVariables false

/-- An op as a value. -/
def opv (p : Bool) (k v : ByteArray) : Value := .agg #[.bool p, .string k, .string v]

theorem chk_size (p : Bool) (k v : ByteArray) : Om.chk p k.data.toList v.data.toList = if 1 ≤ k.size ∧ k.size ≤ 16 ∧ v.size ≤ 32 ∧ (p = true ∨ v.toList.isEmpty = true) then 0 else 2 := by
  unfold Om.chk
  simp only [Lib.toList_data, List.isEmpty_iff, Lib.size_eq]

set_option maxHeartbeats 400000 in
theorem check_any (p : Bool) (k v : ByteArray) (w : World) (hk : k.size ≤ 140737488351232) (hv : v.size ≤ 140737488351232) :
    Calls Try.prog 118 #[opv p k v] w fun E w' => E = .returned (.int .i64 (Om.chk p k.data.toList v.data.toList)) ∧ Below w.heap.size w w' := by
  unfold opv
  obtain ⟨c, hc⟩ : ∃ c, Om.chk p k.data.toList v.data.toList = c := ⟨_, rfl⟩
  rw [hc]
  have HC := hide hc
  clear hc
  go_enter Try.func118, Try.ntmps118
  go_wp2
  all_goals go_ret
  all_goals refine ⟨ret_i64 ?_, (Below.refl _ _).alloc (Nat.le_refl _) _⟩
  all_goals rw [← HC.out, chk_size]
  all_goals clear HC
  all_goals (cases p <;> simp_all <;> first | omega | (intros; omega))

section
variable {P : Program} {w : World} {ops : Array Oper} {rest : List Oper} {o : Oper} {a : Act} {Q : Exit → Act → World → Prop}

/-- 'out = append(out, s...)', s a string. -/
theorem wpList_append_str (hgd : o.guard = none) (sl x : Operand) (t u : TypeId)
    (ho : o.op = .call { callee := .builtin .append, args := #[sl, x], argTypes := #[t, u] })
    (e : TypeId) (base : Nat) (ht : P.underlying t = some (.slice e)) (hu : P.underlying u = some .string) (hinfo : (P.info? e).map (fun i => (i.zero, i.size, i.bytes)) = some (some (.int .u8 0), 1, 1))
    (v : Value) (zs : List Int) (hs : a.eval sl = v) (hown : Own .u8 e base w v zs) (s : ByteArray) (hx : a.eval x = .string s)
    (hlen : zs.length + s.size ≤ 140737488355328) (hbase : base ≤ w.heap.size)
    (h : ∀ v' w', Own .u8 e base w' v' (zs ++ Om.ints s.data.toList) → Below base w w' → wpList P ops Q rest (a.put o.dst v') w') : wpList P ops Q (o :: rest) a w := by
  obtain ⟨i, hi, hz, hsize, hb⟩ := info_parts hinfo
  refine Lib.wpList_append_own_string w hgd sl x t u ho base e i ht hu hi hz hsize hb v zs.length _ hs hown.2 s hx (by unfold maxLen; omega) hlen hbase fun v' w' h1 h2 _ => ?_
  refine h v' w' ⟨?_, ?_⟩ ((Below.refl _ _).grown h2 hbase fun k' hk => (hown.2.lt k' hk).1)
  · intro z hz
    rcases List.mem_append.1 hz with hz | hz
    · exact hown.1 z hz
    · unfold Om.ints at hz
      obtain ⟨c, _, rfl⟩ := List.mem_map.1 hz
      have := c.toNat_lt
      exact wf_u8 (by omega) (by omega)
  · have e1 : zs.length + s.size = (zs ++ Om.ints s.data.toList).length := by rw [List.length_append, Om.ints_len, Lib.size_eq]
    rw [e1] at h1
    simpa [Lib.strCells_eq, Lib.byteCells, Om.ints, List.map_append, Function.comp_def] using h1

end

end Go.Proofs.Ytimmohpnlieefaa

/- Rows of ops in memory: what a slice of ops reads as ('IsO'), one of the call's own ('OwnO'), an append between the two. -/
namespace Go.Proofs.Ytimmohpnlieefaa
open Go.RowKit
set_option linter.unusedVariables false

/-- An op's cells. -/
def ocell (o : Bm.Ov) : List Value := [.bool o.p, .string o.k, .string o.v]
def ocells : List Bm.Ov → List Value
  | [] => []
  | o :: r => ocell o ++ ocells r

theorem ocells_len : ∀ (l : List Bm.Ov), (ocells l).length = l.length * 3
  | [] => rfl
  | o :: r => by
    have := ocells_len r
    simp only [ocells, ocell, List.length_append, List.length_cons, List.length_nil]
    omega

theorem ocells_app : ∀ (l m : List Bm.Ov), ocells (l ++ m) = ocells l ++ ocells m
  | [], _ => rfl
  | o :: l, m => by simp only [List.cons_append, ocells, ocells_app l m, List.append_assoc]

theorem ocells_one (o : Bm.Ov) : ocells [o] = ocell o := by simp [ocells]

theorem ocells_cell : ∀ (l : List Bm.Ov), ∀ u ∈ ocells l, u.oneCell' = true
  | [], u, h => by simp [ocells] at h
  | o :: r, u, h => by
    rcases List.mem_append.1 h with h | h
    · simp only [ocell, List.mem_cons, List.not_mem_nil, or_false] at h
      rcases h with rfl | rfl | rfl <;> rfl
    · exact ocells_cell r u h

theorem ocells_at : ∀ (l : List Bm.Ov) (i : Nat) (hi : i < l.length), (ocells l)[i * 3]? = some (.bool l[i].p) ∧ (ocells l)[i * 3 + 1]? = some (.string l[i].k) ∧ (ocells l)[i * 3 + 2]? = some (.string l[i].v)
  | [], _, hi => by simp at hi
  | o :: r, 0, hi => by simp [ocells, ocell]
  | o :: r, i + 1, hi => by
    have := ocells_at r i (by simpa using hi)
    simp only [ocells, ocell]
    rw [show (i + 1) * 3 = i * 3 + 3 by omega]
    simpa [List.getElem?_append] using this

/-- A slice value that reads as the ops l. -/
def IsO (w : World) (v : Value) (l : List Bm.Ov) : Prop :=
  (v = .slice none 0 0 ∧ l = []) ∨ ∃ ad cap, v = .slice (some ad) l.length cap ∧ l.length ≤ cap ∧ cap ≤ maxLen ∧ ∀ j u, (ocells l)[j]? = some u → w.cell? (ad.add j) = some u

/-- A slice value of the call's own that holds the ops l. -/
def OwnO (e : TypeId) (base : Nat) (w : World) (v : Value) (l : List Bm.Ov) : Prop := w.ownsRow base e 3 v l.length (ocells l)

/-- Their texts are not too long for a machine. -/
def FitO (l : List Bm.Ov) : Prop := ∀ o ∈ l, o.k.size ≤ 140737488351232 ∧ o.v.size ≤ 140737488351232

theorem IsO.nil (w : World) : IsO w (.slice none 0 0) [] := .inl ⟨rfl, rfl⟩
theorem OwnO.nil (e : TypeId) (base : Nat) (w : World) : OwnO e base w (.slice none 0 0) [] := World.ownsRow_nil _ _ _ _

theorem IsO.below {w w' : World} {v : Value} {l : List Bm.Ov} (h : IsO w v l) (hb : Below w.heap.size w w') : IsO w' v l := by
  rcases h with h | ⟨ad, cap, hv, h1, h2, hc⟩
  · exact .inl h
  · refine .inr ⟨ad, cap, hv, h1, h2, fun j u hj => ?_⟩
    have := hc j u hj
    rw [hb.cell (World.block_lt_of_cell? _ _ this)]
    exact this

theorem IsO.drewN {w : World} {v : Value} {l : List Bm.Ov} (h : IsO w v l) (n : Nat) : IsO (w.drewN n) v l := h.below (below_drewN (Below.refl _ _) n)

theorem IsO.shape {w : World} {v : Value} {l : List Bm.Ov} (h : IsO w v l) : ∃ ao cap, v = .slice ao l.length cap ∧ l.length ≤ cap ∧ cap ≤ maxLen := by
  rcases h with ⟨hv, e⟩ | ⟨ad, cap, hv, h1, h2, _⟩
  · subst e; exact ⟨none, 0, hv, by simp, by simp⟩
  · exact ⟨some ad, cap, hv, h1, h2⟩

theorem IsO.bare {w : World} {v : Value} (h : IsO w v []) : ∃ ao cap, v = .slice ao 0 cap := by
  obtain ⟨ao, cap, h, _⟩ := h.shape
  exact ⟨ao, cap, h⟩

theorem IsO.full {w : World} {v : Value} {l : List Bm.Ov} (h : IsO w v l) (hne : 0 < l.length) :
    ∃ b off cap, v = .slice (some ⟨b, off, none⟩) l.length cap ∧ l.length ≤ cap ∧ cap ≤ maxLen ∧ b < w.heap.size ∧
      ∀ i o, l[i]? = some o → w.cell? ⟨b, off + i * 3, none⟩ = some (.bool o.p) ∧ w.cell? ⟨b, off + i * 3 + 1, none⟩ = some (.string o.k) ∧ w.cell? ⟨b, off + i * 3 + 2, none⟩ = some (.string o.v) := by
  rcases h with ⟨_, h⟩ | ⟨⟨b, off, spot⟩, cap, hv, h1, h2, hc⟩
  · subst h; simp at hne
  · have h0 := hc 0 _ (ocells_at l 0 hne).1
    have hspot : spot = none := by simpa [Addr.add] using World.cell?_spot h0
    subst hspot
    refine ⟨b, off, cap, hv, h1, h2, World.block_lt_of_cell? _ _ h0, fun i o hio => ?_⟩
    obtain ⟨hi, rfl⟩ := List.getElem?_eq_some_iff.1 hio
    obtain ⟨g1, g2, g3⟩ := ocells_at l i hi
    have k1 := hc _ _ g1
    have k2 := hc _ _ g2
    have k3 := hc _ _ g3
    rw [add_at] at k1 k2 k3
    exact ⟨k1, by rw [Nat.add_assoc]; exact k2, by rw [Nat.add_assoc]; exact k3⟩

theorem OwnO.is {e base : Nat} {w : World} {v : Value} {l : List Bm.Ov} (h : OwnO e base w v l) : IsO w v l := by
  rcases h.2 with ⟨hv, hn⟩ | ⟨g, cap, cur, hv, h1, hh, hc, hm, hs, ht⟩
  · exact .inl ⟨hv, List.eq_nil_of_length_eq_zero hn⟩
  · refine .inr ⟨⟨g, 0, none⟩, cap, hv, hc, hm, fun j u hj => ?_⟩
    exact h.cells (by rw [hv]; rfl) j u hj

theorem OwnO.below {e base : Nat} {w w' : World} {v : Value} {l : List Bm.Ov} (h : OwnO e base w v l) (hb : Below w.heap.size w w') : OwnO e base w' v l := by
  refine ⟨h.1, ?_⟩
  rcases h.2 with h | ⟨g, cap, cur, hv, h1, hh, r⟩
  · exact .inl h
  · refine .inr ⟨g, cap, cur, hv, h1, ?_, r⟩
    rw [hb.block g (Array.getElem?_eq_some_iff.1 hh).1]
    exact hh

theorem OwnO.kept {e base : Nat} {w w' : World} {v : Value} {l : List Bm.Ov} {row : Option Nat} (h : OwnO e base w v l) (hg : w.grownBy w' row) (hne : v.ownBlock = none ∨ v.ownBlock ≠ row) : OwnO e base w' v l := World.ownsRow.kept h hg hne

theorem OwnO.rebase {e base base' : Nat} {w : World} {v : Value} {l : List Bm.Ov} (h : OwnO e base w v l) (hb : base' ≤ base) : OwnO e base' w v l := by
  refine ⟨h.1, ?_⟩
  rcases h.2 with h | ⟨g, cap, cur, hv, h1, r⟩
  · exact .inl h
  · exact .inr ⟨g, cap, cur, hv, by omega, r⟩

theorem OwnO.block {e base : Nat} {w : World} {v : Value} {l : List Bm.Ov} (h : OwnO e base w v l) : ∀ b, v.ownBlock = some b → base ≤ b ∧ b < w.heap.size := World.ownsRow.lt h

/-- Ops laid in a new block. -/
theorem ops_step (e : TypeId) (w : World) (cs : Array Value) (n : Nat) (l : List Bm.Ov) (hn : l.length = n) (h : cs.toList = ocells l) (hm : n ≤ maxLen) :
    ∃ W, w.alloc (.cells cs e) = W ∧ W.heap.size = w.heap.size + 1 ∧ Below w.heap.size w W ∧ OwnO e w.heap.size W (.slice (some ⟨w.heap.size, 0, none⟩) n n) l := by
  subst hn
  refine ⟨_, rfl, by simp, (Below.refl _ _).alloc (Nat.le_refl _) _, ?_⟩
  have ho := World.ownsRow_lit (base := w.heap.size) (e := e) (size := 3) w cs l.length (Nat.le_refl _) hm (by have := congrArg List.length h; rw [ocells_len] at this; simpa using this)
  rw [h] at ho
  exact ho

section
variable {P : Program} {w : World} {ops : Array Oper} {rest : List Oper} {o : Oper} {a : Act} {Q : Exit → Act → World → Prop}

/-- 'out = append(out, xs...)' of ops: out nil or the call's own. -/
theorem wpList_append_ops (hgd : o.guard = none) (s x : Operand) (t : TypeId)
    (ho : o.op = .call { callee := .builtin .append, args := #[s, x], argTypes := #[t, t] })
    (e : TypeId) (base : Nat) (ht : P.underlying t = some (.slice e)) (hinfo : (P.info? e).map (fun i => (i.zero, i.size, i.bytes)) = some (some (.agg #[.bool false, .string ⟨#[]⟩, .string ⟨#[]⟩]), 3, 40))
    (v : Value) (l : List Bm.Ov) (hs : a.eval s = v) (hown : OwnO e base w v l) (vx : Value) (m : List Bm.Ov) (hx : a.eval x = vx) (his : IsO w vx m)
    (hlen : (l.length + m.length) * 40 ≤ 140737488355328) (hbase : base ≤ w.heap.size)
    (h : ∀ v' w', OwnO e base w' v' (l ++ m) → Below base w w' → w.grownBy w' v.ownBlock → wpList P ops Q rest (a.put o.dst v') w') : wpList P ops Q (o :: rest) a w := by
  obtain ⟨i, hi, hz, hsize, hb⟩ := info_parts hinfo
  have hn : l.length + m.length ≤ 140737488355328 := by omega
  rcases his with ⟨hv, hy⟩ | ⟨ad, cap, hv, h1, h2, hc⟩
  · subst hy
    refine wpList_append_own_none hgd s x t ho base e i 3 ht hi v l.length _ hs hown (hx.trans hv) (h v w (by simpa using hown) (Below.refl _ _) (World.grownBy.refl _ _))
  · refine wpList_append_own w hgd s x t ho base e i _ 3 40 ht hi hz hsize hb rfl (by decide) v l.length _ hs hown ad m.length cap (ocells m) (hx.trans hv) (ocells_len m) hc (ocells_cell m) (by unfold maxLen; omega) hlen hbase ?_
    intro v' w' ho' hg _
    refine h v' w' (by unfold OwnO; rw [ocells_app, List.length_append]; exact ho') ((Below.refl _ _).grown hg hbase fun k' hk => ?_) hg
    exact (World.ownsRow.lt hown k' hk).1

end

theorem Try.info87 : (Try.prog.info? 87).map (fun i => (i.zero, i.size, i.bytes)) = some (some (.agg #[.bool false, .string ⟨#[]⟩, .string ⟨#[]⟩]), 3, 40) := by kernel_rfl

end Go.Proofs.Ytimmohpnlieefaa

/- The contracts of batch's Check, Shared. -/
namespace Go.Proofs.Ytimmohpnlieefaa
open Go.RowKit
set_option linter.unusedVariables false

theorem first_take {l : List Bm.Ov} {k : Nat} {o : Bm.Ov} (h : ∀ q ∈ l.take k, q.c = 0) (ho : l[k]? = some o) (hc : o.c = 0) : ∀ q ∈ l.take (k + 1), q.c = 0 := by
  obtain ⟨hk, rfl⟩ := List.getElem?_eq_some_iff.1 ho
  intro q hq
  rw [List.take_succ_eq_append_getElem hk] at hq
  rcases List.mem_append.1 hq with hq | hq
  · exact h q hq
  · rw [List.mem_singleton.1 hq]; exact hc

set_option maxHeartbeats 400000 in
theorem bcheck_any (vl : Value) (l : List Bm.Ov) (w : World) (h : IsO w vl l) (hf : FitO l) (hl : l.length ≤ 140737488355328) :
    Calls Try.prog 108 #[vl] w fun E w' => E = .returned (.int .i64 (Bm.chkL l)) ∧ Below w.heap.size w w' := by
  by_cases h0 : l.length = 0
  · have : l = [] := List.eq_nil_of_length_eq_zero h0
    subst this
    obtain ⟨ao, cap, rfl⟩ := h.bare
    clear h hf hl h0
    go_enter Try.func108, Try.ntmps108
    go_wp2
    go_ret
    exact ⟨rfl, Below.refl _ _⟩
  · by_cases h8 : 8 < l.length
    · obtain ⟨ao, cap, rfl, _, _⟩ := h.shape
      rw [Bm.chkL_long h8]
      clear h hf
      have e0 : ((l.length : Int) == 0) = false := by rw [beq_eq_false_iff_ne]; omega
      have e8 : (8 : Int) < l.length := by omega
      go_enter Try.func108, Try.ntmps108
      go_wp2
      go_ret
      exact ⟨rfl, Below.refl _ _⟩
    · obtain ⟨b1, o1, c1, rfl, _, _, hB, hcell⟩ := h.full (by omega)
      rw [Bm.chkL_mid h0 h8]
      have e0 : ((l.length : Int) == 0) = false := by rw [beq_eq_false_iff_ne]; omega
      have e8 : ¬ (8 : Int) < l.length := by omega
      clear h
      generalize hn : l.length = n at *
      have HN := hide hn
      have HC := hide hcell
      have HF := hide hf
      clear hn hcell hf
      go_enter Try.func108, Try.ntmps108
      go_wp2
      go_loopw [14] (fun i wr => ∃ (k : Nat), k ≤ n ∧ i = .int .i64 k ∧ Hid (∀ q ∈ l.take k, q.c = 0) ∧ Below w.heap.size w wr) (fun i _ => n - (intOf i).toNat)
      case atStart => exact ⟨0, by omega, rfl, hide (by simp), Below.refl _ _⟩
      case round =>
        obtain ⟨k, hk, rfl, HT, bel⟩ := hrel
        by_cases hlt : k < n
        · obtain ⟨o, ho⟩ : ∃ o, l[k]? = some o := ⟨l[k]'(by have := HN.out; omega), by rw [List.getElem?_eq_getElem]⟩
          obtain ⟨c0, c1, c2⟩ := HC.out k o ho
          have sz := bel.size
          have d0 := (bel.cell (p := ⟨b1, o1 + k * 3, none⟩) hB).trans c0
          have d1 := (bel.cell (p := ⟨b1, o1 + k * 3 + 1, none⟩) hB).trans c1
          have d2 := (bel.cell (p := ⟨b1, o1 + k * 3 + 2, none⟩) hB).trans c2
          have HO := hide ho
          clear c0 c1 c2 ho
          have hlt' : (k : Int) < n := by omega
          obtain ⟨hk1, hv1⟩ := HF.out o (List.mem_of_getElem? HO.out)
          go_wp2_with fail
          refine (check_any o.p o.k o.v _ hk1 hv1).mono ?_
          rintro E w1 ⟨rfl, bel1⟩
          have bel0 : Below wr.heap.size wr (wr.alloc (.cells #[.bool o.p, .string o.k, .string o.v] 87)) := (Below.refl _ _).alloc (Nat.le_refl _) _
          have bel2 : Below w.heap.size w w1 := (bel.trans (bel0.mono sz)).trans (bel1.mono (by simp; omega))
          clear bel0 bel1 d0 d1 d2
          rcases (show Om.chk o.p o.k.data.toList o.v.data.toList = 0 ∨ _ from Om.chk_two _ _ _) with hc | hc
          · rw [hc]
            have HT2 := hide (first_take HT.out HO.out hc)
            clear hc
            go_wp2
            go_roundw
            case rel => exact ⟨k + 1, by omega, by go_num, HT2, bel2⟩
            case measure => simp [intOf]; omega
          · rw [hc]
            have HB := hide (Bm.first_bad (List.mem_of_getElem? HO.out) (show Bm.Ov.c o ≠ 0 by unfold Bm.Ov.c Bm.Ov.kl Bm.Ov.vl; rw [hc]; simp))
            clear hc
            go_wp2
            go_ret
            exact ⟨ret_i64 HB.out.symm, bel2⟩
        · have hkn : k = n := by omega
          have HB : Hid (Bm.first l = 0) := hide (Bm.first_all (fun q hq => HT.out q (by rw [List.take_of_length_le (by have := HN.out; omega)]; exact hq)))
          have hlt' : ¬ (k : Int) < n := by omega
          go_wp2
          go_ret
          exact ⟨ret_i64 HB.out.symm, bel⟩

set_option maxHeartbeats 400000 in
theorem shared_quiet (a b : ByteArray) (w : World) (ha : a.size ≤ 140737488355328) (hb : b.size ≤ 140737488355328) :
    Calls Try.prog 119 #[.string a, .string b] w fun E w' => E = .returned (.int .i64 (Bm.com a.data.toList b.data.toList)) ∧ ∃ m, w' = w.drewN m := by
  have la : a.data.toList.length = a.size := (Lib.size_eq a).symm
  have lb : b.data.toList.length = b.size := (Lib.size_eq b).symm
  go_enter Try.func119, Try.ntmps119
  go_wp2
  all_goals
    go_loopw [13] (fun i wr => ∃ (k : Nat), k ≤ a.size ∧ k ≤ b.size ∧ i = .int .i64 k ∧ Hid (a.data.toList.take k = b.data.toList.take k) ∧ ∃ m, wr = w.drewN m) (fun i _ => a.size + b.size - (intOf i).toNat)
    case atStart => exact ⟨0, by omega, by omega, rfl, hide rfl, 0, rfl⟩
    case round =>
      obtain ⟨k, hka, hkb, rfl, HT, m, rfl⟩ := hrel
      by_cases hA : k < a.size
      · by_cases hB : k < b.size
        · have hA' : (k : Int) < a.size := by omega
          have hB' : (k : Int) < b.size := by omega
          obtain ⟨c, hc⟩ : ∃ c : UInt8, a[k] = c := ⟨_, rfl⟩
          obtain ⟨d, hd⟩ : ∃ c : UInt8, b[k] = c := ⟨_, rfl⟩
          have ea : a.data.toList[k]? = some c := by rw [List.getElem?_eq_getElem (by omega), ← hc]; rfl
          have eb : b.data.toList[k]? = some d := by rw [List.getElem?_eq_getElem (by omega), ← hd]; rfl
          have EA := hide ea
          have EB := hide eb
          clear ea eb
          by_cases hcd : c = d
          · have ht : ((c.toNat : Int) != (d.toNat : Int)) = false := by simp [hcd]
            have HK : Hid (a.data.toList.take (k + 1) = b.data.toList.take (k + 1)) := hide (by
              have h1 := EA.out
              have h2 := EB.out
              rw [List.take_add_one, List.take_add_one, HT.out, h1, h2, hcd])
            clear hcd
            go_wp2
            go_quiet (fail)
            go_wp2
            go_roundw
            case rel => exact ⟨k + 1, by omega, by omega, by go_num, HK, _, rfl⟩
            case measure => simp [intOf]; omega
          · have ht : ((c.toNat : Int) != (d.toNat : Int)) = true := by
              have : c.toNat ≠ d.toNat := fun h => hcd (UInt8.toNat_inj.1 h)
              simp; omega
            have HK : Hid (Bm.com a.data.toList b.data.toList = k) := hide (Bm.com_is _ _ k (by omega) (by omega) HT.out (.inr (.inr (by rw [EA.out, EB.out]; simpa using hcd))))
            clear hcd
            go_wp2
            go_quiet (fail)
            go_wp2
            go_ret
            exact ⟨ret_i64 (by rw [HK.out]), _, World.drewN_drewN _ _ _⟩
        · have hB' : ¬ (k : Int) < b.size := by omega
          have HK : Hid (Bm.com a.data.toList b.data.toList = k) := hide (Bm.com_is _ _ k (by omega) (by omega) HT.out (.inr (.inl (by omega))))
          have hkk : k = b.size := by omega
          have h' : ¬ a.size ≤ k := by omega
          try (exfalso; omega)
          try (
            go_wp2
            go_ret
            exact ⟨ret_i64 (by rw [HK.out]; omega), m, rfl⟩)
      · have hA' : ¬ (k : Int) < a.size := by omega
        have HK : Hid (Bm.com a.data.toList b.data.toList = k) := hide (Bm.com_is _ _ k (by omega) (by omega) HT.out (.inl (by omega)))
        have hkk : k = a.size := by omega
        have hB' : b.size < a.size ∨ ¬ b.size < a.size := by omega
        try (exfalso; omega)
        try (
          go_wp2
          go_ret
          exact ⟨ret_i64 (by rw [HK.out]; omega), m, rfl⟩)

theorem shared_any (a b : ByteArray) (w : World) (ha : a.size ≤ 140737488355328) (hb : b.size ≤ 140737488355328) :
    Calls Try.prog 119 #[.string a, .string b] w fun E w' => E = .returned (.int .i64 (Bm.com a.data.toList b.data.toList)) ∧ Below w.heap.size w w' :=
  (shared_quiet a b w ha hb).mono (by rintro E w' ⟨rfl, m, rfl⟩; exact ⟨rfl, below_drewN (Below.refl _ _) m⟩)

end Go.Proofs.Ytimmohpnlieefaa

/- The contracts of slices.Clone and of batch's appendNumber, appendKey, appendOp, Append. -/
namespace Go.Proofs.Ytimmohpnlieefaa
open Go.RowKit
set_option linter.unusedVariables false
set_option maxRecDepth 100000

/-- Blocks of another type than e are as they were. -/
def KeepT (e : TypeId) (w w' : World) : Prop := ∀ (g : Nat) (cs : Array Value) (t : TypeId) (fr : Nat × Nat), w.heap[g]? = some (.cells cs t fr) → t ≠ e → w'.heap[g]? = some (.cells cs t fr)

theorem KeepT.refl (e : TypeId) (w : World) : KeepT e w w := fun _ _ _ _ h _ => h
theorem KeepT.trans {e : TypeId} {w w1 w2 : World} (h : KeepT e w w1) (k : KeepT e w1 w2) : KeepT e w w2 := fun g cs t fr hg ht => k g cs t fr (h g cs t fr hg ht) ht
theorem KeepT.of_below {e : TypeId} {w w' : World} (h : Below w.heap.size w w') : KeepT e w w' := fun g cs t fr hg _ => (h.block g (blk_lt hg)).trans hg

theorem Own.block_type {k : IntKind} {e : TypeId} {base : Nat} {w : World} {v : Value} {zs : List Int} (h : Own k e base w v zs) {g : Nat} (hg : v.ownBlock = some g) : ∃ cs, w.heap[g]? = some (.cells cs e (0, 0)) := by
  rcases h.2.2 with ⟨rfl, _⟩ | ⟨g', cap, cur, rfl, _, hh, _⟩
  · simp [Value.ownBlock] at hg
  · simp [Value.ownBlock] at hg
    subst hg
    exact ⟨_, hh⟩

theorem KeepT.of_grown {k : IntKind} {e : TypeId} {base : Nat} {w w' : World} {v : Value} {zs : List Int} (h : Own k e base w v zs) (hg : w.grownBy w' v.ownBlock) : KeepT e w w' := by
  intro g cs t fr hc ht
  refine (hg.block g (blk_lt hc) fun e1 => ?_).trans hc
  obtain ⟨cs', h'⟩ := h.block_type e1.symm
  rw [h'] at hc
  simp at hc
  exact ht hc.2.1.symm

section
variable {P : Program} {w : World} {ops : Array Oper} {rest : List Oper} {o : Oper} {a : Act} {Q : Exit → Act → World → Prop}

/-- 'out = append(out, s...)', s a string; what else there is stays. -/
theorem wpList_append_str2 (hgd : o.guard = none) (sl x : Operand) (t u : TypeId)
    (ho : o.op = .call { callee := .builtin .append, args := #[sl, x], argTypes := #[t, u] })
    (e : TypeId) (base : Nat) (ht : P.underlying t = some (.slice e)) (hu : P.underlying u = some .string) (hinfo : (P.info? e).map (fun i => (i.zero, i.size, i.bytes)) = some (some (.int .u8 0), 1, 1))
    (v : Value) (zs : List Int) (hs : a.eval sl = v) (hown : Own .u8 e base w v zs) (s : ByteArray) (hx : a.eval x = .string s)
    (hlen : zs.length + s.size ≤ 140737488355328) (hbase : base ≤ w.heap.size)
    (h : ∀ v' w', Own .u8 e base w' v' (zs ++ Om.ints s.data.toList) → Below base w w' → KeepT e w w' → wpList P ops Q rest (a.put o.dst v') w') : wpList P ops Q (o :: rest) a w := by
  obtain ⟨i, hi, hz, hsize, hb⟩ := info_parts hinfo
  refine Lib.wpList_append_own_string w hgd sl x t u ho base e i ht hu hi hz hsize hb v zs.length _ hs hown.2 s hx (by unfold maxLen; omega) hlen hbase fun v' w' h1 h2 _ => ?_
  refine h v' w' ⟨?_, ?_⟩ ((Below.refl _ _).grown h2 hbase fun k' hk => (hown.2.lt k' hk).1) (KeepT.of_grown hown h2)
  · intro z hz
    rcases List.mem_append.1 hz with hz | hz
    · exact hown.1 z hz
    · unfold Om.ints at hz
      obtain ⟨c, _, rfl⟩ := List.mem_map.1 hz
      have := c.toNat_lt
      exact wf_u8 (by omega) (by omega)
  · have e1 : zs.length + s.size = (zs ++ Om.ints s.data.toList).length := by rw [List.length_append, Om.ints_len, Lib.size_eq]
    rw [e1] at h1
    simpa [Lib.strCells_eq, Lib.byteCells, Om.ints, List.map_append, Function.comp_def] using h1

end

set_option maxHeartbeats 400000 in
theorem clone_any (vb : Value) (bs : List Int) (w : World) (hb : Is .u8 w vb bs) (hl : bs.length ≤ 140737488355328) :
    Calls Try.prog 110 #[vb] w fun e w' => ∃ v, e = .returned v ∧ Own .u8 5 w.heap.size w' v bs ∧ Below w.heap.size w w' := by
  have q : ∀ (w : World) (a : Option Addr) (n c n' c' : Nat), (binOp .eql 37 (.slice a n c) (.slice none n' c')).run Try.prog w = .ok (.bool a.isNone) w := fun w a n c n' c' => Lib.run_eql_slice_nil w _ _ a n c n' c' Try.underlying37
  by_cases hn : vb = .slice none 0 0
  · subst hn
    have : bs = [] := by
      rcases hb.2 with ⟨_, h⟩ | ⟨ad, cap, h, _⟩
      · exact h
      · simp at h
    subst this
    clear hb hl
    go_enter Try.func110, Try.ntmps110
    go_wp2
    go_ret
    exact ⟨_, rfl, Own.nil _ _ _ _, Below.refl _ _⟩
  · obtain ⟨ad, cap, rfl⟩ : ∃ ad cap, vb = .slice (some ad) bs.length cap := by
      rcases hb.2 with ⟨h, _⟩ | ⟨ad, cap, h, _⟩
      · exact absurd h hn
      · exact ⟨ad, cap, h⟩
    clear hn
    obtain ⟨w1, hw1, sz1, bel1, own1⟩ := own_step .u8 5 w #[] 0 [] rfl rfl (by simp [maxLen]) (by simp)
    have hb1 := hb.below bel1
    go_enter Try.func110, Try.ntmps110
    go_wp2_with (at_builtin; refine wpList_append_is rfl (.tmp 5) (.tmp 6) 37 rfl .u8 5 w.heap.size 1 Try.underlying37 Try.info5 (by decide) _ [] rfl own1 _ bs rfl hb1 (by simp; omega) (by omega) ?_)
    intro v2 w2 own2 bel2 _
    go_wp2
    go_ret
    exact ⟨_, rfl, own2, bel1.trans bel2⟩

set_option maxHeartbeats 400000 in
theorem appn_any (base : Nat) (v : Value) (zs : List Int) (x : Nat) (w : World) (hv : Own .u8 5 base w v zs) (hb : base ≤ w.heap.size) (hl : zs.length ≤ 140737488355000) (hx : x < 128) :
    Calls Try.prog 111 #[v, .int .i64 x] w fun E w' => ∃ v', E = .returned v' ∧ Own .u8 5 base w' v' (zs ++ Vm.enc x) ∧ Below base w w' ∧ KeepT 5 w w' := by
  have hz1 : (Vm.enc x).length = 1 := Vm.sz_lo hx
  go_enter Try.func111, Try.ntmps111
  go_wp2_with fail
  refine (app_any _ [] x _ (Is.nil _ _) (by simp) (by omega) (by omega)).mono ?_
  rintro E w1 ⟨v1, rfl, own1, bel1⟩
  rw [Int.toNat_natCast, List.nil_append] at own1
  have hb1 := bel1.size
  have hv1 := hv.below bel1
  have is1 := own1.is
  go_wp2_with (at_builtin; refine wpList_append_is rfl (.tmp 5) (.tmp 8) 37 rfl .u8 5 base 1 Try.underlying37 Try.info5 (by decide) _ zs rfl hv1 _ (Vm.enc x) rfl is1 (by omega) (by omega) ?_)
  intro v2 w2 own2 bel2 gr2
  go_wp2
  go_ret
  exact ⟨_, rfl, own2, (bel1.mono hb).trans bel2, (KeepT.of_below bel1).trans (KeepT.of_grown hv1 gr2)⟩

theorem drop_take_len (k : ByteArray) (n : Nat) : List.take (k.size - n) (List.drop n k.data.toList) = List.drop n k.data.toList := by
  rw [List.take_of_length_le]
  rw [List.length_drop, ← Lib.size_eq]
  exact Nat.le_refl _

set_option maxHeartbeats 400000 in
theorem appk_any (base : Nat) (v : Value) (zs : List Int) (k : ByteArray) (n : Nat) (w : World) (hv : Own .u8 5 base w v zs) (hb : base ≤ w.heap.size) (hl : zs.length ≤ 140737488354000) (hk : k.size ≤ 64) (hn : n ≤ k.size) :
    Calls Try.prog 120 #[v, .string k, .int .i64 n] w fun E w' => ∃ v', E = .returned v' ∧ Own .u8 5 base w' v' (zs ++ (Vm.enc n ++ (Vm.enc (k.size - n) ++ Om.ints (k.data.toList.drop n)))) ∧ Below base w w' ∧ KeepT 5 w w' := by
  have hz1 : (Vm.enc n).length = 1 := Vm.sz_lo (by omega)
  have hz2 : (Vm.enc (k.size - n)).length = 1 := Vm.sz_lo (by omega)
  have hsub : (k.size : Int) - n = ((k.size - n : Nat) : Int) := by omega
  have hdt := drop_take_len k n
  go_enter Try.func120, Try.ntmps120
  go_wp2_with fail
  refine (appn_any base v zs n _ hv hb (by omega) (by omega)).mono ?_
  rintro E w1 ⟨v1, rfl, own1, bel1, kp1⟩
  have hb1 := bel1.size
  go_wp2_with fail
  refine (appn_any base v1 _ (k.size - n) _ own1 (by omega) (by simp; omega) (by omega)).mono ?_
  rintro E w2 ⟨v2, rfl, own2, bel2, kp2⟩
  have hb2 := bel2.size
  have hl2 : (zs ++ Vm.enc n ++ Vm.enc (k.size - n)).length ≤ 140737488354100 := by rw [List.length_append, List.length_append]; omega
  go_wp2_with (at_builtin; refine wpList_append_str2 rfl (.tmp 16) (.tmp 19) 37 9 rfl 5 base Try.underlying37 Try.underlying9 Try.info5 _ _ rfl own2 _ rfl ?q1 (by omega) ?_)
  case q1 => simp; simp at hl2; omega
  intro v3 w3 own3 bel3 kp3
  go_wp2
  go_ret
  exact ⟨_, rfl, own3, (bel1.trans bel2).trans bel3, (kp1.trans kp2).trans kp3⟩

theorem Try.enters120 : ∀ args w, (callFunc 120 args).run Try.prog w = .ok (.enter 120 args) w := enters_of Try.func120 (by kernel_rfl) rfl

/-- A call of a Go function inside a region that draws its order. -/
theorem call_step {P : Program} {ops : Array Oper} {o : Oper} {a : Act} {w : World} {K : Act → World → Prop} {Q : Exit → Act → World → Prop} {E : Prop} (hgd : o.guard = none) (f : FuncId) (args : Array Operand) (ts : Array TypeId)
    (ho : o.op = .call { callee := .value (.func f), args := args, argTypes := ts }) (hent : ∀ args w, (callFunc f args).run P w = .ok (.enter f args) w) (vs : Array Value) (hvs : args.map a.eval = vs)
    {R : Value → World → Prop} (hc : Calls P f vs w fun e w' => ∃ v, e = .returned v ∧ R v w') (h : ∀ v w', R v w' → K (a.put o.dst v) w') :
    if Region.wanted o (yielded ops a.tmps) = true then Oper.wp P o a w K Q else E := by
  have hw : Region.wanted o (yielded ops a.tmps) = true := by simp [Region.wanted, hgd]
  rw [if_pos hw]
  unfold Oper.wp
  simp only [execOp, ho, resolve, invoke, Sem.run_bind, hvs]
  simp only [Act.eval, Deferred.ofValue, Sem.run_pure, Result.andThen_ok, Array.empty_append, hent]
  rw [Oper.upon_enter]
  refine hc.mono ?_
  rintro e w' ⟨v, rfl, hr⟩
  exact h v w' hr

theorem encO_del {ah : List UInt8} {k u : ByteArray} {n : Nat} (hn : Bm.com ah k.data.toList = n) : Bm.encO ah ⟨false, k, u⟩ = [0] ++ (Vm.enc n ++ (Vm.enc (k.size - n) ++ Om.ints (k.data.toList.drop n))) := by
  unfold Bm.encO Bm.pre4 Bm.Ov.bit Bm.Ov.kl
  simp only [hn, List.length_drop, ← Lib.size_eq]
  rw [if_neg (by simp), if_neg (by simp), Vm.enc_lo (by omega)]
  simp

theorem encO_put {ah : List UInt8} {k u : ByteArray} {n : Nat} (hn : Bm.com ah k.data.toList = n) : Bm.encO ah ⟨true, k, u⟩ = [1] ++ (Vm.enc n ++ (Vm.enc (k.size - n) ++ Om.ints (k.data.toList.drop n))) ++ Vm.enc u.size ++ Om.ints u.data.toList := by
  unfold Bm.encO Bm.pre4 Bm.Ov.bit Bm.Ov.kl Bm.Ov.vl Om.cnt
  simp only [hn, List.length_drop, ← Lib.size_eq]
  rw [if_pos trivial, if_pos trivial, Vm.enc_lo (by omega)]
  simp

set_option maxHeartbeats 1000000 in
theorem appo_any (base : Nat) (v : Value) (zs : List Int) (o : Bm.Ov) (ah : ByteArray) (w : World) (hv : Own .u8 5 base w v zs) (hb : base ≤ w.heap.size) (hl : zs.length ≤ 140737488353000) (hah : ah.size ≤ 64) (hc : o.c = 0) :
    Calls Try.prog 112 #[v, opv o.p o.k o.v, .string ah] w fun E w' => ∃ v', E = .returned v' ∧ Own .u8 5 base w' v' (zs ++ Bm.encO ah.data.toList o) ∧ Below base w w' ∧ KeepT 5 w w' := by
  obtain ⟨p, k, u⟩ := o
  have hh := Om.chk_ok' hc
  have hcl := Bm.com_le ah.data.toList k.data.toList
  simp only [Bm.Ov.kl, Bm.Ov.vl, ← Lib.size_eq] at hh hcl
  clear hc
  unfold opv
  simp only
  obtain ⟨n, hn⟩ : ∃ n, Bm.com ah.data.toList k.data.toList = n := ⟨_, rfl⟩
  rw [hn] at hcl
  have hnk := hcl.2.1
  have hk16 := hh.2.1
  have hu32 := hh.2.2.1
  have hz1 : (Vm.enc n).length = 1 := Vm.sz_lo (by omega)
  have hz2 : (Vm.enc (k.size - n)).length = 1 := Vm.sz_lo (by omega)
  have hz3 : (Vm.enc u.size).length = 1 := Vm.sz_lo (by omega)
  have hz4 : (Om.ints (k.data.toList.drop n)).length ≤ 16 := by rw [Om.ints_len, List.length_drop, ← Lib.size_eq]; omega
  obtain ⟨w0, hw0, sz0, bel0, blk0⟩ := blk_step w #[.bool p, .string k, .string u] 87
  have c0 := blk_cell blk0 0 rfl
  have c1 := blk_cell blk0 1 rfl
  have c2 := blk_cell blk0 2 rfl
  have HN := hide hn
  have HB := hide blk0
  clear hn hh blk0 hcl
  cases p
  · rw [encO_del HN.out]
    go_enter Try.func112, Try.ntmps112
    go_wp2_with fail
    refine (shared_any ah k _ (by omega) (by omega)).mono ?_
    rintro E w1 ⟨rfl, bel1⟩
    rw [HN.out]
    have sz1 := bel1.size
    have d0 := (bel1.cell (p := ⟨w.heap.size, 0, none⟩) (by simp [sz0])).trans c0
    have d1 := (bel1.cell (p := ⟨w.heap.size, 1, none⟩) (by simp [sz0])).trans c1
    have B1 := hide ((bel1.block w.heap.size (by omega)).trans HB.out)
    have bel01 : Below w.heap.size w w1 := bel0.trans (bel1.mono bel0.size)
    have hv1 := hv.below bel01
    clear c0 c1 c2 HB bel0 bel1 hw0
    obtain ⟨w2, hw2, sz2, bel2, own2⟩ := own_step .u8 5 w1 #[.int .u8 0] 1 [0] rfl rfl (by simp [maxLen]) (by simp [wf_u8])
    have e0 := (bel2.cell (p := ⟨w.heap.size, 0, none⟩) (by simp; omega)).trans d0
    have e1 := (bel2.cell (p := ⟨w.heap.size, 1, none⟩) (by simp; omega)).trans d1
    have B2 := hide ((bel2.block w.heap.size (by omega)).trans B1.out)
    have i1 := fun m => (hv1.below bel2).drewN m
    have i2 := fun m => own2.is.drewN m
    have HZ := hide hl
    go_wp2_with fail
    go_region_law (first
      | (refine step_append_is rfl (.tmp 15) (.tmp 16) 37 rfl .u8 5 base 1 Try.underlying37 Try.info5 (by decide) _ zs (by simp [Act.eval]) (i1 1) _ [0] (by simp [Act.eval]) (i2 1) (by simp; omega) (by simp; omega) ?_; intro v3 w3 own3 bel3 gr3; have B3 := KeepT.of_grown (i1 1) gr3 _ _ _ _ B2.out (by decide); have f0 := blk_cell B3 0 rfl; have f1 := blk_cell B3 1 rfl; have f2 := blk_cell B3 2 rfl; replace B3 := hide B3)
      | (refine call_step rfl 120 #[.tmp 17, .tmp 19, .tmp 20] #[37, 9, 3] rfl Try.enters120 #[v3, .string k, .int .i64 n] (by simp [Act.eval]) ((appk_any base v3 _ k n _ own3 (by have := bel3.size; simp at this; omega) (by simp; omega) (by omega) hnk).mono (by rintro E w' ⟨v', rfl, h⟩; exact ⟨v', rfl, h⟩)) ?_; rintro v4 w4 ⟨own4, bel4, kp4⟩))
    all_goals
      have bel5 : Below base w w4 := (((bel01.mono hb).trans (bel2.mono (by omega))).trans ((Below.refl _ _).drew.trans bel3)).trans bel4
      have kp5 : KeepT 5 w w4 := ((((KeepT.of_below bel01).trans (KeepT.of_below bel2)).trans (KeepT.of_below (below_drewN (Below.refl w2.heap.size w2) 1))).trans (KeepT.of_grown (i1 1) gr3)).trans kp4
      have own5 : Own .u8 5 base w4 v4 (zs ++ 0 :: (Vm.enc n ++ (Vm.enc (k.size - n) ++ Om.ints (List.drop n k.data.toList)))) := by simpa using own4
      clear i1 i2 own4 own3 gr3 bel3 bel4 kp4 f0 f1 f2 e0 e1 d0 d1 B1 B2 B3
      go_wp2
      go_ret
      exact ⟨_, rfl, own5, bel5, kp5⟩
  · rw [encO_put HN.out]
    go_enter Try.func112, Try.ntmps112
    go_wp2_with fail
    refine (shared_any ah k _ (by omega) (by omega)).mono ?_
    rintro E w1 ⟨rfl, bel1⟩
    rw [HN.out]
    have sz1 := bel1.size
    have d0 := (bel1.cell (p := ⟨w.heap.size, 0, none⟩) (by simp [sz0])).trans c0
    have d1 := (bel1.cell (p := ⟨w.heap.size, 1, none⟩) (by simp [sz0])).trans c1
    have B1 := hide ((bel1.block w.heap.size (by omega)).trans HB.out)
    have bel01 : Below w.heap.size w w1 := bel0.trans (bel1.mono bel0.size)
    have hv1 := hv.below bel01
    clear c0 c1 c2 HB bel0 bel1 hw0
    obtain ⟨w2, hw2, sz2, bel2, own2⟩ := own_step .u8 5 w1 #[.int .u8 1] 1 [1] rfl rfl (by simp [maxLen]) (by simp [wf_u8])
    have e0 := (bel2.cell (p := ⟨w.heap.size, 0, none⟩) (by simp; omega)).trans d0
    have e1 := (bel2.cell (p := ⟨w.heap.size, 1, none⟩) (by simp; omega)).trans d1
    have B2 := hide ((bel2.block w.heap.size (by omega)).trans B1.out)
    have i1 := fun m => (hv1.below bel2).drewN m
    have i2 := fun m => own2.is.drewN m
    have HZ := hide hl
    go_wp2_with fail
    go_region_law (first
      | (refine step_append_is rfl (.tmp 22) (.tmp 23) 37 rfl .u8 5 base 1 Try.underlying37 Try.info5 (by decide) _ zs (by simp [Act.eval]) (i1 1) _ [1] (by simp [Act.eval]) (i2 1) (by simp; omega) (by simp; omega) ?_; intro v3 w3 own3 bel3 gr3; have B3 := KeepT.of_grown (i1 1) gr3 _ _ _ _ B2.out (by decide); have f0 := blk_cell B3 0 rfl; have f1 := blk_cell B3 1 rfl; have f2 := blk_cell B3 2 rfl; replace B3 := hide B3)
      | (refine call_step rfl 120 #[.tmp 24, .tmp 26, .tmp 27] #[37, 9, 3] rfl Try.enters120 #[v3, .string k, .int .i64 n] (by simp [Act.eval]) ((appk_any base v3 _ k n _ own3 (by have := bel3.size; simp at this; omega) (by simp; omega) (by omega) hnk).mono (by rintro E w' ⟨v', rfl, h⟩; exact ⟨v', rfl, h⟩)) ?_; rintro v4 w4 ⟨own4, bel4, kp4⟩))
    all_goals
      have bel5 : Below base w w4 := (((bel01.mono hb).trans (bel2.mono (by omega))).trans ((Below.refl _ _).drew.trans bel3)).trans bel4
      have kp5 : KeepT 5 w w4 := ((((KeepT.of_below bel01).trans (KeepT.of_below bel2)).trans (KeepT.of_below (below_drewN (Below.refl w2.heap.size w2) 1))).trans (KeepT.of_grown (i1 1) gr3)).trans kp4
      have B4 := kp4 _ _ _ _ B3.out (by decide)
      have g2 := blk_cell B4 2 rfl
      have sz4 := bel5.size
      replace B4 := hide B4
      have hl5 : (zs ++ [1] ++ (Vm.enc n ++ (Vm.enc (k.size - n) ++ Om.ints (List.drop n k.data.toList)))).length ≤ 140737488353100 := by simp only [List.length_append, List.length_cons, List.length_nil]; omega
      generalize hz5 : zs ++ [1] ++ (Vm.enc n ++ (Vm.enc (k.size - n) ++ Om.ints (List.drop n k.data.toList))) = z5 at *
      have HZ5 := hide hz5
      clear hz5 i1 i2 own3 gr3 bel3 bel4 kp4 f0 f1 f2 e0 e1 d0 d1 B1 B2 B3
      go_wp2_with fail
      refine (appn_any base v4 z5 u.size _ own4 (by omega) (by omega) (by omega)).mono ?_
      rintro E w6 ⟨v6, rfl, own6, bel6, kp6⟩
      have sz6 := bel6.size
      have g3 := blk_cell (kp6 _ _ _ _ B4.out (by decide)) 2 rfl
      go_wp2_with (at_builtin; refine wpList_append_str2 rfl (.tmp 34) (.tmp 36) 37 9 rfl 5 base Try.underlying37 Try.underlying9 Try.info5 _ _ rfl own6 u rfl ?q1 (by omega) ?_)
      case q1 => simp only [List.length_append]; omega
      intro v7 w7 own7 bel7 kp7
      have own8 : Own .u8 5 base w7 v7 (zs ++ ([1] ++ (Vm.enc n ++ (Vm.enc (k.size - n) ++ Om.ints (List.drop n k.data.toList))) ++ Vm.enc u.size ++ Om.ints u.data.toList)) := by
        rw [← HZ5.out] at own7
        simpa using own7
      clear own7 own6 own4
      go_wp2
      go_ret
      exact ⟨_, rfl, by simpa using own8, (bel5.trans bel6).trans bel7, (kp5.trans kp6).trans kp7⟩

theorem lst_take {l : List Bm.Ov} {k : Nat} {o : Bm.Ov} (ho : l[k]? = some o) : l.take (k + 1) = l.take k ++ [o] := by
  obtain ⟨hk, rfl⟩ := List.getElem?_eq_some_iff.1 ho
  exact List.take_succ_eq_append_getElem hk

theorem encL_take {l : List Bm.Ov} {k : Nat} {o : Bm.Ov} (ho : l[k]? = some o) : Bm.encL [] (l.take (k + 1)) = Bm.encL [] (l.take k) ++ Bm.encO (Bm.lst [] (l.take k)) o := by
  rw [lst_take ho, Bm.encL_snoc]

theorem encL_small {l : List Bm.Ov} (hc : Bm.chkL l = 0) (k : Nat) : (Bm.encL [] (l.take k)).length ≤ 420 := by
  obtain ⟨h1, h2, h3⟩ := Bm.chkL_zero hc
  have h4 : ∀ o ∈ l.take k, Bm.Ov.c o = 0 := fun o ho => h3 o (List.mem_of_mem_take ho)
  have := Bm.encL_le [] (l.take k) h4
  have := Bm.sum_le h4
  have : (l.take k).length ≤ 8 := by rw [List.length_take]; omega
  omega

set_option maxHeartbeats 1000000 in
theorem bapp_any (vb : Value) (bs : List Int) (vl : Value) (l : List Bm.Ov) (w : World) (hb : Is .u8 w vb bs) (hl : bs.length ≤ 140737488351700) (h : IsO w vl l) (hf : FitO l) (hll : l.length ≤ 140737488355328) :
    Calls Try.prog 99 #[vb, vl] w fun E w' => ∃ v', E = .returned (.tuple #[v', .int .i64 (Bm.chkL l)]) ∧ Own .u8 5 w.heap.size w' v' (Bm.appB bs l) ∧ Below w.heap.size w w' := by
  by_cases hc : Bm.chkL l = 0
  · rw [hc, Bm.appB_ok hc]
    obtain ⟨h1, h8, h3⟩ := Bm.chkL_zero hc
    obtain ⟨b1, o1, c1, rfl, _, _, hB, hcell⟩ := h.full (by omega)
    have HC := hide hc
    have HL := hide hcell
    have H3 := hide h3
    have HE := hide (encL_small hc)
    have hz1 : (Vm.enc l.length).length = 1 := Vm.sz_lo (by omega)
    have hlen : (l.length : Int) ≤ 8 := by omega
    clear hc hcell h3
    go_enter Try.func99, Try.ntmps99
    go_wp2_with fail
    refine (bcheck_any _ l _ h hf hll).mono ?_
    rintro E w1 ⟨rfl, bel1⟩
    rw [HC.out]
    have sz1 := bel1.size
    have hb1 := hb.below bel1
    go_wp2_with fail
    refine (clone_any _ bs _ hb1 (by omega)).mono ?_
    rintro E w2 ⟨v2, rfl, own2, bel2⟩
    have sz2 := bel2.size
    replace own2 := own2.rebase sz1
    go_wp2_with fail
    refine (appn_any w.heap.size v2 bs l.length _ own2 (by omega) (by omega) (by omega)).mono ?_
    rintro E w3 ⟨v3, rfl, own3, bel3, _⟩
    have sz3 := bel3.size
    have bel03 : Below w.heap.size w w3 := (bel1.trans (bel2.mono sz1)).trans bel3
    clear own2 bel1 bel2 bel3 hb1
    go_wp2
    go_loopw [7, 8, 24] (fun ov av i wr => ∃ (k : Nat) (ah : ByteArray), k ≤ l.length ∧ i = .int .i64 k ∧ av = .string ah ∧ Hid (ah.data.toList = Bm.lst [] (l.take k)) ∧ ah.size ≤ 64 ∧ Own .u8 5 w.heap.size wr ov (bs ++ Vm.enc l.length ++ Bm.encL [] (l.take k)) ∧ Below w.heap.size w wr) (fun _ _ i _ => l.length - (intOf i).toNat)
    case atStart => exact ⟨0, ⟨#[]⟩, by omega, rfl, rfl, hide rfl, by simp [ByteArray.size], by simpa [Bm.encL] using own3, bel03⟩
    case round =>
      obtain ⟨k, ah, hk, rfl, rfl, HA, hah, own, bel⟩ := hrel
      have sz := bel.size
      by_cases hlt : k < l.length
      · obtain ⟨o, ho⟩ : ∃ o, l[k]? = some o := ⟨l[k], by rw [List.getElem?_eq_getElem]⟩
        obtain ⟨c0, c1, c2⟩ := HL.out k o ho
        have d0 := (bel.cell (p := ⟨b1, o1 + k * 3, none⟩) hB).trans c0
        have d1 := (bel.cell (p := ⟨b1, o1 + k * 3 + 1, none⟩) hB).trans c1
        have d2 := (bel.cell (p := ⟨b1, o1 + k * 3 + 2, none⟩) hB).trans c2
        have HO := hide ho
        have hoc := H3.out o (List.mem_of_getElem? ho)
        have hk64 : o.k.size ≤ 64 := by have := (Om.chk_ok' hoc).2.1; simp only [Bm.Ov.kl, ← Lib.size_eq] at this; omega
        have hel := HE.out k
        have e5 : bs ++ Vm.enc l.length ++ Bm.encL [] (l.take k) ++ Bm.encO ah.data.toList o = bs ++ Vm.enc l.length ++ Bm.encL [] (l.take (k + 1)) := by rw [encL_take ho, HA.out, ← List.append_assoc]
        have HA2 : Hid (o.k.data.toList = Bm.lst [] (l.take (k + 1))) := hide (by rw [lst_take ho, Bm.lst_snoc]; rfl)
        have hlz : (bs ++ Vm.enc l.length ++ Bm.encL [] (l.take k)).length ≤ 140737488353000 := by simp only [List.length_append]; omega
        generalize bs ++ Vm.enc l.length ++ Bm.encL [] (l.take k) = zs at *
        have E5 := hide e5
        clear c0 c1 c2 ho e5
        have hlt' : (k : Int) < l.length := by omega
        obtain ⟨w4, hw4, sz4, bel4, blk4⟩ := blk_step wr #[.bool o.p, .string o.k, .string o.v] 87
        have f0 := blk_cell blk4 0 rfl
        have f1 := blk_cell blk4 1 rfl
        have f2 := blk_cell blk4 2 rfl
        have B4 := hide blk4
        clear blk4
        go_wp2_with fail
        refine (appo_any w.heap.size _ zs o ah _ (own.below bel4) (by omega) (by omega) hah hoc).mono ?_
        rintro E w5 ⟨v5, rfl, own5, bel5, kp5⟩
        rw [E5.out] at own5
        have B5 := kp5 _ _ _ _ B4.out (by decide)
        have g1 := blk_cell B5 1 rfl
        have bel6 : Below w.heap.size w w5 := (bel.trans (bel4.mono sz)).trans bel5
        clear own bel4 bel5 kp5 B5 d0 d1 d2 f0 f1 f2 hel hlz
        go_wp2
        go_roundw
        case rel => exact ⟨k + 1, o.k, by omega, by go_num, rfl, HA2, hk64, own5, bel6⟩
        case measure => simp [intOf]; omega
      · have hlt' : ¬ (k : Int) < l.length := by omega
        rw [List.take_of_length_le (by omega), List.append_assoc] at own
        go_wp2
        go_ret2
        exact ⟨_, rfl, own, bel⟩
  · rw [Bm.appB_no hc]
    obtain ⟨c, hcc⟩ : ∃ c, Bm.chkL l = c := ⟨_, rfl⟩
    have h0 : (c != 0) = true := by rw [← hcc]; simpa using hc
    obtain ⟨ao, cp, rfl, _, _⟩ := hb.shape
    rw [hcc]
    have HC := hide hcc
    clear hc hcc
    go_enter Try.func99, Try.ntmps99
    go_wp2_with fail
    refine (bcheck_any _ l _ h hf hll).mono ?_
    rintro E w1 ⟨rfl, bel1⟩
    rw [HC.out]
    go_wp2
    go_ret2
    exact ⟨_, rfl, Own.nil _ _ _ _, bel1⟩

theorem OwnO.keptg {e base g : Nat} {w w' : World} {v : Value} {l : List Bm.Ov} (h : OwnO e base w v l) (hg : w.grownBy w' (some g)) (hb : g < base) : OwnO e base w' v l := by
  refine h.kept hg ?_
  cases hv : v.ownBlock with
  | none => exact .inl rfl
  | some b =>
    refine .inr fun e => ?_
    have := h.block b hv
    simp at e
    omega

end Go.Proofs.Ytimmohpnlieefaa

/- Front parts of a row of integers, of a row of ops; the length of a row of ops. No program. -/
namespace Go.Proofs.Ytimmohpnlieefaa
open Go.RowKit
set_option linter.unusedVariables false

section
variable {P : Program} {w : World} {v : Value}

theorem ocells_take : ∀ (l : List Bm.Ov) (p : Nat), ocells (l.take p) = (ocells l).take (p * 3)
  | [], p => by simp [ocells]
  | o :: l, 0 => by simp [ocells]
  | o :: l, p + 1 => by
    rw [List.take_succ_cons, show (p + 1) * 3 = p * 3 + 3 by omega]
    simp [ocells, ocell, ocells_take l p]

/-- The front of a row of ops. -/
theorem IsO.front {ad : Addr} {n cap : Nat} {l : List Bm.Ov} (h : IsO w (.slice (some ad) n cap) l) (p : Nat) (hp : p ≤ l.length) : IsO w (.slice (some ad) p cap) (l.take p) := by
  have hl : (l.take p).length = p := by rw [List.length_take]; omega
  rcases h with ⟨hv, _⟩ | ⟨ad', cap', hv, h1, h2, hc⟩
  · simp at hv
  · simp at hv
    obtain ⟨rfl, rfl, rfl⟩ := hv
    refine .inr ⟨ad, cap, by rw [hl], by omega, h2, fun j u hj => hc j u ?_⟩
    rw [ocells_take, List.getElem?_take] at hj
    split at hj
    · exact hj
    · simp at hj

/-- 'v[:p]' of ops. -/
theorem IsO.slice_h {l : List Bm.Ov} (h : IsO w v l) {t : TypeId} (ht : P.underlying t = some (.slice (P.elem t))) (hs : ∀ wx, (sizeOf (P.elem t)).run P wx = .ok 3 wx) (p : Nat) (hp : p ≤ l.length) :
    ∃ vs, (∀ wx, (Instr.slice t v none (some (.int .i64 p)) none).run P wx = .ok vs wx) ∧ IsO w vs (l.take p) := by
  obtain ⟨ao, cap, rfl, hcap, hm⟩ := h.shape
  refine ⟨.slice ao p cap, fun wx => ?_, ?_⟩
  · rw [run_slice_h wx t ao l.length cap ht .i64 _ (by omega) (by omega), hs]
    simp only [Result.andThen, sliced]
    cases ao <;> simp [Addr.add]
  · cases ao with
    | none =>
      rcases h with ⟨hv, e⟩ | ⟨ad, cap', hv, _⟩
      · subst e
        simp at hp hv
        subst hp hv
        exact IsO.nil _
      · simp at hv
    | some ad => exact h.front p hp

/-- 'len(v)' of ops. -/
theorem IsO.len_run {l : List Bm.Ov} (h : IsO w v l) {t : TypeId} (ht : P.underlying t = some (.slice (P.elem t))) : ∀ ty wx, (Builtin.len_ #[t] ty #[v]).run P wx = .ok (goInt l.length) wx := by
  intro ty wx
  obtain ⟨ao, cap, rfl, _, _⟩ := h.shape
  simp [Builtin.len_, run_underlying ht]

end

theorem Try.elemO : Try.prog.underlying 30 = some (.slice (Try.prog.elem 30)) := by kernel_rfl
theorem Try.sizeO (wx : World) : (sizeOf (Try.prog.elem 30)).run Try.prog wx = .ok 3 wx := by kernel_rfl

end Go.Proofs.Ytimmohpnlieefaa

/- Rows of commits in memory: what a slice of commits reads as, one of the call's own, an append between the two. -/
namespace Go.Proofs.Ytimmohpnlieefaa
open Go.RowKit
set_option linter.unusedVariables false

/-- A commit as it stands in memory: v is its slice of ops, which reads as l. -/
structure Cw where
  e : Int
  n : Int
  v : Value
  l : List Bm.Ov

def Cw.c (c : Cw) : Cm.Cv := ⟨c.e, c.n, c.l⟩
def cvs (r : List Cw) : List Cm.Cv := r.map Cw.c

/-- A commit as a value. -/
def cmv (e n : Int) (v : Value) : Value := .agg #[.int .i64 e, .int .i64 n, v]

def ccell (c : Cw) : List Value := [.int .i64 c.e, .int .i64 c.n, c.v]
def ccells : List Cw → List Value
  | [] => []
  | c :: r => ccell c ++ ccells r

theorem ccells_len : ∀ (l : List Cw), (ccells l).length = l.length * 3
  | [] => rfl
  | o :: r => by
    have := ccells_len r
    simp only [ccells, ccell, List.length_append, List.length_cons, List.length_nil]
    omega

theorem ccells_app : ∀ (l m : List Cw), ccells (l ++ m) = ccells l ++ ccells m
  | [], _ => rfl
  | o :: l, m => by simp only [List.cons_append, ccells, ccells_app l m, List.append_assoc]

theorem ccells_cell : ∀ (l : List Cw), (∀ c ∈ l, c.v.oneCell' = true) → ∀ u ∈ ccells l, u.oneCell' = true
  | [], _, u, h => by simp [ccells] at h
  | o :: r, hv, u, h => by
    rcases List.mem_append.1 h with h | h
    · simp only [ccell, List.mem_cons, List.not_mem_nil, or_false] at h
      rcases h with rfl | rfl | rfl
      · rfl
      · rfl
      · exact hv o (List.mem_cons_self ..)
    · exact ccells_cell r (fun c hc => hv c (List.mem_cons_of_mem _ hc)) u h

theorem ccells_at : ∀ (l : List Cw) (i : Nat) (hi : i < l.length), (ccells l)[i * 3]? = some (.int .i64 l[i].e) ∧ (ccells l)[i * 3 + 1]? = some (.int .i64 l[i].n) ∧ (ccells l)[i * 3 + 2]? = some l[i].v
  | [], _, hi => by simp at hi
  | o :: r, 0, hi => by simp [ccells, ccell]
  | o :: r, i + 1, hi => by
    have := ccells_at r i (by simpa using hi)
    simp only [ccells, ccell]
    rw [show (i + 1) * 3 = i * 3 + 3 by omega]
    simpa [List.getElem?_append] using this

theorem ccells_take : ∀ (l : List Cw) (p : Nat), ccells (l.take p) = (ccells l).take (p * 3)
  | [], p => by simp [ccells]
  | o :: l, 0 => by simp [ccells]
  | o :: l, p + 1 => by
    rw [List.take_succ_cons, show (p + 1) * 3 = p * 3 + 3 by omega]
    simp [ccells, ccell, ccells_take l p]

theorem ccells_drop : ∀ (l : List Cw) (p : Nat), ccells (l.drop p) = (ccells l).drop (p * 3)
  | [], p => by simp [ccells]
  | o :: l, 0 => by simp [ccells]
  | o :: l, p + 1 => by
    rw [List.drop_succ_cons, show (p + 1) * 3 = p * 3 + 3 by omega]
    simp [ccells, ccell, ccells_drop l p]

theorem IsO.one {w : World} {v : Value} {l : List Bm.Ov} (h : IsO w v l) : v.oneCell' = true := by
  obtain ⟨ao, cap, rfl, _⟩ := h.shape
  rfl

/-- A number that a cell of 64 bits holds. -/
def In64 (x : Int) : Prop := -9223372036854775808 ≤ x ∧ x < 9223372036854775808

/-- What each commit of a row is. -/
def InC (w : World) (r : List Cw) : Prop := ∀ c ∈ r, IsO w c.v c.l ∧ In64 c.e ∧ In64 c.n
def FitC (r : List Cw) : Prop := ∀ c ∈ r, FitO c.l ∧ c.l.length * 40 ≤ 140737488351232

theorem InC.below {w w' : World} {r : List Cw} (h : InC w r) (hb : Below w.heap.size w w') : InC w' r := fun c hc => ⟨(h c hc).1.below hb, (h c hc).2⟩
theorem InC.one {w : World} {r : List Cw} (h : InC w r) : ∀ c ∈ r, c.v.oneCell' = true := fun c hc => (h c hc).1.one
theorem InC.take {w : World} {r : List Cw} (h : InC w r) (p : Nat) : InC w (r.take p) := fun c hc => h c (List.mem_of_mem_take hc)
theorem InC.drop {w : World} {r : List Cw} (h : InC w r) (p : Nat) : InC w (r.drop p) := fun c hc => h c (List.mem_of_mem_drop hc)
theorem InC.app {w : World} {r s : List Cw} (h : InC w r) (k : InC w s) : InC w (r ++ s) := fun c hc => (List.mem_append.1 hc).elim (h c) (k c)
theorem FitC.take {r : List Cw} (h : FitC r) (p : Nat) : FitC (r.take p) := fun c hc => h c (List.mem_of_mem_take hc)
theorem FitC.drop {r : List Cw} (h : FitC r) (p : Nat) : FitC (r.drop p) := fun c hc => h c (List.mem_of_mem_drop hc)
theorem FitC.app {r s : List Cw} (h : FitC r) (k : FitC s) : FitC (r ++ s) := fun c hc => (List.mem_append.1 hc).elim (h c) (k c)

/-- A slice value whose cells are those of the commits r. -/
def RowC (w : World) (v : Value) (r : List Cw) : Prop :=
  (v = .slice none 0 0 ∧ r = []) ∨ ∃ ad cap, v = .slice (some ad) r.length cap ∧ r.length ≤ cap ∧ cap ≤ maxLen ∧ ∀ j u, (ccells r)[j]? = some u → w.cell? (ad.add j) = some u

/-- A slice value that reads as the commits r. -/
def IsC (w : World) (v : Value) (r : List Cw) : Prop := RowC w v r ∧ InC w r

/-- A row of the call's own. -/
def OwnR (e : TypeId) (base : Nat) (w : World) (v : Value) (r : List Cw) : Prop := w.ownsRow base e 3 v r.length (ccells r)

theorem RowC.nil (w : World) : RowC w (.slice none 0 0) [] := .inl ⟨rfl, rfl⟩
theorem IsC.nil (w : World) : IsC w (.slice none 0 0) [] := ⟨RowC.nil w, fun c hc => by simp at hc⟩
theorem OwnR.nil (e : TypeId) (base : Nat) (w : World) : OwnR e base w (.slice none 0 0) [] := World.ownsRow_nil _ _ _ _

theorem RowC.below {w w' : World} {v : Value} {l : List Cw} (h : RowC w v l) (hb : Below w.heap.size w w') : RowC w' v l := by
  rcases h with h | ⟨ad, cap, hv, h1, h2, hc⟩
  · exact .inl h
  · refine .inr ⟨ad, cap, hv, h1, h2, fun j u hj => ?_⟩
    have := hc j u hj
    rw [hb.cell (World.block_lt_of_cell? _ _ this)]
    exact this

theorem IsC.below {w w' : World} {v : Value} {l : List Cw} (h : IsC w v l) (hb : Below w.heap.size w w') : IsC w' v l := ⟨h.1.below hb, h.2.below hb⟩
theorem IsC.drewN {w : World} {v : Value} {l : List Cw} (h : IsC w v l) (n : Nat) : IsC (w.drewN n) v l := h.below (below_drewN (Below.refl _ _) n)

theorem RowC.shape {w : World} {v : Value} {l : List Cw} (h : RowC w v l) : ∃ ao cap, v = .slice ao l.length cap ∧ l.length ≤ cap ∧ cap ≤ maxLen := by
  rcases h with ⟨hv, e⟩ | ⟨ad, cap, hv, h1, h2, _⟩
  · subst e; exact ⟨none, 0, hv, by simp, by simp⟩
  · exact ⟨some ad, cap, hv, h1, h2⟩

theorem RowC.full {w : World} {v : Value} {l : List Cw} (h : RowC w v l) (hne : 0 < l.length) :
    ∃ b off cap, v = .slice (some ⟨b, off, none⟩) l.length cap ∧ l.length ≤ cap ∧ cap ≤ maxLen ∧ b < w.heap.size ∧
      ∀ i c, l[i]? = some c → w.cell? ⟨b, off + i * 3, none⟩ = some (.int .i64 c.e) ∧ w.cell? ⟨b, off + i * 3 + 1, none⟩ = some (.int .i64 c.n) ∧ w.cell? ⟨b, off + i * 3 + 2, none⟩ = some c.v := by
  rcases h with ⟨_, h⟩ | ⟨⟨b, off, spot⟩, cap, hv, h1, h2, hc⟩
  · subst h; simp at hne
  · have h0 := hc 0 _ (ccells_at l 0 hne).1
    have hspot : spot = none := by simpa [Addr.add] using World.cell?_spot h0
    subst hspot
    refine ⟨b, off, cap, hv, h1, h2, World.block_lt_of_cell? _ _ h0, fun i o hio => ?_⟩
    obtain ⟨hi, rfl⟩ := List.getElem?_eq_some_iff.1 hio
    obtain ⟨g1, g2, g3⟩ := ccells_at l i hi
    have k1 := hc _ _ g1
    have k2 := hc _ _ g2
    have k3 := hc _ _ g3
    rw [add_at] at k1 k2 k3
    exact ⟨k1, by rw [Nat.add_assoc]; exact k2, by rw [Nat.add_assoc]; exact k3⟩

theorem OwnR.row {e base : Nat} {w : World} {v : Value} {l : List Cw} (h : OwnR e base w v l) : RowC w v l := by
  rcases h.2 with ⟨hv, hn⟩ | ⟨g, cap, cur, hv, h1, hh, hc, hm, hs, ht⟩
  · exact .inl ⟨hv, List.eq_nil_of_length_eq_zero hn⟩
  · refine .inr ⟨⟨g, 0, none⟩, cap, hv, hc, hm, fun j u hj => ?_⟩
    exact h.cells (by rw [hv]; rfl) j u hj

theorem row_below {e base size n : Nat} {w w' : World} {v : Value} {xs : List Value} (h : w.ownsRow base e size v n xs) (hb : Below w.heap.size w w') : w'.ownsRow base e size v n xs := by
  refine ⟨h.1, ?_⟩
  rcases h.2 with h | ⟨g, cap, cur, hv, h1, hh, r⟩
  · exact .inl h
  · refine .inr ⟨g, cap, cur, hv, h1, ?_, r⟩
    rw [hb.block g (Array.getElem?_eq_some_iff.1 hh).1]
    exact hh

theorem OwnR.below {e base : Nat} {w w' : World} {v : Value} {l : List Cw} (h : OwnR e base w v l) (hb : Below w.heap.size w w') : OwnR e base w' v l := row_below h hb

/-- Commits laid in a new block. -/
theorem coms_step (e : TypeId) (w : World) (cs : Array Value) (n : Nat) (l : List Cw) (hn : l.length = n) (h : cs.toList = ccells l) (hm : n ≤ maxLen) :
    ∃ W, w.alloc (.cells cs e) = W ∧ W.heap.size = w.heap.size + 1 ∧ Below w.heap.size w W ∧ OwnR e w.heap.size W (.slice (some ⟨w.heap.size, 0, none⟩) n n) l := by
  subst hn
  refine ⟨_, rfl, by simp, (Below.refl _ _).alloc (Nat.le_refl _) _, ?_⟩
  have ho := World.ownsRow_lit (base := w.heap.size) (e := e) (size := 3) w cs l.length (Nat.le_refl _) hm (by have := congrArg List.length h; rw [ccells_len] at this; simpa using this)
  rw [h] at ho
  exact ho

/-- What a row of the call's own grows by leaves blocks of another type. -/
theorem KeepT.of_row {e base size n : Nat} {w w' : World} {v : Value} {xs : List Value} (h : w.ownsRow base e size v n xs) (hg : w.grownBy w' v.ownBlock) : KeepT e w w' := by
  intro g cs t fr hc ht
  refine (hg.block g (blk_lt hc) fun e1 => ?_).trans hc
  rcases h.2 with ⟨rfl, _⟩ | ⟨g', cap, cur, rfl, _, hh, _⟩
  · simp [Value.ownBlock] at e1
  · simp [Value.ownBlock] at e1
    subst e1
    rw [hh] at hc
    simp at hc
    exact ht hc.2.1.symm

theorem OwnO.keepT {e e' base : Nat} {w w' : World} {v : Value} {l : List Bm.Ov} (h : OwnO e base w v l) (k : KeepT e' w w') (hne : e ≠ e') : OwnO e base w' v l := by
  refine ⟨h.1, ?_⟩
  rcases h.2 with h | ⟨g, cap, cur, hv, h1, hh, r⟩
  · exact .inl h
  · exact .inr ⟨g, cap, cur, hv, h1, k _ _ _ _ hh hne, r⟩

section
variable {P : Program} {w : World} {ops : Array Oper} {rest : List Oper} {o : Oper} {a : Act} {Q : Exit → Act → World → Prop}

/-- 'out = append(out, xs...)' of commits: out nil or the call's own. -/
theorem wpList_append_coms (hgd : o.guard = none) (s x : Operand) (t : TypeId)
    (ho : o.op = .call { callee := .builtin .append, args := #[s, x], argTypes := #[t, t] })
    (e : TypeId) (base : Nat) (ht : P.underlying t = some (.slice e)) (hinfo : (P.info? e).map (fun i => (i.zero, i.size, i.bytes)) = some (some (.agg #[.int .i64 0, .int .i64 0, .slice none 0 0]), 3, 40))
    (v : Value) (l : List Cw) (hs : a.eval s = v) (hown : OwnR e base w v l) (vx : Value) (m : List Cw) (hx : a.eval x = vx) (his : RowC w vx m) (hone : ∀ c ∈ m, c.v.oneCell' = true)
    (hlen : (l.length + m.length) * 40 ≤ 140737488355328) (hbase : base ≤ w.heap.size)
    (h : ∀ v' w', OwnR e base w' v' (l ++ m) → Below base w w' → KeepT e w w' → wpList P ops Q rest (a.put o.dst v') w') : wpList P ops Q (o :: rest) a w := by
  obtain ⟨i, hi, hz, hsize, hb⟩ := info_parts hinfo
  have hn : l.length + m.length ≤ 140737488355328 := by omega
  rcases his with ⟨hv, hy⟩ | ⟨ad, cap, hv, h1, h2, hc⟩
  · subst hy
    refine wpList_append_own_none hgd s x t ho base e i 3 ht hi v l.length _ hs hown (hx.trans hv) (h v w (by simpa using hown) (Below.refl _ _) (KeepT.refl _ _))
  · refine wpList_append_own w hgd s x t ho base e i _ 3 40 ht hi hz hsize hb rfl (by decide) v l.length _ hs hown ad m.length cap (ccells m) (hx.trans hv) (ccells_len m) hc (ccells_cell m hone) (by unfold maxLen; omega) hlen hbase ?_
    intro v' w' ho' hg _
    refine h v' w' (by unfold OwnR; rw [ccells_app, List.length_append]; exact ho') ((Below.refl _ _).grown hg hbase fun k' hk => ?_) (KeepT.of_row hown hg)
    exact (World.ownsRow.lt hown k' hk).1

variable {v : Value}

/-- 'v[:p]' of commits. -/
theorem RowC.slice_h {l : List Cw} (h : RowC w v l) {t : TypeId} (ht : P.underlying t = some (.slice (P.elem t))) (hs : ∀ wx, (sizeOf (P.elem t)).run P wx = .ok 3 wx) (p : Nat) (hp : p ≤ l.length) :
    ∃ vs, (∀ wx, (Instr.slice t v none (some (.int .i64 p)) none).run P wx = .ok vs wx) ∧ RowC w vs (l.take p) := by
  obtain ⟨ao, cap, rfl, hcap, hm⟩ := h.shape
  refine ⟨.slice ao p cap, fun wx => ?_, ?_⟩
  · rw [run_slice_h wx t ao l.length cap ht .i64 _ (by omega) (by omega), hs]
    simp only [Result.andThen, sliced]
    cases ao <;> simp [Addr.add]
  · cases ao with
    | none =>
      rcases h with ⟨hv, e⟩ | ⟨ad, cap', hv, _⟩
      · subst e
        simp at hp hv
        subst hp hv
        exact RowC.nil _
      · simp at hv
    | some ad =>
      have hl : (l.take p).length = p := by rw [List.length_take]; omega
      rcases h with ⟨hv, _⟩ | ⟨ad', cap', hv, h1, h2, hc⟩
      · simp at hv
      · simp at hv
        obtain ⟨rfl, rfl⟩ := hv
        refine .inr ⟨ad, cap, by rw [hl], by omega, h2, fun j u hj => hc j u ?_⟩
        rw [ccells_take, List.getElem?_take] at hj
        split at hj
        · exact hj
        · simp at hj

/-- 'v[p:]' of commits. -/
theorem RowC.slice_l {l : List Cw} (h : RowC w v l) {t : TypeId} (ht : P.underlying t = some (.slice (P.elem t))) (hs : ∀ wx, (sizeOf (P.elem t)).run P wx = .ok 3 wx) (p : Nat) (hp : p < l.length) :
    ∃ vs, (∀ wx, (Instr.slice t v (some (.int .i64 p)) none none).run P wx = .ok vs wx) ∧ RowC w vs (l.drop p) := by
  obtain ⟨b, off, cap, rfl, hcap, hm, hB, hcell⟩ := h.full (by omega)
  refine ⟨.slice (some ⟨b, off + p * 3, none⟩) (l.length - p) (cap - p), fun wx => ?_, ?_⟩
  · rw [run_slice_l wx t _ l.length cap ht .i64 _ (by omega) (by omega), hs]
    have hne : ¬ cap = p := by omega
    simp [Result.andThen, sliced, hne, add_at]
  · rcases h with ⟨hv, _⟩ | ⟨ad', cap', hv, h1, h2, hc⟩
    · simp at hv
    · simp at hv
      obtain ⟨rfl, rfl⟩ := hv
      refine .inr ⟨⟨b, off + p * 3, none⟩, cap - p, by simp, by simp; omega, by omega, fun j u hj => ?_⟩
      rw [ccells_drop, List.getElem?_drop] at hj
      have := hc _ _ hj
      rw [add_at] at this ⊢
      rw [Nat.add_assoc]
      exact this

/-- 'len(v)' of commits. -/
theorem RowC.len_run {l : List Cw} (h : RowC w v l) {t : TypeId} (ht : P.underlying t = some (.slice (P.elem t))) : ∀ ty wx, (Builtin.len_ #[t] ty #[v]).run P wx = .ok (goInt l.length) wx := by
  intro ty wx
  obtain ⟨ao, cap, rfl, _, _⟩ := h.shape
  simp [Builtin.len_, run_underlying ht]

end

theorem Try.info32 : (Try.prog.info? 32).map (fun i => (i.zero, i.size, i.bytes)) = some (some (.agg #[.int .i64 0, .int .i64 0, .slice none 0 0]), 3, 40) := by kernel_rfl
theorem Try.elemC : Try.prog.underlying 34 = some (.slice (Try.prog.elem 34)) := by kernel_rfl
theorem Try.sizeC (wx : World) : (sizeOf (Try.prog.elem 34)).run Try.prog wx = .ok 3 wx := by kernel_rfl

end Go.Proofs.Ytimmohpnlieefaa

/- The contracts of the functions that compare rows of ops. -/
namespace Go.Proofs.Ytimmohpnlieefaa
open Go.RowKit
set_option linter.unusedVariables false

theorem Try.guardO (op : BinOp) (x y : Operand) (xs ys : Array Value) (w : World) : (eqGuard op 87 x y (.agg xs) (.agg ys)).run Try.prog w = .ok () w := run_eqGuard_agg w op 87 x y xs ys (by kernel_rfl)

theorem Try.fieldsO : (Try.prog.fieldsOf 87).toList.map (fun f => (f.type, f.offset)) = [(4, 0), (9, 1), (9, 2)] := by kernel_rfl

theorem Try.neqO (o q : Bm.Ov) (w : World) : (binOp .neq 87 (.agg #[.bool o.p, .string o.k, .string o.v]) (.agg #[.bool q.p, .string q.k, .string q.v])).run Try.prog w = .ok (.bool (!Bm.eqO o q)) w := by
  rw [run_neq_struct, run_equalIn_agg w 9999 87 _ _ (by kernel_rfl) (by kernel_rfl)]
  unfold Program.fieldsOf
  rw [Try.underlying87]
  simp [Op.eqFields, go_sem, Try.underlying4, Try.underlying9]
  unfold Bm.eqO Bm.Ov.kl Bm.Ov.vl
  simp only [Lib.toList_data]
  by_cases h1 : o.p = q.p <;> by_cases h2 : o.k.data.toList = q.k.data.toList <;> by_cases h3 : o.v.data.toList = q.v.data.toList <;> simp [h1, h2, h3]

set_option maxHeartbeats 400000 in
theorem sameO_quiet (va vb : Value) (xs ys : List Bm.Ov) (w : World) (ha : IsO w va xs) (hb : IsO w vb ys) (hl : xs.length ≤ 140737488355328) (hl' : ys.length ≤ 140737488355328) :
    Calls Try.prog 83 #[va, vb] w fun e w' => e = .returned (.bool (Bm.sameL xs ys)) ∧ ∃ m, w' = w.drewN m := by
  by_cases hne : xs.length = ys.length
  · by_cases hz : 0 < xs.length
    · obtain ⟨b1, o1, c1, rfl, _, _, hB1, hc1⟩ := ha.full hz
      obtain ⟨b2, o2, c2, rfl, _, _, hB2, hc2⟩ := hb.full (by omega)
      have ht : ((xs.length : Int) != (ys.length : Int)) = false := by simp; omega
      have HL := hide hne
      have HC1 := hide hc1
      have HC2 := hide hc2
      clear hne ha hb hc1 hc2
      generalize hn : xs.length = n at *
      generalize hm : ys.length = m at *
      have HN := hide hn
      have HM := hide hm
      clear hn hm
      go_enter Try.func83, Try.ntmps83
      go_wp2
      go_loopw [5] (fun i wr => ∃ (k : Nat), k ≤ n ∧ i = .int .i64 k ∧ Hid (xs.take k = ys.take k) ∧ ∃ m, wr = w.drewN m) (fun i _ => n - (intOf i).toNat)
      case atStart => exact ⟨0, by omega, rfl, hide rfl, 0, rfl⟩
      case round =>
        obtain ⟨k, hk, rfl, HT, mm, rfl⟩ := hrel
        by_cases hlt : k < n
        · obtain ⟨o, ho⟩ : ∃ o, xs[k]? = some o := ⟨xs[k]'(by have := HN.out; omega), by rw [List.getElem?_eq_getElem]⟩
          obtain ⟨q, hq⟩ : ∃ q, ys[k]? = some q := ⟨ys[k]'(by have := HM.out; have := HL.out; omega), by rw [List.getElem?_eq_getElem]⟩
          obtain ⟨d0, d1, d2⟩ := HC1.out k o ho
          obtain ⟨e0, e1, e2⟩ := HC2.out k q hq
          have hlt' : (k : Int) < n := by omega
          have hlt2 : (k : Int) < m := by have := HL.out; omega
          have HO := hide ho
          have HQ := hide hq
          clear ho hq
          have hnq := Try.neqO o q
          have hgd := Try.guardO
          cases hoq : Bm.eqO o q
          · have HS : Hid (Bm.sameL xs ys = false) := hide (Bm.sameL_no fun e => by
              have h1 := HO.out
              rw [e, HQ.out] at h1
              rw [Bm.eqO_iff.2 (Option.some.inj h1.symm)] at hoq
              simp at hoq)
            rw [hoq] at hnq
            clear hoq
            go_wp2
            go_quiet (fail)
            go_wp2
            go_ret
            refine ⟨?_, _, World.drewN_drewN _ _ _⟩
            rw [HS.out]
            rfl
          · have HT2 : Hid (xs.take (k + 1) = ys.take (k + 1)) := hide (by
              rw [List.take_add_one, List.take_add_one, HT.out, HO.out, HQ.out, Bm.eqO_iff.1 hoq])
            rw [hoq] at hnq
            clear hoq
            go_wp2
            go_quiet (fail)
            go_wp2
            go_roundw
            case rel => exact ⟨k + 1, by omega, by go_num, HT2, _, rfl⟩
            case measure => simp [intOf]; omega
        · have hlt' : ¬ (k : Int) < n := by omega
          have HS : Hid (Bm.sameL xs ys = true) := hide (Bm.sameL_iff.2 (by
            have h1 := HT.out
            rw [List.take_of_length_le (by have := HN.out; omega), List.take_of_length_le (by have := HN.out; have := HM.out; have := HL.out; omega)] at h1
            exact h1))
          go_wp2
          go_ret
          refine ⟨?_, mm, rfl⟩
          rw [HS.out]
          rfl
    · have hx : xs = [] := List.eq_nil_of_length_eq_zero (by omega)
      have hy : ys = [] := List.eq_nil_of_length_eq_zero (by omega)
      subst hx hy
      obtain ⟨a1, c1, rfl⟩ := ha.bare
      obtain ⟨a2, c2, rfl⟩ := hb.bare
      clear hl hl' hne hz ha hb
      go_enter Try.func83, Try.ntmps83
      go_wp2
      refine wp_loop_rounds 1 ?_
      rw [rounds_succ]
      go_wp2
      go_ret
      exact ⟨by simp [Bm.sameL], 0, rfl⟩
  · obtain ⟨a1, c1, rfl, _, _⟩ := ha.shape
    obtain ⟨a2, c2, rfl, _, _⟩ := hb.shape
    have ht : ((xs.length : Int) != (ys.length : Int)) = true := by simp; omega
    have HX : Hid (Bm.sameL xs ys = false) := hide (Bm.sameL_no fun h => hne (by rw [h]))
    clear hne
    go_enter Try.func83, Try.ntmps83
    go_wp2
    go_ret
    exact ⟨by rw [HX.out]; rfl, 0, rfl⟩

theorem sameO_any (va vb : Value) (xs ys : List Bm.Ov) (w : World) (ha : IsO w va xs) (hb : IsO w vb ys) (hl : xs.length ≤ 140737488355328) (hl' : ys.length ≤ 140737488355328) :
    Calls Try.prog 83 #[va, vb] w fun e w' => e = .returned (.bool (Bm.sameL xs ys)) ∧ Below w.heap.size w w' :=
  (sameO_quiet va vb xs ys w ha hb hl hl').mono (by rintro e w' ⟨rfl, m, rfl⟩; exact ⟨rfl, below_drewN (Below.refl _ _) m⟩)

end Go.Proofs.Ytimmohpnlieefaa

/- The contract of the document's Shared. -/
namespace Go.Proofs.Ytimmohpnlieefaa
open Go.RowKit
set_option linter.unusedVariables false

set_option maxHeartbeats 400000 in
theorem sharedR_quiet (a b : ByteArray) (w : World) (ha : a.size ≤ 140737488355328) (hb : b.size ≤ 140737488355328) :
    Calls Try.prog 103 #[.string a, .string b] w fun E w' => E = .returned (.int .i64 (Bm.com a.data.toList b.data.toList)) ∧ ∃ m, w' = w.drewN m := by
  have la : a.data.toList.length = a.size := (Lib.size_eq a).symm
  have lb : b.data.toList.length = b.size := (Lib.size_eq b).symm
  go_enter Try.func103, Try.ntmps103
  go_wp2
  go_loopw [5] (fun i wr => ∃ (k : Nat), k ≤ a.size ∧ k ≤ b.size ∧ i = .int .i64 k ∧ Hid (a.data.toList.take k = b.data.toList.take k) ∧ ∃ m, wr = w.drewN m) (fun i _ => a.size + b.size - (intOf i).toNat)
  case atStart => exact ⟨0, by omega, by omega, rfl, hide rfl, 0, rfl⟩
  case round =>
    obtain ⟨k, hka, hkb, rfl, HT, m, rfl⟩ := hrel
    by_cases hA : k < a.size
    · have hA' : (k : Int) < a.size := by omega
      by_cases hB : k < b.size
      · have hB' : (k : Int) < b.size := by omega
        obtain ⟨c, hc⟩ : ∃ c : UInt8, a[k] = c := ⟨_, rfl⟩
        obtain ⟨d, hd⟩ : ∃ c : UInt8, b[k] = c := ⟨_, rfl⟩
        have EA : Hid (a.data.toList[k]? = some c) := hide (by rw [List.getElem?_eq_getElem (by omega), ← hc]; rfl)
        have EB : Hid (b.data.toList[k]? = some d) := hide (by rw [List.getElem?_eq_getElem (by omega), ← hd]; rfl)
        by_cases hcd : c = d
        · have ht : ((c.toNat : Int) == (d.toNat : Int)) = true := by simp [hcd]
          have HK : Hid (a.data.toList.take (k + 1) = b.data.toList.take (k + 1)) := hide (by
            have h1 := EA.out
            have h2 := EB.out
            rw [List.take_add_one, List.take_add_one, HT.out, h1, h2, hcd])
          clear hcd
          go_wp2_with fail
          go_quiet (fail)
          go_wp2
          go_roundw
          case rel => exact ⟨k + 1, by omega, by omega, by go_num, HK, _, rfl⟩
          case measure => simp [intOf]; omega
        · have ht : ((c.toNat : Int) == (d.toNat : Int)) = false := by
            have : c.toNat ≠ d.toNat := fun h => hcd (UInt8.toNat_inj.1 h)
            simp; omega
          have HK : Hid (Bm.com a.data.toList b.data.toList = k) := hide (Bm.com_is _ _ k (by omega) (by omega) HT.out (.inr (.inr (by rw [EA.out, EB.out]; simpa using hcd))))
          clear hcd
          go_wp2_with fail
          go_quiet (fail)
          go_wp2
          go_ret
          exact ⟨ret_i64 (by rw [HK.out]), _, World.drewN_drewN _ _ _⟩
      · have hB' : ¬ (k : Int) < b.size := by omega
        have HK : Hid (Bm.com a.data.toList b.data.toList = k) := hide (Bm.com_is _ _ k (by omega) (by omega) HT.out (.inr (.inl (by omega))))
        go_wp2_with fail
        go_quiet (fail)
        go_wp2
        go_ret
        exact ⟨ret_i64 (by rw [HK.out]), _, World.drewN_drewN _ _ _⟩
    · have hA' : ¬ (k : Int) < a.size := by omega
      have HK : Hid (Bm.com a.data.toList b.data.toList = k) := hide (Bm.com_is _ _ k (by omega) (by omega) HT.out (.inl (by omega)))
      go_wp2_with fail
      go_quiet (fail)
      go_wp2
      go_ret
      exact ⟨ret_i64 (by rw [HK.out]), _, World.drewN_drewN _ _ _⟩

theorem sharedR_any (a b : ByteArray) (w : World) (ha : a.size ≤ 140737488355328) (hb : b.size ≤ 140737488355328) :
    Calls Try.prog 103 #[.string a, .string b] w fun E w' => E = .returned (.int .i64 (Bm.com a.data.toList b.data.toList)) ∧ Below w.heap.size w w' :=
  (sharedR_quiet a b w ha hb).mono (by rintro E w' ⟨rfl, m, rfl⟩; exact ⟨rfl, below_drewN (Below.refl _ _) m⟩)

end Go.Proofs.Ytimmohpnlieefaa

/- The contract of the document's Check. -/
namespace Go.Proofs.Ytimmohpnlieefaa
open Go.RowKit
set_option linter.unusedVariables false

set_option maxHeartbeats 400000 in
theorem checkR_any (p : Bool) (k v : ByteArray) (w : World) (hk : k.size ≤ 140737488351232) (hv : v.size ≤ 140737488351232) :
    Calls Try.prog 115 #[opv p k v] w fun E w' => E = .returned (.int .i64 (Om.chk p k.data.toList v.data.toList)) ∧ Below w.heap.size w w' := by
  unfold opv
  obtain ⟨c, hc⟩ : ∃ c, Om.chk p k.data.toList v.data.toList = c := ⟨_, rfl⟩
  rw [hc]
  have HC := hide hc
  clear hc
  cases p
  all_goals go_enter Try.func115, Try.ntmps115
  all_goals go_wp2
  all_goals go_ret
  all_goals refine ⟨ret_i64 ?_, (Below.refl _ _).alloc (Nat.le_refl _) _⟩
  all_goals rw [← HC.out, chk_size]
  all_goals clear HC
  all_goals generalize v.toList.isEmpty = q at *
  all_goals (cases q <;> simp_all <;> omega)

end Go.Proofs.Ytimmohpnlieefaa

/- The contract of op's Append. -/
namespace Go.Proofs.Ytimmohpnlieefaa
open Go.RowKit
set_option linter.unusedVariables false

theorem ret2 {v : Value} {a b : Int} (h : a = b) : Ending.returned (.tuple #[v, .int .i64 a]) = .returned (.tuple #[v, .int .i64 b]) := by rw [h]

end Go.Proofs.Ytimmohpnlieefaa

/- The contracts of the document's Append, Read, Small. -/
namespace Go.Proofs.Ytimmohpnlieefaa
open Go.RowKit
set_option linter.unusedVariables false

set_option maxHeartbeats 400000 in
theorem appR_any (vb : Value) (bs : List Int) (x : Int) (w : World) (hb : Is .u8 w vb bs) (hlb : bs.length ≤ 140737488353000) (h0 : 0 ≤ x) (h1 : x < 18446744073709551616) :
    Calls Try.prog 121 #[vb, .int .u64 x] w fun e w' => ∃ v, e = .returned v ∧ Own .u8 5 w.heap.size w' v (bs ++ Vm.enc x.toNat) ∧ Below w.heap.size w w' := by
  have hm := Vm.sz_le10 (x := x.toNat) (by omega)
  go_enter Try.func121, Try.ntmps121
  go_wp2_with (at_builtin; refine wpList_append_is rfl (.tmp 6) (.tmp 7) 37 rfl .u8 5 w.heap.size 1 Try.underlying37 Try.info5 (by decide) _ [] rfl (Own.nil _ _ _ _) _ bs rfl hb (by simp; omega) (Nat.le_refl _) ?_)
  intro v1 w1 own1 bel1 _
  go_wp2
  go_loopw [1, 5] (fun xx vv wr => ∃ (y : Int) (zs : List Int), 0 ≤ y ∧ y < 18446744073709551616 ∧ xx = .int .u64 y ∧ zs.length ≤ 140737488353010 ∧ Own .u8 5 w.heap.size wr vv zs ∧ zs ++ Vm.enc y.toNat = bs ++ Vm.enc x.toNat ∧ Below w.heap.size w wr) (fun xx _ _ => (intOf xx).toNat)
  case atStart => exact ⟨x, bs, h0, h1, rfl, by omega, own1, rfl, bel1⟩
  case round =>
    obtain ⟨y, zs, hy0, hy1, rfl, hl, own, heq, belr⟩ := hrel
    have HE := hide heq
    clear heq own1 bel1
    have szr := belr.size
    by_cases hy : 128 ≤ y
    · have e1 : y % 128 % 256 = y % 128 := by omega
      have e2 : (y % 128 + 128) % 256 = y % 128 + 128 := by omega
      have W := wf_u8 (z := y % 128 + 128) (by omega) (by omega)
      go_wp2_with (at_builtin; refine wpList_append_is rfl (.tmp 11) (.tmp 16) 37 rfl .u8 5 w.heap.size 1 Try.underlying37 Try.info5 (by decide) _ zs rfl (own.below ((Below.refl _ _).alloc (Nat.le_refl _) _)) _ [y % 128 + 128] rfl (Is.one .u8 _ _ 5 W) (by simp; omega) (by simp; omega) ?_)
      intro v2 w2 own2 bel2 _
      have HE2 : zs ++ [y % 128 + 128] ++ Vm.enc (y / 128).toNat = bs ++ Vm.enc x.toNat := by
        rw [← HE.out, Vm.enc_hi (x := y.toNat) (by omega)]
        have : (y / 128).toNat = y.toNat / 128 := by omega
        have : ((y.toNat % 128 + 128 : Nat) : Int) = y % 128 + 128 := by omega
        simp_all
      have HL : zs.length + 1 ≤ 140737488353010 := by
        have := congrArg List.length HE2
        have := Vm.sz_pos (y / 128).toNat
        simp at *
        unfold Vm.sz at *
        omega
      have HE3 := hide HE2
      have b3 := (belr.alloc szr _).trans bel2
      clear HE2 own e1 e2
      go_wp2
      go_roundw
      case rel => exact ⟨y / 128, zs ++ [y % 128 + 128], by omega, by omega, rfl, by simp; omega, own2, HE3.out, b3⟩
      case measure => simp [intOf]; omega
    · have e1 : y % 256 = y := by omega
      have W := wf_u8 (z := y) hy0 (by omega)
      go_wp2_with (at_builtin; refine wpList_append_is rfl (.tmp 20) (.tmp 23) 37 rfl .u8 5 w.heap.size 1 Try.underlying37 Try.info5 (by decide) _ zs rfl (own.below ((Below.refl _ _).alloc (Nat.le_refl _) _)) _ [y] rfl (Is.one .u8 _ _ 5 W) (by simp; omega) (by simp; omega) ?_)
      intro v2 w2 own2 bel2 _
      go_wp2
      go_ret
      refine ⟨_, rfl, ?_, (belr.alloc szr _).trans bel2⟩
      rw [← HE.out, Vm.enc_lo (x := y.toNat) (by omega), Int.toNat_of_nonneg hy0]
      exact own2

set_option maxHeartbeats 400000 in
theorem readR_any (vb : Value) (bs : List Int) (x n e : Int) (w : World) (hb : Is .u8 w vb bs) (hl : bs.length ≤ 150000000000000) (hR : Vm.Res bs x n e) :
    Calls Try.prog 114 #[vb] w fun E w' => E = .returned (.tuple #[.int .u64 x, .int .i64 n, .int .i64 e]) ∧ Below w.heap.size w w' := by
  by_cases hz : 0 < bs.length
  · have hbyte := fun i => hb.byte i
    have HBY := hide hbyte
    obtain ⟨b1, o1, c1, rfl, _, _, hB1, hc1⟩ := hb.full hz
    have HC := hide hc1
    clear hc1 hbyte hb
    go_enter Try.func114, Try.ntmps114
    go_wp2
    go_loopw [5, 6] (fun xx nn wr => ∃ (acc : Nat) (k : Nat), k ≤ bs.length ∧ xx = .int .u64 acc ∧ nn = .int .i64 k ∧ ((k ≤ 9 ∧ Vm.Inv bs k acc) ∨ (k = 10 ∧ ∀ u : Nat, u < 18446744073709551616 → ¬ Vm.enc u <+: bs)) ∧ Below w.heap.size w wr) (fun _ nn _ => 10 - (intOf nn).toNat)
    case atStart => exact ⟨0, 0, by omega, rfl, rfl, .inl ⟨by omega, Vm.inv_start bs⟩, Below.refl _ _⟩
    case round =>
      obtain ⟨acc, k, hk2, rfl, rfl, hst, bel⟩ := hrel
      have HST := hide hst
      clear hst
      by_cases hlt : k < bs.length
      · by_cases hk9 : k ≤ 9
        · have HI : Hid (Vm.Inv bs k acc) := by
            rcases HST.out with ⟨_, h⟩ | ⟨h, _⟩
            · exact h
            · omega
          clear HST
          have g1 := (bel.cell (p := ⟨b1, o1 + k, none⟩) hB1).trans (HC.out k hlt)
          have hlt' : (k : Int) < bs.length := by omega
          have hc0 := HBY.out k
          generalize hcc : bs.getD k 0 = c at *
          have HCC := hide hcc
          have h71 := wrap_u64_small (c % 128) (by omega) (by omega)
          have hfit := Vm.dd_fits c HI.out hk9
          have e1 := or_shift_cut acc k c hc0.1 hc0.2 hk9 HI.out.1 hfit
          clear hcc
          generalize hna : acc + Vm.dd k c * 128 ^ k = na at *
          have HNA := hide hna
          clear hna
          by_cases h128 : c < 128
          · go_wp2_with fail
            refine (appR_any _ [] na _ (Is.nil _ _) (by simp) (by omega) (by omega)).mono ?_
            rintro E w1 ⟨v1, rfl, own1, bel1⟩
            rw [Int.toNat_natCast, List.nil_append] at own1
            have bel2 := bel.trans (bel1.mono bel.size)
            obtain ⟨b2, o2, c2, hv, hcap, hcm, _, hc2⟩ := own1.is.full (Vm.sz_pos na)
            subst hv
            have HC2 := hide hc2
            clear hc2 own1 bel bel1
            have hm10 : (Vm.enc na).length ≤ 10 := Vm.sz_le10 hfit
            by_cases hsz : Vm.sz na = k + 1
            · have hlen : (Vm.enc na).length = k + 1 := hsz
              have g2 := HC2.out k (by rw [hlen]; omega)
              generalize (Vm.enc na).length = m at *
              have ht : ((m : Int) != (k : Int) + 1) = false := by simp; omega
              have hkm : (k : Int) < m := by omega
              have HSZ := hide hsz
              clear hlen hsz
              by_cases hd : (Vm.enc na).getD k 0 = c
              · rw [hd] at g2
                have HD := hide hd
                clear hd
                have hcc : (c != c) = false := by simp
                go_wp2
                go_ret3
                have G := @Vm.dd_good bs k acc c HI.out hlt HCC.out hc0.1 h128
                rw [HNA.out] at G
                exact ⟨ret3 (good_ret hR hfit (G HSZ.out HD.out) HSZ.out), bel2⟩
              · have G := @Vm.dd_bad_last bs k acc c HI.out hk9 hlt HCC.out hc0.1 h128
                rw [HNA.out] at G
                have HG := hide (G HSZ.out hd)
                have hcc : ((Vm.enc na).getD k 0 != c) = true := by simpa using hd
                clear G hd
                generalize (Vm.enc na).getD k 0 = d at *
                go_wp2
                go_ret3
                exact ⟨ret3 (Vm.res_bad hR HG.out), bel2⟩
            · have G := @Vm.dd_bad_len bs k acc c HI.out hk9 hlt HCC.out hc0.1 h128
              rw [HNA.out] at G
              have HG := hide (G hsz)
              have hlen : (Vm.enc na).length ≠ k + 1 := hsz
              generalize (Vm.enc na).length = m at *
              have ht : ((m : Int) != (k : Int) + 1) = true := by simp; omega
              clear G hsz hlen
              go_wp2
              go_ret3
              exact ⟨ret3 (Vm.res_bad hR HG.out), bel2⟩
          · by_cases h9 : k = 9
            · have HT : Hid (∀ u : Nat, u < 18446744073709551616 → ¬ Vm.enc u <+: bs) := by
                have h1 := HI.out
                have h2 := HCC.out
                rw [h9] at h1 h2 hlt
                exact Vm.inv_ten h1 hlt h2 (by omega) hc0.2
              have h10 : k + 1 = 10 := by omega
              have H10 := hide h10
              clear h9 h10
              go_wp2
              go_roundw
              case rel => exact ⟨na, k + 1, by omega, rfl, by go_num, .inr ⟨H10.out, HT.out⟩, bel⟩
              case measure => simp [intOf]; omega
            · have HN := hide (Vm.inv_step HI.out hlt HCC.out (by omega) hc0.2)
              have e : Vm.dd k c = (c % 128).toNat := by unfold Vm.dd; rw [if_pos (by omega)]
              have HN2 : Hid (Vm.Inv bs (k + 1) na) := by
                have := HNA.out
                rw [e] at this
                rw [← this]
                exact HN.out
              clear e HN
              go_wp2
              go_roundw
              case rel => exact ⟨na, k + 1, by omega, rfl, by go_num, .inl ⟨by omega, HN2.out⟩, bel⟩
              case measure => simp [intOf]; omega
        · have HB : Hid (∀ u : Nat, u < 18446744073709551616 → ¬ Vm.enc u <+: bs) := by
            rcases HST.out with ⟨h, _⟩ | ⟨_, h⟩
            · omega
            · exact h
          clear HST
          go_wp2
          go_ret3
          exact ⟨ret3 (Vm.res_bad hR HB.out), bel⟩
      · have HB : Hid (∀ u : Nat, u < 18446744073709551616 → ¬ Vm.enc u <+: bs) := by
          rcases HST.out with ⟨_, h⟩ | ⟨_, h⟩
          · exact Vm.inv_short h (by omega)
          · exact h
        clear HST
        go_wp2
        go_ret3
        exact ⟨ret3 (Vm.res_bad hR HB.out), bel⟩
  · have hx : bs = [] := List.eq_nil_of_length_eq_zero (by omega)
    subst hx
    obtain ⟨a1, c1, rfl⟩ := hb.bare
    clear hb hl hz
    go_enter Try.func114, Try.ntmps114
    go_wp2
    refine wp_loop_rounds 1 ?_
    rw [rounds_succ]
    go_wp2
    go_ret3
    exact ⟨ret3 (Vm.res_bad hR (fun u _ => Vm.pre_nil u)), Below.refl _ _⟩

set_option maxHeartbeats 400000 in
theorem smallR_any (vb : Value) (bs : List Int) (most u i g : Int) (w : World) (hb : Is .u8 w vb bs) (hl : bs.length ≤ 150000000000000) (hm : most < 9223372036854775808) (hm' : -9223372036854775808 ≤ most) (hS : SRes bs most u i g) :
    Calls Try.prog 102 #[vb, .int .i64 most] w fun E w' => E = .returned (.tuple #[.int .i64 u, .int .i64 i, .int .i64 g]) ∧ Below w.heap.size w w' := by
  rcases hS with ⟨hR, h0, h1, hg⟩ | ⟨hu, hi, hg, x, n, e, hR, hcase⟩
  · have hbd := Vm.res_bounds hR
    have hq : ((0 : Int) != 0) = false := by simp
    subst hg
    go_enter Try.func102, Try.ntmps102
    go_wp2_with (go_at_call 114; refine (readR_any _ _ _ _ _ _ hb hl hR).mono ?_; rintro E w1 ⟨rfl, bel⟩)
    go_ret3
    exact ⟨rfl, bel⟩
  · have hbd := Vm.res_bounds hR
    subst hu hi hg
    rcases hcase with he | ⟨he, h | ⟨h, h'⟩⟩
    · subst he
      go_enter Try.func102, Try.ntmps102
      go_wp2_with (go_at_call 114; refine (readR_any _ _ _ _ _ _ hb hl hR).mono ?_; rintro E w1 ⟨rfl, bel⟩)
      go_ret3
      exact ⟨rfl, bel⟩
    · subst he
      go_enter Try.func102, Try.ntmps102
      go_wp2_with (go_at_call 114; refine (readR_any _ _ _ _ _ _ hb hl hR).mono ?_; rintro E w1 ⟨rfl, bel⟩)
      go_ret3
      exact ⟨rfl, bel⟩
    · subst he
      go_enter Try.func102, Try.ntmps102
      go_wp2_with (go_at_call 114; refine (readR_any _ _ _ _ _ _ hb hl hR).mono ?_; rintro E w1 ⟨rfl, bel⟩)
      go_ret3
      exact ⟨rfl, bel⟩

end Go.Proofs.Ytimmohpnlieefaa

/- The contracts of the document's Put, Append. -/
namespace Go.Proofs.Ytimmohpnlieefaa
open Go.RowKit
set_option linter.unusedVariables false

end Go.Proofs.Ytimmohpnlieefaa

/- The contracts of the document's Check and Append of a batch. -/
namespace Go.Proofs.Ytimmohpnlieefaa
open Go.RowKit
set_option linter.unusedVariables false

set_option maxHeartbeats 400000 in
theorem bcheckR_any (vl : Value) (l : List Bm.Ov) (w : World) (h : IsO w vl l) (hf : FitO l) (hl : l.length ≤ 140737488355328) :
    Calls Try.prog 104 #[vl] w fun E w' => E = .returned (.int .i64 (Bm.chkL l)) ∧ Below w.heap.size w w' := by
  by_cases h0 : l.length = 0
  · have : l = [] := List.eq_nil_of_length_eq_zero h0
    subst this
    obtain ⟨ao, cap, rfl⟩ := h.bare
    clear h hf hl h0
    go_enter Try.func104, Try.ntmps104
    go_wp2
    go_ret
    exact ⟨rfl, Below.refl _ _⟩
  · by_cases h8 : 8 < l.length
    · obtain ⟨ao, cap, rfl, _, _⟩ := h.shape
      rw [Bm.chkL_long h8]
      clear h hf
      have e0 : ((l.length : Int) == 0) = false := by rw [beq_eq_false_iff_ne]; omega
      have e8 : (8 : Int) < l.length := by omega
      go_enter Try.func104, Try.ntmps104
      go_wp2
      go_ret
      exact ⟨rfl, Below.refl _ _⟩
    · obtain ⟨b1, o1, c1, rfl, _, _, hB, hcell⟩ := h.full (by omega)
      rw [Bm.chkL_mid h0 h8]
      have e0 : ((l.length : Int) == 0) = false := by rw [beq_eq_false_iff_ne]; omega
      have e8 : ¬ (8 : Int) < l.length := by omega
      clear h
      generalize hn : l.length = n at *
      have HN := hide hn
      have HC := hide hcell
      have HF := hide hf
      clear hn hcell hf
      go_enter Try.func104, Try.ntmps104
      go_wp2
      go_loopw [3] (fun i wr => ∃ (k : Nat), k ≤ n ∧ i = .int .i64 k ∧ Hid (∀ q ∈ l.take k, q.c = 0) ∧ Below w.heap.size w wr) (fun i _ => n - (intOf i).toNat)
      case atStart => exact ⟨0, by omega, rfl, hide (by simp), Below.refl _ _⟩
      case round =>
        obtain ⟨k, hk, rfl, HT, bel⟩ := hrel
        by_cases hlt : k < n
        · obtain ⟨o, ho⟩ : ∃ o, l[k]? = some o := ⟨l[k]'(by have := HN.out; omega), by rw [List.getElem?_eq_getElem]⟩
          obtain ⟨c0, c1, c2⟩ := HC.out k o ho
          have sz := bel.size
          have d0 := (bel.cell (p := ⟨b1, o1 + k * 3, none⟩) hB).trans c0
          have d1 := (bel.cell (p := ⟨b1, o1 + k * 3 + 1, none⟩) hB).trans c1
          have d2 := (bel.cell (p := ⟨b1, o1 + k * 3 + 2, none⟩) hB).trans c2
          have HO := hide ho
          clear c0 c1 c2 ho
          have hlt' : (k : Int) < n := by omega
          obtain ⟨hk1, hv1⟩ := HF.out o (List.mem_of_getElem? HO.out)
          go_wp2_with fail
          refine (checkR_any o.p o.k o.v _ hk1 hv1).mono ?_
          rintro E w1 ⟨rfl, bel1⟩
          have bel2 : Below w.heap.size w w1 := bel.trans (bel1.mono sz)
          clear bel1 d0 d1 d2
          rcases (show Om.chk o.p o.k.data.toList o.v.data.toList = 0 ∨ _ from Om.chk_two _ _ _) with hc | hc
          · rw [hc]
            have HT2 := hide (first_take HT.out HO.out hc)
            clear hc
            go_wp2
            go_roundw
            case rel => exact ⟨k + 1, by omega, by go_num, HT2, bel2⟩
            case measure => simp [intOf]; omega
          · rw [hc]
            have HB := hide (Bm.first_bad (List.mem_of_getElem? HO.out) (show Bm.Ov.c o ≠ 0 by unfold Bm.Ov.c Bm.Ov.kl Bm.Ov.vl; rw [hc]; simp))
            clear hc
            go_wp2
            go_ret
            exact ⟨ret_i64 HB.out.symm, bel2⟩
        · have hkn : k = n := by omega
          have HB : Hid (Bm.first l = 0) := hide (Bm.first_all (fun q hq => HT.out q (by rw [List.take_of_length_le (by have := HN.out; omega)]; exact hq)))
          have hlt' : ¬ (k : Int) < n := by omega
          go_wp2
          go_ret
          exact ⟨ret_i64 HB.out.symm, bel⟩

end Go.Proofs.Ytimmohpnlieefaa

/- The contracts of Check and Same: the program's, the document's, the laws'. -/
namespace Go.Proofs.Ytimmohpnlieefaa
open Go.RowKit
set_option linter.unusedVariables false

theorem inb_any (x : Int) (w : World) : Calls Try.prog 107 #[.int .i64 x] w fun E w' => E = .returned (.bool (decide (1 ≤ x ∧ x ≤ 1048576))) ∧ w = w' := by
  go_enter Try.func107, Try.ntmps107
  by_cases h1 : 1 ≤ x
  · by_cases h2 : x ≤ 1048576
    · go_wp2
      go_ret
      exact ⟨by simp [h1, h2], rfl⟩
    · go_wp2
      go_ret
      exact ⟨by simp; omega, rfl⟩
  · go_wp2
    go_ret
    exact ⟨by simp; omega, rfl⟩

set_option maxHeartbeats 400000 in
theorem ccheck_any (e n : Int) (v : Value) (l : List Bm.Ov) (w : World) (h : IsO w v l) (hf : FitO l) (hl : l.length ≤ 140737488355328) :
    Calls Try.prog 97 #[cmv e n v] w fun E w' => E = .returned (.int .i64 (Cm.chk e n l)) ∧ Below w.heap.size w w' := by
  unfold cmv
  obtain ⟨w1, hw1, sz1, bel1, hB⟩ := blk_step w #[.int .i64 e, .int .i64 n, v] 32
  have c0 := blk_cell hB 0 rfl
  have c1 := blk_cell hB 1 rfl
  have c2 := blk_cell hB 2 rfl
  have h1 := h.below bel1
  obtain ⟨ao, cap, rfl, _, _⟩ := h.shape
  clear hB
  go_enter Try.func97, Try.ntmps97
  by_cases he : 1 ≤ e ∧ e ≤ 1048576
  · have he' : decide (1 ≤ e ∧ e ≤ 1048576) = true := by simp [he]
    by_cases hn : 1 ≤ n ∧ n ≤ 1048576
    · have hn' : decide (1 ≤ n ∧ n ≤ 1048576) = true := by simp [hn]
      rw [Cm.chk_in ⟨he.1, he.2, hn.1, hn.2⟩]
      clear he hn
      go_wp2_with fail
      refine (inb_any e _).mono ?_
      rintro E w2 ⟨rfl, rfl⟩
      rw [he']
      go_wp2_with fail
      refine (inb_any n _).mono ?_
      rintro E w2 ⟨rfl, rfl⟩
      rw [hn']
      go_wp2_with fail
      refine (bcheck_any _ l _ h1 hf hl).mono ?_
      rintro E w3 ⟨rfl, bel3⟩
      have bel03 := bel1.trans (bel3.mono (by omega))
      go_wp2
      go_ret
      exact ⟨rfl, bel03⟩
    · have hn' : decide (1 ≤ n ∧ n ≤ 1048576) = false := by simpa using hn
      rw [Cm.chk_out (by omega)]
      clear he hn
      go_wp2_with fail
      refine (inb_any e _).mono ?_
      rintro E w2 ⟨rfl, rfl⟩
      rw [he']
      go_wp2_with fail
      refine (inb_any n _).mono ?_
      rintro E w2 ⟨rfl, rfl⟩
      rw [hn']
      go_wp2
      go_ret
      exact ⟨rfl, bel1⟩
  · have he' : decide (1 ≤ e ∧ e ≤ 1048576) = false := by simpa using he
    rw [Cm.chk_out (by omega)]
    clear he
    go_wp2_with fail
    refine (inb_any e _).mono ?_
    rintro E w2 ⟨rfl, rfl⟩
    rw [he']
    go_wp2
    go_ret
    exact ⟨rfl, bel1⟩

set_option maxHeartbeats 400000 in
theorem ccheckR_any (e n : Int) (v : Value) (l : List Bm.Ov) (w : World) (h : IsO w v l) (hf : FitO l) (hl : l.length ≤ 140737488355328) :
    Calls Try.prog 88 #[cmv e n v] w fun E w' => E = .returned (.int .i64 (Cm.chk e n l)) ∧ Below w.heap.size w w' := by
  unfold cmv
  obtain ⟨w1, hw1, sz1, bel1, hB⟩ := blk_step w #[.int .i64 e, .int .i64 n, v] 32
  have c0 := blk_cell hB 0 rfl
  have c1 := blk_cell hB 1 rfl
  have c2 := blk_cell hB 2 rfl
  have h1 := h.below bel1
  obtain ⟨ao, cap, rfl, _, _⟩ := h.shape
  clear hB
  go_enter Try.func88, Try.ntmps88
  by_cases hin : 1 ≤ e ∧ e ≤ 1048576 ∧ 1 ≤ n ∧ n ≤ 1048576
  · rw [Cm.chk_in hin]
    obtain ⟨g1, g2, g3, g4⟩ := hin
    go_wp2_with fail
    refine (bcheckR_any _ l _ h1 hf hl).mono ?_
    rintro E w3 ⟨rfl, bel3⟩
    have bel03 := bel1.trans (bel3.mono (by omega))
    go_wp2
    go_ret
    exact ⟨rfl, bel03⟩
  · rw [Cm.chk_out hin]
    by_cases g1 : e < 1
    · go_wp2
      go_ret
      exact ⟨rfl, bel1⟩
    · by_cases g2 : 1048576 < e
      · go_wp2
        go_ret
        exact ⟨rfl, bel1⟩
      · by_cases g3 : n < 1
        · go_wp2
          go_ret
          exact ⟨rfl, bel1⟩
        · have g4 : 1048576 < n := by omega
          go_wp2
          go_ret
          exact ⟨rfl, bel1⟩

/-- Whether two commits are the same. -/
def sameC (e n : Int) (l : List Bm.Ov) (e' n' : Int) (l' : List Bm.Ov) : Bool := (e == e') && ((n == n') && Bm.sameL l l')

theorem sameC_self (e n : Int) (l : List Bm.Ov) : sameC e n l e n l = true := by simp [sameC, Bm.sameL_self]

set_option maxHeartbeats 400000 in
theorem csameK_any (e n : Int) (v : Value) (l : List Bm.Ov) (e' n' : Int) (v' : Value) (l' : List Bm.Ov) (w : World) (h : IsO w v l) (h' : IsO w v' l') (hl : l.length ≤ 140737488355328) (hl' : l'.length ≤ 140737488355328) :
    Calls Try.prog 54 #[cmv e n v, cmv e' n' v'] w fun E w' => E = .returned (.bool (sameC e n l e' n' l')) ∧ Below w.heap.size w w' := by
  unfold cmv
  obtain ⟨w1, hw1, sz1, bel1, hB⟩ := blk_step w #[.int .i64 e, .int .i64 n, v] 32
  obtain ⟨w2, hw2, sz2, bel2, hC⟩ := blk_step w1 #[.int .i64 e', .int .i64 n', v'] 32
  rw [sz1] at hC
  have hB2 := (bel2.block _ (blk_lt hB)).trans hB
  have c0 := blk_cell hB2 0 rfl
  have c1 := blk_cell hB2 1 rfl
  have c2 := blk_cell hB2 2 rfl
  have d0 := blk_cell hC 0 rfl
  have d1 := blk_cell hC 1 rfl
  have d2 := blk_cell hC 2 rfl
  have bel02 : Below w.heap.size w w2 := bel1.trans (bel2.mono (by omega))
  have i1 := h.below bel02
  have i2 := h'.below bel02
  obtain ⟨ao, cap, rfl, _, _⟩ := h.shape
  obtain ⟨ao', cap', rfl, _, _⟩ := h'.shape
  clear hB hC hB2 bel1 bel2
  go_enter Try.func54, Try.ntmps54
  by_cases he : e = e'
  · have he' : (e == e') = true := by simp [he]
    by_cases hn : n = n'
    · have hn' : (n == n') = true := by simp [hn]
      have hs : sameC e n l e' n' l' = Bm.sameL l l' := by simp [sameC, he', hn']
      rw [hs]
      clear he hn hs
      go_wp2_with fail
      refine (sameO_any _ _ l l' _ i1 i2 hl hl').mono ?_
      rintro E w3 ⟨rfl, bel3⟩
      have bel03 := bel02.trans (bel3.mono (by omega))
      go_wp2
      go_ret
      exact ⟨rfl, bel03⟩
    · have hn' : (n == n') = false := by simpa using hn
      have hs : sameC e n l e' n' l' = false := by simp [sameC, hn']
      rw [hs]
      clear he hn hs
      go_wp2
      go_ret
      exact ⟨rfl, bel02⟩
  · have he' : (e == e') = false := by simpa using he
    have hs : sameC e n l e' n' l' = false := by simp [sameC, he']
    rw [hs]
    clear he hs
    go_wp2
    go_ret
    exact ⟨rfl, bel02⟩

end Go.Proofs.Ytimmohpnlieefaa

/- The contracts of Follows: the program's, the document's. -/
namespace Go.Proofs.Ytimmohpnlieefaa
open Go.RowKit
set_option linter.unusedVariables false

/-- Two cells of a block are written. -/
theorem res_two {V : World} {R : Nat} {t : TypeId} {x y : Value} (hR : V.heap[R]? = some (.cells #[x, y] t (0, 0))) (a b : Value) :
    ∃ V', (V.setCell ⟨R, 0, none⟩ a).setCell ⟨R, 1, none⟩ b = V' ∧ V'.heap[R]? = some (.cells #[a, b] t (0, 0)) ∧ V.grownBy V' (some R) ∧
      (V.cell? ⟨R, 0, none⟩ = some x ∧ V.cell? ⟨R, 1, none⟩ = some y) ∧ (V.frozen? ⟨R, 0, none⟩ = false ∧ V.frozen? ⟨R, 1, none⟩ = false) ∧
      (V'.cell? ⟨R, 0, none⟩ = some a ∧ V'.cell? ⟨R, 1, none⟩ = some b) := by
  have h2 := set_cells (set_cells hR 0 a) 1 b
  exact ⟨_, rfl, h2, grown_trans (grown_setCell V ⟨R, 0, none⟩ a) (grown_setCell _ ⟨R, 1, none⟩ b), ⟨blk_cell hR 0 rfl, blk_cell hR 1 rfl⟩, ⟨blk_froz hR 0, blk_froz hR 1⟩, ⟨blk_cell h2 0 rfl, blk_cell h2 1 rfl⟩⟩

/-- A block of two cells, made and written. -/
theorem new_two (w : World) (t : TypeId) (x y a b : Value) : ∃ V, (((w.alloc (.cells #[x, y] t)).setCell ⟨w.heap.size, 0, none⟩ a).setCell ⟨w.heap.size, 1, none⟩ b = V) ∧ w.alloc (.cells #[a, b] t) = V ∧ V.heap.size = w.heap.size + 1 ∧ Below w.heap.size w V ∧ V.heap[w.heap.size]? = some (.cells #[a, b] t (0, 0)) ∧
    V.cell? ⟨w.heap.size, 0, none⟩ = some a ∧ V.cell? ⟨w.heap.size, 1, none⟩ = some b := by
  obtain ⟨V, h1, h2, h3, h4⟩ := blk_step w #[a, b] t
  refine ⟨V, ?_, h1, h2, h3, h4, blk_cell h4 0 rfl, blk_cell h4 1 rfl⟩
  rw [← h1]
  simp [go_sem]

/-- A fault as a value. -/
def flv (f : Int × Int) : Value := .agg #[.int .i64 f.1, .int .i64 f.2]

theorem Try.guardF (op : BinOp) (x y : Operand) (xs ys : Array Value) (w : World) : (eqGuard op 71 x y (.agg xs) (.agg ys)).run Try.prog w = .ok () w := run_eqGuard_agg w op 71 x y xs ys (by kernel_rfl)

theorem Try.neqF (a b c d : Int) (w : World) : (binOp .neq 71 (.agg #[.int .i64 a, .int .i64 b]) (.agg #[.int .i64 c, .int .i64 d])).run Try.prog w = .ok (.bool (!((a == c) && (b == d)))) w := by
  rw [run_neq_struct, run_equalIn_agg w 9999 71 _ _ (by kernel_rfl) (by kernel_rfl)]
  unfold Program.fieldsOf
  rw [Try.underlying71]
  simp [Op.eqFields, go_sem, Try.underlying24, Try.underlying3]
  by_cases h1 : a = c <;> by_cases h2 : b = d <;> simp [h1, h2]

set_option maxHeartbeats 400000 in
theorem flt_any (at' ep nu e n : Int) (v : Value) (l : List Bm.Ov) (w : World) (h : IsO w v l) (hf : FitO l) (hl : l.length ≤ 140737488355328) :
    Calls Try.prog 93 #[.int .i64 at', .int .i64 ep, .int .i64 nu, cmv e n v] w fun E w' => E = .returned (flv (Cm.flt at' ep nu ⟨e, n, l⟩)) ∧ Below w.heap.size w w' := by
  unfold cmv flv
  obtain ⟨fa, hfa⟩ : ∃ f, Cm.flt at' ep nu ⟨e, n, l⟩ = f := ⟨_, rfl⟩
  rw [hfa]
  have HF := hide hfa
  clear hfa
  obtain ⟨w1, hw1, sz1, bel1, hB⟩ := blk_step w #[.int .i64 e, .int .i64 n, v] 32
  obtain ⟨w2, hw2, sz2, bel2, hR⟩ := blk_step w1 #[.int .i64 0, .int .i64 0] 71
  rw [sz1] at hR
  have bel02 : Below w.heap.size w w2 := bel1.trans (bel2.mono (by omega))
  have hB2 := (bel2.block w.heap.size (by omega)).trans hB
  have c0 := blk_cell hB2 0 rfl
  have c1 := blk_cell hB2 1 rfl
  have c2 := blk_cell hB2 2 rfl
  have h2 := h.below bel02
  obtain ⟨ao, cap, rfl, _, _⟩ := h.shape
  have HB := hide hB2
  have HR := hide hR
  clear hB hB2 hR bel1 bel2
  go_enter Try.func93, Try.ntmps93
  go_wp2_with fail
  refine (ccheck_any e n _ l _ h2 hf hl).mono ?_
  rintro E w3 ⟨rfl, bel3⟩
  have sz3 := bel3.size
  have hB3 := (bel3.block w.heap.size (by omega)).trans HB.out
  have hR3 := (bel3.block (w.heap.size + 1) (by omega)).trans HR.out
  have bel03 := bel02.trans (bel3.mono (by omega))
  have d0 := blk_cell hB3 0 rfl
  have d1 := blk_cell hB3 1 rfl
  clear c0 c1 c2 HB HR hB3 bel02 bel3 h2
  by_cases hc : Cm.chk e n l = 0
  · obtain ⟨g1, g2, g3, g4, g5⟩ := Cm.chk_zero hc
    by_cases hq : n - 1 ≠ nu ∨ e < ep
    · obtain rfl : (15, at') = fa := (Cm.flt_off (c := ⟨e, n, l⟩) hc hq).symm.trans HF.out
      rw [hc]
      obtain ⟨V', hV', bV', gV', ⟨a0, a1⟩, ⟨f0, f1⟩, ⟨z0, z1⟩⟩ := res_two hR3 (.int .i64 15) (.int .i64 at')
      have belV' := below_put bel03 gV' (by omega) (by omega)
      clear hc bV' gV' hR3
      by_cases hq1 : n - 1 = nu
      · have hq2 : e < ep := by omega
        have hq3 : (n - 1 != nu) = false := by simpa using hq1
        clear hq hq1
        go_wp2
        refine bodyPost_ret (v := .agg #[.int .i64 15, .int .i64 at']) (by simp [results, Try.results93, go_sem, z0, z1]) rfl ?_
        exact ⟨rfl, belV'⟩
      · have hq3 : (n - 1 != nu) = true := by simpa using hq1
        clear hq hq1
        go_wp2
        refine bodyPost_ret (v := .agg #[.int .i64 15, .int .i64 at']) (by simp [results, Try.results93, go_sem, z0, z1]) rfl ?_
        exact ⟨rfl, belV'⟩
    · obtain rfl : (0, 0) = fa := (Cm.flt_on (c := ⟨e, n, l⟩) hc hq).symm.trans HF.out
      rw [hc]
      obtain ⟨V', hV', bV', gV', ⟨a0, a1⟩, ⟨f0, f1⟩, ⟨z0, z1⟩⟩ := res_two hR3 (.int .i64 0) (.int .i64 0)
      have belV' := below_put bel03 gV' (by omega) (by omega)
      have hq3 : (n - 1 != nu) = false := by simp; omega
      have hq2 : ¬ e < ep := by omega
      clear hc bV' gV' hR3 hq
      go_wp2
      refine bodyPost_ret (v := .agg #[.int .i64 0, .int .i64 0]) (by simp [results, Try.results93, go_sem, z0, z1]) rfl ?_
      exact ⟨rfl, belV'⟩
  · have hfo : (Cm.chk e n l, at') = fa := (Cm.flt_bad (c := ⟨e, n, l⟩) hc).symm.trans HF.out
    have hne : (Cm.chk e n l == 0) = false := by simpa using hc
    generalize Cm.chk e n l = ck at *
    subst hfo
    obtain ⟨V', hV', bV', gV', ⟨a0, a1⟩, ⟨f0, f1⟩, ⟨z0, z1⟩⟩ := res_two hR3 (.int .i64 ck) (.int .i64 at')
    have belV' := below_put bel03 gV' (by omega) (by omega)
    clear hc bV' gV' hR3
    go_wp2
    refine bodyPost_ret (v := .agg #[.int .i64 ck, .int .i64 at']) (by simp [results, Try.results93, go_sem, z0, z1]) rfl ?_
    exact ⟨rfl, belV'⟩

theorem cvs_drop {r : List Cw} {k : Nat} {c : Cw} (h : r[k]? = some c) : (cvs r).drop k = c.c :: (cvs r).drop (k + 1) := by
  obtain ⟨hk, rfl⟩ := List.getElem?_eq_some_iff.1 h
  unfold cvs
  rw [← List.map_drop, ← List.map_drop, List.drop_eq_getElem_cons hk, List.map_cons]

set_option maxHeartbeats 1000000 in
theorem cfol_any (ep0 nu0 : Int) (vl : Value) (r : List Cw) (w : World) (h : IsC w vl r) (hf : FitC r) (hl : r.length ≤ 140737488355328) :
    Calls Try.prog 70 #[.int .i64 ep0, .int .i64 nu0, vl] w fun E w' => E = .returned (flv (Cm.fol ep0 nu0 0 (cvs r))) ∧ Below w.heap.size w w' := by
  unfold flv
  obtain ⟨fa, hfa⟩ : ∃ f, Cm.fol ep0 nu0 0 (cvs r) = f := ⟨_, rfl⟩
  rw [hfa]
  have HF := hide hfa
  clear hfa
  obtain ⟨w1, hw1, sz1, bel1, hR⟩ := blk_step w #[.int .i64 0, .int .i64 0] 71
  have h1 := h.below bel1
  have hR0 := blk_cell hR 0 rfl
  have hR1 := blk_cell hR 1 rfl
  by_cases hz : r.length = 0
  · have : r = [] := List.eq_nil_of_length_eq_zero hz
    subst this
    obtain ⟨ao, cap, rfl, _, _⟩ := h.1.shape
    have hfo := HF.out
    simp only [cvs, List.map_nil, Cm.fol_nil] at hfo
    subst hfo
    obtain ⟨V', hV', bV', gV', ⟨a0, a1⟩, ⟨f0, f1⟩, ⟨z0, z1⟩⟩ := res_two hR (.int .i64 0) (.int .i64 0)
    have belV' := below_put bel1 gV' (by omega) (by omega)
    clear h h1 hf hl hz HF bV' gV' hR
    simp only [List.length_nil]
    go_enter Try.func70, Try.ntmps70
    go_wp2
    go_loopw [12] (fun iv wr => iv = .int .i64 0 ∧ wr = w1) (fun _ _ => 0)
    case atStart => exact ⟨rfl, rfl⟩
    case round =>
      obtain ⟨rfl, rfl⟩ := hrel
      go_wp2
      refine bodyPost_ret (v := .agg #[.int .i64 0, .int .i64 0]) (by simp [results, Try.results70, go_sem, z0, z1]) rfl ?_
      exact ⟨rfl, belV'⟩
  obtain ⟨b1, o1, c1, hvl, _, _, hB, hcell⟩ := h1.1.full (by omega)
  subst hvl
  have HIN := hide h1.2
  have HFIT := hide hf
  have HC := hide hcell
  have HRR := hide hR
  generalize hn : r.length = n at *
  have HN := hide hn
  clear h h1 hcell hf hR hR0 hR1 hn
  go_enter Try.func70, Try.ntmps70
  go_wp2
  go_loopw [0, 1, 12] (fun ev nv iv wr => ∃ (k : Nat) (ep nu : Int), k ≤ n ∧ iv = .int .i64 k ∧ ev = .int .i64 ep ∧ nv = .int .i64 nu ∧ Hid (Cm.fol ep nu k ((cvs r).drop k) = fa) ∧ Below w1.heap.size w1 wr) (fun _ _ iv _ => n - (intOf iv).toNat)
  case atStart => exact ⟨0, ep0, nu0, by omega, rfl, rfl, rfl, HF, Below.refl _ _⟩
  case round =>
    obtain ⟨k, ep, nu, hk, rfl, rfl, rfl, HT, bel⟩ := hrel
    have sz := bel.size
    by_cases hlt : k < n
    · obtain ⟨c, hc⟩ : ∃ c, r[k]? = some c := ⟨r[k]'(by have := HN.out; omega), by rw [List.getElem?_eq_getElem]⟩
      obtain ⟨e0, e1, e2⟩ := HC.out k c hc
      have d0 := (bel.cell (p := ⟨b1, o1 + k * 3, none⟩) hB).trans e0
      have d1 := (bel.cell (p := ⟨b1, o1 + k * 3 + 1, none⟩) hB).trans e1
      have d2 := (bel.cell (p := ⟨b1, o1 + k * 3 + 2, none⟩) hB).trans e2
      have hmem := List.mem_of_getElem? hc
      obtain ⟨i1, _, _⟩ := HIN.out c hmem
      have i2 := i1.below bel
      obtain ⟨hfc, hlc⟩ := HFIT.out c hmem
      have HCD := hide (cvs_drop hc)
      have hlt' : (k : Int) < n := by omega
      obtain ⟨ao, cp, hcv, _, _⟩ := i2.shape
      rw [hcv] at d2 i2
      obtain ⟨V, hV, hV2, szV, belV, bC, q0, q1, q2⟩ := new_step wr 32 (.int .i64 0) (.int .i64 0) (.slice none 0 0) (.int .i64 c.e) (.int .i64 c.n) (.slice ao c.l.length cp)
      have i3 := i2.below belV
      have BC := hide bC
      clear e0 e1 e2 hc hmem i1 i2 hcv bC
      go_wp2_with fail
      refine (flt_any k ep nu c.e c.n _ c.l _ i3 hfc (by omega)).mono ?_
      rintro E w3 ⟨rfl, bel3⟩
      have sz3 := bel3.size
      obtain ⟨fl, hfl⟩ : ∃ f, Cm.flt k ep nu ⟨c.e, c.n, c.l⟩ = f := ⟨_, rfl⟩
      unfold flv
      rw [hfl]
      have HFL := hide hfl
      clear hfl
      obtain ⟨fe, fp⟩ := fl
      simp only
      have bC3 := (bel3.block wr.heap.size (by omega)).trans BC.out
      obtain ⟨X, hX, hX2, szX, belX, bF, x0, x1⟩ := new_two w3 71 (.int .i64 0) (.int .i64 0) (.int .i64 fe) (.int .i64 fp)
      have bCX := (belX.block wr.heap.size (by omega)).trans bC3
      have u0 := blk_cell bCX 0 rfl
      have u1 := blk_cell bCX 1 rfl
      have belA : Below w1.heap.size w1 X := ((bel.trans (belV.mono (by omega))).trans (bel3.mono (by omega))).trans (belX.mono (by omega))
      have hRX := (belA.block w.heap.size (by omega)).trans HRR.out
      have hnq := Try.neqF fe fp 0 0
      have hgd := Try.guardF
      clear bel belV bel3 belX BC bC3 bCX bF i3 q0 q1 q2 d0 d1 d2 hV hV2
      by_cases hfe : fe = 0
      · have hz := Cm.flt_zero (a := k) (ep := ep) (nu := nu) (c := ⟨c.e, c.n, c.l⟩) (by rw [HFL.out]; exact hfe)
        have hfp : fp = 0 := by have := hz.2.2; rw [HFL.out] at this; exact this
        have HT2 : Hid (Cm.fol c.e c.n (k + 1) ((cvs r).drop (k + 1)) = fa) := hide (by
          have := HT.out
          rw [HCD.out] at this
          rw [← this]
          exact (Cm.fol_next (c := c.c) (by rw [show Cm.flt k ep nu c.c = (fe, fp) from HFL.out]; exact hfe)).symm)
        have hb : (!((fe == 0) && (fp == 0))) = false := by simp [hfe, hfp]
        rw [hb] at hnq
        clear hb hz hfe hfp hRX HFL HCD HT
        go_wp2_with fail
        go_quiet (fail)
        go_wp2
        go_roundw
        case rel => exact ⟨k + 1, c.e, c.n, by omega, by go_num, rfl, rfl, HT2, below_drewN belA _⟩
        case measure => simp [intOf]; omega
      · have hfo : (fe, fp) = fa := by
          have := HT.out
          rw [HCD.out] at this
          rw [← this, Cm.fol_stop (c := c.c) (by rw [show Cm.flt k ep nu c.c = (fe, fp) from HFL.out]; exact hfe)]
          exact HFL.out.symm
        have hb : (!((fe == 0) && (fp == 0))) = true := by simp [hfe]
        rw [hb] at hnq
        subst hfo
        obtain ⟨V', hV', bV', gV', ⟨a0, a1⟩, ⟨f0, f1⟩, ⟨z0, z1⟩⟩ := res_two hRX (.int .i64 fe) (.int .i64 fp)
        have belV' := below_put (bel1.trans (belA.mono (by omega))) gV' (by omega) (by omega)
        clear hb hfe hRX HFL HCD HT HF bV' gV' u0 u1 belA
        go_wp2
        refine bodyPost_ret (v := .agg #[.int .i64 fe, .int .i64 fp]) (by simp [results, Try.results70, go_sem, z0, z1]) rfl ?_
        exact ⟨rfl, belV'⟩
    · have hlt' : ¬ (k : Int) < n := by omega
      have hfo : (0, 0) = fa := by
        have := HT.out
        rw [List.drop_of_length_le (by unfold cvs; rw [List.length_map, HN.out]; omega), Cm.fol_nil] at this
        exact this
      subst hfo
      have hRX := (bel.block w.heap.size (by omega)).trans HRR.out
      obtain ⟨V', hV', bV', gV', ⟨a0, a1⟩, ⟨f0, f1⟩, ⟨z0, z1⟩⟩ := res_two hRX (.int .i64 0) (.int .i64 0)
      have belV' := below_put (bel1.trans (bel.mono (by omega))) gV' (by omega) (by omega)
      clear hRX HT HF bV' gV' bel
      go_wp2
      refine bodyPost_ret (v := .agg #[.int .i64 0, .int .i64 0]) (by simp [results, Try.results70, go_sem, z0, z1]) rfl ?_
      exact ⟨rfl, belV'⟩

set_option maxHeartbeats 1000000 in
theorem cfolR_any (ep0 nu0 : Int) (vl : Value) (r : List Cw) (w : World) (h : IsC w vl r) (hf : FitC r) (hl : r.length ≤ 140737488355328) :
    Calls Try.prog 58 #[.int .i64 ep0, .int .i64 nu0, vl] w fun E w' => E = .returned (flv (Cm.fol ep0 nu0 0 (cvs r))) ∧ Below w.heap.size w w' := by
  unfold flv
  obtain ⟨fa, hfa⟩ : ∃ f, Cm.fol ep0 nu0 0 (cvs r) = f := ⟨_, rfl⟩
  rw [hfa]
  have HF := hide hfa
  clear hfa
  obtain ⟨w1, hw1, sz1, bel1, hR⟩ := blk_step w #[.int .i64 0, .int .i64 0] 71
  have h1 := h.below bel1
  by_cases hz : r.length = 0
  · have : r = [] := List.eq_nil_of_length_eq_zero hz
    subst this
    obtain ⟨ao, cap, rfl, _, _⟩ := h.1.shape
    have hfo := HF.out
    simp only [cvs, List.map_nil, Cm.fol_nil] at hfo
    subst hfo
    obtain ⟨V', hV', bV', gV', ⟨a0, a1⟩, ⟨f0, f1⟩, ⟨z0, z1⟩⟩ := res_two hR (.int .i64 0) (.int .i64 0)
    have belV' := below_put bel1 gV' (by omega) (by omega)
    clear h h1 hf hl hz HF bV' gV' hR
    simp only [List.length_nil]
    go_enter Try.func58, Try.ntmps58
    go_wp2
    go_loopw [7] (fun iv wr => iv = .int .i64 0 ∧ wr = w1) (fun _ _ => 0)
    case atStart => exact ⟨rfl, rfl⟩
    case round =>
      obtain ⟨rfl, rfl⟩ := hrel
      go_wp2
      refine bodyPost_ret (v := .agg #[.int .i64 0, .int .i64 0]) (by simp [results, Try.results58, go_sem, z0, z1]) rfl ?_
      exact ⟨rfl, belV'⟩
  obtain ⟨b1, o1, c1, hvl, _, _, hB, hcell⟩ := h1.1.full (by omega)
  subst hvl
  have HIN := hide h1.2
  have HFIT := hide hf
  have HC := hide hcell
  have HRR := hide hR
  generalize hn : r.length = n at *
  have HN := hide hn
  clear h h1 hcell hf hR hn
  go_enter Try.func58, Try.ntmps58
  go_wp2
  go_loopw [0, 1, 7] (fun ev nv iv wr => ∃ (k : Nat) (ep nu : Int), k ≤ n ∧ iv = .int .i64 k ∧ ev = .int .i64 ep ∧ nv = .int .i64 nu ∧ Hid (Cm.fol ep nu k ((cvs r).drop k) = fa) ∧ Below w1.heap.size w1 wr) (fun _ _ iv _ => n - (intOf iv).toNat)
  case atStart => exact ⟨0, ep0, nu0, by omega, rfl, rfl, rfl, HF, Below.refl _ _⟩
  case round =>
    obtain ⟨k, ep, nu, hk, rfl, rfl, rfl, HT, bel⟩ := hrel
    have sz := bel.size
    by_cases hlt : k < n
    · obtain ⟨c, hc⟩ : ∃ c, r[k]? = some c := ⟨r[k]'(by have := HN.out; omega), by rw [List.getElem?_eq_getElem]⟩
      obtain ⟨e0, e1, e2⟩ := HC.out k c hc
      have d0 := (bel.cell (p := ⟨b1, o1 + k * 3, none⟩) hB).trans e0
      have d1 := (bel.cell (p := ⟨b1, o1 + k * 3 + 1, none⟩) hB).trans e1
      have d2 := (bel.cell (p := ⟨b1, o1 + k * 3 + 2, none⟩) hB).trans e2
      have hmem := List.mem_of_getElem? hc
      obtain ⟨i1, _, _⟩ := HIN.out c hmem
      have i2 := i1.below bel
      obtain ⟨hfc, hlc⟩ := HFIT.out c hmem
      have HCD := hide (cvs_drop hc)
      have hlt' : (k : Int) < n := by omega
      clear hc hmem i1
      go_wp2_with fail
      refine (ccheckR_any c.e c.n _ c.l _ i2 hfc (by omega)).mono ?_
      rintro E w3 ⟨rfl, bel3⟩
      have sz3 := bel3.size
      have belA : Below w1.heap.size w1 w3 := bel.trans (bel3.mono (by omega))
      have u0 := (belA.cell (p := ⟨b1, o1 + k * 3, none⟩) hB).trans e0
      have u1 := (belA.cell (p := ⟨b1, o1 + k * 3 + 1, none⟩) hB).trans e1
      have hRX := (belA.block w.heap.size (by omega)).trans HRR.out
      clear bel bel3 d0 d1 d2 e0 e1 e2 i2
      by_cases hck : Cm.chk c.e c.n c.l = 0
      · rw [hck]
        obtain ⟨g1, g2, g3, g4, g5⟩ := Cm.chk_zero hck
        by_cases hq : c.n - 1 ≠ nu ∨ c.e < ep
        · obtain rfl : (15, (k : Int)) = fa := by
            have := HT.out
            rw [HCD.out, Cm.fol_off (c := c.c) hck hq] at this
            exact this
          obtain ⟨V', hV', bV', gV', ⟨a0, a1⟩, ⟨f0, f1⟩, ⟨z0, z1⟩⟩ := res_two hRX (.int .i64 15) (.int .i64 k)
          have belV' := below_put (bel1.trans (belA.mono (by omega))) gV' (by omega) (by omega)
          clear hck hRX HCD HT HF bV' gV' belA
          by_cases hq1 : c.n - 1 = nu
          · have hq2 : c.e < ep := by omega
            have hq3 : (c.n - 1 != nu) = false := by simpa using hq1
            clear hq hq1
            go_wp2
            refine bodyPost_ret (v := .agg #[.int .i64 15, .int .i64 k]) (by simp [results, Try.results58, go_sem, z0, z1]) rfl ?_
            exact ⟨rfl, belV'⟩
          · have hq3 : (c.n - 1 != nu) = true := by simpa using hq1
            clear hq hq1
            go_wp2
            refine bodyPost_ret (v := .agg #[.int .i64 15, .int .i64 k]) (by simp [results, Try.results58, go_sem, z0, z1]) rfl ?_
            exact ⟨rfl, belV'⟩
        · have HT2 : Hid (Cm.fol c.e c.n (k + 1) ((cvs r).drop (k + 1)) = fa) := hide (by
            have := HT.out
            rw [HCD.out, Cm.fol_on (c := c.c) hck hq] at this
            exact this)
          have hq3 : (c.n - 1 != nu) = false := by simp; omega
          have hq2 : ¬ c.e < ep := by omega
          clear hck hRX HCD HT hq
          go_wp2_with fail
          go_quiet (fail)
          go_wp2
          go_roundw
          case rel => exact ⟨k + 1, c.e, c.n, by omega, by go_num, rfl, rfl, HT2, below_drewN belA _⟩
          case measure => simp [intOf]; omega
      · have hfo : (Cm.chk c.e c.n c.l, (k : Int)) = fa := by
          have := HT.out
          rw [HCD.out, Cm.fol_bad (c := c.c) hck] at this
          exact this
        have hne : (Cm.chk c.e c.n c.l == 0) = false := by simpa using hck
        generalize Cm.chk c.e c.n c.l = ck at *
        subst hfo
        obtain ⟨V', hV', bV', gV', ⟨a0, a1⟩, ⟨f0, f1⟩, ⟨z0, z1⟩⟩ := res_two hRX (.int .i64 ck) (.int .i64 k)
        have belV' := below_put (bel1.trans (belA.mono (by omega))) gV' (by omega) (by omega)
        clear hck hRX HCD HT HF bV' gV' belA
        go_wp2
        refine bodyPost_ret (v := .agg #[.int .i64 ck, .int .i64 k]) (by simp [results, Try.results58, go_sem, z0, z1]) rfl ?_
        exact ⟨rfl, belV'⟩
    · have hlt' : ¬ (k : Int) < n := by omega
      have hfo : (0, 0) = fa := by
        have := HT.out
        rw [List.drop_of_length_le (by unfold cvs; rw [List.length_map, HN.out]; omega), Cm.fol_nil] at this
        exact this
      subst hfo
      have hRX := (bel.block w.heap.size (by omega)).trans HRR.out
      obtain ⟨V', hV', bV', gV', ⟨a0, a1⟩, ⟨f0, f1⟩, ⟨z0, z1⟩⟩ := res_two hRX (.int .i64 0) (.int .i64 0)
      have belV' := below_put (bel1.trans (bel.mono (by omega))) gV' (by omega) (by omega)
      clear hRX HT HF bV' gV' bel
      go_wp2
      refine bodyPost_ret (v := .agg #[.int .i64 0, .int .i64 0]) (by simp [results, Try.results58, go_sem, z0, z1]) rfl ?_
      exact ⟨rfl, belV'⟩

end Go.Proofs.Ytimmohpnlieefaa
