/- Texts of one layer, one behind the other. -/
import Derived.Test.YtajlhdmnincehaaGreatDoorH1
import Derived.Test.YtajlhdmnincehaaGreatDoorG1
import Derived.Lib.AppendZeros
import Derived.Test.YtajlhdmnincehaaGreatDoorG2
import Derived.Test.YtajlhdmnincehaaGreatDoorProg
import Derived.Lib.Strings
import Derived.Lib.AppendStr
import Derived.Lib.UnsafeStr
/- The contracts of varint Size, Append, Read, Small. -/
namespace Go.Proofs.YtajlhdmnincehaaGreatDoor
open Go.RowKit
set_option linter.unusedVariables false

theorem size_done {y : Int} {n m : Nat} (h0 : 0 ≤ y) (hs : Vm.sz y.toNat + n = m + 1) (h : (y / 128 == 0) = true) : (n : Int) = m := by
  have h := beq_iff_eq.1 h
  have := Vm.sz_lo (x := y.toNat) (by omega)
  omega

theorem size_next {y : Int} {n m : Nat} (h0 : 0 ≤ y) (hs : Vm.sz y.toNat + n = m + 1) (hm : m ≤ 10) (h : (y / 128 == 0) = false) :
    Vm.sz (y / 128).toNat + (n + 1) = m + 1 ∧ n + 1 ≤ 10 ∧ (y / 128).toNat < y.toNat := by
  have h := beq_eq_false_iff_ne.1 h
  have := Vm.sz_hi (x := y.toNat) (by omega)
  have e : (y / 128).toNat = y.toNat / 128 := by omega
  have := Vm.sz_pos (y / 128).toNat
  rw [e] at *
  omega

set_option maxHeartbeats 400000 in
theorem size_any (x : Int) (w : World) (h0 : 0 ≤ x) (h1 : x < 18446744073709551616) :
    Calls Tryz.prog 289 #[.int .u64 x] w fun e w' => e = .returned (.int .i64 (Vm.sz x.toNat)) ∧ w = w' := by
  have hm := Vm.sz_le10 (x := x.toNat) (by omega)
  go_enter Tryz.func289, Tryz.ntmps289
  go_wp2
  go_loop [0, 3] (fun xx nn => ∃ (y : Int) (n : Nat), 0 ≤ y ∧ y < 18446744073709551616 ∧ 1 ≤ n ∧ n ≤ 10 ∧ xx = .int .u64 y ∧ nn = .int .i64 n ∧ Vm.sz y.toNat + n = Vm.sz x.toNat + 1) (fun xx _ => (intOf xx).toNat)
  case atStart => exact ⟨x, 1, h0, h1, by omega, by omega, rfl, rfl, rfl⟩
  case round =>
    obtain ⟨y, n, hy0, hy1, hn0, hn1, rfl, rfl, hs⟩ := hrel
    have HS : Hid (Vm.sz y.toNat + n = Vm.sz x.toNat + 1) := hs
    clear hs
    go_wp2
    · have hb : (y / 128 == 0) = true := by assumption
      go_ret
      exact ⟨ret_i64 (size_done hy0 HS.out hb), rfl⟩
    · have hb : (y / 128 == 0) = false := by assumption
      have R := size_next hy0 HS.out hm hb
      go_round
      case rel => exact ⟨y / 128, n + 1, by omega, by omega, by omega, R.2.1, rfl, by go_num, R.1⟩
      case measure => simp [intOf]; omega

set_option maxHeartbeats 400000 in
theorem app_any (vb : Value) (bs : List Int) (x : Int) (w : World) (hb : Is .u8 w vb bs) (hlb : bs.length ≤ 140737488351232) (h0 : 0 ≤ x) (h1 : x < 18446744073709551616) :
    Calls Tryz.prog 242 #[vb, .int .u64 x] w fun e w' => ∃ v, e = .returned v ∧ Own .u8 5 w.heap.size w' v (bs ++ Vm.enc x.toNat) ∧ Below w.heap.size w w' := by
  have hm := Vm.sz_le10 (x := x.toNat) (by omega)
  obtain ⟨ao, cap, hv⟩ : ∃ ao cap, vb = .slice ao bs.length cap := by
    rcases hb.2 with ⟨h, e⟩ | ⟨ad, cap, hv, _⟩
    · subst e; exact ⟨none, 0, h⟩
    · exact ⟨some ad, cap, hv⟩
  subst hv
  obtain ⟨i0, hi, hz0, hz1, hz2⟩ := info_parts Tryz.info5
  go_enter Tryz.func242, Tryz.ntmps242
  go_wp2_with (first | (go_at_call 289; refine (size_any x _ h0 h1).mono ?_; rintro e w' ⟨rfl, rfl⟩) | (at_make; refine wpList_make_own _ rfl _ _ 28 rfl w.heap.size 5 i0 (.int .u8 0) 1 Tryz.underlying28 hi hz0 hz1 _ _ _ (bs.length + Vm.sz x.toNat) rfl rfl (by omega) ?b2 ?b3 (Nat.le_refl _) ?_))
  case b2 => rw [hz2]; omega
  case b3 => unfold maxLen; omega
  intro w0 hown0 hgrow0
  have bel0 : Below w.heap.size w w0 := (Below.refl _ _).grown hgrow0 (Nat.le_refl _) (by simp)
  have own0 : Own .u8 5 w.heap.size w0 (.slice (some ⟨w.heap.size, 0, none⟩) 0 (bs.length + Vm.sz x.toNat)) [] := ⟨by simp, hown0⟩
  have is0 := hb.below bel0
  have sz0 := bel0.size
  clear hown0 hgrow0
  go_wp2_with (at_builtin; refine wpList_append_is rfl (.tmp 12) (.tmp 13) 28 rfl .u8 5 w.heap.size 1 Tryz.underlying28 Tryz.info5 (by decide) _ [] rfl own0 _ bs rfl is0 (by simp; omega) sz0 ?_)
  intro v1 w1 own1 bel1 _
  have bel := bel0.trans bel1
  clear own0 is0 bel0 bel1 sz0
  go_wp2
  go_loopw [1, 5] (fun xx vv wr => ∃ (y : Int) (zs : List Int), 0 ≤ y ∧ y < 18446744073709551616 ∧ xx = .int .u64 y ∧ zs.length ≤ 140737488351242 ∧ Own .u8 5 w.heap.size wr vv zs ∧ zs ++ Vm.enc y.toNat = bs ++ Vm.enc x.toNat ∧ Below w.heap.size w wr) (fun xx _ _ => (intOf xx).toNat)
  case atStart => exact ⟨x, bs, h0, h1, rfl, by omega, own1, rfl, bel⟩
  case round =>
    obtain ⟨y, zs, hy0, hy1, rfl, hl, own, heq, belr⟩ := hrel
    have HE := hide heq
    clear heq own1 bel
    have szr := belr.size
    by_cases hy : y ≤ 127
    · have e1 : y % 256 = y := by omega
      have W := wf_u8 (z := y) hy0 (by omega)
      go_wp2_with (at_builtin; refine wpList_append_is rfl (.tmp 17) (.tmp 20) 28 rfl .u8 5 w.heap.size 1 Tryz.underlying28 Tryz.info5 (by decide) _ zs rfl (own.below ((Below.refl _ _).alloc (Nat.le_refl _) _)) _ [y] rfl (Is.one .u8 _ _ 5 W) (by simp; omega) (by simp; omega) ?_)
      intro v2 w2 own2 bel2 _
      go_wp2
      go_ret
      refine ⟨_, rfl, ?_, (belr.alloc szr _).trans bel2⟩
      rw [← HE.out, Vm.enc_lo (x := y.toNat) (by omega), Int.toNat_of_nonneg hy0]
      exact own2
    · have e1 := and127_u64 y hy0 hy1
      have e2 : y % 128 % 256 = y % 128 := by omega
      have e3 := or128_u8 (y % 128) (by omega) (by omega)
      have W := wf_u8 (z := y % 128 + 128) (by omega) (by omega)
      go_wp2_with (at_builtin; refine wpList_append_is rfl (.tmp 22) (.tmp 27) 28 rfl .u8 5 w.heap.size 1 Tryz.underlying28 Tryz.info5 (by decide) _ zs rfl (own.below ((Below.refl _ _).alloc (Nat.le_refl _) _)) _ [y % 128 + 128] rfl (Is.one .u8 _ _ 5 W) (by simp; omega) (by simp; omega) ?_)
      intro v2 w2 own2 bel2 _
      have HE2 : zs ++ [y % 128 + 128] ++ Vm.enc (y / 128).toNat = bs ++ Vm.enc x.toNat := by
        rw [← HE.out, Vm.enc_hi (x := y.toNat) (by omega)]
        have : (y / 128).toNat = y.toNat / 128 := by omega
        have : ((y.toNat % 128 + 128 : Nat) : Int) = y % 128 + 128 := by omega
        simp_all
      have HL : zs.length + 1 ≤ 140737488351242 := by
        have := congrArg List.length HE2
        have := Vm.sz_pos (y / 128).toNat
        simp at *
        unfold Vm.sz at *
        omega
      have HE3 := hide HE2
      have b3 := (belr.alloc szr _).trans bel2
      clear HE2 own e1 e2 e3
      go_wp2
      go_roundw
      case rel => exact ⟨y / 128, zs ++ [y % 128 + 128], by omega, by omega, rfl, by simp; omega, own2, HE3.out, b3⟩
      case measure => simp [intOf]; omega

theorem ret3 {x n e x' n' e' : Int} (h : x = x' ∧ n = n' ∧ e = e') : Ending.returned (.tuple #[.int .u64 x', .int .i64 n', .int .i64 e']) = .returned (.tuple #[.int .u64 x, .int .i64 n, .int .i64 e]) := by
  obtain ⟨rfl, rfl, rfl⟩ := h; rfl

theorem good_ret {bs : List Int} {x n e : Int} (hR : Vm.Res bs x n e) {u k : Nat} (hu : u < 18446744073709551616) (hp : Vm.enc u <+: bs) (hs : Vm.sz u = k + 1) : x = (u : Int) ∧ n = (k : Int) + 1 ∧ e = 0 := by
  have := Vm.res_good hR hu hp
  omega

set_option maxHeartbeats 400000 in
theorem read_any (vb : Value) (bs : List Int) (x n e : Int) (w : World) (hb : Is .u8 w vb bs) (hl : bs.length ≤ 150000000000000) (hR : Vm.Res bs x n e) :
    Calls Tryz.prog 245 #[vb] w fun E w' => E = .returned (.tuple #[.int .u64 x, .int .i64 n, .int .i64 e]) ∧ w = w' := by
  by_cases hz : 0 < bs.length
  · have hbyte := fun i => hb.byte i
    have HBY := hide hbyte
    obtain ⟨b1, o1, c1, rfl, _, _, hB1, hc1⟩ := hb.full hz
    have HC := hide hc1
    clear hc1 hbyte hb
    go_enter Tryz.func245, Tryz.ntmps245
    go_wp2
    go_loop [2, 3] (fun xx nn => ∃ (acc : Nat) (k : Nat), k ≤ 9 ∧ k ≤ bs.length ∧ xx = .int .u64 acc ∧ nn = .int .i64 k ∧ Vm.Inv bs k acc) (fun _ nn => 10 - (intOf nn).toNat)
    case atStart => exact ⟨0, 0, by omega, by omega, rfl, rfl, Vm.inv_start bs⟩
    case round =>
      obtain ⟨acc, k, hk, hk2, rfl, rfl, hinv⟩ := hrel
      have HI := hide hinv
      clear hinv
      by_cases hlt : k < bs.length
      · have hq : ((k : Int) == (bs.length : Int)) = false := by simp; omega
        have g1 := HC.out k hlt
        have hlt' : (k : Int) < bs.length := by omega
        have hc0 := HBY.out k
        generalize hcc : bs.getD k 0 = c at *
        have HCC := hide hcc
        have h70 := and127_u8 c hc0.1 hc0.2
        have h71 := wrap_u64_small (c % 128) (by omega) (by omega)
        clear hcc
        by_cases h9 : k = 9
        · have h9' : ((k : Int) == 9) = true := by simp [h9]
          have H9 := hide h9
          have HI9 : Hid (Vm.Inv bs 9 acc) := by have := HI.out; rw [h9] at this; exact this
          have HC9 : Hid (bs.getD 9 0 = c) := by have := HCC.out; rw [h9] at this; exact this
          clear h9
          by_cases hc1 : 1 < c
          · go_wp2
            go_ret3
            exact ⟨ret3 (Vm.res_bad hR (Vm.inv_wide HI9.out (by rw [← H9.out]; exact hlt) HC9.out hc1 hc0.2)), rfl⟩
          · have hfit : acc + (c % 128).toNat * 128 ^ k < 18446744073709551616 := by rw [H9.out]; exact Vm.inv_fits9 HI9.out hc0.1 (by omega)
            have e1 := or_shift acc k (c % 128) (by omega) HI.out.1 hfit
            generalize hna : acc + (c % 128).toNat * 128 ^ k = na at *
            have HNA := hide hna
            clear hna
            have hk1 : 1 ≤ k := by have := H9.out; omega
            have hk1' : 1 < (k : Int) + 1 := by omega
            by_cases hcz : c = 0
            · have hcz' : (c == 0) = true := by simp [hcz]
              have HZ := hide hcz
              clear hcz
              go_wp2
              go_ret3
              exact ⟨ret3 (Vm.res_bad hR (Vm.inv_zero HI.out hlt (HCC.out.trans HZ.out) hk1)), rfl⟩
            · have hcz' : (c == 0) = false := by simp [hcz]
              have G := hide (Vm.inv_end HI.out hlt HCC.out hc0.1 (by omega) (.inl (by omega)))
              go_wp2
              go_ret3
              have G := G.out
              rw [HNA.out] at G
              exact ⟨ret3 (good_ret hR hfit G.1 G.2), rfl⟩
        · have h9' : ((k : Int) == 9) = false := by simp; omega
          have hfit := Vm.inv_fits HI.out (c := c) (by omega) hc0.1
          have e1 := or_shift acc k (c % 128) (by omega) HI.out.1 hfit
          generalize hna : acc + (c % 128).toNat * 128 ^ k = na at *
          have HNA := hide hna
          clear hna
          by_cases h128 : c ≤ 127
          · by_cases hk1 : 1 ≤ k
            · have hk1' : 1 < (k : Int) + 1 := by omega
              by_cases hcz : c = 0
              · have hcz' : (c == 0) = true := by simp [hcz]
                have HZ := hide hcz
                clear hcz
                go_wp2
                go_ret3
                exact ⟨ret3 (Vm.res_bad hR (Vm.inv_zero HI.out hlt (HCC.out.trans HZ.out) hk1)), rfl⟩
              · have hcz' : (c == 0) = false := by simp [hcz]
                have G := hide (Vm.inv_end HI.out hlt HCC.out hc0.1 (by omega) (.inl (by omega)))
                go_wp2
                go_ret3
                have G := G.out
                rw [HNA.out] at G
                exact ⟨ret3 (good_ret hR hfit G.1 G.2), rfl⟩
            · have hk1' : ¬ 1 < (k : Int) + 1 := by omega
              have G := hide (Vm.inv_end HI.out hlt HCC.out hc0.1 (by omega) (.inr (by omega)))
              go_wp2
              go_ret3
              have G := G.out
              rw [HNA.out] at G
              exact ⟨ret3 (good_ret hR hfit G.1 G.2), rfl⟩
          · go_wp2
            go_round
            case rel => exact ⟨na, k + 1, by omega, by omega, rfl, by go_num, by have := Vm.inv_step HI.out hlt HCC.out (by omega) hc0.2; rw [HNA.out] at this; exact this⟩
            case measure => simp [intOf]; omega
      · have hq : ((k : Int) == (bs.length : Int)) = true := by simp; omega
        go_wp2
        go_ret3
        exact ⟨ret3 (Vm.res_bad hR (Vm.inv_short HI.out (by omega))), rfl⟩
  · have hx : bs = [] := List.eq_nil_of_length_eq_zero (by omega)
    subst hx
    obtain ⟨a1, c1, rfl⟩ := hb.bare
    clear hb hl hz
    go_enter Tryz.func245, Tryz.ntmps245
    go_wp2
    refine wp_loop_rounds 1 ?_
    rw [rounds_succ]
    go_wp2
    go_ret3
    exact ⟨ret3 (Vm.res_bad hR (fun u _ => Vm.pre_nil u)), rfl⟩

/-- What Small comes to. -/
def SRes (bs : List Int) (most u i g : Int) : Prop :=
  (Vm.Res bs u i 0 ∧ 0 ≤ most ∧ u ≤ most ∧ g = 0) ∨ (u = 0 ∧ i = 0 ∧ g = 5 ∧ ∃ x n e, Vm.Res bs x n e ∧ (e = 5 ∨ (e = 0 ∧ (most < 0 ∨ (0 ≤ most ∧ most < x)))))

theorem sres_is (bs : List Int) (most : Int) : ∃ u i g, SRes bs most u i g := by
  obtain ⟨x, n, e, hR⟩ := Vm.res_is bs
  have hb := Vm.res_bounds hR
  by_cases h : e = 0 ∧ 0 ≤ most ∧ x ≤ most
  · obtain ⟨rfl, h1, h2⟩ := h
    exact ⟨x, n, 0, .inl ⟨hR, h1, h2, rfl⟩⟩
  · exact ⟨0, 0, 5, .inr ⟨rfl, rfl, rfl, x, n, e, hR, by omega⟩⟩

set_option maxHeartbeats 400000 in
theorem small_any (vb : Value) (bs : List Int) (most u i g : Int) (w : World) (hb : Is .u8 w vb bs) (hl : bs.length ≤ 150000000000000) (hm : most < 9223372036854775808) (hm' : -9223372036854775808 ≤ most) (hS : SRes bs most u i g) :
    Calls Tryz.prog 176 #[vb, .int .i64 most] w fun E w' => E = .returned (.tuple #[.int .i64 u, .int .i64 i, .int .i64 g]) ∧ w = w' := by
  rcases hS with ⟨hR, h0, h1, hg⟩ | ⟨hu, hi, hg, x, n, e, hR, hcase⟩
  · have hbd := Vm.res_bounds hR
    have hq : ((0 : Int) != 0) = false := by simp
    subst hg
    go_enter Tryz.func176, Tryz.ntmps176
    go_wp2_with (go_at_call 245; refine (read_any _ _ _ _ _ _ hb hl hR).mono ?_; rintro E w1 ⟨rfl, rfl⟩)
    go_ret3
    exact ⟨rfl, rfl⟩
  · have hbd := Vm.res_bounds hR
    subst hu hi hg
    rcases hcase with he | ⟨he, h | ⟨h, h'⟩⟩
    · subst he
      go_enter Tryz.func176, Tryz.ntmps176
      go_wp2_with (go_at_call 245; refine (read_any _ _ _ _ _ _ hb hl hR).mono ?_; rintro E w1 ⟨rfl, rfl⟩)
      go_ret3
      exact ⟨rfl, rfl⟩
    · subst he
      go_enter Tryz.func176, Tryz.ntmps176
      go_wp2_with (go_at_call 245; refine (read_any _ _ _ _ _ _ hb hl hR).mono ?_; rintro E w1 ⟨rfl, rfl⟩)
      go_ret3
      exact ⟨rfl, rfl⟩
    · subst he
      go_enter Tryz.func176, Tryz.ntmps176
      go_wp2_with (go_at_call 245; refine (read_any _ _ _ _ _ _ hb hl hR).mono ?_; rintro E w1 ⟨rfl, rfl⟩)
      go_ret3
      exact ⟨rfl, rfl⟩

end Go.Proofs.YtajlhdmnincehaaGreatDoor

/- slices.Grow of nothing, slices.Concat, frame.Append. -/
namespace Go.Proofs.YtajlhdmnincehaaGreatDoor
open Go.RowKit
set_option linter.unusedVariables false

theorem Tryz.intT : Tryz.prog.underlying 3 = some (.int .i64) := by kernel_rfl

theorem zeros_u8 (n : Nat) : (Builtin.zeroCells (Value.int .u8 0).cells n).toList = (List.replicate n (0 : Int)).map (Value.int .u8) := by
  apply List.ext_getElem?
  intro i
  simp [Builtin.zeroCells, Value.cells, List.getElem?_replicate]
  by_cases h : i < n <;> simp [h, Nat.mod_one]

/-- An append of zeros to nothing: a row of the call's own. -/
theorem run_zeros (w : World) (n : Nat) (h0 : 0 < n) (h1 : n ≤ 150000000000000) : Hid (∀ ty, ∃ v' w', (Builtin.append_ #[28, 3] ty #[.slice none 0 0, .int .i64 n]).run Tryz.prog w = .ok v' w' ∧ Own .u8 5 w.heap.size w' v' (List.replicate n 0) ∧ Below w.heap.size w w') := by
  obtain ⟨i, hi, hz, hsize, hb⟩ := info_parts Tryz.info5
  refine hide fun ty => ⟨_, _, Lib.run_append_nil_zeros w 28 3 ty 5 i (.int .u8 0) .i64 .i64 Tryz.underlying28 Tryz.intT hi hz n h0 (by omega) (by omega) (by rw [hb]; omega), ?_, ?_⟩
  · refine ⟨fun z hz => ?_, ?_⟩
    · rw [List.eq_of_mem_replicate hz]; rfl
    · rw [List.length_replicate]
      refine own_new w (Value.int .u8 0).cells rfl _ n _ (by simp [Value.cells]) (grownCap_ge w n 0 _) (grownCap_le_maxLen w n 0 _ (by unfold maxLen; omega)) (Nat.le_refl _) _ ?_
      rw [← zeros_u8 n]
  · exact (Below.refl _ _).grown (grown_new w _ none) (Nat.le_refl _) (fun k hk => by cases hk)

theorem wpList_append_ran {P : Program} {w : World} {ops : Array Oper} {rest : List Oper} {o : Oper} {a : Act} {Q : Exit → Act → World → Prop} (hgd : o.guard = none) (s x : Operand) (t tn : TypeId) (ho : o.op = .call { callee := .builtin .append, args := #[s, x], argTypes := #[t, tn] })
    (v vx : Value) (hs : a.eval s = v) (hx : a.eval x = vx) {R : Value → World → Prop} (hrun : ∀ ty, ∃ v' w', (Builtin.append_ #[t, tn] ty #[v, vx]).run P w = .ok v' w' ∧ R v' w')
    (h : ∀ v' w', R v' w' → wpList P ops Q rest (a.put o.dst v') w') : wpList P ops Q (o :: rest) a w := by
  obtain ⟨v', w', hr, hR⟩ := hrun o.type
  exact Lib.wpList_append_run w hgd s x t tn ho v vx hs hx v' w' hr (h v' w' hR)

set_option maxHeartbeats 1000000 in
theorem fgrow_any (n : Nat) (w : World) (h1 : n ≤ 150000000000000) :
    Calls Tryz.prog 296 #[.slice none 0 0, .int .i64 n] w fun E w' => ∃ v', E = .returned v' ∧ Own .u8 5 w.heap.size w' v' [] ∧ Below w.heap.size w w' := by
  have hn0 : ¬ (n : Int) < 0 := by omega
  have e1 : IntKind.i64.wrap ((n : Int) - 0) = n := by rw [wrap_i64_small _ (by omega) (by omega)]; omega
  have hsl := (Own.nil .u8 5 w.heap.size w).is.slice_h Tryz.elemP Tryz.sizeP 0 (by simp)
  by_cases h0 : 0 < n
  · have X := run_zeros w n h0 h1
    have hn1 : (0 : Int) < n := by omega
    go_enter Tryz.func296, Tryz.ntmps296
    go_wp2_with (at_builtin; refine wpList_append_ran rfl (.tmp 20) (.tmp 21) 28 3 rfl _ _ rfl rfl X.out ?_)
    intro v2 w2 own2 bel2
    obtain ⟨vs, hvs, owns, _⟩ := own2.slice_h Tryz.elemP Tryz.sizeP 0 (by omega)
    have hvs' := hvs w2
    simp only [Int.natCast_zero] at hvs'
    clear X hvs hsl own2
    go_wp2
    go_ret
    exact ⟨_, rfl, by simpa using owns, bel2⟩
  · obtain rfl : n = 0 := by omega
    clear e1
    go_enter Tryz.func296, Tryz.ntmps296
    go_wp2
    go_ret
    exact ⟨_, rfl, Own.nil _ _ _ _, Below.refl _ _⟩

end Go.Proofs.YtajlhdmnincehaaGreatDoor

/- slices.Concat, frame.Append, frame.size. -/
namespace Go.Proofs.YtajlhdmnincehaaGreatDoor
open Go.RowKit
set_option linter.unusedVariables false

/-- The bytes of a row's lists, one behind the other. -/
def flt : List Bw → List Int
  | [] => []
  | a :: r => a.l ++ flt r

theorem flt_app : ∀ r s : List Bw, flt (r ++ s) = flt r ++ flt s
  | [], s => rfl
  | a :: r, s => by simp [flt, flt_app r s]

theorem flt_next {r : List Bw} {k : Nat} {a : Bw} (h : r[k]? = some a) : flt (r.take (k + 1)) = flt (r.take k) ++ a.l := by
  obtain ⟨h1, h2⟩ := List.getElem?_eq_some_iff.1 h
  rw [List.take_succ_eq_append_getElem h1, flt_app, h2]
  simp [flt]

theorem flt_le (r : List Bw) (k : Nat) : (flt (r.take k)).length ≤ (flt r).length := by
  have : flt r = flt (r.take k) ++ flt (r.drop k) := by rw [← flt_app, List.take_append_drop]
  rw [this, List.length_append]
  omega

set_option maxHeartbeats 2000000 in
theorem concat_any (v : Value) (r : List Bw) (w : World) (h : IsBB w v r) (hr : r.length ≤ 1000) (hl : (flt r).length ≤ 150000000000000) :
    Calls Tryz.prog 254 #[v] w fun E w' => ∃ v', E = .returned v' ∧ Own .u8 5 w.heap.size w' v' (flt r) ∧ Below w.heap.size w w' := by
  obtain ⟨ao, cap, hv, hcap, hcm⟩ := h.1.shape
  have H := hide h
  subst hv
  clear h
  go_enter Tryz.func254, Tryz.ntmps254
  go_wp2
  go_loopw [3, 11] (fun sv iv wr => ∃ k : Nat, k ≤ r.length ∧ iv = .int .i64 k ∧ sv = .int .i64 (flt (r.take k)).length ∧ w = wr) (fun _ iv _ => r.length - (intOf iv).toNat)
  case atStart => exact ⟨0, by omega, rfl, rfl, rfl⟩
  case round =>
    obtain ⟨k, hk, rfl, rfl, rfl⟩ := hrel
    by_cases hlt : k < r.length
    · obtain ⟨b, off, cq, hvx, _, _, hB, hcell⟩ := H.out.full (by omega)
      simp only [Value.slice.injEq, true_and] at hvx
      obtain ⟨rfl, rfl⟩ := hvx
      obtain ⟨a, ha⟩ : ∃ a, r[k]? = some a := ⟨r[k], by rw [List.getElem?_eq_getElem]⟩
      have e4 := hcell k a ha
      obtain ⟨av, ac, hav, _, _⟩ := (H.out.2 a (List.mem_of_getElem? ha)).shape
      rw [hav] at e4
      have hlt' : (k : Int) < r.length := by omega
      have hn := flt_next ha
      have hm := flt_le r (k + 1)
      have hn2 : (flt (r.take (k + 1))).length = (flt (r.take k)).length + a.l.length := by rw [hn, List.length_append]
      have hn3 : ((flt (r.take (k + 1))).length : Int) = ((flt (r.take k)).length : Int) + (a.l.length : Int) := by omega
      generalize hq : (flt (r.take k)).length = q at *
      have e5 : IntKind.i64.wrap ((q : Int) + (a.l.length : Int)) = (q : Int) + a.l.length := wrap_i64_small _ (by omega) (by omega)
      have e6 : ¬ (q : Int) + (a.l.length : Int) < 0 := by omega
      have hk0 : (0 : Int) ≤ (k : Int) := by omega
      clear hcell hn hq hav ha
      go_wp2
      go_roundw
      case rel => exact ⟨k + 1, by omega, by go_num, by rw [hn3], trivial⟩
      case measure => simp [intOf]; omega
    · obtain rfl : k = r.length := by omega
      rw [List.take_length]
      have hlt' : ¬ (r.length : Int) < r.length := by omega
      go_wp2_with fail
      refine (fgrow_any (flt r).length _ hl).mono ?_
      rintro E w1 ⟨v1, rfl, own1, bel1⟩
      have H1 := hide (H.out.below bel1)
      go_wp2
      go_loopw [6, 27] (fun sv iv wr => ∃ k : Nat, k ≤ r.length ∧ iv = .int .i64 k ∧ Own .u8 5 w.heap.size wr sv (flt (r.take k)) ∧ Below w.heap.size w wr) (fun _ iv _ => r.length - (intOf iv).toNat)
      case atStart => exact ⟨0, by omega, rfl, own1, bel1⟩
      case round =>
        clear own1 bel1 H1
        obtain ⟨k, hk, rfl, own, bel⟩ := hrel
        have szr := bel.size
        by_cases hlt : k < r.length
        · have H2 := H.out.below bel
          obtain ⟨b, off, cq, hvx, _, _, hB, hcell⟩ := H2.full (by omega)
          simp only [Value.slice.injEq, true_and] at hvx
          obtain ⟨rfl, rfl⟩ := hvx
          obtain ⟨a, ha⟩ : ∃ a, r[k]? = some a := ⟨r[k], by rw [List.getElem?_eq_getElem]⟩
          have e4 := hcell k a ha
          have isa := H2.2 a (List.mem_of_getElem? ha)
          have hlt' : (k : Int) < r.length := by omega
          have hn := hide (flt_next ha)
          have hm := flt_le r (k + 1)
          have hn2 : (flt (r.take (k + 1))).length = (flt (r.take k)).length + a.l.length := by rw [hn.out, List.length_append]
          have hk0 : (0 : Int) ≤ (k : Int) := by omega
          have sum : (flt (r.take k)).length + a.l.length ≤ 150000000000000 := by omega
          clear hcell ha H2 hn2 hm
          generalize flt (r.take k) = q at *
          go_wp2_with (at_builtin; refine wpList_append_is rfl (.tmp 31) (.tmp 32) 28 rfl .u8 5 w.heap.size 1 Tryz.underlying28 Tryz.info5 (by decide) _ q rfl own _ a.l rfl isa (by simp; omega) szr ?_)
          intro v2 w2 own2 bel2 _
          rw [← hn.out] at own2
          have b3 := bel.trans bel2
          clear own isa e4 bel2
          go_wp2
          go_roundw
          case rel => exact ⟨k + 1, by omega, by go_num, own2, b3⟩
          case measure => simp [intOf]; omega
        · obtain rfl : k = r.length := by omega
          rw [List.take_length] at own
          have hlt' : ¬ (r.length : Int) < r.length := by omega
          go_wp2
          go_ret
          exact ⟨_, rfl, own, bel⟩

/-- What Append answers. -/
def apd (bs r : List Int) : List Int := if r.length ≤ 131072 then bs ++ Fm.frm r else []
def ape (r : List Int) : Int := if r.length ≤ 131072 then 0 else 3

theorem conv_len (n : Nat) (h : n ≤ 140737488355328) : IntKind.u64.wrap (n : Int) = n := by
  rw [IntKind.wrap_u64]; omega

set_option maxHeartbeats 2000000 in
theorem fapp_any (vb vr : Value) (bs r : List Int) (w : World) (hb : Is .u8 w vb bs) (hr : Is .u8 w vr r) (hl : bs.length ≤ 140737488351232) (hl' : r.length ≤ 140737488351232) :
    Calls Tryz.prog 191 #[vb, vr] w fun E w' => ∃ v', E = .returned (.tuple #[v', .int .i64 (ape r)]) ∧ Own .u8 5 w.heap.size w' v' (apd bs r) ∧ Below w.heap.size w w' := by
  obtain ⟨ro, rc, hv, hcap, hcm⟩ := hr.shape
  subst hv
  obtain ⟨bo, bc, hv, hcap', hcm'⟩ := hb.shape
  subst hv
  have HB := hide hb
  have HR := hide hr
  clear hb hr
  by_cases hlong : r.length ≤ 131072
  · have e1 : ape r = 0 := if_pos hlong
    have e2 : apd bs r = bs ++ Fm.frm r := if_pos hlong
    rw [e1, e2]
    have hn : ¬ (131072 : Int) < (r.length : Int) := by omega
    have e3 : IntKind.u64.wrap (r.length : Int) = r.length := conv_len _ (by omega)
    have hz := Fm.sz3 hlong
    clear e1 e2
    go_enter Tryz.func191, Tryz.ntmps191
    go_wp2_with fail
    refine (app_any (.slice none 0 0) [] (r.length : Int) _ (Own.nil .u8 5 w.heap.size w).is (by simp) (by omega) (by omega)).mono ?_
    rintro E w1 ⟨v1, rfl, own1, bel1⟩
    rw [List.nil_append, Int.toNat_natCast] at own1
    obtain ⟨no, nc, hv, _, _⟩ := own1.is.shape
    subst hv
    generalize hvn : Value.slice no (Vm.enc r.length).length nc = v1 at *
    generalize hvb : Value.slice bo bs.length bc = vb at *
    obtain ⟨w2, hw2, sz2, bel2, B2⟩ := blk_step w1 #[vb, v1, .slice ro r.length rc] 28
    have row : IsBB w2 (.slice (some ⟨w1.heap.size, 0, none⟩) 3 3) [⟨vb, bs⟩, ⟨v1, Vm.enc r.length⟩, ⟨.slice ro r.length rc, r⟩] := by
      refine ⟨?_, ?_⟩
      · obtain ⟨W, hW, _, _, ho⟩ := rows_step bwc 1 bwc_len 28 w1 #[vb, v1, .slice ro r.length rc] 3 [⟨vb, bs⟩, ⟨v1, Vm.enc r.length⟩, ⟨.slice ro r.length rc, r⟩] rfl rfl (by unfold maxLen; omega)
        rw [← hw2, hW]
        exact ho.row
      · intro a ha
        simp at ha
        rcases ha with rfl | rfl | rfl
        · exact (HB.out.below bel1).below bel2
        · exact (own1.below bel2).is
        · exact (HR.out.below bel1).below bel2
    have szs := bel1.size
    have HC := hide (concat_any _ _ w2 row (by simp) (by simp [flt]; have : (Vm.enc r.length).length ≤ 3 := hz; omega))
    have b02 : Below w.heap.size w w2 := bel1.trans (bel2.mono szs)
    clear own1 row bel1 bel2 B2
    subst hvn hvb
    go_wp2_with fail
    refine HC.out.mono ?_
    rintro E w3 ⟨v3, rfl, own3, bel3⟩
    have own4 : Own .u8 5 w2.heap.size w3 v3 (bs ++ Fm.frm r) := by simpa [flt, Fm.frm] using own3
    clear HC own3
    go_wp2
    go_ret2
    exact ⟨_, rfl, own4.rebase (by omega), b02.trans (bel3.mono (by omega))⟩
  · have e1 : ape r = 3 := if_neg hlong
    have e2 : apd bs r = [] := if_neg hlong
    rw [e1, e2]
    have hn : (131072 : Int) < (r.length : Int) := by omega
    go_enter Tryz.func191, Tryz.ntmps191
    go_wp2
    go_ret2
    exact ⟨_, rfl, Own.nil _ _ _ _, Below.refl _ _⟩

end Go.Proofs.YtajlhdmnincehaaGreatDoor

/- frame.Read. -/
namespace Go.Proofs.YtajlhdmnincehaaGreatDoor
open Go.RowKit
set_option linter.unusedVariables false

theorem sres_step {bs : List Int} {most : Nat} {u i g : Int} (hm : most < 18446744073709551616) (h : SRes bs most u i g) :
    (∃ x : Nat, u = x ∧ i = Vm.sz x ∧ g = 0 ∧ x ≤ most ∧ Vm.enc x <+: bs) ∨ (u = 0 ∧ i = 0 ∧ g = 5 ∧ ∀ x : Nat, x ≤ most → ¬ Vm.enc x <+: bs) := by
  rcases h with ⟨hR, h1, h2, he⟩ | ⟨hu, hi, he, x, n, f, hR, hcase⟩
  · rcases hR with ⟨x, hx, hp, h3, h4, _⟩ | ⟨_, _, _, h5⟩
    · exact .inl ⟨x, h3, h4, he, by omega, hp⟩
    · simp at h5
  · refine .inr ⟨hu, hi, he, fun y hy hp => ?_⟩
    have := Vm.res_good hR (u := y) (by omega) hp
    omega

theorem rd_bad {bs : List Int} (h : ∀ x : Nat, x ≤ 131072 → ¬ Vm.enc x <+: bs) : Fm.Rd bs [] 0 5 := .inr ⟨rfl, rfl, rfl, fun s hs hp => h _ hs (Fm.frm_pre hp).1⟩

theorem rd_short {bs : List Int} {x : Nat} (h : Vm.enc x <+: bs) (hx : bs.length - Vm.sz x < x) : Fm.Rd bs [] 0 5 := .inr ⟨rfl, rfl, rfl, fun s hs hp => by
  obtain ⟨h1, h2, _⟩ := Fm.frm_pre hp
  have := Vm.pre_one bs _ _ h h1
  subst this
  omega⟩

theorem rd_good {bs : List Int} {x : Nat} (h : Vm.enc x <+: bs) (h' : x ≤ 131072) (hx : x ≤ bs.length - Vm.sz x) : Fm.Rd bs ((bs.drop (Vm.sz x)).take x) (Vm.sz x + x) 0 := by
  obtain ⟨h1, h2⟩ := Fm.frm_of h hx
  exact .inl ⟨rfl, by omega, by rw [h1], h2⟩

set_option maxHeartbeats 1000000 in
theorem fread_any (vb : Value) (bs : List Int) (w : World) (hb : Is .u8 w vb bs) (hl : bs.length ≤ 150000000000000) :
    Calls Tryz.prog 255 #[vb] w fun E w' => ∃ (v : Value) (r : List Int) (n : Nat) (e : Int), E = .returned (.tuple #[v, .int .i64 n, .int .i64 e]) ∧ Own .u8 5 w.heap.size w' v r ∧ Below w.heap.size w w' ∧ Hid (Fm.Rd bs r n e) := by
  obtain ⟨u, i, g, hS⟩ := sres_is bs ((131072 : Nat) : Int)
  have HS := hide (small_any vb bs _ u i g w hb hl (by omega) (by omega) hS)
  rcases sres_step (by omega) hS with ⟨x, rfl, rfl, rfl, hx, hp⟩ | ⟨rfl, rfl, rfl, hno⟩
  · have hz := Fm.sz3 hx
    have hpl : Vm.sz x ≤ bs.length := hp.length_le
    by_cases hlong : x ≤ bs.length - Vm.sz x
    · have R := hide (rd_good hp hx hlong)
      obtain ⟨vs, hsl, isl⟩ := hb.slice_lh Tryz.elemP Tryz.sizeP (Vm.sz x) (Vm.sz x + x) (by omega) (by omega)
      rw [show Vm.sz x + x - Vm.sz x = x by omega] at isl
      have hlt : ((bs.drop (Vm.sz x)).take x).length ≤ 131072 := by rw [List.length_take, List.length_drop]; omega
      have HC := hide (bclone_any vs _ w isl (by omega))
      obtain ⟨ao, cap, hv, hcap, hcm⟩ := hb.shape
      subst hv
      clear hb isl hlt hS hp
      generalize (bs.drop (Vm.sz x)).take x = r at *
      generalize Vm.sz x = m at *
      have e1 : IntKind.i64.wrap ((bs.length : Int) - (m : Int)) = (bs.length : Int) - m := wrap_i64_small _ (by omega) (by omega)
      have e2 : IntKind.i64.wrap ((m : Int) + (x : Int)) = (m : Int) + x := wrap_i64_small _ (by omega) (by omega)
      have e3 : ¬ (bs.length : Int) - m < x := by omega
      have hsl2 : ∀ wx, (Instr.slice 28 (.slice ao bs.length cap) (some (.int .i64 (m : Int))) (some (.int .i64 ((m : Int) + (x : Int)))) none).run Tryz.prog wx = .ok vs wx := by simpa using hsl
      clear hsl
      go_enter Tryz.func255, Tryz.ntmps255
      go_wp2_with fail
      refine HS.out.mono ?_
      rintro E w1 ⟨rfl, rfl⟩
      clear HS
      go_wp2_with fail
      refine HC.out.mono ?_
      rintro E w2 ⟨v2, rfl, own2, bel2⟩
      clear HC hsl2
      go_wp2
      go_ret3
      exact ⟨v2, r, m + x, 0, by simp, own2, bel2, R⟩
    · have R := hide (rd_short hp (by omega))
      obtain ⟨ao, cap, hv, hcap, hcm⟩ := hb.shape
      subst hv
      clear hb hS hp
      generalize Vm.sz x = m at *
      have e1 : IntKind.i64.wrap ((bs.length : Int) - (m : Int)) = (bs.length : Int) - m := wrap_i64_small _ (by omega) (by omega)
      have e3 : (bs.length : Int) - m < x := by omega
      go_enter Tryz.func255, Tryz.ntmps255
      go_wp2_with fail
      refine HS.out.mono ?_
      rintro E w1 ⟨rfl, rfl⟩
      clear HS
      go_wp2
      go_ret3
      exact ⟨_, [], 0, 5, rfl, Own.nil _ _ _ _, Below.refl _ _, R⟩
  · have R := hide (rd_bad hno)
    clear hb hS hno
    go_enter Tryz.func255, Tryz.ntmps255
    go_wp2_with fail
    refine HS.out.mono ?_
    rintro E w1 ⟨rfl, rfl⟩
    clear HS
    go_wp2
    go_ret3
    exact ⟨_, [], 0, 5, rfl, Own.nil _ _ _ _, Below.refl _ _, R⟩

end Go.Proofs.YtajlhdmnincehaaGreatDoor

/- A page in memory: six cells; First; a page's numbers and back; two pages the same. -/
namespace Go.Proofs.YtajlhdmnincehaaGreatDoor
open Go.RowKit
set_option linter.unusedVariables false

/-- A page as a value. -/
def vp (x : Pm.Pg) : Value := .agg #[.int .i64 x.e, .int .u8 x.r, .int .i64 x.a, .int .u8 x.p, .int .i64 x.f, .int .i64 x.b]
/-- A page's cells. -/
def cp (x : Pm.Pg) : Array Value := #[.int .i64 x.e, .int .u8 x.r, .int .i64 x.a, .int .u8 x.p, .int .i64 x.f, .int .i64 x.b]
/-- Six numbers as a value. -/
def vn (x : Pm.Pg) : Value := .agg #[.int .i64 x.e, .int .i64 x.r, .int .i64 x.a, .int .i64 x.p, .int .i64 x.f, .int .i64 x.b]

/-- What any page is. -/
def FitP (x : Pm.Pg) : Prop := -9223372036854775808 ≤ x.e ∧ x.e < 9223372036854775808 ∧ 0 ≤ x.r ∧ x.r < 256 ∧ -9223372036854775808 ≤ x.a ∧ x.a < 9223372036854775808 ∧ 0 ≤ x.p ∧ x.p < 256 ∧ -9223372036854775808 ≤ x.f ∧ x.f < 9223372036854775808 ∧ -9223372036854775808 ≤ x.b ∧ x.b < 9223372036854775808

theorem fit_ok {x : Pm.Pg} (h : Pm.Ok x) : FitP x := by
  have := Pm.ok_nums h
  unfold FitP
  omega


/-- Six cells of a block. -/
structure Six (w : World) (g : Nat) (a b c d e f : Value) : Prop where
  c0 : w.cell? ⟨g, 0, none⟩ = some a
  c1 : w.cell? ⟨g, 1, none⟩ = some b
  c2 : w.cell? ⟨g, 2, none⟩ = some c
  c3 : w.cell? ⟨g, 3, none⟩ = some d
  c4 : w.cell? ⟨g, 4, none⟩ = some e
  c5 : w.cell? ⟨g, 5, none⟩ = some f

theorem six_of {w : World} {g : Nat} {t : TypeId} {fr : Nat × Nat} {a b c d e f : Value} (h : w.heap[g]? = some (.cells #[a, b, c, d, e, f] t fr)) : Six w g a b c d e f :=
  ⟨blk_cell h 0 rfl, blk_cell h 1 rfl, blk_cell h 2 rfl, blk_cell h 3 rfl, blk_cell h 4 rfl, blk_cell h 5 rfl⟩

/-- Six cells of a block are written. -/
theorem put6 {V : World} {R : Nat} {t : TypeId} {x0 x1 x2 x3 x4 x5 : Value} (hR : V.heap[R]? = some (.cells #[x0, x1, x2, x3, x4, x5] t (0, 0))) (a b c d e f : Value) :
    ∃ V', (((((V.setCell ⟨R, 0, none⟩ a).setCell ⟨R, 1, none⟩ b).setCell ⟨R, 2, none⟩ c).setCell ⟨R, 3, none⟩ d).setCell ⟨R, 4, none⟩ e).setCell ⟨R, 5, none⟩ f = V' ∧ V'.heap[R]? = some (.cells #[a, b, c, d, e, f] t (0, 0)) ∧ V.grownBy V' (some R) ∧
      Six V R x0 x1 x2 x3 x4 x5 ∧ (∀ j, V.frozen? ⟨R, j, none⟩ = false) ∧ Six V' R a b c d e f := by
  have h := set_cells (set_cells (set_cells (set_cells (set_cells (set_cells hR 0 a) 1 b) 2 c) 3 d) 4 e) 5 f
  refine ⟨_, rfl, h, ?_, six_of hR, blk_froz hR, six_of h⟩
  exact grown_trans (grown_trans (grown_trans (grown_trans (grown_trans (grown_setCell V ⟨R, 0, none⟩ a) (grown_setCell _ ⟨R, 1, none⟩ b)) (grown_setCell _ ⟨R, 2, none⟩ c)) (grown_setCell _ ⟨R, 3, none⟩ d)) (grown_setCell _ ⟨R, 4, none⟩ e)) (grown_setCell _ ⟨R, 5, none⟩ f)

/-- A block of six cells, made and written. -/
theorem new6 (w : World) (t : TypeId) (x0 x1 x2 x3 x4 x5 a b c d e f : Value) :
    ∃ V, ((((((w.alloc (.cells #[x0, x1, x2, x3, x4, x5] t)).setCell ⟨w.heap.size, 0, none⟩ a).setCell ⟨w.heap.size, 1, none⟩ b).setCell ⟨w.heap.size, 2, none⟩ c).setCell ⟨w.heap.size, 3, none⟩ d).setCell ⟨w.heap.size, 4, none⟩ e).setCell ⟨w.heap.size, 5, none⟩ f = V ∧ w.alloc (.cells #[a, b, c, d, e, f] t) = V ∧ V.heap.size = w.heap.size + 1 ∧ Below w.heap.size w V ∧ V.heap[w.heap.size]? = some (.cells #[a, b, c, d, e, f] t (0, 0)) ∧ Six V w.heap.size a b c d e f := by
  obtain ⟨V, h1, h2, h3, h4⟩ := blk_step w #[a, b, c, d, e, f] t
  refine ⟨V, ?_, h1, h2, h3, h4, six_of h4⟩
  rw [← h1]
  simp [go_sem]

/-- A node's first page. -/
def fst (n : Int) : Pm.Pg := if n = 0 then ⟨1, 1, 0, 0, 0, 0⟩ else if n = 1 then ⟨1, 2, 0, 0, 0, 0⟩ else Pm.no
def fse (n : Int) : Int := if n = 0 then 0 else if n = 1 then 0 else 2


set_option maxHeartbeats 400000 in
theorem first_any (n : Int) (w : World) :
    Calls Tryz.prog 129 #[.int .i64 n] w fun E w' => E = .returned (.tuple #[vp (fst n), .int .i64 (fse n)]) ∧ Below w.heap.size w w' := by
  obtain ⟨w1, hw1, sz1, bel1, hB⟩ := blk_step w #[.int .i64 0, .int .u8 0, .int .i64 0, .int .u8 0, .int .i64 0, .int .i64 0] 60
  unfold fst fse vp
  go_enter Tryz.func129, Tryz.ntmps129
  by_cases h0 : n = 0
  · have h0' : (n == 0) = true := by simp [h0]
    rw [if_pos h0, if_pos h0]
    obtain ⟨V, hV, bV, gV, ⟨a0, a1, a2, a3, a4, a5⟩, fr, ⟨z0, z1, z2, z3, z4, z5⟩⟩ := put6 hB (.int .i64 1) (.int .u8 1) (.int .i64 0) (.int .u8 0) (.int .i64 0) (.int .i64 0)
    have f0 := fr 0; have f1 := fr 1; have f2 := fr 2; have f3 := fr 3; have f4 := fr 4; have f5 := fr 5
    have bel := below_put bel1 gV (Nat.le_refl _) (by omega)
    clear h0 hB bV gV fr bel1
    go_wp2
    refine bodyPost_ret (v := .tuple #[.agg #[.int .i64 1, .int .u8 1, .int .i64 0, .int .u8 0, .int .i64 0, .int .i64 0], .int .i64 0]) (by simp [results, Tryz.results129, go_sem, z0, z1, z2, z3, z4, z5]) rfl ?_
    exact ⟨rfl, bel⟩
  · have h0' : (n == 0) = false := by simp [h0]
    rw [if_neg h0, if_neg h0]
    by_cases h1 : n = 1
    · have h1' : (n == 1) = true := by simp [h1]
      rw [if_pos h1, if_pos h1]
      obtain ⟨V, hV, bV, gV, ⟨a0, a1, a2, a3, a4, a5⟩, fr, ⟨z0, z1, z2, z3, z4, z5⟩⟩ := put6 hB (.int .i64 1) (.int .u8 2) (.int .i64 0) (.int .u8 0) (.int .i64 0) (.int .i64 0)
      have f0 := fr 0; have f1 := fr 1; have f2 := fr 2; have f3 := fr 3; have f4 := fr 4; have f5 := fr 5
      have bel := below_put bel1 gV (Nat.le_refl _) (by omega)
      clear h0 h1 hB bV gV fr bel1
      go_wp2
      refine bodyPost_ret (v := .tuple #[.agg #[.int .i64 1, .int .u8 2, .int .i64 0, .int .u8 0, .int .i64 0, .int .i64 0], .int .i64 0]) (by simp [results, Tryz.results129, go_sem, z0, z1, z2, z3, z4, z5]) rfl ?_
      exact ⟨rfl, bel⟩
    · have h1' : (n == 1) = false := by simp [h1]
      rw [if_neg h1, if_neg h1]
      obtain ⟨V, hV, bV, gV, ⟨a0, a1, a2, a3, a4, a5⟩, fr, ⟨z0, z1, z2, z3, z4, z5⟩⟩ := put6 hB (.int .i64 0) (.int .u8 0) (.int .i64 0) (.int .u8 0) (.int .i64 0) (.int .i64 0)
      have f0 := fr 0; have f1 := fr 1; have f2 := fr 2; have f3 := fr 3; have f4 := fr 4; have f5 := fr 5
      have bel := below_put bel1 gV (Nat.le_refl _) (by omega)
      clear h0 h1 hB bV gV fr bel1
      go_wp2
      refine bodyPost_ret (v := .tuple #[.agg #[.int .i64 0, .int .u8 0, .int .i64 0, .int .u8 0, .int .i64 0, .int .i64 0], .int .i64 2]) (by simp [results, Tryz.results129, go_sem, z0, z1, z2, z3, z4, z5]) rfl ?_
      exact ⟨rfl, bel⟩

theorem wrap_u8i (z : Int) (h0 : 0 ≤ z) (h1 : z < 256) : IntKind.i64.wrap z = z := wrap_i64_small z (by omega) (by omega)

set_option maxHeartbeats 400000 in
theorem numbersOf_any (x : Pm.Pg) (w : World) (hx : FitP x) :
    Calls Tryz.prog 106 #[vp x] w fun E w' => E = .returned (vn x) ∧ Below w.heap.size w w' := by
  unfold vp vn
  obtain ⟨g1, g2, g3, g4, g5, g6, g7, g8, g9, g10, g11, g12⟩ := hx
  obtain ⟨w1, hw1, sz1, bel1, hB⟩ := blk_step w #[.int .i64 x.e, .int .u8 x.r, .int .i64 x.a, .int .u8 x.p, .int .i64 x.f, .int .i64 x.b] 60
  obtain ⟨w2, hw2, sz2, bel2, hC⟩ := blk_step w1 #[.int .i64 0, .int .i64 0, .int .i64 0, .int .i64 0, .int .i64 0, .int .i64 0] 144
  obtain ⟨c0, c1, c2, c3, c4, c5⟩ := six_of ((bel2.block _ (blk_lt hB)).trans hB)
  rw [sz1] at hC
  obtain ⟨V, hV, bV, gV, ⟨a0, a1, a2, a3, a4, a5⟩, fr, ⟨z0, z1, z2, z3, z4, z5⟩⟩ := put6 hC (.int .i64 x.e) (.int .i64 x.r) (.int .i64 x.a) (.int .i64 x.p) (.int .i64 x.f) (.int .i64 x.b)
  have f0 := fr 0; have f1 := fr 1; have f2 := fr 2; have f3 := fr 3; have f4 := fr 4; have f5 := fr 5
  have bel := below_put (bel1.trans (bel2.mono (by omega))) gV (by omega) (by omega)
  have e1 := wrap_u8i x.r g3 g4
  have e2 := wrap_u8i x.p g7 g8
  clear hB hC bV gV fr bel1 bel2
  go_enter Tryz.func106, Tryz.ntmps106
  go_wp2
  refine bodyPost_ret (v := .agg #[.int .i64 x.e, .int .i64 x.r, .int .i64 x.a, .int .i64 x.p, .int .i64 x.f, .int .i64 x.b]) (by simp [results, Tryz.results106, go_sem, z0, z1, z2, z3, z4, z5]) rfl ?_
  exact ⟨rfl, bel⟩



/-- Two pages are one. -/
def same (x y : Pm.Pg) : Bool := x.e == y.e && x.r == y.r && x.a == y.a && x.p == y.p && x.f == y.f && x.b == y.b



theorem Tryz.eqlP (a b c d e f a' b' c' d' e' f' : Int) (w : World) : (binOp .eql 60 (.agg #[.int .i64 a, .int .u8 b, .int .i64 c, .int .u8 d, .int .i64 e, .int .i64 f]) (.agg #[.int .i64 a', .int .u8 b', .int .i64 c', .int .u8 d', .int .i64 e', .int .i64 f'])).run Tryz.prog w = .ok (.bool (a == a' && b == b' && c == c' && d == d' && e == e' && f == f')) w := by
  rw [run_eql_struct, run_equalIn_agg w 9999 60 _ _ (by kernel_rfl) (by kernel_rfl)]
  unfold Program.fieldsOf
  rw [Tryz.underlying60]
  simp [Op.eqFields, go_sem, Tryz.underlying23, Tryz.underlying58, Tryz.underlying3]
  by_cases h1 : a = a' <;> by_cases h2 : b = b' <;> by_cases h3 : c = c' <;> by_cases h4 : d = d' <;> by_cases h5 : e = e' <;> by_cases h6 : f = f' <;> simp [h1, h2, h3, h4, h5, h6]

end Go.Proofs.YtajlhdmnincehaaGreatDoor

/- The program's state (layer 21): its cells, an outline's cells. -/
namespace Go.Proofs.YtajlhdmnincehaaGreatDoor
open Go.RowKit
set_option linter.unusedVariables false

/-- The cells of a state. -/
def stC (q : Nat) (off : Bool) (x : Pm.Pg) (vw : Value) (en : Int) (vr vs : Value) : Array Value := #[.pointer (some ⟨q, 0, none⟩), .bool off, .int .i64 x.e, .int .u8 x.r, .int .i64 x.a, .int .u8 x.p, .int .i64 x.f, .int .i64 x.b, vw, .int .i64 en, .slice none 0 0, vr, vs]

/-- The cells of an outline. -/
def olC (x : Pm.Pg) (ep en rn : Int) (p : Nat) : Array Value := #[.int .i64 x.e, .int .u8 x.r, .int .i64 x.a, .int .u8 x.p, .int .i64 x.f, .int .i64 x.b, .int .i64 ep, .int .i64 en, .int .i64 rn, .func (.func 138) #[.pointer (some ⟨p, 0, none⟩)] #[]]

/-- Ten cells of a block. -/
structure Ten (w : World) (g : Nat) (a b c d e f h i j k : Value) : Prop where
  c0 : w.cell? ⟨g, 0, none⟩ = some a
  c1 : w.cell? ⟨g, 1, none⟩ = some b
  c2 : w.cell? ⟨g, 2, none⟩ = some c
  c3 : w.cell? ⟨g, 3, none⟩ = some d
  c4 : w.cell? ⟨g, 4, none⟩ = some e
  c5 : w.cell? ⟨g, 5, none⟩ = some f
  c6 : w.cell? ⟨g, 6, none⟩ = some h
  c7 : w.cell? ⟨g, 7, none⟩ = some i
  c8 : w.cell? ⟨g, 8, none⟩ = some j
  c9 : w.cell? ⟨g, 9, none⟩ = some k

theorem ten_of {w : World} {g : Nat} {t : TypeId} {fr : Nat × Nat} {a b c d e f h i j k : Value} (hg : w.heap[g]? = some (.cells #[a, b, c, d, e, f, h, i, j, k] t fr)) : Ten w g a b c d e f h i j k :=
  ⟨blk_cell hg 0 rfl, blk_cell hg 1 rfl, blk_cell hg 2 rfl, blk_cell hg 3 rfl, blk_cell hg 4 rfl, blk_cell hg 5 rfl, blk_cell hg 6 rfl, blk_cell hg 7 rfl, blk_cell hg 8 rfl, blk_cell hg 9 rfl⟩

/-- Ten cells of a block are written. -/
theorem put10 {V : World} {R : Nat} {t : TypeId} {x0 x1 x2 x3 x4 x5 x6 x7 x8 x9 : Value} (hR : V.heap[R]? = some (.cells #[x0, x1, x2, x3, x4, x5, x6, x7, x8, x9] t (0, 0))) (a b c d e f h i j k : Value) :
    ∃ V', (((((((((V.setCell ⟨R, 0, none⟩ a).setCell ⟨R, 1, none⟩ b).setCell ⟨R, 2, none⟩ c).setCell ⟨R, 3, none⟩ d).setCell ⟨R, 4, none⟩ e).setCell ⟨R, 5, none⟩ f).setCell ⟨R, 6, none⟩ h).setCell ⟨R, 7, none⟩ i).setCell ⟨R, 8, none⟩ j).setCell ⟨R, 9, none⟩ k = V' ∧ V'.heap[R]? = some (.cells #[a, b, c, d, e, f, h, i, j, k] t (0, 0)) ∧ V.grownBy V' (some R) ∧
      Ten V R x0 x1 x2 x3 x4 x5 x6 x7 x8 x9 ∧ (∀ j, V.frozen? ⟨R, j, none⟩ = false) ∧ Ten V' R a b c d e f h i j k := by
  have q0 : (V.setCell ⟨R, 0, none⟩ a).heap[R]? = some (.cells #[a, x1, x2, x3, x4, x5, x6, x7, x8, x9] t (0, 0)) := set_cells hR 0 a
  have q1 : ((V.setCell ⟨R, 0, none⟩ a).setCell ⟨R, 1, none⟩ b).heap[R]? = some (.cells #[a, b, x2, x3, x4, x5, x6, x7, x8, x9] t (0, 0)) := set_cells q0 1 b
  have q2 : (((V.setCell ⟨R, 0, none⟩ a).setCell ⟨R, 1, none⟩ b).setCell ⟨R, 2, none⟩ c).heap[R]? = some (.cells #[a, b, c, x3, x4, x5, x6, x7, x8, x9] t (0, 0)) := set_cells q1 2 c
  have q3 : ((((V.setCell ⟨R, 0, none⟩ a).setCell ⟨R, 1, none⟩ b).setCell ⟨R, 2, none⟩ c).setCell ⟨R, 3, none⟩ d).heap[R]? = some (.cells #[a, b, c, d, x4, x5, x6, x7, x8, x9] t (0, 0)) := set_cells q2 3 d
  have q4 : (((((V.setCell ⟨R, 0, none⟩ a).setCell ⟨R, 1, none⟩ b).setCell ⟨R, 2, none⟩ c).setCell ⟨R, 3, none⟩ d).setCell ⟨R, 4, none⟩ e).heap[R]? = some (.cells #[a, b, c, d, e, x5, x6, x7, x8, x9] t (0, 0)) := set_cells q3 4 e
  have q5 : ((((((V.setCell ⟨R, 0, none⟩ a).setCell ⟨R, 1, none⟩ b).setCell ⟨R, 2, none⟩ c).setCell ⟨R, 3, none⟩ d).setCell ⟨R, 4, none⟩ e).setCell ⟨R, 5, none⟩ f).heap[R]? = some (.cells #[a, b, c, d, e, f, x6, x7, x8, x9] t (0, 0)) := set_cells q4 5 f
  have q6 : (((((((V.setCell ⟨R, 0, none⟩ a).setCell ⟨R, 1, none⟩ b).setCell ⟨R, 2, none⟩ c).setCell ⟨R, 3, none⟩ d).setCell ⟨R, 4, none⟩ e).setCell ⟨R, 5, none⟩ f).setCell ⟨R, 6, none⟩ h).heap[R]? = some (.cells #[a, b, c, d, e, f, h, x7, x8, x9] t (0, 0)) := set_cells q5 6 h
  have q7 : ((((((((V.setCell ⟨R, 0, none⟩ a).setCell ⟨R, 1, none⟩ b).setCell ⟨R, 2, none⟩ c).setCell ⟨R, 3, none⟩ d).setCell ⟨R, 4, none⟩ e).setCell ⟨R, 5, none⟩ f).setCell ⟨R, 6, none⟩ h).setCell ⟨R, 7, none⟩ i).heap[R]? = some (.cells #[a, b, c, d, e, f, h, i, x8, x9] t (0, 0)) := set_cells q6 7 i
  have q8 : (((((((((V.setCell ⟨R, 0, none⟩ a).setCell ⟨R, 1, none⟩ b).setCell ⟨R, 2, none⟩ c).setCell ⟨R, 3, none⟩ d).setCell ⟨R, 4, none⟩ e).setCell ⟨R, 5, none⟩ f).setCell ⟨R, 6, none⟩ h).setCell ⟨R, 7, none⟩ i).setCell ⟨R, 8, none⟩ j).heap[R]? = some (.cells #[a, b, c, d, e, f, h, i, j, x9] t (0, 0)) := set_cells q7 8 j
  have hx : ((((((((((V.setCell ⟨R, 0, none⟩ a).setCell ⟨R, 1, none⟩ b).setCell ⟨R, 2, none⟩ c).setCell ⟨R, 3, none⟩ d).setCell ⟨R, 4, none⟩ e).setCell ⟨R, 5, none⟩ f).setCell ⟨R, 6, none⟩ h).setCell ⟨R, 7, none⟩ i).setCell ⟨R, 8, none⟩ j).setCell ⟨R, 9, none⟩ k).heap[R]? = some (.cells #[a, b, c, d, e, f, h, i, j, k] t (0, 0)) := set_cells q8 9 k
  refine ⟨_, rfl, hx, ?_, ten_of hR, blk_froz hR, ten_of hx⟩
  have g6 := grown_trans (grown_trans (grown_trans (grown_trans (grown_trans (grown_setCell V ⟨R, 0, none⟩ a) (grown_setCell _ ⟨R, 1, none⟩ b)) (grown_setCell _ ⟨R, 2, none⟩ c)) (grown_setCell _ ⟨R, 3, none⟩ d)) (grown_setCell _ ⟨R, 4, none⟩ e)) (grown_setCell _ ⟨R, 5, none⟩ f)
  exact grown_trans (grown_trans (grown_trans (grown_trans g6 (grown_setCell _ ⟨R, 6, none⟩ h)) (grown_setCell _ ⟨R, 7, none⟩ i)) (grown_setCell _ ⟨R, 8, none⟩ j)) (grown_setCell _ ⟨R, 9, none⟩ k)


/-- The cells of a state's block. -/
structure StA (p : Nat) (w : World) (q : Nat) (off : Bool) (x : Pm.Pg) (vw : Value) (en : Int) (vr vs : Value) : Prop where
  c0 : w.cell? ⟨p, 0, none⟩ = some (.pointer (some ⟨q, 0, none⟩))
  c1 : w.cell? ⟨p, 1, none⟩ = some (.bool off)
  c2 : w.cell? ⟨p, 2, none⟩ = some (.int .i64 x.e)
  c3 : w.cell? ⟨p, 3, none⟩ = some (.int .u8 x.r)
  c4 : w.cell? ⟨p, 4, none⟩ = some (.int .i64 x.a)
  c5 : w.cell? ⟨p, 5, none⟩ = some (.int .u8 x.p)
  c6 : w.cell? ⟨p, 6, none⟩ = some (.int .i64 x.f)
  c7 : w.cell? ⟨p, 7, none⟩ = some (.int .i64 x.b)
  c8 : w.cell? ⟨p, 8, none⟩ = some vw
  c9 : w.cell? ⟨p, 9, none⟩ = some (.int .i64 en)
  c10 : w.cell? ⟨p, 10, none⟩ = some (.slice none 0 0)
  c11 : w.cell? ⟨p, 11, none⟩ = some vr
  c12 : w.cell? ⟨p, 12, none⟩ = some vs

theorem sta_of {p q : Nat} {w : World} {t : TypeId} {fr : Nat × Nat} {off : Bool} {x : Pm.Pg} {vw vr vs : Value} {en : Int} (h : w.heap[p]? = some (.cells (stC q off x vw en vr vs) t fr)) : StA p w q off x vw en vr vs :=
  ⟨blk_cell h 0 rfl, blk_cell h 1 rfl, blk_cell h 2 rfl, blk_cell h 3 rfl, blk_cell h 4 rfl, blk_cell h 5 rfl, blk_cell h 6 rfl, blk_cell h 7 rfl, blk_cell h 8 rfl, blk_cell h 9 rfl, blk_cell h 10 rfl, blk_cell h 11 rfl, blk_cell h 12 rfl⟩

end Go.Proofs.YtajlhdmnincehaaGreatDoor

/- The contracts of op's Check, size. -/
namespace Go.Proofs.YtajlhdmnincehaaGreatDoor
open Go.RowKit
set_option linter.unusedVariables false

/-- An op as a value. -/
def opv (p : Bool) (k v : ByteArray) : Value := .agg #[.bool p, .string k, .string v]

theorem chk_size (p : Bool) (k v : ByteArray) : Om.chk p k.data.toList v.data.toList = if 1 ≤ k.size ∧ k.size ≤ 16 ∧ v.size ≤ 32 ∧ (p = true ∨ v.toList.isEmpty = true) then 0 else 2 := by
  unfold Om.chk
  simp only [Lib.toList_data, List.isEmpty_iff, Lib.size_eq]

set_option maxHeartbeats 400000 in
theorem check_any (p : Bool) (k v : ByteArray) (w : World) (hk : k.size ≤ 140737488351232) (hv : v.size ≤ 140737488351232) :
    Calls Tryz.prog 91 #[opv p k v] w fun E w' => E = .returned (.int .i64 (Om.chk p k.data.toList v.data.toList)) ∧ Below w.heap.size w w' := by
  unfold opv
  obtain ⟨c, hc⟩ : ∃ c, Om.chk p k.data.toList v.data.toList = c := ⟨_, rfl⟩
  rw [hc]
  have HC := hide hc
  clear hc
  go_enter Tryz.func91, Tryz.ntmps91
  go_wp2
  all_goals go_ret
  all_goals refine ⟨ret_i64 ?_, (Below.refl _ _).alloc (Nat.le_refl _) _⟩
  all_goals rw [← HC.out, chk_size]
  all_goals clear HC
  all_goals (cases p <;> simp_all <;> first | omega | (intros; omega))

section
variable {P : Program} {w : World} {ops : Array Oper} {rest : List Oper} {o : Oper} {a : Act} {Q : Exit → Act → World → Prop}

/-- 'out = append(out, s...)', s a string. -/
theorem wpList_append_str (hgd : o.guard = none) (sl x : Operand) (t u : TypeId)
    (ho : o.op = .call { callee := .builtin .append, args := #[sl, x], argTypes := #[t, u] })
    (e : TypeId) (base : Nat) (ht : P.underlying t = some (.slice e)) (hu : P.underlying u = some .string) (hinfo : (P.info? e).map (fun i => (i.zero, i.size, i.bytes)) = some (some (.int .u8 0), 1, 1))
    (v : Value) (zs : List Int) (hs : a.eval sl = v) (hown : Own .u8 e base w v zs) (s : ByteArray) (hx : a.eval x = .string s)
    (hlen : zs.length + s.size ≤ 140737488355328) (hbase : base ≤ w.heap.size)
    (h : ∀ v' w', Own .u8 e base w' v' (zs ++ Om.ints s.data.toList) → Below base w w' → wpList P ops Q rest (a.put o.dst v') w') : wpList P ops Q (o :: rest) a w := by
  obtain ⟨i, hi, hz, hsize, hb⟩ := info_parts hinfo
  refine Lib.wpList_append_own_string w hgd sl x t u ho base e i ht hu hi hz hsize hb v zs.length _ hs hown.2 s hx (by unfold maxLen; omega) hlen hbase fun v' w' h1 h2 _ => ?_
  refine h v' w' ⟨?_, ?_⟩ ((Below.refl _ _).grown h2 hbase fun k' hk => (hown.2.lt k' hk).1)
  · intro z hz
    rcases List.mem_append.1 hz with hz | hz
    · exact hown.1 z hz
    · unfold Om.ints at hz
      obtain ⟨c, _, rfl⟩ := List.mem_map.1 hz
      have := c.toNat_lt
      exact wf_u8 (by omega) (by omega)
  · have e1 : zs.length + s.size = (zs ++ Om.ints s.data.toList).length := by rw [List.length_append, Om.ints_len, Lib.size_eq]
    rw [e1] at h1
    simpa [Lib.strCells_eq, Lib.byteCells, Om.ints, List.map_append, Function.comp_def] using h1

end

set_option maxHeartbeats 400000 in
theorem csize_any (s : ByteArray) (w : World) (hs : s.size ≤ 140737488351232) :
    Calls Tryz.prog 348 #[.string s] w fun E w' => E = .returned (.int .i64 (Om.cnt s.data.toList).length) ∧ w = w' := by
  have h10 := Vm.sz_le10 (x := s.size) (by omega)
  have e1 : ((Om.cnt s.data.toList).length : Int) = Vm.sz s.size + s.size := by rw [Om.cnt_len, ← Lib.size_eq]; omega
  rw [e1]
  clear e1
  generalize hm : Vm.sz s.size = m at *
  have HM := hide hm
  clear hm
  go_enter Tryz.func348, Tryz.ntmps348
  go_wp2_with fail
  refine (size_any _ _ (by omega) (by omega)).mono ?_
  rintro E w1 ⟨rfl, rfl⟩
  rw [Int.toNat_natCast, HM.out]
  go_wp2
  go_ret
  exact ⟨rfl, rfl⟩

theorem csize_q (s : ByteArray) (w : World) (hs : s.size ≤ 140737488351232) :
    Calls Tryz.prog 348 #[.string s] w fun E w' => E = .returned (.int .i64 (Om.cnt s.data.toList).length) ∧ ∃ m, w' = w.drewN m := by
  refine (csize_any s w hs).mono ?_
  rintro E w1 ⟨rfl, rfl⟩
  exact ⟨rfl, 0, rfl⟩

set_option maxHeartbeats 400000 in
theorem appc_any (base : Nat) (v : Value) (zs : List Int) (s : ByteArray) (w : World) (hv : Own .u8 5 base w v zs) (hb : base ≤ w.heap.size) (hl : zs.length ≤ 140737488353280) (hs : s.size ≤ 64) :
    Calls Tryz.prog 335 #[v, .string s] w fun E w' => ∃ v', E = .returned v' ∧ Own .u8 5 base w' v' (zs ++ Om.cnt s.data.toList) ∧ Below base w w' := by
  have h10 := Vm.sz_le10 (x := s.size) (by omega)
  have hz10 : (Vm.enc s.size).length ≤ 10 := h10
  go_enter Tryz.func335, Tryz.ntmps335
  go_wp2_with fail
  refine (app_any _ [] s.size _ (Is.nil _ _) (by simp) (by omega) (by omega)).mono ?_
  rintro E w1 ⟨v1, rfl, own1, bel1⟩
  rw [Int.toNat_natCast, List.nil_append] at own1
  have hb1 := bel1.size
  have hv1 := hv.below bel1
  have is1 := own1.is
  go_wp2_with (at_builtin; refine wpList_append_is rfl (.tmp 5) (.tmp 9) 28 rfl .u8 5 base 1 Tryz.underlying28 Tryz.info5 (by decide) _ zs rfl hv1 _ (Vm.enc s.size) rfl is1 (by omega) (by omega) ?_)
  intro v2 w2 own2 bel2 _
  have hb2 := bel2.size
  have hl2 : (zs ++ Vm.enc s.size).length ≤ 140737488353290 := by rw [List.length_append]; omega
  go_wp2_with (at_builtin; refine wpList_append_str rfl (.tmp 11) (.tmp 12) 28 9 rfl 5 base Tryz.underlying28 Tryz.underlying9 Tryz.info5 _ (zs ++ Vm.enc s.size) rfl own2 s rfl (by omega) (by omega) ?_)
  intro v3 w3 own3 bel3
  have own4 : Own .u8 5 base w3 v3 (zs ++ Om.cnt s.data.toList) := by
    unfold Om.cnt
    rw [← Lib.size_eq, ← List.append_assoc]
    simpa using own3
  go_wp2
  go_ret
  exact ⟨_, rfl, own4, ((bel1.mono hb).trans bel2).trans bel3⟩

set_option maxHeartbeats 400000 in
theorem osize_any (p : Bool) (k v : ByteArray) (w : World) (hc : Om.chk p k.data.toList v.data.toList = 0) :
    Calls Tryz.prog 334 #[opv p k v] w fun E w' => E = .returned (.int .i64 (Om.opEnc p k.data.toList v.data.toList).length) ∧ Below w.heap.size w w' := by
  have hh := Om.chk_ok' hc
  rw [← Lib.size_eq, ← Lib.size_eq] at hh
  have h1 := Om.cnt_le (s := k.data.toList) (by rw [← Lib.size_eq]; omega)
  have h2 := Om.cnt_le (s := v.data.toList) (by rw [← Lib.size_eq]; omega)
  have hk : k.size ≤ 140737488351232 := by omega
  have hv : v.size ≤ 140737488351232 := by omega
  clear hc hh
  unfold opv
  cases p
  · obtain ⟨n, hn⟩ : ∃ n, (Om.cnt k.data.toList).length = n := ⟨_, rfl⟩
    have e : ((Om.opEnc false k.data.toList v.data.toList).length : Int) = 1 + n := by unfold Om.opEnc; simp [hn]; omega
    rw [e]
    rw [hn] at h1
    have HN := hide hn
    clear hn e h2
    go_enter Tryz.func334, Tryz.ntmps334
    go_wp2_with fail
    refine (csize_any k _ hk).mono ?_
    rintro E w1 ⟨rfl, rfl⟩
    rw [HN.out]
    go_wp2
    go_ret
    exact ⟨rfl, (Below.refl _ _).alloc (Nat.le_refl _) _⟩
  · have e : ((Om.opEnc true k.data.toList v.data.toList).length : Int) = 1 + ((Om.cnt k.data.toList).length : Nat) + ((Om.cnt v.data.toList).length : Nat) := by unfold Om.opEnc; simp; omega
    rw [e]
    clear e
    go_enter Tryz.func334, Tryz.ntmps334
    go_wp2_with fail
    go_quiet ((go_at_call 348; refine Calls.quiet_of (csize_q _ _ (by assumption))))
    go_wp2
    go_ret
    exact ⟨rfl, below_drewN ((Below.refl _ _).alloc (Nat.le_refl _) _) _⟩

end Go.Proofs.YtajlhdmnincehaaGreatDoor

/- The contracts of the document's reader: Small, Bytes. -/
namespace Go.Proofs.YtajlhdmnincehaaGreatDoor
open Go.RowKit
set_option linter.unusedVariables false

theorem Tryz.elemB : Tryz.prog.underlying 28 = some (.slice (Tryz.prog.elem 28)) := by kernel_rfl
theorem Tryz.sizeE (wx : World) : (sizeOf (Tryz.prog.elem 28)).run Tryz.prog wx = .ok 1 wx := by kernel_rfl



end Go.Proofs.YtajlhdmnincehaaGreatDoor

/- Messages, by mathematics: what a reader of their bytes comes to, step by step. No program. -/
namespace Go.Proofs.YtajlhdmnincehaaGreatDoor.Mm
set_option linter.unusedVariables false









/-- In the midst: these numbers stand at the front, or there is no message. -/
def Go (bs l : List Int) (a : Nat) (b : Bool) : Prop :=
  (b = false ∧ (∀ z ∈ l, 0 ≤ z) ∧ Pm.encs l <+: bs ∧ a = (Pm.encs l).length) ∨ (b = true ∧ Dc bs no 5)


/-- What a message has behind these numbers is a number, and not above that. -/
def Nx (l : List Int) (mx : Nat) : Prop := ∀ m, Ok m → (l <+: hd m ∨ hd m <+: l) → l.length < (hd m).length ∧ (hd m).getD l.length 0 ≤ mx



















end Go.Proofs.YtajlhdmnincehaaGreatDoor.Mm

/- A page's block that holds what is written again. -/
namespace Go.Proofs.YtajlhdmnincehaaGreatDoor
open Go.RowKit
set_option linter.unusedVariables false

/-- What is written again changes nothing. -/
structure Sam (w : World) (g : Nat) (a b c d e f : Value) : Prop where
  s0 : w.setCell ⟨g, 0, none⟩ a = w
  s1 : w.setCell ⟨g, 1, none⟩ b = w
  s2 : w.setCell ⟨g, 2, none⟩ c = w
  s3 : w.setCell ⟨g, 3, none⟩ d = w
  s4 : w.setCell ⟨g, 4, none⟩ e = w
  s5 : w.setCell ⟨g, 5, none⟩ f = w
  f0 : w.frozen? ⟨g, 0, none⟩ = false
  f1 : w.frozen? ⟨g, 1, none⟩ = false
  f2 : w.frozen? ⟨g, 2, none⟩ = false
  f3 : w.frozen? ⟨g, 3, none⟩ = false
  f4 : w.frozen? ⟨g, 4, none⟩ = false
  f5 : w.frozen? ⟨g, 5, none⟩ = false







end Go.Proofs.YtajlhdmnincehaaGreatDoor
