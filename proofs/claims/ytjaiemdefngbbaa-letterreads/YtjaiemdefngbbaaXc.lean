/- The contracts of Same: the program's, the document's, the laws'; of the library's comparisons that they call. -/
import Derived.Test.YtjaiemdefngbbaaXb
import Derived.Test.YtjaiemdefngbbaaA3
namespace Go.Proofs.Ytjaiemdefngbbaa
open Go.RowKit
set_option linter.unusedVariables false

theorem Try.guardS (op : BinOp) (x y : Operand) (xs ys : Array Value) (w : World) : (eqGuard op 60 x y (.agg xs) (.agg ys)).run Try.prog w = .ok () w := run_eqGuard_agg w op 60 x y xs ys (by kernel_rfl)

theorem Try.neqS (a b c d : Int) (w : World) : (binOp .neq 60 (.agg #[.int .i64 a, .int .i64 b]) (.agg #[.int .i64 c, .int .i64 d])).run Try.prog w = .ok (.bool (!((a == c) && (b == d)))) w := by
  rw [run_neq_struct, run_equalIn_agg w 9999 60 _ _ (by kernel_rfl) (by kernel_rfl)]
  unfold Program.fieldsOf
  rw [Try.underlying60]
  simp [Op.eqFields, go_sem, Try.underlying3]
  by_cases h1 : a = c <;> by_cases h2 : b = d <;> simp [h1, h2]

set_option maxHeartbeats 1000000 in
theorem eqS_any (va vb : Value) (xs ys : List Sm.S) (w : World) (ha : RowS w va xs) (hb : RowS w vb ys) (hl : xs.length ≤ 140737488355328) (hl' : ys.length ≤ 140737488355328) :
    Calls Try.prog 39 #[va, vb] w fun e w' => e = .returned (.bool (decide (xs = ys))) ∧ ∃ m, w' = w.drewN m := by
  obtain ⟨ans, hans⟩ : ∃ r, decide (xs = ys) = r := ⟨_, rfl⟩
  rw [hans]
  have HA := hide hans
  clear hans
  by_cases hne : xs.length = ys.length
  · by_cases hz : 0 < xs.length
    · obtain ⟨b1, o1, c1, rfl, _, _, hB1, hc1⟩ := rowS_full ha hz
      obtain ⟨b2, o2, c2, rfl, _, _, hB2, hc2⟩ := rowS_full hb (by omega)
      have ht : ((xs.length : Int) != (ys.length : Int)) = false := by simp; omega
      have HL := hide hne
      have HC1 := hide hc1
      have HC2 := hide hc2
      clear hne ha hb hc1 hc2
      generalize hn : xs.length = n at *
      generalize hm : ys.length = m at *
      have HN := hide hn
      have HM := hide hm
      clear hn hm
      go_enter Try.func39, Try.ntmps39
      go_wp2
      go_loopw [13] (fun i wr => ∃ (k : Nat), k ≤ n ∧ i = .int .i64 k ∧ Hid (xs.take k = ys.take k) ∧ ∃ m, wr = w.drewN m) (fun i _ => n - (intOf i).toNat)
      case atStart => exact ⟨0, by omega, rfl, hide rfl, 0, rfl⟩
      case round =>
        obtain ⟨k, hk, rfl, HT, mm, rfl⟩ := hrel
        by_cases hlt : k < n
        · obtain ⟨o, ho⟩ := at_of (l := xs) (k := k) (by have := HN.out; omega)
          obtain ⟨q, hq⟩ := at_of (l := ys) (k := k) (by have := HM.out; have := HL.out; omega)
          obtain ⟨d0, d1⟩ := HC1.out k o ho
          obtain ⟨e0, e1⟩ := HC2.out k q hq
          have hlt' : (k : Int) < n := by omega
          have hlt2 : (k : Int) < m := by have := HL.out; omega
          have HO := hide ho
          have HQ := hide hq
          clear ho hq
          have hnq := Try.neqS o.1 o.2 q.1 q.2
          have hgd := Try.guardS
          by_cases h1 : o = q
          · have HT2 : Hid (xs.take (k + 1) = ys.take (k + 1)) := hide (by
              rw [List.take_add_one, List.take_add_one, HT.out, HO.out, HQ.out, h1])
            rw [show ((o.1 == q.1) && (o.2 == q.2)) = true by simp [h1]] at hnq
            clear h1
            go_wp2
            go_quiet (fail)
            go_wp2
            go_roundw
            case rel => exact ⟨k + 1, by omega, by go_num, HT2, _, rfl⟩
            case measure => simp [intOf]; omega
          · have hfo := HA.out
            rw [decide_eq_false fun e => by
              have h3 := HO.out
              rw [e, HQ.out] at h3
              exact h1 (by rw [Option.some.inj h3])] at hfo
            subst hfo
            rw [show ((o.1 == q.1) && (o.2 == q.2)) = false by
              by_cases e1 : o.1 = q.1
              · have : o.2 ≠ q.2 := fun e2 => h1 (Prod.ext e1 e2)
                simp [this]
              · simp [e1]] at hnq
            clear h1 HA
            go_wp2
            go_quiet (fail)
            go_wp2
            go_ret
            exact ⟨rfl, _, by first | rfl | exact World.drewN_drewN _ _ _⟩
        · have hlt' : ¬ (k : Int) < n := by omega
          have hfo := HA.out
          rw [decide_eq_true (by
            have h1 := HT.out
            rw [List.take_of_length_le (by have := HN.out; omega), List.take_of_length_le (by have := HN.out; have := HM.out; have := HL.out; omega)] at h1
            exact h1)] at hfo
          subst hfo
          clear HA
          go_wp2
          go_ret
          exact ⟨rfl, mm, rfl⟩
    · have hx : xs = [] := List.eq_nil_of_length_eq_zero (by omega)
      have hy : ys = [] := List.eq_nil_of_length_eq_zero (by omega)
      subst hx hy
      obtain ⟨a1, c1, rfl, _, _⟩ := ha.shape
      obtain ⟨a2, c2, rfl, _, _⟩ := hb.shape
      have hfo := HA.out
      simp at hfo
      subst hfo
      simp only [List.length_nil]
      clear hl hl' hne hz ha hb HA
      go_enter Try.func39, Try.ntmps39
      go_wp2
      refine wp_loop_rounds 1 ?_
      rw [rounds_succ]
      go_wp2
      go_ret
      exact ⟨rfl, 0, rfl⟩
  · obtain ⟨a1, c1, rfl, _, _⟩ := ha.shape
    obtain ⟨a2, c2, rfl, _, _⟩ := hb.shape
    have ht : ((xs.length : Int) != (ys.length : Int)) = true := by simp; omega
    have hfo := HA.out
    rw [decide_eq_false fun h => hne (by rw [h])] at hfo
    subst hfo
    clear hne HA
    go_enter Try.func39, Try.ntmps39
    go_wp2
    go_ret
    exact ⟨rfl, 0, rfl⟩

theorem Try.enters41 : ∀ args w, (callFunc 41 args).run Try.prog w = .ok (.enter 41 args) w := enters_of Try.func41 (by kernel_rfl) rfl

set_option maxHeartbeats 1000000 in
theorem eqC_any (va vb : Value) (r s : List Cw) (w : World) (ha : IsC w va r) (hb : IsC w vb s) (fa : FitC r) (fb : FitC s) (hl : r.length ≤ 140737488355328) (hl' : s.length ≤ 140737488355328) :
    Calls Try.prog 40 #[va, vb, .func (.func 41) #[] #[]] w fun E w' => E = .returned (.bool (sameV (cvs r) (cvs s))) ∧ Below w.heap.size w w' := by
  obtain ⟨ans, hans⟩ : ∃ x, sameV (cvs r) (cvs s) = x := ⟨_, rfl⟩
  rw [hans]
  have HA := hide hans
  clear hans
  obtain ⟨a1, p1, hva, _, _⟩ := ha.1.shape
  obtain ⟨a2, p2, hvb, _, _⟩ := hb.1.shape
  by_cases hne : r.length = s.length
  · have C1 := hide (isC_cells ha)
    have C2 := hide (isC_cells hb)
    have I1 := hide ha.2
    have I2 := hide hb.2
    have F1 := hide fa
    have F2 := hide fb
    have HL := hide hne
    have ht : ((r.length : Int) != (s.length : Int)) = false := by simp; omega
    subst hva hvb
    generalize hn : r.length = n at *
    generalize hm : s.length = m at *
    have HN := hide hn
    have HM := hide hm
    clear ha hb fa fb hne hn hm
    go_enter Try.func40, Try.ntmps40
    go_wp2
    go_loopw [17] (fun i wr => ∃ (k : Nat), k ≤ n ∧ i = .int .i64 k ∧ Hid ((cvs r).take k = (cvs s).take k) ∧ Below w.heap.size w wr) (fun i _ => n - (intOf i).toNat)
    case atStart => exact ⟨0, by omega, rfl, hide rfl, Below.refl _ _⟩
    case round =>
      obtain ⟨k, hk, rfl, HT, bel⟩ := hrel
      have sz := bel.size
      by_cases hlt : k < n
      · obtain ⟨b1, o1, c1, hv1, hB1, hc1⟩ := C1.out (by have := HN.out; omega)
        obtain ⟨b2, o2, c2, hv2, hB2, hc2⟩ := C2.out (by have := HM.out; have := HL.out; omega)
        simp only [Value.slice.injEq, true_and] at hv1 hv2
        obtain ⟨rfl, rfl⟩ := hv1
        obtain ⟨rfl, rfl⟩ := hv2
        obtain ⟨c, hc⟩ := at_of (l := r) (k := k) (by have := HN.out; omega)
        obtain ⟨d, hd⟩ := at_of (l := s) (k := k) (by have := HM.out; have := HL.out; omega)
        obtain ⟨x0, x1, x2⟩ := row_at hc1 bel hB1 hc
        have i1 := (I1.out c (List.mem_of_getElem? hc)).1.below bel
        have i2 := (I2.out d (List.mem_of_getElem? hd)).1.below bel
        have l1 := (F1.out c (List.mem_of_getElem? hc)).2
        have l2 := (F2.out d (List.mem_of_getElem? hd)).2
        have hlt' : (k : Int) < n := by omega
        have hlt2 : (k : Int) < m := by have := HL.out; omega
        obtain ⟨ga, ea, hvc, _, _⟩ := i1.shape
        obtain ⟨gb, eb, hvd, _, _⟩ := i2.shape
        obtain ⟨V, hV, hV2, szV, belV, bV, v0, v1, v2⟩ := new_step wr 36 (.int .i64 0) (.int .i64 0) (.slice none 0 0) (.int .i64 c.e) (.int .i64 c.n) c.v
        have belA : Below w.heap.size w V := bel.trans (belV.mono (by omega))
        obtain ⟨y0, y1, y2⟩ := row_at hc2 belA hB2 hd
        obtain ⟨U, hU, hU2, szU, belU, bU, u0, u1, u2⟩ := new_step V 36 (.int .i64 0) (.int .i64 0) (.slice none 0 0) (.int .i64 d.e) (.int .i64 d.n) d.v
        rw [szV] at hU u0 u1 u2
        have bV' := (belU.block wr.heap.size (by omega)).trans bV
        have z0 := blk_cell bV' 0 rfl
        have z1 := blk_cell bV' 1 rfl
        have z2 := blk_cell bV' 2 rfl
        have belB : Below wr.heap.size wr U := belV.trans (belU.mono (by omega))
        have sC : V.setCell ⟨wr.heap.size, 2, none⟩ c.v = V := set_same bV (j := 2) rfl
        have X := hide (csame_any c.e c.n _ c.l d.e d.n _ d.l U (i1.below belB) (i2.below belB) (by omega) (by omega))
        have HC := hide hc
        have HD := hide hd
        obtain ⟨sm, hsm⟩ : ∃ x, sameC c.e c.n c.l d.e d.n d.l = x := ⟨_, rfl⟩
        rw [hsm] at X
        have HSM := hide hsm
        have bel0 := bel.trans (belB.mono (by omega))
        have szB := belB.size
        clear hc hd hc1 hc2 l1 l2 hsm bV bV' bU belA belB belV belU i1 i2 sC
        rw [hvc] at x2 hV hV2 v2 z2 X
        rw [hvd] at y2 hU hU2 u2 X
        clear hvc hvd
        unfold cmv at X
        cases sm
        · have hfo := HA.out
          rw [sameV_no fun e => by
            have h1 : (cvs r)[k]? = some c.c := by rw [cvs_get, HC.out]; rfl
            rw [e, cvs_get, HD.out] at h1
            have h2 : d.c = c.c := by simpa using h1
            obtain ⟨q1, q2, q3⟩ := cw_ext h2
            have := HSM.out
            rw [sameC_iff.2 ⟨q1.symm, q2.symm, q3.symm⟩] at this
            simp at this] at hfo
          subst hfo
          go_wp2_with (go_at_call 41; refine X.out.mono ?_; rintro E w3 ⟨rfl, bel3⟩)
          go_ret
          exact ⟨rfl, bel0.trans (bel3.mono (by omega))⟩
        · have HT2 : Hid ((cvs r).take (k + 1) = (cvs s).take (k + 1)) := hide (by
            obtain ⟨q1, q2, q3⟩ := sameC_iff.1 HSM.out
            rw [List.take_add_one, List.take_add_one, HT.out, cvs_get, cvs_get, HC.out, HD.out]
            simp [Cw.c, q1, q2, q3])
          go_wp2_with (go_at_call 41; refine X.out.mono ?_; rintro E w3 ⟨rfl, bel3⟩)
          have belR := bel0.trans (bel3.mono (by omega))
          go_roundw
          case rel => exact ⟨k + 1, by omega, by go_num, HT2, belR⟩
          case measure => simp [intOf]; omega
      · have hlt' : ¬ (k : Int) < n := by omega
        have hfo := HA.out
        rw [sameV_iff.2 (by
          have h1 := HT.out
          rw [List.take_of_length_le (by rw [cvs_length, HN.out]; omega), List.take_of_length_le (by rw [cvs_length, HM.out]; have := HL.out; omega)] at h1
          exact h1)] at hfo
        subst hfo
        clear HA
        go_wp2
        go_ret
        exact ⟨rfl, bel⟩
  · have ht : ((r.length : Int) != (s.length : Int)) = true := by simp; omega
    have hfo := HA.out
    rw [sameV_no fun e => hne (by rw [← cvs_length r, ← cvs_length s, e])] at hfo
    subst hfo hva hvb
    clear hne HA
    go_enter Try.func40, Try.ntmps40
    go_wp2
    go_ret
    exact ⟨rfl, Below.refl _ _⟩

end Go.Proofs.Ytjaiemdefngbbaa
