/- Texts of one layer, one behind the other. -/
import Derived.Test.YtfnaeblbodfekaaG8
import Derived.Test.YtfnaeblbodfekaaG9
/- The contracts of Same: the program's, the document's, the laws'; of the library's comparisons that they call. -/
namespace Go.Proofs.Ytfnaeblbodfekaa
open Go.RowKit
set_option linter.unusedVariables false

theorem Try.guardS (op : BinOp) (x y : Operand) (xs ys : Array Value) (w : World) : (eqGuard op 35 x y (.agg xs) (.agg ys)).run Try.prog w = .ok () w := run_eqGuard_agg w op 35 x y xs ys (by kernel_rfl)

theorem Try.neqS (a b c d : Int) (w : World) : (binOp .neq 35 (.agg #[.int .i64 a, .int .i64 b]) (.agg #[.int .i64 c, .int .i64 d])).run Try.prog w = .ok (.bool (!((a == c) && (b == d)))) w := by
  rw [run_neq_struct, run_equalIn_agg w 9999 35 _ _ (by kernel_rfl) (by kernel_rfl)]
  unfold Program.fieldsOf
  rw [Try.underlying35]
  simp [Op.eqFields, go_sem, Try.underlying3]
  by_cases h1 : a = c <;> by_cases h2 : b = d <;> simp [h1, h2]

set_option maxHeartbeats 1000000 in
theorem eqS_any (va vb : Value) (xs ys : List Sm.S) (w : World) (ha : RowS w va xs) (hb : RowS w vb ys) (hl : xs.length ≤ 140737488355328) (hl' : ys.length ≤ 140737488355328) :
    Calls Try.prog 77 #[va, vb] w fun e w' => e = .returned (.bool (decide (xs = ys))) ∧ ∃ m, w' = w.drewN m := by
  obtain ⟨ans, hans⟩ : ∃ r, decide (xs = ys) = r := ⟨_, rfl⟩
  rw [hans]
  have HA := hide hans
  clear hans
  by_cases hne : xs.length = ys.length
  · by_cases hz : 0 < xs.length
    · obtain ⟨b1, o1, c1, rfl, _, _, hB1, hc1⟩ := rowS_full ha hz
      obtain ⟨b2, o2, c2, rfl, _, _, hB2, hc2⟩ := rowS_full hb (by omega)
      have ht : ((xs.length : Int) != (ys.length : Int)) = false := by simp; omega
      have HL := hide hne
      have HC1 := hide hc1
      have HC2 := hide hc2
      clear hne ha hb hc1 hc2
      generalize hn : xs.length = n at *
      generalize hm : ys.length = m at *
      have HN := hide hn
      have HM := hide hm
      clear hn hm
      go_enter Try.func77, Try.ntmps77
      go_wp2
      go_loopw [13] (fun i wr => ∃ (k : Nat), k ≤ n ∧ i = .int .i64 k ∧ Hid (xs.take k = ys.take k) ∧ ∃ m, wr = w.drewN m) (fun i _ => n - (intOf i).toNat)
      case atStart => exact ⟨0, by omega, rfl, hide rfl, 0, rfl⟩
      case round =>
        obtain ⟨k, hk, rfl, HT, mm, rfl⟩ := hrel
        by_cases hlt : k < n
        · obtain ⟨o, ho⟩ := at_of (l := xs) (k := k) (by have := HN.out; omega)
          obtain ⟨q, hq⟩ := at_of (l := ys) (k := k) (by have := HM.out; have := HL.out; omega)
          obtain ⟨d0, d1⟩ := HC1.out k o ho
          obtain ⟨e0, e1⟩ := HC2.out k q hq
          have hlt' : (k : Int) < n := by omega
          have hlt2 : (k : Int) < m := by have := HL.out; omega
          have HO := hide ho
          have HQ := hide hq
          clear ho hq
          have hnq := Try.neqS o.1 o.2 q.1 q.2
          have hgd := Try.guardS
          by_cases h1 : o = q
          · have HT2 : Hid (xs.take (k + 1) = ys.take (k + 1)) := hide (by
              rw [List.take_add_one, List.take_add_one, HT.out, HO.out, HQ.out, h1])
            rw [show ((o.1 == q.1) && (o.2 == q.2)) = true by simp [h1]] at hnq
            clear h1
            go_wp2
            go_quiet (fail)
            go_wp2
            go_roundw
            case rel => exact ⟨k + 1, by omega, by go_num, HT2, _, rfl⟩
            case measure => simp [intOf]; omega
          · have hfo := HA.out
            rw [decide_eq_false fun e => by
              have h3 := HO.out
              rw [e, HQ.out] at h3
              exact h1 (by rw [Option.some.inj h3])] at hfo
            subst hfo
            rw [show ((o.1 == q.1) && (o.2 == q.2)) = false by
              by_cases e1 : o.1 = q.1
              · have : o.2 ≠ q.2 := fun e2 => h1 (Prod.ext e1 e2)
                simp [this]
              · simp [e1]] at hnq
            clear h1 HA
            go_wp2
            go_quiet (fail)
            go_wp2
            go_ret
            exact ⟨rfl, _, by first | rfl | exact World.drewN_drewN _ _ _⟩
        · have hlt' : ¬ (k : Int) < n := by omega
          have hfo := HA.out
          rw [decide_eq_true (by
            have h1 := HT.out
            rw [List.take_of_length_le (by have := HN.out; omega), List.take_of_length_le (by have := HN.out; have := HM.out; have := HL.out; omega)] at h1
            exact h1)] at hfo
          subst hfo
          clear HA
          go_wp2
          go_ret
          exact ⟨rfl, mm, rfl⟩
    · have hx : xs = [] := List.eq_nil_of_length_eq_zero (by omega)
      have hy : ys = [] := List.eq_nil_of_length_eq_zero (by omega)
      subst hx hy
      obtain ⟨a1, c1, rfl, _, _⟩ := ha.shape
      obtain ⟨a2, c2, rfl, _, _⟩ := hb.shape
      have hfo := HA.out
      simp at hfo
      subst hfo
      simp only [List.length_nil]
      clear hl hl' hne hz ha hb HA
      go_enter Try.func77, Try.ntmps77
      go_wp2
      refine wp_loop_rounds 1 ?_
      rw [rounds_succ]
      go_wp2
      go_ret
      exact ⟨rfl, 0, rfl⟩
  · obtain ⟨a1, c1, rfl, _, _⟩ := ha.shape
    obtain ⟨a2, c2, rfl, _, _⟩ := hb.shape
    have ht : ((xs.length : Int) != (ys.length : Int)) = true := by simp; omega
    have hfo := HA.out
    rw [decide_eq_false fun h => hne (by rw [h])] at hfo
    subst hfo
    clear hne HA
    go_enter Try.func77, Try.ntmps77
    go_wp2
    go_ret
    exact ⟨rfl, 0, rfl⟩

theorem Try.enters23 : ∀ args w, (callFunc 23 args).run Try.prog w = .ok (.enter 23 args) w := enters_of Try.func23 (by kernel_rfl) rfl

set_option maxHeartbeats 1000000 in
theorem eqC_any (va vb : Value) (r s : List Cw) (w : World) (ha : IsC w va r) (hb : IsC w vb s) (fa : FitC r) (fb : FitC s) (hl : r.length ≤ 140737488355328) (hl' : s.length ≤ 140737488355328) :
    Calls Try.prog 78 #[va, vb, .func (.func 23) #[] #[]] w fun E w' => E = .returned (.bool (sameV (cvs r) (cvs s))) ∧ Below w.heap.size w w' := by
  obtain ⟨ans, hans⟩ : ∃ x, sameV (cvs r) (cvs s) = x := ⟨_, rfl⟩
  rw [hans]
  have HA := hide hans
  clear hans
  obtain ⟨a1, p1, hva, _, _⟩ := ha.1.shape
  obtain ⟨a2, p2, hvb, _, _⟩ := hb.1.shape
  by_cases hne : r.length = s.length
  · have C1 := hide (isC_cells ha)
    have C2 := hide (isC_cells hb)
    have I1 := hide ha.2
    have I2 := hide hb.2
    have F1 := hide fa
    have F2 := hide fb
    have HL := hide hne
    have ht : ((r.length : Int) != (s.length : Int)) = false := by simp; omega
    subst hva hvb
    generalize hn : r.length = n at *
    generalize hm : s.length = m at *
    have HN := hide hn
    have HM := hide hm
    clear ha hb fa fb hne hn hm
    go_enter Try.func78, Try.ntmps78
    go_wp2
    go_loopw [17] (fun i wr => ∃ (k : Nat), k ≤ n ∧ i = .int .i64 k ∧ Hid ((cvs r).take k = (cvs s).take k) ∧ Below w.heap.size w wr) (fun i _ => n - (intOf i).toNat)
    case atStart => exact ⟨0, by omega, rfl, hide rfl, Below.refl _ _⟩
    case round =>
      obtain ⟨k, hk, rfl, HT, bel⟩ := hrel
      have sz := bel.size
      by_cases hlt : k < n
      · obtain ⟨b1, o1, c1, hv1, hB1, hc1⟩ := C1.out (by have := HN.out; omega)
        obtain ⟨b2, o2, c2, hv2, hB2, hc2⟩ := C2.out (by have := HM.out; have := HL.out; omega)
        simp only [Value.slice.injEq, true_and] at hv1 hv2
        obtain ⟨rfl, rfl⟩ := hv1
        obtain ⟨rfl, rfl⟩ := hv2
        obtain ⟨c, hc⟩ := at_of (l := r) (k := k) (by have := HN.out; omega)
        obtain ⟨d, hd⟩ := at_of (l := s) (k := k) (by have := HM.out; have := HL.out; omega)
        obtain ⟨x0, x1, x2⟩ := row_at hc1 bel hB1 hc
        have i1 := (I1.out c (List.mem_of_getElem? hc)).1.below bel
        have i2 := (I2.out d (List.mem_of_getElem? hd)).1.below bel
        have l1 := (F1.out c (List.mem_of_getElem? hc)).2
        have l2 := (F2.out d (List.mem_of_getElem? hd)).2
        have hlt' : (k : Int) < n := by omega
        have hlt2 : (k : Int) < m := by have := HL.out; omega
        obtain ⟨ga, ea, hvc, _, _⟩ := i1.shape
        obtain ⟨gb, eb, hvd, _, _⟩ := i2.shape
        obtain ⟨V, hV, hV2, szV, belV, bV, v0, v1, v2⟩ := new_step wr 50 (.int .i64 0) (.int .i64 0) (.slice none 0 0) (.int .i64 c.e) (.int .i64 c.n) c.v
        have belA : Below w.heap.size w V := bel.trans (belV.mono (by omega))
        obtain ⟨y0, y1, y2⟩ := row_at hc2 belA hB2 hd
        obtain ⟨U, hU, hU2, szU, belU, bU, u0, u1, u2⟩ := new_step V 50 (.int .i64 0) (.int .i64 0) (.slice none 0 0) (.int .i64 d.e) (.int .i64 d.n) d.v
        rw [szV] at hU u0 u1 u2
        have bV' := (belU.block wr.heap.size (by omega)).trans bV
        have z0 := blk_cell bV' 0 rfl
        have z1 := blk_cell bV' 1 rfl
        have z2 := blk_cell bV' 2 rfl
        have belB : Below wr.heap.size wr U := belV.trans (belU.mono (by omega))
        have sC : V.setCell ⟨wr.heap.size, 2, none⟩ c.v = V := set_same bV (j := 2) rfl
        have X := hide (csame_any c.e c.n _ c.l d.e d.n _ d.l U (i1.below belB) (i2.below belB) (by omega) (by omega))
        have HC := hide hc
        have HD := hide hd
        obtain ⟨sm, hsm⟩ : ∃ x, sameC c.e c.n c.l d.e d.n d.l = x := ⟨_, rfl⟩
        rw [hsm] at X
        have HSM := hide hsm
        have bel0 := bel.trans (belB.mono (by omega))
        have szB := belB.size
        clear hc hd hc1 hc2 l1 l2 hsm bV bV' bU belA belB belV belU i1 i2 sC
        rw [hvc] at x2 hV hV2 v2 z2 X
        rw [hvd] at y2 hU hU2 u2 X
        clear hvc hvd
        unfold cmv at X
        cases sm
        · have hfo := HA.out
          rw [sameV_no fun e => by
            have h1 : (cvs r)[k]? = some c.c := by rw [cvs_get, HC.out]; rfl
            rw [e, cvs_get, HD.out] at h1
            have h2 : d.c = c.c := by simpa using h1
            obtain ⟨q1, q2, q3⟩ := cw_ext h2
            have := HSM.out
            rw [sameC_iff.2 ⟨q1.symm, q2.symm, q3.symm⟩] at this
            simp at this] at hfo
          subst hfo
          go_wp2_with (go_at_call 23; refine X.out.mono ?_; rintro E w3 ⟨rfl, bel3⟩)
          go_ret
          exact ⟨rfl, bel0.trans (bel3.mono (by omega))⟩
        · have HT2 : Hid ((cvs r).take (k + 1) = (cvs s).take (k + 1)) := hide (by
            obtain ⟨q1, q2, q3⟩ := sameC_iff.1 HSM.out
            rw [List.take_add_one, List.take_add_one, HT.out, cvs_get, cvs_get, HC.out, HD.out]
            simp [Cw.c, q1, q2, q3])
          go_wp2_with (go_at_call 23; refine X.out.mono ?_; rintro E w3 ⟨rfl, bel3⟩)
          have belR := bel0.trans (bel3.mono (by omega))
          go_roundw
          case rel => exact ⟨k + 1, by omega, by go_num, HT2, belR⟩
          case measure => simp [intOf]; omega
      · have hlt' : ¬ (k : Int) < n := by omega
        have hfo := HA.out
        rw [sameV_iff.2 (by
          have h1 := HT.out
          rw [List.take_of_length_le (by rw [cvs_length, HN.out]; omega), List.take_of_length_le (by rw [cvs_length, HM.out]; have := HL.out; omega)] at h1
          exact h1)] at hfo
        subst hfo
        clear HA
        go_wp2
        go_ret
        exact ⟨rfl, bel⟩
  · have ht : ((r.length : Int) != (s.length : Int)) = true := by simp; omega
    have hfo := HA.out
    rw [sameV_no fun e => hne (by rw [← cvs_length r, ← cvs_length s, e])] at hfo
    subst hfo hva hvb
    clear hne HA
    go_enter Try.func78, Try.ntmps78
    go_wp2
    go_ret
    exact ⟨rfl, Below.refl _ _⟩

end Go.Proofs.Ytfnaeblbodfekaa

/- The contracts of Same of messages: the program's, the laws'. -/
namespace Go.Proofs.Ytfnaeblbodfekaa
open Go.RowKit
set_option linter.unusedVariables false

theorem two_ints {x y : Int} {ans : Bool} (h : x ≠ y → ans = false) : (x == y) = true ∨ ((x == y) = false ∧ ans = false) := by
  by_cases e : x = y
  · exact .inl (by simp [e])
  · exact .inr ⟨by simpa using e, h e⟩

theorem smM_cs {a b : Mm.Msg} (h1 : (a.k == b.k) = true) (h2 : (a.e == b.e) = true) (h3 : (a.r == b.r) = true) (h4 : (a.n == b.n) = true) (h5 : (a.f == b.f) = true) (h6 : (a.p == b.p) = true) (h7 : decide (a.ss = b.ss) = true) : smM a b = sameV a.cs b.cs := by
  unfold smM
  rw [h1, h2, h3, h4, h5, h6, h7]
  rfl

set_option maxHeartbeats 2000000 in
theorem msame_any (a b : Mw) (w : World) (ha : IsM w a) (hb : IsM w b) (fa : FitM a) (fb : FitM b) :
    Calls Try.prog 73 #[mv a, mv b] w fun E w' => E = .returned (.bool (smM a.m b.m)) ∧ Below w.heap.size w w' := by
  obtain ⟨ans, hans⟩ : ∃ x, smM a.m b.m = x := ⟨_, rfl⟩
  rw [hans]
  have HA := hide hans
  have NO : Hid (a.m ≠ b.m → ans = false) := hide fun h => by rw [← HA.out]; exact smM_no h
  clear hans
  unfold mv
  obtain ⟨w1, hw1, sz1, bel1, hA⟩ := newm w a
  obtain ⟨w2, hw2, sz2, bel2, hB⟩ := newm w1 b
  rw [sz1] at hB
  have A2 := hide (hA.below bel2)
  have B2 := hide hB
  have bel02 : Below w.heap.size w w2 := bel1.trans (bel2.mono (by omega))
  have IA := hide (ha.below bel02)
  have IB := hide (hb.below bel02)
  have FA := hide fa
  have FB := hide fb
  obtain ⟨c0, c1, c2, c3, c4, c5, c6, c7⟩ := A2.out.ei
  obtain ⟨d0, d1, d2, d3, d4, d5, d6, d7⟩ := B2.out.ei
  have q1 := two_ints (x := a.k) (y := b.k) (ans := ans) fun h => NO.out fun e => h (congrArg Mm.Msg.k e)
  have q2 := two_ints (x := a.e) (y := b.e) (ans := ans) fun h => NO.out fun e => h (congrArg Mm.Msg.e e)
  have q3 := two_ints (x := a.r) (y := b.r) (ans := ans) fun h => NO.out fun e => h (congrArg Mm.Msg.r e)
  have q4 := two_ints (x := a.n) (y := b.n) (ans := ans) fun h => NO.out fun e => h (congrArg Mm.Msg.n e)
  have q5 := two_ints (x := a.f) (y := b.f) (ans := ans) fun h => NO.out fun e => h (congrArg Mm.Msg.f e)
  have q6 := two_ints (x := a.p) (y := b.p) (ans := ans) fun h => NO.out fun e => h (congrArg Mm.Msg.p e)
  obtain ⟨ds, hds⟩ : ∃ x, decide (a.ss = b.ss) = x := ⟨_, rfl⟩
  have q7 : Hid (ds = false → ans = false) := hide fun h => NO.out fun e => by
    rw [h] at hds
    exact of_decide_eq_false hds (congrArg Mm.Msg.ss e)
  have DS := hide hds
  clear ha hb fa fb hA hB bel1 bel2 hds
  go_enter Try.func73, Try.ntmps73
  rcases q1 with q1 | ⟨q1, rfl⟩
  rotate_left
  · go_wp2
    go_ret
    exact ⟨rfl, bel02⟩
  rcases q2 with q2 | ⟨q2, rfl⟩
  rotate_left
  · go_wp2
    go_ret
    exact ⟨rfl, bel02⟩
  rcases q3 with q3 | ⟨q3, rfl⟩
  rotate_left
  · go_wp2
    go_ret
    exact ⟨rfl, bel02⟩
  rcases q4 with q4 | ⟨q4, rfl⟩
  rotate_left
  · go_wp2
    go_ret
    exact ⟨rfl, bel02⟩
  rcases q5 with q5 | ⟨q5, rfl⟩
  rotate_left
  · go_wp2
    go_ret
    exact ⟨rfl, bel02⟩
  rcases q6 with q6 | ⟨q6, rfl⟩
  rotate_left
  · go_wp2
    go_ret
    exact ⟨rfl, bel02⟩
  go_wp2_with fail
  refine (eqS_any _ _ a.ss b.ss _ IA.out.s IB.out.s FA.out.ls FB.out.ls).mono ?_
  rintro E w3 ⟨rfl, m, rfl⟩
  rw [DS.out]
  have bel3 : Below w2.heap.size w2 (w2.drewN m) := below_drewN (Below.refl _ _) m
  generalize w2.drewN m = w3 at *
  have sz3 := bel3.size
  have bel03 := bel02.trans (bel3.mono (by omega))
  cases ds
  · obtain rfl := q7.out rfl
    go_wp2
    go_ret
    exact ⟨rfl, bel03⟩
  · clear c0 c1 c2 c3 c4 c5 c6 c7 d0 d1 d2 d3 d4 d5 d6 d7 hw1 hw2
    obtain ⟨c0, c1, c2, c3, c4, c5, c6, c7⟩ := (A2.out.below bel3).ei
    obtain ⟨d0, d1, d2, d3, d4, d5, d6, d7⟩ := (B2.out.below bel3).ei
    have hs : ans = sameV (cvs a.cs) (cvs b.cs) := by
      rw [← HA.out]
      exact smM_cs (a := a.m) (b := b.m) q1 q2 q3 q4 q5 q6 DS.out
    go_wp2_with fail
    refine (eqC_any _ _ a.cs b.cs _ (IA.out.c.below bel3) (IB.out.c.below bel3) FA.out.fc FB.out.fc FA.out.lc FB.out.lc).mono ?_
    rintro E w4 ⟨rfl, bel4⟩
    have bel04 := bel03.trans (bel4.mono (by omega))
    rw [← hs]
    clear hs
    go_wp2
    go_ret
    exact ⟨rfl, bel04⟩

set_option maxHeartbeats 2000000 in
theorem msameK_any (a b : Mw) (w : World) (ha : IsM w a) (hb : IsM w b) (fa : FitM a) (fb : FitM b) :
    Calls Try.prog 38 #[mv a, mv b] w fun E w' => E = .returned (.bool (smM a.m b.m)) ∧ Below w.heap.size w w' := by
  obtain ⟨ans, hans⟩ : ∃ x, smM a.m b.m = x := ⟨_, rfl⟩
  rw [hans]
  have HA := hide hans
  have NO : Hid (a.m ≠ b.m → ans = false) := hide fun h => by rw [← HA.out]; exact smM_no h
  clear hans
  unfold mv
  obtain ⟨w1, hw1, sz1, bel1, hA⟩ := newm w a
  obtain ⟨w2, hw2, sz2, bel2, hB⟩ := newm w1 b
  rw [sz1] at hB
  have A2 := hide (hA.below bel2)
  have B2 := hide hB
  have bel02 : Below w.heap.size w w2 := bel1.trans (bel2.mono (by omega))
  have IA := hide (ha.below bel02)
  have IB := hide (hb.below bel02)
  have FA := hide fa
  have FB := hide fb
  obtain ⟨c0, c1, c2, c3, c4, c5, c6, c7⟩ := A2.out.ei
  obtain ⟨d0, d1, d2, d3, d4, d5, d6, d7⟩ := B2.out.ei
  have q1 := two_ints (x := a.k) (y := b.k) (ans := ans) fun h => NO.out fun e => h (congrArg Mm.Msg.k e)
  have q2 := two_ints (x := a.e) (y := b.e) (ans := ans) fun h => NO.out fun e => h (congrArg Mm.Msg.e e)
  have q3 := two_ints (x := a.r) (y := b.r) (ans := ans) fun h => NO.out fun e => h (congrArg Mm.Msg.r e)
  have q4 := two_ints (x := a.n) (y := b.n) (ans := ans) fun h => NO.out fun e => h (congrArg Mm.Msg.n e)
  have q5 := two_ints (x := a.f) (y := b.f) (ans := ans) fun h => NO.out fun e => h (congrArg Mm.Msg.f e)
  have q6 := two_ints (x := a.p) (y := b.p) (ans := ans) fun h => NO.out fun e => h (congrArg Mm.Msg.p e)
  obtain ⟨ds, hds⟩ : ∃ x, decide (a.ss = b.ss) = x := ⟨_, rfl⟩
  have q7 : Hid (ds = false → ans = false) := hide fun h => NO.out fun e => by
    rw [h] at hds
    exact of_decide_eq_false hds (congrArg Mm.Msg.ss e)
  have DS := hide hds
  clear ha hb fa fb hA hB bel1 bel2 hds
  go_enter Try.func38, Try.ntmps38
  rcases q1 with q1 | ⟨q1, rfl⟩
  rotate_left
  · go_wp2
    go_ret
    exact ⟨rfl, bel02⟩
  rcases q2 with q2 | ⟨q2, rfl⟩
  rotate_left
  · go_wp2
    go_ret
    exact ⟨rfl, bel02⟩
  rcases q3 with q3 | ⟨q3, rfl⟩
  rotate_left
  · go_wp2
    go_ret
    exact ⟨rfl, bel02⟩
  rcases q4 with q4 | ⟨q4, rfl⟩
  rotate_left
  · go_wp2
    go_ret
    exact ⟨rfl, bel02⟩
  go_wp2_with fail
  refine (sameS_quiet _ _ a.ss b.ss _ IA.out.s IB.out.s FA.out.ls FB.out.ls).mono ?_
  rintro E w3 ⟨rfl, m, rfl⟩
  rw [DS.out]
  have bel3 : Below w2.heap.size w2 (w2.drewN m) := below_drewN (Below.refl _ _) m
  generalize w2.drewN m = w3 at *
  have sz3 := bel3.size
  have bel03 := bel02.trans (bel3.mono (by omega))
  cases ds
  · obtain rfl := q7.out rfl
    go_wp2
    go_ret
    exact ⟨rfl, bel03⟩
  · clear c0 c1 c2 c3 c4 c5 c6 c7 d0 d1 d2 d3 d4 d5 d6 d7 hw1 hw2
    obtain ⟨c0, c1, c2, c3, c4, c5, c6, c7⟩ := (A2.out.below bel3).ei
    obtain ⟨d0, d1, d2, d3, d4, d5, d6, d7⟩ := (B2.out.below bel3).ei
    rcases q5 with q5 | ⟨q5, rfl⟩
    rotate_left
    · go_wp2
      go_ret
      exact ⟨rfl, bel03⟩
    rcases q6 with q6 | ⟨q6, rfl⟩
    rotate_left
    · go_wp2
      go_ret
      exact ⟨rfl, bel03⟩
    have hs : ans = sameV (cvs a.cs) (cvs b.cs) := by
      rw [← HA.out]
      exact smM_cs (a := a.m) (b := b.m) q1 q2 q3 q4 q5 q6 DS.out
    go_wp2_with fail
    refine (sameCs_any _ _ a.cs b.cs _ (IA.out.c.below bel3) (IB.out.c.below bel3) FA.out.fc FB.out.fc FA.out.lc FB.out.lc).mono ?_
    rintro E w4 ⟨rfl, bel4⟩
    have bel04 := bel03.trans (bel4.mono (by omega))
    rw [← hs]
    clear hs
    go_wp2
    go_ret
    exact ⟨rfl, bel04⟩

end Go.Proofs.Ytfnaeblbodfekaa

/- The contract of the document's Same of messages. -/
namespace Go.Proofs.Ytfnaeblbodfekaa
open Go.RowKit
set_option linter.unusedVariables false

theorem two_nes {x y : Int} {ans : Bool} (h : x ≠ y → ans = false) : ((x != y) = false ∧ (x == y) = true) ∨ ((x != y) = true ∧ ans = false) := by
  by_cases e : x = y
  · exact .inl (by simp [e])
  · exact .inr ⟨by simpa using e, h e⟩

end Go.Proofs.Ytfnaeblbodfekaa

/- The contracts of helloMayBe and shipMayBe (the program's). -/
namespace Go.Proofs.Ytfnaeblbodfekaa
open Go.RowKit
set_option linter.unusedVariables false

/-- What helloMayBe asks. -/
def HelP (m : Mw) : Prop := 1 ≤ m.r ∧ m.r ≤ 3 ∧ Sm.Ok m.ss m.n ∧ Sm.lst m.ss ≤ m.e
/-- What shipMayBe asks. -/
def ShpP (m : Mw) : Prop := 1 ≤ m.f ∧ m.f ≤ 1048576 ∧ 0 ≤ m.p ∧ m.p ≤ m.e ∧ (m.p = 0 ↔ m.f = 1) ∧ m.cs.length ≤ 4 ∧ (∀ c ∈ cvs m.cs, c.e ≤ m.e) ∧ Cm.Good m.p (m.f - 1) (cvs m.cs)

/-- An answer and what it says. -/
def Yes (ans : Bool) (p : Prop) : Prop := ans = true ↔ p
theorem Yes.no {ans : Bool} {p : Prop} (h : Yes ans p) (hp : ¬ p) : ans = false := by
  cases ans
  · rfl
  · exact absurd (h.1 rfl) hp
theorem Yes.yes {ans : Bool} {p : Prop} (h : Yes ans p) (hp : p) : ans = true := h.2 hp
theorem yes_of (p : Prop) : ∃ ans, Yes ans p := by
  by_cases h : p
  · exact ⟨true, by simp [Yes, h]⟩
  · exact ⟨false, by simp [Yes, h]⟩
theorem Yes.dec {ans : Bool} {p q : Prop} [d : Decidable q] (h : Yes ans p) (h1 : q → p) (h2 : p → q) : ans = decide q := by
  by_cases hp : q
  · rw [h.yes (h1 hp), decide_eq_true hp]
  · rw [h.no fun k => hp (h2 k), decide_eq_false hp]

set_option maxHeartbeats 2000000 in
theorem helloMayBe_any (m : Mw) (ans : Bool) (w : World) (hi : IsM w m) (hf : FitM m) (he : 0 ≤ m.e) (h : Yes ans (HelP m)) :
    Calls Try.prog 71 #[mv m] w fun E w' => E = .returned (.bool ans) ∧ Below w.heap.size w w' := by
  have NO : Hid (¬ HelP m → ans = false) := hide fun k => h.no k
  have YE : Hid (HelP m → ans = true) := hide fun k => h.yes k
  have HD : Hid (Yes ans (HelP m)) := hide h
  unfold mv
  obtain ⟨w1, hw1, sz1, bel1, hA⟩ := newm w m
  have A1 := hide hA
  obtain ⟨c0, c1, c2, c3, c4, c5, c6, c7⟩ := hA.ei
  have i1 := hide (hi.s.below bel1)
  have hl := hf.ls
  have X := hide (fun (W : World) (k : RowS W m.vs m.ss) => scheck_any m.vs m.ss m.n W k hl)
  obtain ⟨ck, hck⟩ : ∃ c, Sm.chk m.ss m.n = c := ⟨_, rfl⟩
  rw [hck] at X
  have HC := hide hck
  clear hck h hA hi
  go_enter Try.func71, Try.ntmps71
  by_cases h1 : m.r < 1
  · obtain rfl := NO.out fun k => by have := k.1; omega
    go_wp2
    go_ret
    exact ⟨rfl, bel1⟩
  by_cases h2 : 3 < m.r
  · obtain rfl := NO.out fun k => by have := k.2.1; omega
    go_wp2
    go_ret
    exact ⟨rfl, bel1⟩
  go_wp2_with fail
  refine (X.out _ i1.out).mono ?_
  rintro E w2 ⟨rfl, bel2⟩
  have sz2 := bel2.size
  have bel02 := bel1.trans (bel2.mono (by omega))
  clear c0 c1 c2 c3 c4 c5 c6 c7
  by_cases h3 : ck = 0
  · subst h3
    have hok := Sm.chk_zero.1 HC.out
    have HOK := hide hok
    clear hok
    obtain ⟨c0, c1, c2, c3, c4, c5, c6, c7⟩ := (A1.out.below bel2).ei
    have i2 := i1.out.below bel2
    by_cases hz : m.ss.length = 0
    · have hn : m.ss = [] := List.eq_nil_of_length_eq_zero hz
      obtain rfl := YE.out ⟨by omega, by omega, HOK.out, by rw [hn]; exact he⟩
      obtain ⟨ao, cap, hv, _, _⟩ := i2.shape
      rw [hv, hz] at c4
      clear hn hz hv i2 hw1
      go_wp2
      go_quiet (fail)
      go_wp2
      go_ret
      exact ⟨rfl, below_drewN bel02 _⟩
    · obtain ⟨b, off, cap, hv, _, _, hB, hc⟩ := rowS_full i2 (by omega)
      obtain ⟨s, hs⟩ := at_of (l := m.ss) (k := m.ss.length - 1) (by omega)
      obtain ⟨d0, d1⟩ := hc _ _ hs
      have hq : ans = decide (s.1 ≤ m.e) := HD.out.dec (fun hx => ⟨by omega, by omega, HOK.out, by rw [Sm.lst_at hs]; exact hx⟩) (fun k => by have := k.2.2.2; rw [Sm.lst_at hs] at this; exact this)
      subst hq
      rw [hv] at c4
      generalize hn : m.ss.length = n at *
      obtain ⟨k, hk⟩ : ∃ k, n - 1 = k := ⟨_, rfl⟩
      rw [hk] at d0 d1
      have hne : ((n : Int) == 0) = false := by simp; omega
      have hsub : (n : Int) - 1 = (k : Int) := by omega
      have hk1 : (k : Int) < (n : Int) := by omega
      clear hv hc hs hn hz NO YE HD i2 hw1 X HC HOK hk
      go_wp2
      have hk1 : (k : Int) < (n : Int) := by omega
      go_big_quiet (fail)
      go_wp2
      go_ret
      exact ⟨rfl, below_drewN bel02 _⟩
  · have h3' : (ck != 0) = true := by simpa using h3
    obtain rfl := NO.out fun k => h3 (by rw [← HC.out]; exact Sm.chk_zero.2 k.2.2.1)
    clear h3
    go_wp2
    go_ret
    exact ⟨rfl, bel02⟩

/-- Epochs of commits that follow never fall. -/
theorem good_le : ∀ (l : List Cm.Cv) (ep nu : Int), Cm.Good ep nu l → ep ≤ Cm.lastE ep l ∧ ∀ c ∈ l, c.e ≤ Cm.lastE ep l
  | [], ep, nu, _ => ⟨Int.le_refl _, fun c hc => by simp at hc⟩
  | c :: r, ep, nu, ⟨h1, h2, h3, h4⟩ => by
    obtain ⟨g1, g2⟩ := good_le r c.e c.n h4
    refine ⟨Int.le_trans h3 g1, fun d hd => ?_⟩
    rcases List.mem_cons.1 hd with rfl | hd
    · exact g1
    · exact g2 d hd

theorem last_of : ∀ (l : List Cm.Cv) (ep : Int) (c : Cm.Cv), l[l.length - 1]? = some c → Cm.lastE ep l = c.e
  | [], _, _, h => by simp at h
  | [x], ep, c, h => by simp at h; subst h; rfl
  | x :: y :: r, ep, c, h => by
    have := last_of (y :: r) x.e c (by simpa using h)
    exact this

theorem bool_ne {x y : Bool} (p q : Prop) (hx : Yes x p) (hy : Yes y q) (h : p ↔ q) : (x != y) = false := by
  have : x = y := by
    cases x <;> cases y <;> simp_all [Yes]
  simp [this]

theorem bool_ne' {x y : Bool} (p q : Prop) (hx : Yes x p) (hy : Yes y q) (h : ¬ (p ↔ q)) : (x != y) = true := by
  cases x <;> cases y <;> simp_all [Yes]

theorem beq_two (x y : Int) (z u : Int) : ((x = z ↔ y = u) ∧ ∃ b, (x == z) = b ∧ (y == u) = b) ∨ (¬ (x = z ↔ y = u) ∧ ∃ b, (x == z) = b ∧ (y == u) = !b) := by
  by_cases h1 : x = z <;> by_cases h2 : y = u
  · exact .inl ⟨by simp [h1, h2], true, by simp [h1], by simp [h2]⟩
  · exact .inr ⟨by simp [h1, h2], true, by simp [h1], by simpa using h2⟩
  · exact .inr ⟨by simp [h1, h2], false, by simpa using h1, by simp [h2]⟩
  · exact .inl ⟨by simp [h1, h2], false, by simpa using h1, by simpa using h2⟩

end Go.Proofs.Ytfnaeblbodfekaa

/- The contract of shipMayBe (the program's). -/
namespace Go.Proofs.Ytfnaeblbodfekaa
open Go.RowKit
set_option linter.unusedVariables false

set_option maxRecDepth 100000 in
set_option maxHeartbeats 1000000 in
theorem shipMayBe_any (m : Mw) (ans : Bool) (w : World) (hi : IsM w m) (hf : FitM m) (h : Yes ans (ShpP m)) :
    Calls Try.prog 72 #[mv m] w fun E w' => E = .returned (.bool ans) ∧ Below w.heap.size w w' := by
  have NO : Hid (¬ ShpP m → ans = false) := hide fun k => h.no k
  have HD : Hid (Yes ans (ShpP m)) := hide h
  unfold mv
  obtain ⟨w1, hw1, sz1, bel1, hA⟩ := newm w m
  have A1 := hide hA
  obtain ⟨c0, c1, c2, c3, c4, c5, c6, c7⟩ := hA.ei
  have i1 := hide (hi.c.below bel1)
  have hl := hf.lc
  have HF := hide hf.fc
  have ff := hf.f
  have X := hide (fun (W : World) (k : IsC W m.vc m.cs) => cfol_any m.p (m.f - 1) m.vc m.cs W k HF.out hl)
  have C := hide (isC_cells i1.out)
  obtain ⟨ao, cap, hv, _, _⟩ := i1.out.1.shape
  have i1' : Hid (IsC w1 m.vc m.cs) := i1
  rw [hv] at c7 hw1 X C i1'
  rw [hv]
  have A2 : Hid (∀ W, Below w1.heap.size w1 W → Ei W w.heap.size (.int .i64 m.k) (.int .i64 m.e) (.int .u8 m.r) (.int .i64 m.n) m.vs (.int .i64 m.f) (.int .i64 m.p) (.slice ao m.cs.length cap)) := hide fun W hb => by
    have := (A1.out.below hb).ei
    rw [hv] at this
    exact this
  generalize hn : m.cs.length = n at *
  have HN := hide hn
  clear h hA hi hf hv i1 A1 hn
  go_enter Try.func72, Try.ntmps72
  by_cases h1 : m.f < 1
  · obtain rfl := NO.out fun k => by have := k.1; omega
    go_wp2
    go_ret
    exact ⟨rfl, bel1⟩
  by_cases h2 : 1048576 < m.f
  · obtain rfl := NO.out fun k => by have := k.2.1; omega
    go_wp2
    go_ret
    exact ⟨rfl, bel1⟩
  by_cases h3 : m.p < 0
  · obtain rfl := NO.out fun k => by have := k.2.2.1; omega
    go_wp2
    go_ret
    exact ⟨rfl, bel1⟩
  by_cases h4 : m.e < m.p
  · obtain rfl := NO.out fun k => by have := k.2.2.2.1; omega
    go_wp2
    go_ret
    exact ⟨rfl, bel1⟩
  rcases beq_two m.p m.f 0 1 with ⟨hbb, bb, q1, q2⟩ | ⟨hbb, bb, q1, q2⟩
  rotate_left
  · obtain rfl := NO.out fun k => hbb k.2.2.2.2.1
    clear hbb
    cases bb
    · have q3 : (m.f == 1) = true := q2
      clear q2
      go_wp2
      go_ret
      exact ⟨rfl, bel1⟩
    · have q3 : (m.f == 1) = false := q2
      clear q2
      go_wp2
      go_ret
      exact ⟨rfl, bel1⟩
  have HB := hide hbb
  have hbn : (bb != bb) = false := by simp
  clear hbb
  by_cases h5 : 4 < n
  · obtain rfl := NO.out fun k => by have := k.2.2.2.2.2.1; have := HN.out; omega
    clear X
    have h5' : (4 : Int) < n := by omega
    go_wp2
    go_ret
    exact ⟨rfl, bel1⟩
  have h5' : ¬ (4 : Int) < n := by omega
  go_wp2_with fail
  refine (X.out _ i1'.out).mono ?_
  rintro E w2 ⟨rfl, bel2⟩
  have sz2 := bel2.size
  have bel02 := bel1.trans (bel2.mono (by omega))
  clear c0 c1 c2 c3 c4 c5 c6 c7 hw1 X
  obtain ⟨c0, c1, c2, c3, c4, c5, c6, c7⟩ := A2.out _ bel2
  clear A2
  have hft := fol_two (cvs m.cs) m.p (m.f - 1)
  have hgd := Try.guardF
  unfold flv
  rcases hft with ⟨hg, hfo⟩ | ⟨hg, hfo⟩
  rotate_left
  · obtain rfl := NO.out fun k => hg k.2.2.2.2.2.2.2
    have hnq := Try.neqF (Cm.fol m.p (m.f - 1) 0 (cvs m.cs)).1 (Cm.fol m.p (m.f - 1) 0 (cvs m.cs)).2 0 0
    rw [show ((Cm.fol m.p (m.f - 1) 0 (cvs m.cs)).1 == 0 && (Cm.fol m.p (m.f - 1) 0 (cvs m.cs)).2 == 0) = false by simp [hfo]] at hnq
    generalize (Cm.fol m.p (m.f - 1) 0 (cvs m.cs)).1 = x1 at *
    generalize (Cm.fol m.p (m.f - 1) 0 (cvs m.cs)).2 = x2 at *
    clear hg hfo
    go_wp2
    go_ret
    exact ⟨rfl, bel02⟩
  rw [hfo]
  have hnq := Try.neqF 0 0 0 0
  rw [show ((0 : Int) == 0 && (0 : Int) == 0) = true from rfl] at hnq
  have HG := hide hg
  clear hfo hg
  by_cases hz : n = 0
  · have hn : m.cs = [] := List.eq_nil_of_length_eq_zero (by have := HN.out; omega)
    obtain rfl := HD.out.yes ⟨by omega, by omega, by omega, by omega, HB.out, by have := HN.out; omega, fun c hc => by rw [hn] at hc; simp [cvs] at hc, HG.out⟩
    have hz' : ((n : Int) == 0) = true := by simp [hz]
    clear hn hz
    go_wp2
    go_quiet (fail)
    go_wp2
    go_ret
    exact ⟨rfl, below_drewN bel02 _⟩
  · obtain ⟨b, off, cap', hv', hB', hc⟩ := C.out (by have := HN.out; omega)
    simp only [Value.slice.injEq, true_and] at hv'
    obtain ⟨rfl, rfl⟩ := hv'
    obtain ⟨s, hs⟩ := at_of (l := m.cs) (k := n - 1) (by have := HN.out; omega)
    obtain ⟨d0, d1, d2⟩ := row_at hc bel2 hB' hs
    have hla : Cm.lastE m.p (cvs m.cs) = s.e := last_of (cvs m.cs) m.p s.c (by rw [cvs_length, HN.out, cvs_get, hs]; rfl)
    have hq : ans = decide (s.e ≤ m.e) := HD.out.dec (fun hx => ⟨by omega, by omega, by omega, by omega, HB.out, by have := HN.out; omega, fun c hc => by have := (good_le _ _ _ HG.out).2 c hc; omega, HG.out⟩) (fun k => k.2.2.2.2.2.2.1 s.c (by unfold cvs; exact List.mem_map_of_mem (List.mem_of_getElem? hs)))
    subst hq
    obtain ⟨k, hk⟩ : ∃ k, n - 1 = k := ⟨_, rfl⟩
    rw [hk] at d0 d1 d2
    have hne : ((n : Int) == 0) = false := by simp; omega
    have hsub : (n : Int) - 1 = (k : Int) := by omega
    have hk1 : (k : Int) < (n : Int) := by omega
    clear hc hs hz NO HD HG HB hla hk C i1'
    go_wp2
    have hk1 : (k : Int) < (n : Int) := by omega
    go_big_quiet (fail)
    go_wp2
    go_ret
    exact ⟨rfl, below_drewN bel02 _⟩

end Go.Proofs.Ytfnaeblbodfekaa
