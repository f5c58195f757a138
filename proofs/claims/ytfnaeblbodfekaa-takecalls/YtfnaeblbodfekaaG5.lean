/- Texts of one layer, one behind the other. -/
import Derived.Test.YtfnaeblbodfekaaG3
import Derived.Laws.StructEq
import Derived.Test.YtfnaeblbodfekaaG4
import Derived.Test.YtfnaeblbodfekaaG2
/- The contracts of the functions that compare rows of ops. -/
namespace Go.Proofs.Ytfnaeblbodfekaa
open Go.RowKit
set_option linter.unusedVariables false

theorem Try.guardO (op : BinOp) (x y : Operand) (xs ys : Array Value) (w : World) : (eqGuard op 59 x y (.agg xs) (.agg ys)).run Try.prog w = .ok () w := run_eqGuard_agg w op 59 x y xs ys (by kernel_rfl)

theorem Try.fieldsO : (Try.prog.fieldsOf 59).toList.map (fun f => (f.type, f.offset)) = [(4, 0), (9, 1), (9, 2)] := by kernel_rfl

theorem Try.neqO (o q : Bm.Ov) (w : World) : (binOp .neq 59 (.agg #[.bool o.p, .string o.k, .string o.v]) (.agg #[.bool q.p, .string q.k, .string q.v])).run Try.prog w = .ok (.bool (!Bm.eqO o q)) w := by
  rw [run_neq_struct, run_equalIn_agg w 9999 59 _ _ (by kernel_rfl) (by kernel_rfl)]
  unfold Program.fieldsOf
  rw [Try.underlying59]
  simp [Op.eqFields, go_sem, Try.underlying4, Try.underlying9]
  unfold Bm.eqO Bm.Ov.kl Bm.Ov.vl
  simp only [Lib.toList_data]
  by_cases h1 : o.p = q.p <;> by_cases h2 : o.k.data.toList = q.k.data.toList <;> by_cases h3 : o.v.data.toList = q.v.data.toList <;> simp [h1, h2, h3]

set_option maxHeartbeats 400000 in
theorem sameO_quiet (va vb : Value) (xs ys : List Bm.Ov) (w : World) (ha : IsO w va xs) (hb : IsO w vb ys) (hl : xs.length ≤ 140737488355328) (hl' : ys.length ≤ 140737488355328) :
    Calls Try.prog 58 #[va, vb] w fun e w' => e = .returned (.bool (Bm.sameL xs ys)) ∧ ∃ m, w' = w.drewN m := by
  by_cases hne : xs.length = ys.length
  · by_cases hz : 0 < xs.length
    · obtain ⟨b1, o1, c1, rfl, _, _, hB1, hc1⟩ := ha.full hz
      obtain ⟨b2, o2, c2, rfl, _, _, hB2, hc2⟩ := hb.full (by omega)
      have ht : ((xs.length : Int) != (ys.length : Int)) = false := by simp; omega
      have HL := hide hne
      have HC1 := hide hc1
      have HC2 := hide hc2
      clear hne ha hb hc1 hc2
      generalize hn : xs.length = n at *
      generalize hm : ys.length = m at *
      have HN := hide hn
      have HM := hide hm
      clear hn hm
      go_enter Try.func58, Try.ntmps58
      go_wp2
      go_loopw [5] (fun i wr => ∃ (k : Nat), k ≤ n ∧ i = .int .i64 k ∧ Hid (xs.take k = ys.take k) ∧ ∃ m, wr = w.drewN m) (fun i _ => n - (intOf i).toNat)
      case atStart => exact ⟨0, by omega, rfl, hide rfl, 0, rfl⟩
      case round =>
        obtain ⟨k, hk, rfl, HT, mm, rfl⟩ := hrel
        by_cases hlt : k < n
        · obtain ⟨o, ho⟩ : ∃ o, xs[k]? = some o := ⟨xs[k]'(by have := HN.out; omega), by rw [List.getElem?_eq_getElem]⟩
          obtain ⟨q, hq⟩ : ∃ q, ys[k]? = some q := ⟨ys[k]'(by have := HM.out; have := HL.out; omega), by rw [List.getElem?_eq_getElem]⟩
          obtain ⟨d0, d1, d2⟩ := HC1.out k o ho
          obtain ⟨e0, e1, e2⟩ := HC2.out k q hq
          have hlt' : (k : Int) < n := by omega
          have hlt2 : (k : Int) < m := by have := HL.out; omega
          have HO := hide ho
          have HQ := hide hq
          clear ho hq
          have hnq := Try.neqO o q
          have hgd := Try.guardO
          cases hoq : Bm.eqO o q
          · have HS : Hid (Bm.sameL xs ys = false) := hide (Bm.sameL_no fun e => by
              have h1 := HO.out
              rw [e, HQ.out] at h1
              rw [Bm.eqO_iff.2 (Option.some.inj h1.symm)] at hoq
              simp at hoq)
            rw [hoq] at hnq
            clear hoq
            go_wp2
            go_quiet (fail)
            go_wp2
            go_ret
            refine ⟨?_, _, World.drewN_drewN _ _ _⟩
            rw [HS.out]
            rfl
          · have HT2 : Hid (xs.take (k + 1) = ys.take (k + 1)) := hide (by
              rw [List.take_add_one, List.take_add_one, HT.out, HO.out, HQ.out, Bm.eqO_iff.1 hoq])
            rw [hoq] at hnq
            clear hoq
            go_wp2
            go_quiet (fail)
            go_wp2
            go_roundw
            case rel => exact ⟨k + 1, by omega, by go_num, HT2, _, rfl⟩
            case measure => simp [intOf]; omega
        · have hlt' : ¬ (k : Int) < n := by omega
          have HS : Hid (Bm.sameL xs ys = true) := hide (Bm.sameL_iff.2 (by
            have h1 := HT.out
            rw [List.take_of_length_le (by have := HN.out; omega), List.take_of_length_le (by have := HN.out; have := HM.out; have := HL.out; omega)] at h1
            exact h1))
          go_wp2
          go_ret
          refine ⟨?_, mm, rfl⟩
          rw [HS.out]
          rfl
    · have hx : xs = [] := List.eq_nil_of_length_eq_zero (by omega)
      have hy : ys = [] := List.eq_nil_of_length_eq_zero (by omega)
      subst hx hy
      obtain ⟨a1, c1, rfl⟩ := ha.bare
      obtain ⟨a2, c2, rfl⟩ := hb.bare
      clear hl hl' hne hz ha hb
      go_enter Try.func58, Try.ntmps58
      go_wp2
      refine wp_loop_rounds 1 ?_
      rw [rounds_succ]
      go_wp2
      go_ret
      exact ⟨by simp [Bm.sameL], 0, rfl⟩
  · obtain ⟨a1, c1, rfl, _, _⟩ := ha.shape
    obtain ⟨a2, c2, rfl, _, _⟩ := hb.shape
    have ht : ((xs.length : Int) != (ys.length : Int)) = true := by simp; omega
    have HX : Hid (Bm.sameL xs ys = false) := hide (Bm.sameL_no fun h => hne (by rw [h]))
    clear hne
    go_enter Try.func58, Try.ntmps58
    go_wp2
    go_ret
    exact ⟨by rw [HX.out]; rfl, 0, rfl⟩

theorem sameO_any (va vb : Value) (xs ys : List Bm.Ov) (w : World) (ha : IsO w va xs) (hb : IsO w vb ys) (hl : xs.length ≤ 140737488355328) (hl' : ys.length ≤ 140737488355328) :
    Calls Try.prog 58 #[va, vb] w fun e w' => e = .returned (.bool (Bm.sameL xs ys)) ∧ Below w.heap.size w w' :=
  (sameO_quiet va vb xs ys w ha hb hl hl').mono (by rintro e w' ⟨rfl, m, rfl⟩; exact ⟨rfl, below_drewN (Below.refl _ _) m⟩)

set_option maxHeartbeats 400000 in
theorem equalO_quiet (va vb : Value) (xs ys : List Bm.Ov) (w : World) (ha : IsO w va xs) (hb : IsO w vb ys) (hl : xs.length ≤ 140737488355328) (hl' : ys.length ≤ 140737488355328) :
    Calls Try.prog 64 #[va, vb] w fun e w' => e = .returned (.bool (Bm.sameL xs ys)) ∧ ∃ m, w' = w.drewN m := by
  by_cases hne : xs.length = ys.length
  · by_cases hz : 0 < xs.length
    · obtain ⟨b1, o1, c1, rfl, _, _, hB1, hc1⟩ := ha.full hz
      obtain ⟨b2, o2, c2, rfl, _, _, hB2, hc2⟩ := hb.full (by omega)
      have ht : ((xs.length : Int) != (ys.length : Int)) = false := by simp; omega
      have HL := hide hne
      have HC1 := hide hc1
      have HC2 := hide hc2
      clear hne ha hb hc1 hc2
      generalize hn : xs.length = n at *
      generalize hm : ys.length = m at *
      have HN := hide hn
      have HM := hide hm
      clear hn hm
      go_enter Try.func64, Try.ntmps64
      go_wp2
      go_loopw [13] (fun i wr => ∃ (k : Nat), k ≤ n ∧ i = .int .i64 k ∧ Hid (xs.take k = ys.take k) ∧ ∃ m, wr = w.drewN m) (fun i _ => n - (intOf i).toNat)
      case atStart => exact ⟨0, by omega, rfl, hide rfl, 0, rfl⟩
      case round =>
        obtain ⟨k, hk, rfl, HT, mm, rfl⟩ := hrel
        by_cases hlt : k < n
        · obtain ⟨o, ho⟩ : ∃ o, xs[k]? = some o := ⟨xs[k]'(by have := HN.out; omega), by rw [List.getElem?_eq_getElem]⟩
          obtain ⟨q, hq⟩ : ∃ q, ys[k]? = some q := ⟨ys[k]'(by have := HM.out; have := HL.out; omega), by rw [List.getElem?_eq_getElem]⟩
          obtain ⟨d0, d1, d2⟩ := HC1.out k o ho
          obtain ⟨e0, e1, e2⟩ := HC2.out k q hq
          have hlt' : (k : Int) < n := by omega
          have hlt2 : (k : Int) < m := by have := HL.out; omega
          have HO := hide ho
          have HQ := hide hq
          clear ho hq
          have hnq := Try.neqO o q
          have hgd := Try.guardO
          cases hoq : Bm.eqO o q
          · have HS : Hid (Bm.sameL xs ys = false) := hide (Bm.sameL_no fun e => by
              have h1 := HO.out
              rw [e, HQ.out] at h1
              rw [Bm.eqO_iff.2 (Option.some.inj h1.symm)] at hoq
              simp at hoq)
            rw [hoq] at hnq
            clear hoq
            go_wp2
            go_quiet (fail)
            go_wp2
            go_ret
            refine ⟨?_, _, World.drewN_drewN _ _ _⟩
            rw [HS.out]
            rfl
          · have HT2 : Hid (xs.take (k + 1) = ys.take (k + 1)) := hide (by
              rw [List.take_add_one, List.take_add_one, HT.out, HO.out, HQ.out, Bm.eqO_iff.1 hoq])
            rw [hoq] at hnq
            clear hoq
            go_wp2
            go_quiet (fail)
            go_wp2
            go_roundw
            case rel => exact ⟨k + 1, by omega, by go_num, HT2, _, rfl⟩
            case measure => simp [intOf]; omega
        · have hlt' : ¬ (k : Int) < n := by omega
          have HS : Hid (Bm.sameL xs ys = true) := hide (Bm.sameL_iff.2 (by
            have h1 := HT.out
            rw [List.take_of_length_le (by have := HN.out; omega), List.take_of_length_le (by have := HN.out; have := HM.out; have := HL.out; omega)] at h1
            exact h1))
          go_wp2
          go_ret
          refine ⟨?_, mm, rfl⟩
          rw [HS.out]
          rfl
    · have hx : xs = [] := List.eq_nil_of_length_eq_zero (by omega)
      have hy : ys = [] := List.eq_nil_of_length_eq_zero (by omega)
      subst hx hy
      obtain ⟨a1, c1, rfl⟩ := ha.bare
      obtain ⟨a2, c2, rfl⟩ := hb.bare
      clear hl hl' hne hz ha hb
      go_enter Try.func64, Try.ntmps64
      go_wp2
      refine wp_loop_rounds 1 ?_
      rw [rounds_succ]
      go_wp2
      go_ret
      exact ⟨by simp [Bm.sameL], 0, rfl⟩
  · obtain ⟨a1, c1, rfl, _, _⟩ := ha.shape
    obtain ⟨a2, c2, rfl, _, _⟩ := hb.shape
    have ht : ((xs.length : Int) != (ys.length : Int)) = true := by simp; omega
    have HX : Hid (Bm.sameL xs ys = false) := hide (Bm.sameL_no fun h => hne (by rw [h]))
    clear hne
    go_enter Try.func64, Try.ntmps64
    go_wp2
    go_ret
    exact ⟨by rw [HX.out]; rfl, 0, rfl⟩

theorem equalO_any (va vb : Value) (xs ys : List Bm.Ov) (w : World) (ha : IsO w va xs) (hb : IsO w vb ys) (hl : xs.length ≤ 140737488355328) (hl' : ys.length ≤ 140737488355328) :
    Calls Try.prog 64 #[va, vb] w fun e w' => e = .returned (.bool (Bm.sameL xs ys)) ∧ Below w.heap.size w w' :=
  (equalO_quiet va vb xs ys w ha hb hl hl').mono (by rintro e w' ⟨rfl, m, rfl⟩; exact ⟨rfl, below_drewN (Below.refl _ _) m⟩)

set_option maxHeartbeats 400000 in
theorem bsame_any (va vb : Value) (xs ys : List Bm.Ov) (w : World) (ha : IsO w va xs) (hb : IsO w vb ys) (hl : xs.length ≤ 140737488355328) (hl' : ys.length ≤ 140737488355328) :
    Calls Try.prog 45 #[va, vb] w fun e w' => e = .returned (.bool (Bm.sameL xs ys)) ∧ Below w.heap.size w w' := by
  go_enter Try.func45, Try.ntmps45
  go_wp2_with fail
  refine (equalO_any va vb xs ys _ ha hb hl hl').mono ?_
  rintro E w1 ⟨rfl, bel1⟩
  go_wp2
  go_ret
  exact ⟨rfl, bel1⟩

end Go.Proofs.Ytfnaeblbodfekaa

/- The contract of the document's Shared. -/
namespace Go.Proofs.Ytfnaeblbodfekaa
open Go.RowKit
set_option linter.unusedVariables false

end Go.Proofs.Ytfnaeblbodfekaa

/- The contract of the document's Check. -/
namespace Go.Proofs.Ytfnaeblbodfekaa
open Go.RowKit
set_option linter.unusedVariables false

set_option maxHeartbeats 400000 in
theorem checkR_any (p : Bool) (k v : ByteArray) (w : World) (hk : k.size ≤ 140737488351232) (hv : v.size ≤ 140737488351232) :
    Calls Try.prog 74 #[opv p k v] w fun E w' => E = .returned (.int .i64 (Om.chk p k.data.toList v.data.toList)) ∧ Below w.heap.size w w' := by
  unfold opv
  obtain ⟨c, hc⟩ : ∃ c, Om.chk p k.data.toList v.data.toList = c := ⟨_, rfl⟩
  rw [hc]
  have HC := hide hc
  clear hc
  cases p
  all_goals go_enter Try.func74, Try.ntmps74
  all_goals go_wp2
  all_goals go_ret
  all_goals refine ⟨ret_i64 ?_, (Below.refl _ _).alloc (Nat.le_refl _) _⟩
  all_goals rw [← HC.out, chk_size]
  all_goals clear HC
  all_goals generalize v.toList.isEmpty = q at *
  all_goals (cases q <;> simp_all <;> omega)

end Go.Proofs.Ytfnaeblbodfekaa

/- The contract of op's Append. -/
namespace Go.Proofs.Ytfnaeblbodfekaa
open Go.RowKit
set_option linter.unusedVariables false

theorem ret2 {v : Value} {a b : Int} (h : a = b) : Ending.returned (.tuple #[v, .int .i64 a]) = .returned (.tuple #[v, .int .i64 b]) := by rw [h]

end Go.Proofs.Ytfnaeblbodfekaa

/- The contracts of the document's Append, Read, Small. -/
namespace Go.Proofs.Ytfnaeblbodfekaa
open Go.RowKit
set_option linter.unusedVariables false

end Go.Proofs.Ytfnaeblbodfekaa

/- The contracts of the document's Put, Append. -/
namespace Go.Proofs.Ytfnaeblbodfekaa
open Go.RowKit
set_option linter.unusedVariables false

end Go.Proofs.Ytfnaeblbodfekaa

/- The contracts of the document's Check and Append of a batch. -/
namespace Go.Proofs.Ytfnaeblbodfekaa
open Go.RowKit
set_option linter.unusedVariables false

set_option maxHeartbeats 400000 in
theorem bcheckR_any (vl : Value) (l : List Bm.Ov) (w : World) (h : IsO w vl l) (hf : FitO l) (hl : l.length ≤ 140737488355328) :
    Calls Try.prog 67 #[vl] w fun E w' => E = .returned (.int .i64 (Bm.chkL l)) ∧ Below w.heap.size w w' := by
  by_cases h0 : l.length = 0
  · have : l = [] := List.eq_nil_of_length_eq_zero h0
    subst this
    obtain ⟨ao, cap, rfl⟩ := h.bare
    clear h hf hl h0
    go_enter Try.func67, Try.ntmps67
    go_wp2
    go_ret
    exact ⟨rfl, Below.refl _ _⟩
  · by_cases h8 : 8 < l.length
    · obtain ⟨ao, cap, rfl, _, _⟩ := h.shape
      rw [Bm.chkL_long h8]
      clear h hf
      have e0 : ((l.length : Int) == 0) = false := by rw [beq_eq_false_iff_ne]; omega
      have e8 : (8 : Int) < l.length := by omega
      go_enter Try.func67, Try.ntmps67
      go_wp2
      go_ret
      exact ⟨rfl, Below.refl _ _⟩
    · obtain ⟨b1, o1, c1, rfl, _, _, hB, hcell⟩ := h.full (by omega)
      rw [Bm.chkL_mid h0 h8]
      have e0 : ((l.length : Int) == 0) = false := by rw [beq_eq_false_iff_ne]; omega
      have e8 : ¬ (8 : Int) < l.length := by omega
      clear h
      generalize hn : l.length = n at *
      have HN := hide hn
      have HC := hide hcell
      have HF := hide hf
      clear hn hcell hf
      go_enter Try.func67, Try.ntmps67
      go_wp2
      go_loopw [3] (fun i wr => ∃ (k : Nat), k ≤ n ∧ i = .int .i64 k ∧ Hid (∀ q ∈ l.take k, q.c = 0) ∧ Below w.heap.size w wr) (fun i _ => n - (intOf i).toNat)
      case atStart => exact ⟨0, by omega, rfl, hide (by simp), Below.refl _ _⟩
      case round =>
        obtain ⟨k, hk, rfl, HT, bel⟩ := hrel
        by_cases hlt : k < n
        · obtain ⟨o, ho⟩ : ∃ o, l[k]? = some o := ⟨l[k]'(by have := HN.out; omega), by rw [List.getElem?_eq_getElem]⟩
          obtain ⟨c0, c1, c2⟩ := HC.out k o ho
          have sz := bel.size
          have d0 := (bel.cell (p := ⟨b1, o1 + k * 3, none⟩) hB).trans c0
          have d1 := (bel.cell (p := ⟨b1, o1 + k * 3 + 1, none⟩) hB).trans c1
          have d2 := (bel.cell (p := ⟨b1, o1 + k * 3 + 2, none⟩) hB).trans c2
          have HO := hide ho
          clear c0 c1 c2 ho
          have hlt' : (k : Int) < n := by omega
          obtain ⟨hk1, hv1⟩ := HF.out o (List.mem_of_getElem? HO.out)
          go_wp2_with fail
          refine (checkR_any o.p o.k o.v _ hk1 hv1).mono ?_
          rintro E w1 ⟨rfl, bel1⟩
          have bel2 : Below w.heap.size w w1 := bel.trans (bel1.mono sz)
          clear bel1 d0 d1 d2
          rcases (show Om.chk o.p o.k.data.toList o.v.data.toList = 0 ∨ _ from Om.chk_two _ _ _) with hc | hc
          · rw [hc]
            have HT2 := hide (first_take HT.out HO.out hc)
            clear hc
            go_wp2
            go_roundw
            case rel => exact ⟨k + 1, by omega, by go_num, HT2, bel2⟩
            case measure => simp [intOf]; omega
          · rw [hc]
            have HB := hide (Bm.first_bad (List.mem_of_getElem? HO.out) (show Bm.Ov.c o ≠ 0 by unfold Bm.Ov.c Bm.Ov.kl Bm.Ov.vl; rw [hc]; simp))
            clear hc
            go_wp2
            go_ret
            exact ⟨ret_i64 HB.out.symm, bel2⟩
        · have hkn : k = n := by omega
          have HB : Hid (Bm.first l = 0) := hide (Bm.first_all (fun q hq => HT.out q (by rw [List.take_of_length_le (by have := HN.out; omega)]; exact hq)))
          have hlt' : ¬ (k : Int) < n := by omega
          go_wp2
          go_ret
          exact ⟨ret_i64 HB.out.symm, bel⟩

end Go.Proofs.Ytfnaeblbodfekaa
