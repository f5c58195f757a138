/- The contracts of the functions that compare rows of ops. -/
import Derived.Test.YtgcdibglkbfjdaaGreatDoorBk
import Derived.Laws.StructEq
namespace Go.Proofs.YtgcdibglkbfjdaaGreatDoor
open Go.RowKit
set_option linter.unusedVariables false

theorem Tryz.guardO (op : BinOp) (x y : Operand) (xs ys : Array Value) (w : World) : (eqGuard op 77 x y (.agg xs) (.agg ys)).run Tryz.prog w = .ok () w := run_eqGuard_agg w op 77 x y xs ys (by kernel_rfl)

theorem Tryz.fieldsO : (Tryz.prog.fieldsOf 77).toList.map (fun f => (f.type, f.offset)) = [(4, 0), (9, 1), (9, 2)] := by kernel_rfl

theorem Tryz.neqO (o q : Bm.Ov) (w : World) : (binOp .neq 77 (.agg #[.bool o.p, .string o.k, .string o.v]) (.agg #[.bool q.p, .string q.k, .string q.v])).run Tryz.prog w = .ok (.bool (!Bm.eqO o q)) w := by
  rw [run_neq_struct, run_equalIn_agg w 9999 77 _ _ (by kernel_rfl) (by kernel_rfl)]
  unfold Program.fieldsOf
  rw [Tryz.underlying77]
  simp [Op.eqFields, go_sem, Tryz.underlying4, Tryz.underlying9]
  unfold Bm.eqO Bm.Ov.kl Bm.Ov.vl
  simp only [Lib.toList_data]
  by_cases h1 : o.p = q.p <;> by_cases h2 : o.k.data.toList = q.k.data.toList <;> by_cases h3 : o.v.data.toList = q.v.data.toList <;> simp [h1, h2, h3]

set_option maxHeartbeats 400000 in
theorem sameO_quiet (va vb : Value) (xs ys : List Bm.Ov) (w : World) (ha : IsO w va xs) (hb : IsO w vb ys) (hl : xs.length ≤ 140737488355328) (hl' : ys.length ≤ 140737488355328) :
    Calls Tryz.prog 25 #[va, vb] w fun e w' => e = .returned (.bool (Bm.sameL xs ys)) ∧ ∃ m, w' = w.drewN m := by
  by_cases hne : xs.length = ys.length
  · by_cases hz : 0 < xs.length
    · obtain ⟨b1, o1, c1, rfl, _, _, hB1, hc1⟩ := ha.full hz
      obtain ⟨b2, o2, c2, rfl, _, _, hB2, hc2⟩ := hb.full (by omega)
      have ht : ((xs.length : Int) != (ys.length : Int)) = false := by simp; omega
      have HL := hide hne
      have HC1 := hide hc1
      have HC2 := hide hc2
      clear hne ha hb hc1 hc2
      generalize hn : xs.length = n at *
      generalize hm : ys.length = m at *
      have HN := hide hn
      have HM := hide hm
      clear hn hm
      go_enter Tryz.func25, Tryz.ntmps25
      go_wp2
      go_loopw [5] (fun i wr => ∃ (k : Nat), k ≤ n ∧ i = .int .i64 k ∧ Hid (xs.take k = ys.take k) ∧ ∃ m, wr = w.drewN m) (fun i _ => n - (intOf i).toNat)
      case atStart => exact ⟨0, by omega, rfl, hide rfl, 0, rfl⟩
      case round =>
        obtain ⟨k, hk, rfl, HT, mm, rfl⟩ := hrel
        by_cases hlt : k < n
        · obtain ⟨o, ho⟩ : ∃ o, xs[k]? = some o := ⟨xs[k]'(by have := HN.out; omega), by rw [List.getElem?_eq_getElem]⟩
          obtain ⟨q, hq⟩ : ∃ q, ys[k]? = some q := ⟨ys[k]'(by have := HM.out; have := HL.out; omega), by rw [List.getElem?_eq_getElem]⟩
          obtain ⟨d0, d1, d2⟩ := HC1.out k o ho
          obtain ⟨e0, e1, e2⟩ := HC2.out k q hq
          have hlt' : (k : Int) < n := by omega
          have hlt2 : (k : Int) < m := by have := HL.out; omega
          have HO := hide ho
          have HQ := hide hq
          clear ho hq
          have hnq := Tryz.neqO o q
          have hgd := Tryz.guardO
          cases hoq : Bm.eqO o q
          · have HS : Hid (Bm.sameL xs ys = false) := hide (Bm.sameL_no fun e => by
              have h1 := HO.out
              rw [e, HQ.out] at h1
              rw [Bm.eqO_iff.2 (Option.some.inj h1.symm)] at hoq
              simp at hoq)
            rw [hoq] at hnq
            clear hoq
            go_wp2
            go_quiet (fail)
            go_wp2
            go_ret
            refine ⟨?_, _, World.drewN_drewN _ _ _⟩
            rw [HS.out]
            rfl
          · have HT2 : Hid (xs.take (k + 1) = ys.take (k + 1)) := hide (by
              rw [List.take_add_one, List.take_add_one, HT.out, HO.out, HQ.out, Bm.eqO_iff.1 hoq])
            rw [hoq] at hnq
            clear hoq
            go_wp2
            go_quiet (fail)
            go_wp2
            go_roundw
            case rel => exact ⟨k + 1, by omega, by go_num, HT2, _, rfl⟩
            case measure => simp [intOf]; omega
        · have hlt' : ¬ (k : Int) < n := by omega
          have HS : Hid (Bm.sameL xs ys = true) := hide (Bm.sameL_iff.2 (by
            have h1 := HT.out
            rw [List.take_of_length_le (by have := HN.out; omega), List.take_of_length_le (by have := HN.out; have := HM.out; have := HL.out; omega)] at h1
            exact h1))
          go_wp2
          go_ret
          refine ⟨?_, mm, rfl⟩
          rw [HS.out]
          rfl
    · have hx : xs = [] := List.eq_nil_of_length_eq_zero (by omega)
      have hy : ys = [] := List.eq_nil_of_length_eq_zero (by omega)
      subst hx hy
      obtain ⟨a1, c1, rfl⟩ := ha.bare
      obtain ⟨a2, c2, rfl⟩ := hb.bare
      clear hl hl' hne hz ha hb
      go_enter Tryz.func25, Tryz.ntmps25
      go_wp2
      refine wp_loop_rounds 1 ?_
      rw [rounds_succ]
      go_wp2
      go_ret
      exact ⟨by simp [Bm.sameL], 0, rfl⟩
  · obtain ⟨a1, c1, rfl, _, _⟩ := ha.shape
    obtain ⟨a2, c2, rfl, _, _⟩ := hb.shape
    have ht : ((xs.length : Int) != (ys.length : Int)) = true := by simp; omega
    have HX : Hid (Bm.sameL xs ys = false) := hide (Bm.sameL_no fun h => hne (by rw [h]))
    clear hne
    go_enter Tryz.func25, Tryz.ntmps25
    go_wp2
    go_ret
    exact ⟨by rw [HX.out]; rfl, 0, rfl⟩

theorem sameO_any (va vb : Value) (xs ys : List Bm.Ov) (w : World) (ha : IsO w va xs) (hb : IsO w vb ys) (hl : xs.length ≤ 140737488355328) (hl' : ys.length ≤ 140737488355328) :
    Calls Tryz.prog 25 #[va, vb] w fun e w' => e = .returned (.bool (Bm.sameL xs ys)) ∧ Below w.heap.size w w' :=
  (sameO_quiet va vb xs ys w ha hb hl hl').mono (by rintro e w' ⟨rfl, m, rfl⟩; exact ⟨rfl, below_drewN (Below.refl _ _) m⟩)

end Go.Proofs.YtgcdibglkbfjdaaGreatDoor
