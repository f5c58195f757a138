/- Texts of one layer, one behind the other. -/
import Derived.Test.YtdlogcdpapknaaaGreatDoorZF
import Derived.Laws.StructEq
import Derived.Test.YtdlogcdpapknaaaGreatDoorSxr
import Derived.BigQuiet
import Derived.Deep.RegionHeld3
import Derived.Deep.QuietTactic
/- The contracts of the functions that compare rows of ops. -/
namespace Go.Proofs.YtdlogcdpapknaaaGreatDoor
open Go.RowKit
set_option linter.unusedVariables false

theorem Tryz.guardO (op : BinOp) (x y : Operand) (xs ys : Array Value) (w : World) : (eqGuard op 77 x y (.agg xs) (.agg ys)).run Tryz.prog w = .ok () w := run_eqGuard_agg w op 77 x y xs ys (by kernel_rfl)

theorem Tryz.fieldsO : (Tryz.prog.fieldsOf 77).toList.map (fun f => (f.type, f.offset)) = [(4, 0), (9, 1), (9, 2)] := by kernel_rfl

theorem Tryz.neqO (o q : Bm.Ov) (w : World) : (binOp .neq 77 (.agg #[.bool o.p, .string o.k, .string o.v]) (.agg #[.bool q.p, .string q.k, .string q.v])).run Tryz.prog w = .ok (.bool (!Bm.eqO o q)) w := by
  rw [run_neq_struct, run_equalIn_agg w 9999 77 _ _ (by kernel_rfl) (by kernel_rfl)]
  unfold Program.fieldsOf
  rw [Tryz.underlying77]
  simp [Op.eqFields, go_sem, Tryz.underlying4, Tryz.underlying9]
  unfold Bm.eqO Bm.Ov.kl Bm.Ov.vl
  simp only [Lib.toList_data]
  by_cases h1 : o.p = q.p <;> by_cases h2 : o.k.data.toList = q.k.data.toList <;> by_cases h3 : o.v.data.toList = q.v.data.toList <;> simp [h1, h2, h3]

set_option maxHeartbeats 400000 in
theorem sameO_quiet (va vb : Value) (xs ys : List Bm.Ov) (w : World) (ha : IsO w va xs) (hb : IsO w vb ys) (hl : xs.length ≤ 140737488355328) (hl' : ys.length ≤ 140737488355328) :
    Calls Tryz.prog 25 #[va, vb] w fun e w' => e = .returned (.bool (Bm.sameL xs ys)) ∧ ∃ m, w' = w.drewN m := by
  by_cases hne : xs.length = ys.length
  · by_cases hz : 0 < xs.length
    · obtain ⟨b1, o1, c1, rfl, _, _, hB1, hc1⟩ := ha.full hz
      obtain ⟨b2, o2, c2, rfl, _, _, hB2, hc2⟩ := hb.full (by omega)
      have ht : ((xs.length : Int) != (ys.length : Int)) = false := by simp; omega
      have HL := hide hne
      have HC1 := hide hc1
      have HC2 := hide hc2
      clear hne ha hb hc1 hc2
      generalize hn : xs.length = n at *
      generalize hm : ys.length = m at *
      have HN := hide hn
      have HM := hide hm
      clear hn hm
      go_enter Tryz.func25, Tryz.ntmps25
      go_wp2
      go_loopw [5] (fun i wr => ∃ (k : Nat), k ≤ n ∧ i = .int .i64 k ∧ Hid (xs.take k = ys.take k) ∧ ∃ m, wr = w.drewN m) (fun i _ => n - (intOf i).toNat)
      case atStart => exact ⟨0, by omega, rfl, hide rfl, 0, rfl⟩
      case round =>
        obtain ⟨k, hk, rfl, HT, mm, rfl⟩ := hrel
        by_cases hlt : k < n
        · obtain ⟨o, ho⟩ : ∃ o, xs[k]? = some o := ⟨xs[k]'(by have := HN.out; omega), by rw [List.getElem?_eq_getElem]⟩
          obtain ⟨q, hq⟩ : ∃ q, ys[k]? = some q := ⟨ys[k]'(by have := HM.out; have := HL.out; omega), by rw [List.getElem?_eq_getElem]⟩
          obtain ⟨d0, d1, d2⟩ := HC1.out k o ho
          obtain ⟨e0, e1, e2⟩ := HC2.out k q hq
          have hlt' : (k : Int) < n := by omega
          have hlt2 : (k : Int) < m := by have := HL.out; omega
          have HO := hide ho
          have HQ := hide hq
          clear ho hq
          have hnq := Tryz.neqO o q
          have hgd := Tryz.guardO
          cases hoq : Bm.eqO o q
          · have HS : Hid (Bm.sameL xs ys = false) := hide (Bm.sameL_no fun e => by
              have h1 := HO.out
              rw [e, HQ.out] at h1
              rw [Bm.eqO_iff.2 (Option.some.inj h1.symm)] at hoq
              simp at hoq)
            rw [hoq] at hnq
            clear hoq
            go_wp2
            go_quiet (fail)
            go_wp2
            go_ret
            refine ⟨?_, _, World.drewN_drewN _ _ _⟩
            rw [HS.out]
            rfl
          · have HT2 : Hid (xs.take (k + 1) = ys.take (k + 1)) := hide (by
              rw [List.take_add_one, List.take_add_one, HT.out, HO.out, HQ.out, Bm.eqO_iff.1 hoq])
            rw [hoq] at hnq
            clear hoq
            go_wp2
            go_quiet (fail)
            go_wp2
            go_roundw
            case rel => exact ⟨k + 1, by omega, by go_num, HT2, _, rfl⟩
            case measure => simp [intOf]; omega
        · have hlt' : ¬ (k : Int) < n := by omega
          have HS : Hid (Bm.sameL xs ys = true) := hide (Bm.sameL_iff.2 (by
            have h1 := HT.out
            rw [List.take_of_length_le (by have := HN.out; omega), List.take_of_length_le (by have := HN.out; have := HM.out; have := HL.out; omega)] at h1
            exact h1))
          go_wp2
          go_ret
          refine ⟨?_, mm, rfl⟩
          rw [HS.out]
          rfl
    · have hx : xs = [] := List.eq_nil_of_length_eq_zero (by omega)
      have hy : ys = [] := List.eq_nil_of_length_eq_zero (by omega)
      subst hx hy
      obtain ⟨a1, c1, rfl⟩ := ha.bare
      obtain ⟨a2, c2, rfl⟩ := hb.bare
      clear hl hl' hne hz ha hb
      go_enter Tryz.func25, Tryz.ntmps25
      go_wp2
      refine wp_loop_rounds 1 ?_
      rw [rounds_succ]
      go_wp2
      go_ret
      exact ⟨by simp [Bm.sameL], 0, rfl⟩
  · obtain ⟨a1, c1, rfl, _, _⟩ := ha.shape
    obtain ⟨a2, c2, rfl, _, _⟩ := hb.shape
    have ht : ((xs.length : Int) != (ys.length : Int)) = true := by simp; omega
    have HX : Hid (Bm.sameL xs ys = false) := hide (Bm.sameL_no fun h => hne (by rw [h]))
    clear hne
    go_enter Tryz.func25, Tryz.ntmps25
    go_wp2
    go_ret
    exact ⟨by rw [HX.out]; rfl, 0, rfl⟩

theorem sameO_any (va vb : Value) (xs ys : List Bm.Ov) (w : World) (ha : IsO w va xs) (hb : IsO w vb ys) (hl : xs.length ≤ 140737488355328) (hl' : ys.length ≤ 140737488355328) :
    Calls Tryz.prog 25 #[va, vb] w fun e w' => e = .returned (.bool (Bm.sameL xs ys)) ∧ Below w.heap.size w w' :=
  (sameO_quiet va vb xs ys w ha hb hl hl').mono (by rintro e w' ⟨rfl, m, rfl⟩; exact ⟨rfl, below_drewN (Below.refl _ _) m⟩)

end Go.Proofs.YtdlogcdpapknaaaGreatDoor

/- The law's same and sames, at acts that are the same (layer 25). -/
namespace Go.Proofs.YtdlogcdpapknaaaGreatDoor
open Go.RowKit
set_option linter.unusedVariables false
set_option maxRecDepth 100000

set_option maxHeartbeats 4000000 in
theorem same_yes (a : Sct.Av) (v u : Value) (w : World) (h1 : IsO w v a.ops) (h2 : IsO w u a.ops) (hl : a.ops.length ≤ 140737488355328) : Calls Tryz.prog 8 #[acv a v, acv a u] w fun E w' => E = .returned (.bool true) ∧ Below w.heap.size w w' := by
  obtain ⟨w1, hw1, s1, b1, P1⟩ := blk_step w #[.int .i64 a.k, .int .i64 a.u, .int .i64 a.n, .int .i64 a.t, .string a.key, v] 24
  obtain ⟨w2, hw2, s2, b2, P2⟩ := blk_step w1 #[.int .i64 a.k, .int .i64 a.u, .int .i64 a.n, .int .i64 a.t, .string a.key, u] 24
  replace P1 := (b2.block _ (blk_lt P1)).trans P1
  have b12 := b1.trans (b2.mono b1.size)
  have i1 := h1.below b12
  have i2 := h2.below b12
  obtain ⟨oa, oc, rfl, _, _⟩ := h1.shape
  obtain ⟨pa, pc, rfl, _, _⟩ := h2.shape
  rw [s1] at P2
  have A1 := sx_of P1
  have A2 := sx_of P2
  obtain ⟨a0, a1, a2, a3, a4, a5⟩ := A1
  obtain ⟨c0, c1, c2, c3, c4, c5⟩ := A2
  have B := hide b12
  have SO1 := hide (And.intro i1 i2)
  unfold acv acc
  clear h1 h2 b1 b2 P1 P2 i1 i2 b12
  go_enter Tryz.func8, Tryz.ntmps8
  go_wp2_with fail
  refine (sameO_any _ _ a.ops a.ops w2 SO1.out.1 SO1.out.2 hl hl).mono ?_
  rintro E w3 ⟨rfl, b3⟩
  rw [Bm.sameL_self]
  have BB := hide (B.out.trans (b3.mono B.out.size))
  clear b3
  go_wp2
  go_ret
  exact ⟨rfl, BB.out⟩

end Go.Proofs.YtdlogcdpapknaaaGreatDoor
