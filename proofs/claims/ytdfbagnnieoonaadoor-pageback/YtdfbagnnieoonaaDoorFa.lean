/- slices.Grow of nothing, slices.Concat, frame.Append. -/
import Derived.Test.YtdfbagnnieoonaaDoorFw
import Derived.Test.YtdfbagnnieoonaaDoorCuth
import Derived.Test.YtdfbagnnieoonaaDoorVarint
import Derived.Test.YtdfbagnnieoonaaDoorBcl
import Derived.Lib.AppendZeros
namespace Go.Proofs.YtdfbagnnieoonaaDoor
open Go.RowKit
set_option linter.unusedVariables false

theorem Tryd.intT : Tryd.prog.underlying 3 = some (.int .i64) := by kernel_rfl

theorem zeros_u8 (n : Nat) : (Builtin.zeroCells (Value.int .u8 0).cells n).toList = (List.replicate n (0 : Int)).map (Value.int .u8) := by
  apply List.ext_getElem?
  intro i
  simp [Builtin.zeroCells, Value.cells, List.getElem?_replicate]
  by_cases h : i < n <;> simp [h, Nat.mod_one]

/-- An append of zeros to nothing: a row of the call's own. -/
theorem run_zeros (w : World) (n : Nat) (h0 : 0 < n) (h1 : n ≤ 150000000000000) : Hid (∀ ty, ∃ v' w', (Builtin.append_ #[31, 3] ty #[.slice none 0 0, .int .i64 n]).run Tryd.prog w = .ok v' w' ∧ Own .u8 5 w.heap.size w' v' (List.replicate n 0) ∧ Below w.heap.size w w') := by
  obtain ⟨i, hi, hz, hsize, hb⟩ := info_parts Tryd.info5
  refine hide fun ty => ⟨_, _, Lib.run_append_nil_zeros w 31 3 ty 5 i (.int .u8 0) .i64 .i64 Tryd.underlying31 Tryd.intT hi hz n h0 (by omega) (by omega) (by rw [hb]; omega), ?_, ?_⟩
  · refine ⟨fun z hz => ?_, ?_⟩
    · rw [List.eq_of_mem_replicate hz]; rfl
    · rw [List.length_replicate]
      refine own_new w (Value.int .u8 0).cells rfl _ n _ (by simp [Value.cells]) (grownCap_ge w n 0 _) (grownCap_le_maxLen w n 0 _ (by unfold maxLen; omega)) (Nat.le_refl _) _ ?_
      rw [← zeros_u8 n]
  · exact (Below.refl _ _).grown (grown_new w _ none) (Nat.le_refl _) (fun k hk => by cases hk)

theorem wpList_append_ran {P : Program} {w : World} {ops : Array Oper} {rest : List Oper} {o : Oper} {a : Act} {Q : Exit → Act → World → Prop} (hgd : o.guard = none) (s x : Operand) (t tn : TypeId) (ho : o.op = .call { callee := .builtin .append, args := #[s, x], argTypes := #[t, tn] })
    (v vx : Value) (hs : a.eval s = v) (hx : a.eval x = vx) {R : Value → World → Prop} (hrun : ∀ ty, ∃ v' w', (Builtin.append_ #[t, tn] ty #[v, vx]).run P w = .ok v' w' ∧ R v' w')
    (h : ∀ v' w', R v' w' → wpList P ops Q rest (a.put o.dst v') w') : wpList P ops Q (o :: rest) a w := by
  obtain ⟨v', w', hr, hR⟩ := hrun o.type
  exact Lib.wpList_append_run w hgd s x t tn ho v vx hs hx v' w' hr (h v' w' hR)

set_option maxHeartbeats 1000000 in
theorem grow_any (n : Nat) (w : World) (h1 : n ≤ 150000000000000) :
    Calls Tryd.prog 46 #[.slice none 0 0, .int .i64 n] w fun E w' => ∃ v', E = .returned v' ∧ Own .u8 5 w.heap.size w' v' [] ∧ Below w.heap.size w w' := by
  have hn0 : ¬ (n : Int) < 0 := by omega
  have e1 : IntKind.i64.wrap ((n : Int) - 0) = n := by rw [wrap_i64_small _ (by omega) (by omega)]; omega
  have hsl := (Own.nil .u8 5 w.heap.size w).is.slice_h Tryd.elemP Tryd.sizeP 0 (by simp)
  by_cases h0 : 0 < n
  · have X := run_zeros w n h0 h1
    have hn1 : (0 : Int) < n := by omega
    go_enter Tryd.func46, Tryd.ntmps46
    go_wp2_with (at_builtin; refine wpList_append_ran rfl (.tmp 20) (.tmp 21) 31 3 rfl _ _ rfl rfl X.out ?_)
    intro v2 w2 own2 bel2
    obtain ⟨vs, hvs, owns, _⟩ := own2.slice_h Tryd.elemP Tryd.sizeP 0 (by omega)
    have hvs' := hvs w2
    simp only [Int.natCast_zero] at hvs'
    clear X hvs hsl own2
    go_wp2
    go_ret
    exact ⟨_, rfl, by simpa using owns, bel2⟩
  · obtain rfl : n = 0 := by omega
    clear e1
    go_enter Tryd.func46, Tryd.ntmps46
    go_wp2
    go_ret
    exact ⟨_, rfl, Own.nil _ _ _ _, Below.refl _ _⟩

end Go.Proofs.YtdfbagnnieoonaaDoor
