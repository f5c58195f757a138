/- Appends to a row of an object's own, told as one fact of the operation, with where the new row lies. No program. -/
import Derived.Test.YthndeolibilnnaaDoorGr
import Derived.Maps.AppendAt
namespace Go.Proofs.YthndeolibilnnaaDoor
open Go.RowKit
set_option linter.unusedVariables false

section
variable {P : Program} {w : World}

/-- 'append(out, xs...)' of integers. -/
theorem run_append_is_at (t ty : TypeId) (k : IntKind) (e : TypeId) (base bytes : Nat) (ht : P.underlying t = some (.slice e)) (hinfo : (P.info? e).map (fun i => (i.zero, i.size, i.bytes)) = some (some (.int k 0), 1, bytes)) (hby : 0 < bytes)
    (v : Value) (zs : List Int) (hown : Own k e base w v zs) (vx : Value) (ys : List Int) (his : Is k w vx ys) (hlen : (zs.length + ys.length) * bytes ≤ 140737488355328) (hbase : base ≤ w.heap.size) :
    ∃ v' w', (Builtin.append_ #[t, t] ty #[v, vx]).run P w = .ok v' w' ∧ Own k e base w' v' (zs ++ ys) ∧ w.grownBy w' v.ownBlock ∧ (v'.ownBlock = v.ownBlock ∨ v'.ownBlock = some w.heap.size) := by
  obtain ⟨i, hi, hz, hsize, hb⟩ := info_parts hinfo
  have hn : zs.length + ys.length ≤ 140737488355328 := Nat.le_trans (Nat.le_mul_of_pos_right _ hby) hlen
  have hwf : ∀ z ∈ zs ++ ys, (Lit.int k z).wf = true := by
    intro z hz
    rcases List.mem_append.1 hz with hz | hz
    · exact hown.1 z hz
    · exact his.1 z hz
  rcases his.2 with ⟨hv, hy⟩ | ⟨ad, cap, hv, h1, h2, hc⟩
  · subst hy hv
    have hrun := run_append_owned_none (P := P) (w := w) base t ty e i 1 ht hi v zs.length _ hown.2
    exact ⟨v, w, hrun, ⟨hwf, by simpa using hown.2⟩, World.grownBy.refl _ _, .inl rfl⟩
  · subst hv
    obtain ⟨v', w', hr, h3, h4, _, h5⟩ := run_append_own_at (P := P) w base t ty e i (.int k 0) 1 bytes ht hi hz hsize hb rfl (by decide) v zs.length _ hown.2 ad ys.length cap (ys.map (Value.int k)) (by simp) (by
      intro j u hj
      rw [List.getElem?_map, Option.map_eq_some_iff] at hj
      obtain ⟨z, hz, rfl⟩ := hj
      obtain ⟨hj, hz⟩ := List.getElem?_eq_some_iff.1 hz
      rw [hc j hj, List.getD_eq_getElem?_getD, List.getElem?_eq_getElem hj, hz]
      rfl) (ints_oneCell k ys) (by unfold maxLen; omega) hlen hbase
    exact ⟨v', w', hr, ⟨hwf, by simpa [List.map_append] using h3⟩, h4, h5⟩

/-- 'append(out, xs...)' of anything. -/
theorem run_append_rows_at {α : Type} (t ty : TypeId) (f : α → List Value) (k bytes : Nat) (hk : ∀ a, (f a).length = k) (h0 : 0 < k) (hb0 : 0 < bytes) (z : Value) (hzk : z.cells.size = k)
    (e : TypeId) (base : Nat) (ht : P.underlying t = some (.slice e)) (hinfo : (P.info? e).map (fun i => (i.zero, i.size, i.bytes)) = some (some z, k, bytes))
    (v : Value) (l : List α) (hown : OwnG f k e base w v l) (vx : Value) (m : List α) (his : RowG f w vx m) (hone : ∀ u ∈ gcells f m, u.oneCell' = true)
    (hlen : (l.length + m.length) * bytes ≤ 140737488355328) (hbase : base ≤ w.heap.size) :
    ∃ v' w', (Builtin.append_ #[t, t] ty #[v, vx]).run P w = .ok v' w' ∧ OwnG f k e base w' v' (l ++ m) ∧ w.grownBy w' v.ownBlock ∧ (v'.ownBlock = v.ownBlock ∨ v'.ownBlock = some w.heap.size) := by
  obtain ⟨i, hi, hz, hsize, hb⟩ := info_parts hinfo
  have hn : l.length + m.length ≤ 140737488355328 := Nat.le_trans (Nat.le_mul_of_pos_right _ hb0) hlen
  rcases his with ⟨hv, hy⟩ | ⟨ad, cap, hv, h1, h2, hc⟩
  · subst hy hv
    have hrun := run_append_owned_none (P := P) (w := w) base t ty e i k ht hi v l.length _ hown
    exact ⟨v, w, hrun, by simpa using hown, World.grownBy.refl _ _, .inl rfl⟩
  · subst hv
    obtain ⟨v', w', hr, h3, h4, _, h5⟩ := run_append_own_at (P := P) w base t ty e i z k bytes ht hi hz hsize hb hzk h0 v l.length _ hown ad m.length cap (gcells f m) (gcells_len hk m) hc hone (by unfold maxLen; omega) hlen hbase
    exact ⟨v', w', hr, by unfold OwnG; rw [gcells_app, List.length_append]; exact h3, h4, h5⟩

end

/-- A row's front: 'v[:p]'. -/
theorem own_cut {w : World} {base e size g n cap : Nat} {xs : List Value} (h : w.ownsRow base e size (.slice (some ⟨g, 0, none⟩) n cap) n xs) (m : Nat) (hm : m ≤ n) : w.ownsRow base e size (.slice (some ⟨g, 0, none⟩) m cap) m (xs.take (m * size)) := by
  obtain ⟨h1, h2⟩ := h
  have hle : m * size ≤ n * size := Nat.mul_le_mul_right _ hm
  refine ⟨by rw [List.length_take]; omega, ?_⟩
  rcases h2 with ⟨h', _⟩ | ⟨g', cap', cur, h', hb, hg, hnc, hcm, hcs, htake⟩
  · simp at h'
  · simp only [Value.slice.injEq, Option.some.injEq, Addr.mk.injEq, and_true, true_and] at h'
    obtain ⟨rfl, rfl⟩ := h'
    refine .inr ⟨g, cap, cur, rfl, hb, hg, by omega, hcm, hcs, ?_⟩
    rw [← htake, List.take_take]
    congr 1
    omega

theorem Own.agree {k : IntKind} {e : TypeId} {base : Nat} {w w' : World} {v : Value} {zs : List Int} (h : Own k e base w v zs) (hb : ∀ b, v.ownBlock = some b → w'.heap[b]? = w.heap[b]?) : Own k e base w' v zs := ⟨h.1, row_agree h.2 hb⟩

theorem Own.type {k : IntKind} {e base : Nat} {w : World} {v : Value} {zs : List Int} (h : Own k e base w v zs) {g : Nat} (hg : v.ownBlock = some g) : ∃ cs, w.heap[g]? = some (.cells cs e (0, 0)) := by
  rcases h.2.2 with ⟨rfl, _⟩ | ⟨g', cap, cur, rfl, _, hh, _⟩
  · simp [Value.ownBlock] at hg
  · simp [Value.ownBlock] at hg
    subst hg
    exact ⟨_, hh⟩

/-- 'v[:p]' of an own row of integers: an own row. -/
theorem Own.slice_h {P : Program} {k : IntKind} {e base : Nat} {w : World} {v : Value} {zs : List Int} (h : Own k e base w v zs) {t : TypeId} (ht : P.underlying t = some (.slice (P.elem t))) (hs : ∀ wx, (sizeOf (P.elem t)).run P wx = .ok 1 wx) (p : Nat) (hp : p ≤ zs.length) :
    ∃ vs, (∀ wx, (Instr.slice t v none (some (.int .i64 p)) none).run P wx = .ok vs wx) ∧ Own k e base w vs (zs.take p) ∧ (∀ b, vs.ownBlock = some b → v.ownBlock = some b) := by
  have hwf : ∀ z ∈ zs.take p, (Lit.int k z).wf = true := fun z hz => h.1 z (List.mem_of_mem_take hz)
  have hl : (zs.take p).length = p := by rw [List.length_take]; omega
  rcases h.2.2 with ⟨rfl, hn⟩ | ⟨g, cap, cur, rfl, hb, hg, hnc, hcm, hcs, htake⟩
  · obtain rfl : p = 0 := by omega
    refine ⟨.slice none 0 0, fun wx => ?_, ⟨hwf, by rw [hl]; simpa using World.ownsRow_nil w base e 1⟩, fun b hb => hb⟩
    rw [run_slice_h wx t none 0 0 ht .i64 _ (by omega) (by omega)]
    simp [Result.andThen, sliced, hs]
  · refine ⟨.slice (some ⟨g, 0, none⟩) p cap, fun wx => ?_, ⟨hwf, ?_⟩, fun b hb => hb⟩
    · rw [run_slice_h wx t _ zs.length cap ht .i64 _ (by omega) (by omega)]
      simp [Result.andThen, sliced, hs, Addr.add]
    · have := own_cut h.2 p hp
      rw [hl, List.map_take]
      simpa using this

section
variable {P : Program} {w : World} {ops : Array Oper} {rest : List Oper} {o : Oper} {a : Act} {Q : Exit → Act → World → Prop}

/-- An append whose answer is known. -/
theorem wpList_append_at (hgd : o.guard = none) (s x : Operand) (t : TypeId) (ho : o.op = .call { callee := .builtin .append, args := #[s, x], argTypes := #[t, t] })
    (v vx : Value) (hs : a.eval s = v) (hx : a.eval x = vx) {R : Value → World → Prop} (hrun : ∀ ty, ∃ v' w', (Builtin.append_ #[t, t] ty #[v, vx]).run P w = .ok v' w' ∧ R v' w')
    (h : ∀ v' w', R v' w' → wpList P ops Q rest (a.put o.dst v') w') : wpList P ops Q (o :: rest) a w := by
  refine wpList_plain hgd fun K hK => ?_
  obtain ⟨v', w', hr, hR⟩ := hrun o.type
  unfold Oper.wp execOp
  simp only [ho, resolve, invoke, builtin, Sem.run_bind, Sem.run_pure, Result.andThen_ok, List.map_toArray, List.map_cons, List.map_nil, hs, hx, hr]
  exact hK _ _ (h v' w' hR)

theorem step_append_at {K : Act → World → Prop} {E : Prop} (hgd : o.guard = none) (s x : Operand) (t : TypeId) (ho : o.op = .call { callee := .builtin .append, args := #[s, x], argTypes := #[t, t] })
    (v vx : Value) (hs : a.eval s = v) (hx : a.eval x = vx) {R : Value → World → Prop} (hrun : ∀ ty, ∃ v' w', (Builtin.append_ #[t, t] ty #[v, vx]).run P w = .ok v' w' ∧ R v' w')
    (h : ∀ v' w', R v' w' → K (a.put o.dst v') w') : if Region.wanted o (yielded ops a.tmps) = true then Oper.wp P o a w K Q else E := by
  have hw : Region.wanted o (yielded ops a.tmps) = true := by simp [Region.wanted, hgd]
  rw [if_pos hw]
  obtain ⟨v', w', hr, hR⟩ := hrun o.type
  unfold Oper.wp execOp
  simp only [ho, resolve, invoke, builtin, Sem.run_bind, Sem.run_pure, Result.andThen_ok, List.map_toArray, List.map_cons, List.map_nil, hs, hx, hr]
  exact h v' w' hR

/-- A call inside a region that draws its order. -/
theorem call_at {K : Act → World → Prop} {E : Prop} (hgd : o.guard = none) (f : FuncId) (args : Array Operand) (ts : Array TypeId)
    (ho : o.op = .call { callee := .value (.func f), args := args, argTypes := ts }) (hent : ∀ args w, (callFunc f args).run P w = .ok (.enter f args) w) (vs : Array Value) (hvs : args.map a.eval = vs)
    {R : Value → World → Prop} (hc : Calls P f vs w fun e w' => ∃ v, e = .returned v ∧ R v w') (h : ∀ v w', R v w' → K (a.put o.dst v) w') :
    if Region.wanted o (yielded ops a.tmps) = true then Oper.wp P o a w K Q else E := by
  have hw : Region.wanted o (yielded ops a.tmps) = true := by simp [Region.wanted, hgd]
  rw [if_pos hw]
  unfold Oper.wp
  simp only [execOp, ho, resolve, invoke, Sem.run_bind, hvs]
  simp only [Act.eval, Deferred.ofValue, Sem.run_pure, Result.andThen_ok, Array.empty_append, hent]
  rw [Oper.upon_enter]
  refine hc.mono ?_
  rintro e w' ⟨v, rfl, hr⟩
  exact h v w' hr

end

/-- A struct of four cells, made and stored. -/
theorem new_four (w : World) (t : TypeId) (x y z u a b c d : Value) : ∃ V, (((((w.alloc (.cells #[x, y, z, u] t)).setCell ⟨w.heap.size, 0, none⟩ a).setCell ⟨w.heap.size, 1, none⟩ b).setCell ⟨w.heap.size, 2, none⟩ c).setCell ⟨w.heap.size, 3, none⟩ d = V) ∧ w.alloc (.cells #[a, b, c, d] t) = V ∧ V.heap.size = w.heap.size + 1 ∧ Below w.heap.size w V ∧ V.heap[w.heap.size]? = some (.cells #[a, b, c, d] t (0, 0)) ∧
    V.cell? ⟨w.heap.size, 0, none⟩ = some a ∧ V.cell? ⟨w.heap.size, 1, none⟩ = some b ∧ V.cell? ⟨w.heap.size, 2, none⟩ = some c ∧ V.cell? ⟨w.heap.size, 3, none⟩ = some d := by
  obtain ⟨V, h1, h2, h3, h4⟩ := blk_step w #[a, b, c, d] t
  refine ⟨V, ?_, h1, h2, h3, h4, blk_cell h4 0 rfl, blk_cell h4 1 rfl, blk_cell h4 2 rfl, blk_cell h4 3 rfl⟩
  rw [← h1]
  simp [go_sem]

theorem wrap64s (z : Int) (h0 : -9223372036854775808 ≤ z) (h1 : z < 9223372036854775808) : IntKind.i64.wrap z = z := by
  unfold IntKind.wrap
  simp [IntKind.bits, IntKind.signed]
  omega

end Go.Proofs.YthndeolibilnnaaDoor
