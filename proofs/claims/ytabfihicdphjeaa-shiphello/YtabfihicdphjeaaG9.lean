/- Texts of one layer, one behind the other. -/
import Derived.Test.YtabfihicdphjeaaG7
import Derived.Test.YtabfihicdphjeaaG6
import Derived.Maps.AppendAt
import Derived.Deep.RegionHeld3
import Derived.Lib.SliceRun
/- The contract of the document's epoch; what At comes to. -/
namespace Go.Proofs.Ytabfihicdphjeaa
open Go.RowKit
set_option linter.unusedVariables false

/-- What At comes to. -/
def atE (l : List Sm.S) (en n : Int) : Int := if Sm.chk l en = 0 then (if n < 0 ∨ en < n then 2 else 0) else Sm.chk l en
def atV (l : List Sm.S) (en n : Int) : Int := if atE l en n = 0 then Sm.epo n 0 l else 0

theorem atE_five {l : List Sm.S} {en n : Int} (h : Sm.chk l en ≠ 0) : Sm.chk l en = 5 ∧ atE l en n = 5 ∧ atV l en n = 0 := by
  have h5 : Sm.chk l en = 5 := Sm.chk_no fun k => h (Sm.chk_ok k)
  have : atE l en n = 5 := by unfold atE; rw [if_neg h, h5]
  exact ⟨h5, this, by unfold atV; rw [this]; rfl⟩
theorem atE_two {l : List Sm.S} {en n : Int} (h : Sm.chk l en = 0) (hn : n < 0 ∨ en < n) : atE l en n = 2 ∧ atV l en n = 0 := by
  have : atE l en n = 2 := by unfold atE; rw [if_pos h, if_pos hn]
  exact ⟨this, by unfold atV; rw [this]; rfl⟩
theorem atE_ok {l : List Sm.S} {en n : Int} (h : Sm.chk l en = 0) (hn : ¬ (n < 0 ∨ en < n)) : atE l en n = 0 ∧ atV l en n = Sm.epo n 0 l := by
  have : atE l en n = 0 := by unfold atE; rw [if_pos h, if_neg hn]
  exact ⟨this, by unfold atV; rw [if_pos this]⟩

end Go.Proofs.Ytabfihicdphjeaa

/- Appends to a row of an object's own, told as one fact of the operation, with where the new row lies. No program. -/
namespace Go.Proofs.Ytabfihicdphjeaa
open Go.RowKit
set_option linter.unusedVariables false

section
variable {P : Program} {w : World}

/-- 'append(out, xs...)' of integers. -/
theorem run_append_is_at (t ty : TypeId) (k : IntKind) (e : TypeId) (base bytes : Nat) (ht : P.underlying t = some (.slice e)) (hinfo : (P.info? e).map (fun i => (i.zero, i.size, i.bytes)) = some (some (.int k 0), 1, bytes)) (hby : 0 < bytes)
    (v : Value) (zs : List Int) (hown : Own k e base w v zs) (vx : Value) (ys : List Int) (his : Is k w vx ys) (hlen : (zs.length + ys.length) * bytes ≤ 140737488355328) (hbase : base ≤ w.heap.size) :
    ∃ v' w', (Builtin.append_ #[t, t] ty #[v, vx]).run P w = .ok v' w' ∧ Own k e base w' v' (zs ++ ys) ∧ w.grownBy w' v.ownBlock ∧ (v'.ownBlock = v.ownBlock ∨ v'.ownBlock = some w.heap.size) := by
  obtain ⟨i, hi, hz, hsize, hb⟩ := info_parts hinfo
  have hn : zs.length + ys.length ≤ 140737488355328 := Nat.le_trans (Nat.le_mul_of_pos_right _ hby) hlen
  have hwf : ∀ z ∈ zs ++ ys, (Lit.int k z).wf = true := by
    intro z hz
    rcases List.mem_append.1 hz with hz | hz
    · exact hown.1 z hz
    · exact his.1 z hz
  rcases his.2 with ⟨hv, hy⟩ | ⟨ad, cap, hv, h1, h2, hc⟩
  · subst hy hv
    have hrun := run_append_owned_none (P := P) (w := w) base t ty e i 1 ht hi v zs.length _ hown.2
    exact ⟨v, w, hrun, ⟨hwf, by simpa using hown.2⟩, World.grownBy.refl _ _, .inl rfl⟩
  · subst hv
    obtain ⟨v', w', hr, h3, h4, _, h5⟩ := run_append_own_at (P := P) w base t ty e i (.int k 0) 1 bytes ht hi hz hsize hb rfl (by decide) v zs.length _ hown.2 ad ys.length cap (ys.map (Value.int k)) (by simp) (by
      intro j u hj
      rw [List.getElem?_map, Option.map_eq_some_iff] at hj
      obtain ⟨z, hz, rfl⟩ := hj
      obtain ⟨hj, hz⟩ := List.getElem?_eq_some_iff.1 hz
      rw [hc j hj, List.getD_eq_getElem?_getD, List.getElem?_eq_getElem hj, hz]
      rfl) (ints_oneCell k ys) (by unfold maxLen; omega) hlen hbase
    exact ⟨v', w', hr, ⟨hwf, by simpa [List.map_append] using h3⟩, h4, h5⟩

/-- 'append(out, xs...)' of anything. -/
theorem run_append_rows_at {α : Type} (t ty : TypeId) (f : α → List Value) (k bytes : Nat) (hk : ∀ a, (f a).length = k) (h0 : 0 < k) (hb0 : 0 < bytes) (z : Value) (hzk : z.cells.size = k)
    (e : TypeId) (base : Nat) (ht : P.underlying t = some (.slice e)) (hinfo : (P.info? e).map (fun i => (i.zero, i.size, i.bytes)) = some (some z, k, bytes))
    (v : Value) (l : List α) (hown : OwnG f k e base w v l) (vx : Value) (m : List α) (his : RowG f w vx m) (hone : ∀ u ∈ gcells f m, u.oneCell' = true)
    (hlen : (l.length + m.length) * bytes ≤ 140737488355328) (hbase : base ≤ w.heap.size) :
    ∃ v' w', (Builtin.append_ #[t, t] ty #[v, vx]).run P w = .ok v' w' ∧ OwnG f k e base w' v' (l ++ m) ∧ w.grownBy w' v.ownBlock ∧ (v'.ownBlock = v.ownBlock ∨ v'.ownBlock = some w.heap.size) := by
  obtain ⟨i, hi, hz, hsize, hb⟩ := info_parts hinfo
  have hn : l.length + m.length ≤ 140737488355328 := Nat.le_trans (Nat.le_mul_of_pos_right _ hb0) hlen
  rcases his with ⟨hv, hy⟩ | ⟨ad, cap, hv, h1, h2, hc⟩
  · subst hy hv
    have hrun := run_append_owned_none (P := P) (w := w) base t ty e i k ht hi v l.length _ hown
    exact ⟨v, w, hrun, by simpa using hown, World.grownBy.refl _ _, .inl rfl⟩
  · subst hv
    obtain ⟨v', w', hr, h3, h4, _, h5⟩ := run_append_own_at (P := P) w base t ty e i z k bytes ht hi hz hsize hb hzk h0 v l.length _ hown ad m.length cap (gcells f m) (gcells_len hk m) hc hone (by unfold maxLen; omega) hlen hbase
    exact ⟨v', w', hr, by unfold OwnG; rw [gcells_app, List.length_append]; exact h3, h4, h5⟩

end

/-- A row's front: 'v[:p]'. -/
theorem own_cut {w : World} {base e size g n cap : Nat} {xs : List Value} (h : w.ownsRow base e size (.slice (some ⟨g, 0, none⟩) n cap) n xs) (m : Nat) (hm : m ≤ n) : w.ownsRow base e size (.slice (some ⟨g, 0, none⟩) m cap) m (xs.take (m * size)) := by
  obtain ⟨h1, h2⟩ := h
  have hle : m * size ≤ n * size := Nat.mul_le_mul_right _ hm
  refine ⟨by rw [List.length_take]; omega, ?_⟩
  rcases h2 with ⟨h', _⟩ | ⟨g', cap', cur, h', hb, hg, hnc, hcm, hcs, htake⟩
  · simp at h'
  · simp only [Value.slice.injEq, Option.some.injEq, Addr.mk.injEq, and_true, true_and] at h'
    obtain ⟨rfl, rfl⟩ := h'
    refine .inr ⟨g, cap, cur, rfl, hb, hg, by omega, hcm, hcs, ?_⟩
    rw [← htake, List.take_take]
    congr 1
    omega

theorem Own.agree {k : IntKind} {e : TypeId} {base : Nat} {w w' : World} {v : Value} {zs : List Int} (h : Own k e base w v zs) (hb : ∀ b, v.ownBlock = some b → w'.heap[b]? = w.heap[b]?) : Own k e base w' v zs := ⟨h.1, row_agree h.2 hb⟩

theorem Own.type {k : IntKind} {e base : Nat} {w : World} {v : Value} {zs : List Int} (h : Own k e base w v zs) {g : Nat} (hg : v.ownBlock = some g) : ∃ cs, w.heap[g]? = some (.cells cs e (0, 0)) := by
  rcases h.2.2 with ⟨rfl, _⟩ | ⟨g', cap, cur, rfl, _, hh, _⟩
  · simp [Value.ownBlock] at hg
  · simp [Value.ownBlock] at hg
    subst hg
    exact ⟨_, hh⟩

/-- 'v[:p]' of an own row of integers: an own row. -/
theorem Own.slice_h {P : Program} {k : IntKind} {e base : Nat} {w : World} {v : Value} {zs : List Int} (h : Own k e base w v zs) {t : TypeId} (ht : P.underlying t = some (.slice (P.elem t))) (hs : ∀ wx, (sizeOf (P.elem t)).run P wx = .ok 1 wx) (p : Nat) (hp : p ≤ zs.length) :
    ∃ vs, (∀ wx, (Instr.slice t v none (some (.int .i64 p)) none).run P wx = .ok vs wx) ∧ Own k e base w vs (zs.take p) ∧ (∀ b, vs.ownBlock = some b → v.ownBlock = some b) := by
  have hwf : ∀ z ∈ zs.take p, (Lit.int k z).wf = true := fun z hz => h.1 z (List.mem_of_mem_take hz)
  have hl : (zs.take p).length = p := by rw [List.length_take]; omega
  rcases h.2.2 with ⟨rfl, hn⟩ | ⟨g, cap, cur, rfl, hb, hg, hnc, hcm, hcs, htake⟩
  · obtain rfl : p = 0 := by omega
    refine ⟨.slice none 0 0, fun wx => ?_, ⟨hwf, by rw [hl]; simpa using World.ownsRow_nil w base e 1⟩, fun b hb => hb⟩
    rw [run_slice_h wx t none 0 0 ht .i64 _ (by omega) (by omega)]
    simp [Result.andThen, sliced, hs]
  · refine ⟨.slice (some ⟨g, 0, none⟩) p cap, fun wx => ?_, ⟨hwf, ?_⟩, fun b hb => hb⟩
    · rw [run_slice_h wx t _ zs.length cap ht .i64 _ (by omega) (by omega)]
      simp [Result.andThen, sliced, hs, Addr.add]
    · have := own_cut h.2 p hp
      rw [hl, List.map_take]
      simpa using this

section
variable {P : Program} {w : World} {ops : Array Oper} {rest : List Oper} {o : Oper} {a : Act} {Q : Exit → Act → World → Prop}

/-- An append whose answer is known. -/
theorem wpList_append_at (hgd : o.guard = none) (s x : Operand) (t : TypeId) (ho : o.op = .call { callee := .builtin .append, args := #[s, x], argTypes := #[t, t] })
    (v vx : Value) (hs : a.eval s = v) (hx : a.eval x = vx) {R : Value → World → Prop} (hrun : ∀ ty, ∃ v' w', (Builtin.append_ #[t, t] ty #[v, vx]).run P w = .ok v' w' ∧ R v' w')
    (h : ∀ v' w', R v' w' → wpList P ops Q rest (a.put o.dst v') w') : wpList P ops Q (o :: rest) a w := by
  refine wpList_plain hgd fun K hK => ?_
  obtain ⟨v', w', hr, hR⟩ := hrun o.type
  unfold Oper.wp execOp
  simp only [ho, resolve, invoke, builtin, Sem.run_bind, Sem.run_pure, Result.andThen_ok, List.map_toArray, List.map_cons, List.map_nil, hs, hx, hr]
  exact hK _ _ (h v' w' hR)

theorem step_append_at {K : Act → World → Prop} {E : Prop} (hgd : o.guard = none) (s x : Operand) (t : TypeId) (ho : o.op = .call { callee := .builtin .append, args := #[s, x], argTypes := #[t, t] })
    (v vx : Value) (hs : a.eval s = v) (hx : a.eval x = vx) {R : Value → World → Prop} (hrun : ∀ ty, ∃ v' w', (Builtin.append_ #[t, t] ty #[v, vx]).run P w = .ok v' w' ∧ R v' w')
    (h : ∀ v' w', R v' w' → K (a.put o.dst v') w') : if Region.wanted o (yielded ops a.tmps) = true then Oper.wp P o a w K Q else E := by
  have hw : Region.wanted o (yielded ops a.tmps) = true := by simp [Region.wanted, hgd]
  rw [if_pos hw]
  obtain ⟨v', w', hr, hR⟩ := hrun o.type
  unfold Oper.wp execOp
  simp only [ho, resolve, invoke, builtin, Sem.run_bind, Sem.run_pure, Result.andThen_ok, List.map_toArray, List.map_cons, List.map_nil, hs, hx, hr]
  exact h v' w' hR

/-- A call inside a region that draws its order. -/
theorem call_at {K : Act → World → Prop} {E : Prop} (hgd : o.guard = none) (f : FuncId) (args : Array Operand) (ts : Array TypeId)
    (ho : o.op = .call { callee := .value (.func f), args := args, argTypes := ts }) (hent : ∀ args w, (callFunc f args).run P w = .ok (.enter f args) w) (vs : Array Value) (hvs : args.map a.eval = vs)
    {R : Value → World → Prop} (hc : Calls P f vs w fun e w' => ∃ v, e = .returned v ∧ R v w') (h : ∀ v w', R v w' → K (a.put o.dst v) w') :
    if Region.wanted o (yielded ops a.tmps) = true then Oper.wp P o a w K Q else E := by
  have hw : Region.wanted o (yielded ops a.tmps) = true := by simp [Region.wanted, hgd]
  rw [if_pos hw]
  unfold Oper.wp
  simp only [execOp, ho, resolve, invoke, Sem.run_bind, hvs]
  simp only [Act.eval, Deferred.ofValue, Sem.run_pure, Result.andThen_ok, Array.empty_append, hent]
  rw [Oper.upon_enter]
  refine hc.mono ?_
  rintro e w' ⟨v, rfl, hr⟩
  exact h v w' hr

end

/-- A struct of four cells, made and stored. -/
theorem new_four (w : World) (t : TypeId) (x y z u a b c d : Value) : ∃ V, (((((w.alloc (.cells #[x, y, z, u] t)).setCell ⟨w.heap.size, 0, none⟩ a).setCell ⟨w.heap.size, 1, none⟩ b).setCell ⟨w.heap.size, 2, none⟩ c).setCell ⟨w.heap.size, 3, none⟩ d = V) ∧ w.alloc (.cells #[a, b, c, d] t) = V ∧ V.heap.size = w.heap.size + 1 ∧ Below w.heap.size w V ∧ V.heap[w.heap.size]? = some (.cells #[a, b, c, d] t (0, 0)) ∧
    V.cell? ⟨w.heap.size, 0, none⟩ = some a ∧ V.cell? ⟨w.heap.size, 1, none⟩ = some b ∧ V.cell? ⟨w.heap.size, 2, none⟩ = some c ∧ V.cell? ⟨w.heap.size, 3, none⟩ = some d := by
  obtain ⟨V, h1, h2, h3, h4⟩ := blk_step w #[a, b, c, d] t
  refine ⟨V, ?_, h1, h2, h3, h4, blk_cell h4 0 rfl, blk_cell h4 1 rfl, blk_cell h4 2 rfl, blk_cell h4 3 rfl⟩
  rw [← h1]
  simp [go_sem]

theorem wrap64s (z : Int) (h0 : -9223372036854775808 ≤ z) (h1 : z < 9223372036854775808) : IntKind.i64.wrap z = z := by
  unfold IntKind.wrap
  simp [IntKind.bits, IntKind.signed]
  omega

end Go.Proofs.Ytabfihicdphjeaa

/- The contracts of sort.Search, of starts' begun, checkPlace, At and Trimmed, and of the copy that slices.Clone makes of starts. -/
namespace Go.Proofs.Ytabfihicdphjeaa
open Go.RowKit
set_option linter.unusedVariables false

theorem Try.elemS : Try.prog.underlying 23 = some (.slice (Try.prog.elem 23)) := by kernel_rfl
theorem Try.sizeS (wx : World) : (sizeOf (Try.prog.elem 23)).run Try.prog wx = .ok 2 wx := by kernel_rfl

theorem run_frontS (ao : Option Addr) (n cap p : Nat) (hp : p ≤ cap) (ha : ao = none → cap = 0) (wx : World) : (Instr.slice 23 (.slice ao n cap) none (some (.int .i64 p)) none).run Try.prog wx = .ok (.slice ao p cap) wx := by
  rw [run_slice_h wx 23 ao n cap Try.elemS .i64 _ (by omega) (by omega), Try.sizeS]
  simp only [Result.andThen, sliced]
  cases ao with
  | none =>
    obtain rfl := ha rfl
    obtain rfl : p = 0 := by omega
    simp
  | some ad => simp [Addr.add]

theorem RowG.frontS {w : World} {ao : Option Addr} {n cap : Nat} {l : List Sm.S} (h : RowS w (.slice ao n cap) l) (p : Nat) (hp : p ≤ l.length) : RowS w (.slice ao p cap) (l.take p) := by
  have hl : (l.take p).length = p := by rw [List.length_take]; omega
  rcases h with ⟨hv, e⟩ | ⟨ad', cap', hv, h1, h2, hc⟩
  · subst e
    simp at hv hp
    obtain ⟨rfl, rfl, rfl⟩ := hv
    subst hp
    exact .inl ⟨rfl, rfl⟩
  · simp at hv
    obtain ⟨rfl, rfl, rfl⟩ := hv
    refine .inr ⟨ad', cap, by rw [hl], by omega, h2, fun j u hj => hc j u ?_⟩
    rw [gcells_take stc_len, List.getElem?_take] at hj
    split at hj
    · exact hj
    · simp at hj

theorem rowS_shape {w : World} {v : Value} {l : List Sm.S} (h : RowS w v l) : ∃ ao cap, v = .slice ao l.length cap ∧ l.length ≤ cap ∧ cap ≤ maxLen ∧ (ao = none → cap = 0) := by
  rcases h with ⟨hv, e⟩ | ⟨ad, cap, hv, h1, h2, _⟩
  · subst e; exact ⟨none, 0, hv, by simp, by simp, fun _ => rfl⟩
  · exact ⟨some ad, cap, hv, h1, h2, fun h => by cases h⟩

end Go.Proofs.Ytabfihicdphjeaa

/- The contracts of starts' checkPlace, At, Trimmed, fork, Fork, and of the copy that slices.Clone makes of starts. -/
namespace Go.Proofs.Ytabfihicdphjeaa
open Go.RowKit
set_option linter.unusedVariables false

theorem Try.info66 : (Try.prog.info? 66).map (fun i => (i.zero, i.size, i.bytes)) = some (some (.agg #[.int .i64 0, .int .i64 0]), 2, 16) := by kernel_rfl

theorem ownS_rebase {base base' : Nat} {w : World} {v : Value} {l : List Sm.S} (h : OwnS base w v l) (hb : base' ≤ base) : OwnS base' w v l := by
  refine ⟨h.1, ?_⟩
  rcases h.2 with h | ⟨g, cap, cur, hv, h1, r⟩
  · exact .inl h
  · exact .inr ⟨g, cap, cur, hv, by omega, r⟩

theorem ownS_below {base : Nat} {w w' : World} {v : Value} {l : List Sm.S} (h : OwnS base w v l) (hb : Below w.heap.size w w') : OwnS base w' v l := h.agree fun b hb' => hb.block b (h.lt b hb').2

/-- 'append(out, xs...)' of starts. -/
theorem wpList_append_sts {w : World} {ops : Array Oper} {rest : List Oper} {o : Oper} {a : Act} {Q : Exit → Act → World → Prop} (hgd : o.guard = none) (s x : Operand)
    (ho : o.op = .call { callee := .builtin .append, args := #[s, x], argTypes := #[23, 23] })
    (base : Nat) (v : Value) (l : List Sm.S) (hs : a.eval s = v) (hown : OwnS base w v l) (vx : Value) (m : List Sm.S) (hx : a.eval x = vx) (his : RowS w vx m)
    (hlen : (l.length + m.length) * 16 ≤ 140737488355328) (hbase : base ≤ w.heap.size)
    (h : ∀ v' w', OwnS base w' v' (l ++ m) → Below base w w' → w.grownBy w' v.ownBlock → wpList Try.prog ops Q rest (a.put o.dst v') w') : wpList Try.prog ops Q (o :: rest) a w :=
  wpList_append_rows stc 2 16 stc_len (by decide) (by decide) (.agg #[.int .i64 0, .int .i64 0]) rfl hgd s x 23 ho 66 base Try.underlying23 Try.info66 v l hs hown vx m hx his (stc_one m) hlen hbase
    fun v' w' h1 h2 => h v' w' h1 ((Below.refl _ _).grown h2 hbase fun k hk => (OwnG.lt hown k hk).1) h2

theorem sts_step (w : World) (cs : Array Value) (n : Nat) (l : List Sm.S) (hn : l.length = n) (h : cs.toList = gcells stc l) (hm : n ≤ maxLen) :
    ∃ W, w.alloc (.cells cs 66) = W ∧ W.heap.size = w.heap.size + 1 ∧ Below w.heap.size w W ∧ OwnS w.heap.size W (.slice (some ⟨w.heap.size, 0, none⟩) n n) l := rows_step stc 2 stc_len 66 w cs n l hn h hm

theorem Try.eqnilS (w : World) (a : Option Addr) (n c : Nat) : (binOp .eql 23 (.slice a n c) (.slice none 0 0)).run Try.prog w = .ok (.bool a.isNone) w := Lib.run_eql_slice_nil w 23 66 a n c 0 0 Try.underlying23

theorem atE_zero {l : List Sm.S} {en n : Int} (h : atE l en n = 0) : Sm.Ok l en ∧ 0 ≤ n ∧ n ≤ en := by
  by_cases h0 : Sm.chk l en = 0
  · by_cases hn : n < 0 ∨ en < n
    · rw [(atE_two h0 hn).1] at h
      simp at h
    · exact ⟨Sm.chk_zero.1 h0, by omega, by omega⟩
  · rw [(atE_five h0).2.1] at h
    simp at h

/-- What Trimmed comes to. -/
def trm (l : List Sm.S) (en n : Int) : List Sm.S := if atE l en n = 0 then Sm.beg n l else []

set_option maxHeartbeats 4000000 in
theorem fork_any (va vb : Value) (a b : List Sm.S) (ae be : Int) (w : World) (ha : RowS w va a) (hb : RowS w vb b) (hla : a.length ≤ 140737488355328) (hlb : b.length ≤ 140737488355328) (oa : Sm.Ok a ae) (ob : Sm.Ok b be) :
    Calls Try.prog 54 #[va, .int .i64 ae, vb, .int .i64 be] w fun E w' => ∃ n, E = .returned (.int .i64 n) ∧ Sm.Fk a ae b be n ∧ ∃ m, w' = w.drewN m := by
  have oa0 := oa.1
  have oa1 := oa.2.1
  have ob0 := ob.1
  have ob1 := ob.2.1
  have OA := hide oa
  have OB := hide ob
  clear oa ob
  by_cases hz : a.length = 0 ∨ b.length = 0
  · obtain ⟨aa, ca, rfl, _, _⟩ := ha.shape
    obtain ⟨ab, cb, rfl, _, _⟩ := hb.shape
    have hfk := (Sm.bk_start a b ae be).none OA.out OB.out hz
    obtain ⟨n, hn⟩ : ∃ n, (if be < ae then be else ae) = n := ⟨_, rfl⟩
    have hmn : min ae be = n := by rw [← hn]; split <;> omega
    rw [hmn] at hfk
    have HFK := hide hfk
    generalize hp : a.length = p at *
    generalize hq : b.length = q at *
    clear ha hb hfk hmn hp hq
    go_enter Try.func54, Try.ntmps54
    go_wp2
    go_step3
    go_wp2
    go_step3
    go_wp2
    go_loopw [1, 3, 9, 10] (fun av bv iv jv wr => av = .int .i64 ae ∧ bv = .int .i64 be ∧ iv = .int .i64 ((p : Int) - 1) ∧ jv = .int .i64 ((q : Int) - 1) ∧ wr = w) (fun _ _ _ _ _ => 0)
    case atStart => exact ⟨rfl, rfl, rfl, rfl, rfl⟩
    case round =>
      obtain ⟨rfl, rfl, rfl, rfl, rfl⟩ := hrel
      by_cases hp0 : 0 ≤ (p : Int) - 1
      · have hq0 : ¬ 0 ≤ (q : Int) - 1 := by omega
        clear hz
        go_wp2
        try rw [Exit.noGoto_ret]
        go_ret
        exact ⟨n, rfl, HFK.out, 0, rfl⟩
      · clear hz
        go_wp2
        try rw [Exit.noGoto_ret]
        go_ret
        exact ⟨n, rfl, HFK.out, 0, rfl⟩
  obtain ⟨ba, fa, ca, rfl, _, _, hBa, hca⟩ := rowS_full ha (by omega)
  obtain ⟨bb, fb, cb, rfl, _, _, hBb, hcb⟩ := rowS_full hb (by omega)
  have HA := hide hca
  have HB := hide hcb
  have ST := hide (Sm.bk_start a b ae be)
  generalize hp : a.length = pa at *
  generalize hq : b.length = qb at *
  have HP := hide hp
  have HQ := hide hq
  clear ha hb hca hcb hp hq
  go_enter Try.func54, Try.ntmps54
  go_wp2
  go_step3
  go_wp2
  go_step3
  go_wp2
  go_loopw [1, 3, 9, 10] (fun av bv iv jv wr => ∃ (p q : Nat) (x y : Int) (m : Nat), av = .int .i64 x ∧ bv = .int .i64 y ∧ iv = .int .i64 ((p : Int) - 1) ∧ jv = .int .i64 ((q : Int) - 1) ∧ Hid (Sm.Bk a ae b be p x q y) ∧ wr = w.drewN m) (fun _ _ iv jv _ => (intOf iv + 1).toNat + (intOf jv + 1).toNat)
  case atStart => exact ⟨pa, qb, ae, be, 0, rfl, rfl, rfl, rfl, ST, rfl⟩
  case round =>
    obtain ⟨p, q, x, y, m, rfl, rfl, hiv, hjv, BK, rfl⟩ := hrel
    obtain ⟨n, hn⟩ : ∃ n, (if y < x then y else x) = n := ⟨_, rfl⟩
    have hmn : min x y = n := by rw [← hn]; split <;> omega
    have hnx : n ≤ x := by omega
    have hny : n ≤ y := by omega
    have HM := hide hmn
    clear hmn
    rcases Nat.eq_zero_or_pos p with hp | hp
    · have hfk := BK.out.none OA.out OB.out (.inl hp)
      rw [HM.out] at hfk
      have HFK := hide hfk
      subst hp
      subst hiv hjv
      clear hfk
      go_wp2
      try rw [Exit.noGoto_ret]
      go_ret
      exact ⟨n, rfl, HFK.out, m, rfl⟩
    obtain ⟨i, rfl⟩ : ∃ i, p = i + 1 := ⟨p - 1, by omega⟩
    rw [show (((i + 1 : Nat) : Int)) - 1 = (i : Int) by omega] at hiv
    subst hiv
    rcases Nat.eq_zero_or_pos q with hq | hq
    · have hfk := BK.out.none OA.out OB.out (.inr hq)
      rw [HM.out] at hfk
      have HFK := hide hfk
      subst hq
      subst hjv
      have hi0 : (0 : Int) ≤ i := by omega
      clear hfk
      go_wp2
      try rw [Exit.noGoto_ret]
      go_ret
      exact ⟨n, rfl, HFK.out, m, rfl⟩
    obtain ⟨j, rfl⟩ : ∃ j, q = j + 1 := ⟨q - 1, by omega⟩
    rw [show (((j + 1 : Nat) : Int)) - 1 = (j : Int) by omega] at hjv
    subst hjv
    have hpa := BK.out.pa
    have hqb := BK.out.qb
    rw [HP.out] at hpa
    rw [HQ.out] at hqb
    obtain ⟨s, hs⟩ := at_of (l := a) (k := i) (by have := HP.out; omega)
    obtain ⟨t, ht⟩ := at_of (l := b) (k := j) (by have := HQ.out; omega)
    obtain ⟨s0, s1⟩ := HA.out i s hs
    obtain ⟨t0, t1⟩ := HB.out j t ht
    have bs := Sm.up_at a ae 0 0 OA.out.2.2.2.1 i s hs
    have bt := Sm.up_at b be 0 0 OB.out.2.2.2.1 j t ht
    obtain ⟨_, _, bs1, bs2⟩ := bs
    obtain ⟨_, _, bt1, bt2⟩ := bt
    have HS := hide hs
    have HTT := hide ht
    have hi0 : (0 : Int) ≤ i := by omega
    have hj0 : (0 : Int) ≤ j := by omega
    have hip : (i : Int) < pa := by omega
    have hjq : (j : Int) < qb := by omega
    clear hs ht hp hq
    by_cases q1 : t.1 < s.1
    · have BK2 := hide (BK.out.drop OA.out OB.out HS.out HTT.out (.inl q1))
      clear BK HM HS HTT
      go_wp2
      go_quiet (fail)
      go_wp2
      go_roundw
      case rel => exact ⟨i, j + 1, s.2 - 1, y, _, rfl, rfl, rfl, by rw [show (((j + 1 : Nat) : Int)) - 1 = (j : Int) by omega], BK2, rfl⟩
      case measure => simp [intOf]
    by_cases q2 : n < s.2
    · have BK2 := hide (BK.out.drop OA.out OB.out HS.out HTT.out (.inr (by have := HM.out; omega)))
      clear BK HM HS HTT
      go_wp2
      go_quiet (fail)
      go_wp2
      go_roundw
      case rel => exact ⟨i, j + 1, s.2 - 1, y, _, rfl, rfl, rfl, by rw [show (((j + 1 : Nat) : Int)) - 1 = (j : Int) by omega], BK2, rfl⟩
      case measure => simp [intOf]
    by_cases q3 : s.1 < t.1
    · have BK2 := hide (BK.out.swap.drop OB.out OA.out HTT.out HS.out (.inl q3)).swap
      clear BK HM HS HTT
      go_wp2
      go_quiet (fail)
      go_wp2
      go_quiet (fail)
      go_wp2
      go_roundw
      case rel => exact ⟨i + 1, j, x, t.2 - 1, _, rfl, rfl, by rw [show (((i + 1 : Nat) : Int)) - 1 = (i : Int) by omega], rfl, BK2, rfl⟩
      case measure => simp [intOf]
    by_cases q4 : n < t.2
    · have BK2 := hide (BK.out.swap.drop OB.out OA.out HTT.out HS.out (.inr (by have := HM.out; omega))).swap
      clear BK HM HS HTT
      go_wp2
      go_quiet (fail)
      go_wp2
      go_quiet (fail)
      go_wp2
      go_roundw
      case rel => exact ⟨i + 1, j, x, t.2 - 1, _, rfl, rfl, by rw [show (((i + 1 : Nat) : Int)) - 1 = (i : Int) by omega], rfl, BK2, rfl⟩
      case measure => simp [intOf]
    have hfk := BK.out.found OA.out OB.out HS.out HTT.out q1 q3 (by have := HM.out; omega) (by have := HM.out; omega)
    rw [HM.out] at hfk
    have HFK := hide hfk
    clear hfk BK HS HTT
    go_wp2
    go_quiet (fail)
    go_wp2
    go_quiet (fail)
    go_wp2
    try rw [Exit.noGoto_ret]
    go_ret
    exact ⟨n, rfl, HFK.out, _, rfl⟩

end Go.Proofs.Ytabfihicdphjeaa

/- The contracts of the laws' copies of starts: SameStarts, CopyStarts, LentStarts, KeptStarts; of the chapter's lists of starts ('of'). -/
namespace Go.Proofs.Ytabfihicdphjeaa
open Go.RowKit
set_option linter.unusedVariables false

set_option maxHeartbeats 1000000 in
theorem sameS_quiet (va vb : Value) (xs ys : List Sm.S) (w : World) (ha : RowS w va xs) (hb : RowS w vb ys) (hl : xs.length ≤ 140737488355328) (hl' : ys.length ≤ 140737488355328) :
    Calls Try.prog 34 #[va, vb] w fun e w' => e = .returned (.bool (decide (xs = ys))) ∧ ∃ m, w' = w.drewN m := by
  obtain ⟨ans, hans⟩ : ∃ r, decide (xs = ys) = r := ⟨_, rfl⟩
  rw [hans]
  have HA := hide hans
  clear hans
  by_cases hne : xs.length = ys.length
  · by_cases hz : 0 < xs.length
    · obtain ⟨b1, o1, c1, rfl, _, _, hB1, hc1⟩ := rowS_full ha hz
      obtain ⟨b2, o2, c2, rfl, _, _, hB2, hc2⟩ := rowS_full hb (by omega)
      have ht : ((xs.length : Int) != (ys.length : Int)) = false := by simp; omega
      have HL := hide hne
      have HC1 := hide hc1
      have HC2 := hide hc2
      clear hne ha hb hc1 hc2
      generalize hn : xs.length = n at *
      generalize hm : ys.length = m at *
      have HN := hide hn
      have HM := hide hm
      clear hn hm
      go_enter Try.func34, Try.ntmps34
      go_wp2
      go_loopw [5] (fun i wr => ∃ (k : Nat), k ≤ n ∧ i = .int .i64 k ∧ Hid (xs.take k = ys.take k) ∧ ∃ m, wr = w.drewN m) (fun i _ => n - (intOf i).toNat)
      case atStart => exact ⟨0, by omega, rfl, hide rfl, 0, rfl⟩
      case round =>
        obtain ⟨k, hk, rfl, HT, mm, rfl⟩ := hrel
        by_cases hlt : k < n
        · obtain ⟨o, ho⟩ := at_of (l := xs) (k := k) (by have := HN.out; omega)
          obtain ⟨q, hq⟩ := at_of (l := ys) (k := k) (by have := HM.out; have := HL.out; omega)
          obtain ⟨d0, d1⟩ := HC1.out k o ho
          obtain ⟨e0, e1⟩ := HC2.out k q hq
          have hlt' : (k : Int) < n := by omega
          have hlt2 : (k : Int) < m := by have := HL.out; omega
          have HO := hide ho
          have HQ := hide hq
          clear ho hq
          by_cases h1 : o.1 = q.1
          · have n1 : (o.1 != q.1) = false := by simpa using h1
            by_cases h2 : o.2 = q.2
            · have n2 : (o.2 != q.2) = false := by simpa using h2
              have HT2 : Hid (xs.take (k + 1) = ys.take (k + 1)) := hide (by
                rw [List.take_add_one, List.take_add_one, HT.out, HO.out, HQ.out, Prod.ext h1 h2])
              clear h1 h2
              go_wp2
              go_big_quiet (fail)
              go_wp2
              go_roundw
              case rel => exact ⟨k + 1, by omega, by go_num, HT2, _, rfl⟩
              case measure => simp [intOf]; omega
            · have n2 : (o.2 != q.2) = true := by simpa using h2
              have hfo := HA.out
              rw [decide_eq_false fun e => by
                have h3 := HO.out
                rw [e, HQ.out] at h3
                exact h2 (by rw [Option.some.inj h3])] at hfo
              subst hfo
              clear h1 h2 HA
              go_wp2
              go_big_quiet (fail)
              go_wp2
              go_ret
              exact ⟨rfl, _, by first | rfl | exact World.drewN_drewN _ _ _⟩
          · have n1 : (o.1 != q.1) = true := by simpa using h1
            have hfo := HA.out
            rw [decide_eq_false fun e => by
              have h3 := HO.out
              rw [e, HQ.out] at h3
              exact h1 (by rw [Option.some.inj h3])] at hfo
            subst hfo
            clear h1 HA
            go_wp2
            go_big_quiet (fail)
            go_wp2
            go_ret
            exact ⟨rfl, _, by first | rfl | exact World.drewN_drewN _ _ _⟩
        · have hlt' : ¬ (k : Int) < n := by omega
          have hfo := HA.out
          rw [decide_eq_true (by
            have h1 := HT.out
            rw [List.take_of_length_le (by have := HN.out; omega), List.take_of_length_le (by have := HN.out; have := HM.out; have := HL.out; omega)] at h1
            exact h1)] at hfo
          subst hfo
          clear HA
          go_wp2
          go_ret
          exact ⟨rfl, mm, rfl⟩
    · have hx : xs = [] := List.eq_nil_of_length_eq_zero (by omega)
      have hy : ys = [] := List.eq_nil_of_length_eq_zero (by omega)
      subst hx hy
      obtain ⟨a1, c1, rfl, _, _⟩ := ha.shape
      obtain ⟨a2, c2, rfl, _, _⟩ := hb.shape
      have hfo := HA.out
      simp at hfo
      subst hfo
      simp only [List.length_nil]
      clear hl hl' hne hz ha hb HA
      go_enter Try.func34, Try.ntmps34
      go_wp2
      refine wp_loop_rounds 1 ?_
      rw [rounds_succ]
      go_wp2
      go_ret
      exact ⟨rfl, 0, rfl⟩
  · obtain ⟨a1, c1, rfl, _, _⟩ := ha.shape
    obtain ⟨a2, c2, rfl, _, _⟩ := hb.shape
    have ht : ((xs.length : Int) != (ys.length : Int)) = true := by simp; omega
    have hfo := HA.out
    rw [decide_eq_false fun h => hne (by rw [h])] at hfo
    subst hfo
    clear hne HA
    go_enter Try.func34, Try.ntmps34
    go_wp2
    go_ret
    exact ⟨rfl, 0, rfl⟩

theorem sameS_yes (va vb : Value) (xs : List Sm.S) (w : World) (ha : RowS w va xs) (hb : RowS w vb xs) (hl : xs.length ≤ 140737488355328) :
    Calls Try.prog 34 #[va, vb] w fun e w' => e = .returned (.bool true) ∧ ∃ m, w' = w.drewN m := by
  have := sameS_quiet va vb xs xs w ha hb hl hl
  rw [decide_eq_true rfl] at this
  exact this

/-- What stands behind starts that are lent. -/
def beS : List Sm.S := [(-5, 0), (-5, 1), (-5, 2)]

end Go.Proofs.Ytabfihicdphjeaa
