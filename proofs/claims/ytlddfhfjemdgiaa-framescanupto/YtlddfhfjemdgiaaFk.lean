/- FrameScan: what it holds. -/
import Derived.Test.YtlddfhfjemdgiaaFi
import Derived.Test.YtlddfhfjemdgiaaFj
import Derived.Test.YtlddfhfjemdgiaaFCallsW
namespace Go.Proofs.Ytlddfhfjemdgiaa
open Go.RowKit Go.Shelf
set_option linter.unusedVariables false

theorem OwnB.rebase {b1 b2 : Nat} {w : World} {v : Value} {r : List Bw} (h : OwnB b1 w v r) (hb : b2 ≤ b1) : OwnB b2 w v r := by
  refine ⟨⟨h.row.1, ?_⟩, fun a ha => (h.own a ha).rebase hb, h.apart⟩
  rcases h.row.2 with h | ⟨g, cap, cur, h1, h2, h3⟩
  · exact .inl h
  · exact .inr ⟨g, cap, cur, h1, Nat.le_trans hb h2, h3⟩

/-- One list more, made ahead of the others. -/
theorem OwnB.push {base : Nat} {w w' : World} {v v' : Value} {r : List Bw} {a : Bw} (h : OwnB base w v r) (o1 : Own .u8 5 base w a.v a.l) (hap : ∀ c ∈ r, ∀ g, c.v.ownBlock = some g → a.v.ownBlock ≠ some g)
    (hr : OwnG bwc 1 22 base w' v' (r ++ [a])) (hg : w.grownBy w' v.ownBlock) : OwnB base w' v' (r ++ [a]) := by
  refine ⟨hr, fun c hc => ?_, List.pairwise_append.2 ⟨h.apart, List.pairwise_singleton _ _, fun c hc d hd => ?_⟩⟩
  · rcases List.mem_append.1 hc with hc | hc
    · exact (h.own c hc).kept hg (bw_ne (h.own c hc) h.row)
    · simp at hc
      subst hc
      exact o1.kept hg (bw_ne o1 h.row)
  · simp at hd
    subst hd
    exact hap c hc

/-- What the rounds look at: the document's records and places, how many are gone over, the answer's cell. -/
structure ScF (R Mb Pb Ob : Nat) (w : World) (m : List Bw) (mo : Nat) : Prop where
  res : w.heap[R]? = some (.cells #[.bool false] 4 (0, 0))
  row : ∃ v, w.heap[Mb]? = some (.cells #[v] 26 (0, 0)) ∧ IsBB w v m
  plc : ∃ v, w.heap[Pb]? = some (.cells #[v] 36 (0, 0)) ∧ Is .i64 w v (ints (Fm.plc 0 (lsts m)))
  most : w.heap[Ob]? = some (.cells #[.int .i64 (mo : Nat)] 3 (0, 0))

theorem ScF.below {R Mb Pb Ob : Nat} {w w' : World} {m : List Bw} {mo : Nat} (h : ScF R Mb Pb Ob w m mo) (hb : Below w.heap.size w w') : ScF R Mb Pb Ob w' m mo := by
  obtain ⟨v, h1, h2⟩ := h.row
  obtain ⟨u, h3, h4⟩ := h.plc
  exact ⟨(hb.block R (blk_lt h.res)).trans h.res, ⟨v, (hb.block Mb (blk_lt h1)).trans h1, h2.below hb⟩, ⟨u, (hb.block Pb (blk_lt h3)).trans h3, h4.below hb⟩, (hb.block Ob (blk_lt h.most)).trans h.most⟩

theorem places_at {m : List Bw} {k : Nat} (hk : k < m.length) : (ints (Fm.plc 0 (lsts m))).getD k 0 = (plk m k : Nat) := by
  have h := Fm.plc_at (lsts m) 0 k (by rw [lsts_len]; exact hk)
  rw [Nat.zero_add] at h
  unfold ints plk
  simp [List.getD, List.getElem?_map, h]

theorem places_len (m : List Bw) : (ints (Fm.plc 0 (lsts m))).length = m.length := by simp [ints, Fm.plc_len, lsts_len]

theorem is_kept {W W' : World} {v : Value} {zs : List Int} {row : Option Nat} (h : Is .u8 W v zs) (hg : W.grownBy W' row) (hr : ∀ r, row = some r → ∃ o : Obj, W.heap[r]? = some o ∧ o.isCells = false) : Is .u8 W' v zs := by
  refine ⟨h.1, ?_⟩
  rcases h.2 with h2 | ⟨ad, cp, h2, h3, h4, h5⟩
  · exact .inl h2
  · exact .inr ⟨ad, cp, h2, h3, h4, fun i hi => cell_kept (h5 i hi) hg hr⟩

/-- An append whose answer is known, where a test lets it by. -/
theorem wpList_append_atG {P : Program} {w : World} {ops : Array Oper} {rest : List Oper} {o : Oper} {a : Act} {Q : Exit → Act → World → Prop} (hw : Region.wanted o (yielded ops a.tmps) = true) (s x : Operand) (t : TypeId) (ho : o.op = .call { callee := .builtin .append, args := #[s, x], argTypes := #[t, t] })
    (v vx : Value) (hs : a.eval s = v) (hx : a.eval x = vx) {R : Value → World → Prop} (hrun : ∀ ty, ∃ v' w', (Builtin.append_ #[t, t] ty #[v, vx]).run P w = .ok v' w' ∧ R v' w')
    (h : ∀ v' w', R v' w' → wpList P ops Q rest (a.put o.dst v') w') : wpList P ops Q (o :: rest) a w := by
  refine wpList_step fun K hK => ?_
  rw [if_pos hw]
  obtain ⟨v', w', hr, hR⟩ := hrun o.type
  unfold Oper.wp execOp
  simp only [ho, resolve, invoke, builtin, Sem.run_bind, Sem.run_pure, Result.andThen_ok, List.map_toArray, List.map_cons, List.map_nil, hs, hx, hr]
  exact hK _ _ (h v' w' hR)

theorem getD_own {r : List Bw} {D : Nat} (h : ∀ a ∈ r, a.v.ownBlock ≠ some D) (i : Nat) : ((r.map Bw.v).getD i (.slice none 0 0)).ownBlock ≠ some D := by
  by_cases hi : i < r.length
  · have e : (r.map Bw.v).getD i (.slice none 0 0) = r[i].v := by simp [List.getD, hi]
    rw [e]
    exact h _ (List.getElem_mem hi)
  · have e : (r.map Bw.v).getD i (.slice none 0 0) = .slice none 0 0 := by simp [List.getD, List.getElem?_eq_none (Nat.le_of_not_lt hi)]
    rw [e]
    simp [Value.ownBlock]

theorem ko_below {W W' : World} (h : Below W.heap.size W W') : KeepsOthers W W' := ⟨h.size, fun k o hk _ => (h.block k (blk_lt hk)).trans hk⟩

theorem ydG_own (r : List Bw) (B : Nat) (pre : List Yd) (x : Yd) : OwnFrom B (fun (_ : Unit) W => YdG r pre x W) := fun _ W W' row h hg hr => by
  obtain ⟨h1, a, h2, h3⟩ := h
  exact ⟨h1, a, h2, is_kept h3 hg fun r e => (hr r e).2⟩

end Go.Proofs.Ytlddfhfjemdgiaa
