/- Rows of anything in memory, k cells each: what a slice of them reads as ('RowG'), one of the call's own ('OwnG'), an append between the two. No program. -/
import Derived.Test.YtgcdibglkbfjdaaGreatDoorOb
namespace Go.Proofs.YtgcdibglkbfjdaaGreatDoor
open Go.RowKit
set_option linter.unusedVariables false

section
variable {α : Type}

def gcells (f : α → List Value) : List α → List Value
  | [] => []
  | a :: r => f a ++ gcells f r

theorem gcells_len {f : α → List Value} {k : Nat} (hk : ∀ a, (f a).length = k) : ∀ (l : List α), (gcells f l).length = l.length * k
  | [] => by simp [gcells]
  | a :: r => by rw [gcells, List.length_append, hk, gcells_len hk r, List.length_cons, Nat.add_mul]; omega

theorem gcells_app (f : α → List Value) : ∀ (l m : List α), gcells f (l ++ m) = gcells f l ++ gcells f m
  | [], _ => rfl
  | a :: l, m => by simp only [List.cons_append, gcells, gcells_app f l m, List.append_assoc]

theorem gcells_at {f : α → List Value} {k : Nat} (hk : ∀ a, (f a).length = k) : ∀ (l : List α) (i : Nat) (a : α), l[i]? = some a → ∀ j u, (f a)[j]? = some u → (gcells f l)[i * k + j]? = some u
  | [], _, _, h, _, _, _ => by simp at h
  | b :: r, 0, a, h, j, u, hj => by
    simp at h
    subst h
    have := (List.getElem?_eq_some_iff.1 hj).1
    rw [gcells, Nat.zero_mul, Nat.zero_add, List.getElem?_append_left this]
    exact hj
  | b :: r, i + 1, a, h, j, u, hj => by
    have := gcells_at hk r i a (by simpa using h) j u hj
    rw [gcells, List.getElem?_append_right (by rw [hk, Nat.add_mul]; omega), hk, show (i + 1) * k + j - k = i * k + j by rw [Nat.add_mul]; omega]
    exact this

theorem gcells_take {f : α → List Value} {k : Nat} (hk : ∀ a, (f a).length = k) : ∀ (l : List α) (p : Nat), gcells f (l.take p) = (gcells f l).take (p * k)
  | [], p => by simp [gcells]
  | a :: l, 0 => by simp [gcells]
  | a :: l, p + 1 => by
    have h1 : (f a).take ((p + 1) * k) = f a := List.take_of_length_le (by rw [hk, Nat.add_mul]; omega)
    have h2 : (p + 1) * k - k = p * k := by rw [Nat.add_mul]; omega
    rw [List.take_succ_cons, gcells, gcells, gcells_take hk l p, List.take_append, hk, h1, h2]

theorem gcells_drop {f : α → List Value} {k : Nat} (hk : ∀ a, (f a).length = k) : ∀ (l : List α) (p : Nat), gcells f (l.drop p) = (gcells f l).drop (p * k)
  | [], p => by simp [gcells]
  | a :: l, 0 => by simp [gcells]
  | a :: l, p + 1 => by
    have h1 : (f a).drop ((p + 1) * k) = [] := List.drop_eq_nil_of_le (by rw [hk, Nat.add_mul]; omega)
    have h2 : (p + 1) * k - k = p * k := by rw [Nat.add_mul]; omega
    rw [List.drop_succ_cons, gcells_drop hk l p, gcells, List.drop_append, hk, h1, h2, List.nil_append]

theorem gcells_set {f : α → List Value} {k : Nat} (hk : ∀ a, (f a).length = k) : ∀ (l : List α) (i : Nat) (a b : α), l[i]? = some a → ∀ j u, j < k → (f a).set j u = f b → (gcells f l).set (i * k + j) u = gcells f (l.set i b)
  | [], _, _, _, h, _, _, _, _ => by simp at h
  | c :: r, 0, a, b, h, j, u, hj, hb => by
    simp at h
    subst h
    rw [gcells, Nat.zero_mul, Nat.zero_add, List.set_append_left _ _ (by rw [hk]; exact hj), hb]
    rfl
  | c :: r, i + 1, a, b, h, j, u, hj, hb => by
    rw [gcells, List.set_append_right _ _ (by rw [hk, Nat.add_mul]; omega), hk, show (i + 1) * k + j - k = i * k + j by rw [Nat.add_mul]; omega, gcells_set hk r i a b (by simpa using h) j u hj hb]
    rfl

/-- A slice value whose cells are those of l. -/
def RowG (f : α → List Value) (w : World) (v : Value) (l : List α) : Prop :=
  (v = .slice none 0 0 ∧ l = []) ∨ ∃ ad cap, v = .slice (some ad) l.length cap ∧ l.length ≤ cap ∧ cap ≤ maxLen ∧ ∀ j u, (gcells f l)[j]? = some u → w.cell? (ad.add j) = some u

/-- A row of the call's (the object's) own. -/
def OwnG (f : α → List Value) (k : Nat) (e : TypeId) (base : Nat) (w : World) (v : Value) (l : List α) : Prop := w.ownsRow base e k v l.length (gcells f l)

theorem RowG.nil (f : α → List Value) (w : World) : RowG f w (.slice none 0 0) [] := .inl ⟨rfl, rfl⟩
theorem OwnG.nil (f : α → List Value) (k : Nat) (e : TypeId) (base : Nat) (w : World) : OwnG f k e base w (.slice none 0 0) [] := World.ownsRow_nil _ _ _ _

theorem RowG.agree {f : α → List Value} {w w' : World} {v : Value} {l : List α} (h : RowG f w v l) (hb : ∀ b, v.ownBlock = some b → w'.heap[b]? = w.heap[b]?) : RowG f w' v l := by
  rcases h with h | ⟨ad, cap, hv, h1, h2, hc⟩
  · exact .inl h
  · refine .inr ⟨ad, cap, hv, h1, h2, fun j u hj => ?_⟩
    rw [World.cell?_of_block (show w'.heap[(ad.add j).block]? = w.heap[(ad.add j).block]? from ?_)]
    · exact hc j u hj
    · have e : (ad.add j).block = ad.block := by unfold Addr.add; split <;> rfl
      rw [e]
      exact hb ad.block (by rw [hv]; rfl)

theorem RowG.below {f : α → List Value} {w w' : World} {v : Value} {l : List α} (h : RowG f w v l) (hb : Below w.heap.size w w') : RowG f w' v l := by
  rcases h with h | ⟨ad, cap, hv, h1, h2, hc⟩
  · exact .inl h
  · refine .inr ⟨ad, cap, hv, h1, h2, fun j u hj => ?_⟩
    have := hc j u hj
    rw [hb.cell (World.block_lt_of_cell? _ _ this)]
    exact this

theorem RowG.shape {f : α → List Value} {w : World} {v : Value} {l : List α} (h : RowG f w v l) : ∃ ao cap, v = .slice ao l.length cap ∧ l.length ≤ cap ∧ cap ≤ maxLen := by
  rcases h with ⟨hv, e⟩ | ⟨ad, cap, hv, h1, h2, _⟩
  · subst e; exact ⟨none, 0, hv, by simp, by simp⟩
  · exact ⟨some ad, cap, hv, h1, h2⟩

theorem RowG.full {f : α → List Value} {k : Nat} (hk : ∀ a, (f a).length = k) (h0 : 0 < k) {w : World} {v : Value} {l : List α} (h : RowG f w v l) (hne : 0 < l.length) :
    ∃ b off cap, v = .slice (some ⟨b, off, none⟩) l.length cap ∧ l.length ≤ cap ∧ cap ≤ maxLen ∧ b < w.heap.size ∧ ∀ i a, l[i]? = some a → ∀ j u, (f a)[j]? = some u → w.cell? ⟨b, off + i * k + j, none⟩ = some u := by
  rcases h with ⟨_, h⟩ | ⟨⟨b, off, spot⟩, cap, hv, h1, h2, hc⟩
  · subst h; simp at hne
  · obtain ⟨a0, ha0⟩ : ∃ a, l[0]? = some a := ⟨l[0], by rw [List.getElem?_eq_getElem]⟩
    have hf0 : (f a0)[0]? = some ((f a0)[0]'(by rw [hk]; exact h0)) := List.getElem?_eq_getElem (by rw [hk]; exact h0)
    have g0 := hc _ _ (gcells_at hk l 0 a0 ha0 0 _ hf0)
    have hspot : spot = none := by simpa [Addr.add] using World.cell?_spot g0
    subst hspot
    rw [add_at] at g0
    refine ⟨b, off, cap, hv, h1, h2, World.block_lt_of_cell? _ _ g0, fun i a hia j u hj => ?_⟩
    have := hc _ _ (gcells_at hk l i a hia j u hj)
    rw [add_at] at this
    rw [Nat.add_assoc]
    exact this

theorem OwnG.row {f : α → List Value} {k e base : Nat} {w : World} {v : Value} {l : List α} (h : OwnG f k e base w v l) : RowG f w v l := by
  rcases h.2 with ⟨hv, hn⟩ | ⟨g, cap, cur, hv, h1, hh, hc, hm, hs, ht⟩
  · exact .inl ⟨hv, List.eq_nil_of_length_eq_zero hn⟩
  · refine .inr ⟨⟨g, 0, none⟩, cap, hv, hc, hm, fun j u hj => ?_⟩
    exact h.cells (by rw [hv]; rfl) j u hj

theorem OwnG.agree {f : α → List Value} {k e base : Nat} {w w' : World} {v : Value} {l : List α} (h : OwnG f k e base w v l) (hb : ∀ b, v.ownBlock = some b → w'.heap[b]? = w.heap[b]?) : OwnG f k e base w' v l := row_agree h hb

theorem OwnG.lt {f : α → List Value} {k e base : Nat} {w : World} {v : Value} {l : List α} (h : OwnG f k e base w v l) : ∀ b, v.ownBlock = some b → base ≤ b ∧ b < w.heap.size := World.ownsRow.lt h

theorem OwnG.type {f : α → List Value} {k e base : Nat} {w : World} {v : Value} {l : List α} (h : OwnG f k e base w v l) {g : Nat} (hg : v.ownBlock = some g) : ∃ cs, w.heap[g]? = some (.cells cs e (0, 0)) := by
  rcases h.2 with ⟨rfl, _⟩ | ⟨g', cap, cur, rfl, _, hh, _⟩
  · simp [Value.ownBlock] at hg
  · simp [Value.ownBlock] at hg
    subst hg
    exact ⟨_, hh⟩

/-- Laid in a new block. -/
theorem rows_step (f : α → List Value) (k : Nat) (hk : ∀ a, (f a).length = k) (e : TypeId) (w : World) (cs : Array Value) (n : Nat) (l : List α) (hn : l.length = n) (h : cs.toList = gcells f l) (hm : n ≤ maxLen) :
    ∃ W, w.alloc (.cells cs e) = W ∧ W.heap.size = w.heap.size + 1 ∧ Below w.heap.size w W ∧ OwnG f k e w.heap.size W (.slice (some ⟨w.heap.size, 0, none⟩) n n) l := by
  subst hn
  refine ⟨_, rfl, by simp, (Below.refl _ _).alloc (Nat.le_refl _) _, ?_⟩
  have ho := World.ownsRow_lit (base := w.heap.size) (e := e) (size := k) w cs l.length (Nat.le_refl _) hm (by have := congrArg List.length h; rw [gcells_len hk] at this; simpa using this)
  rw [h] at ho
  exact ho

variable {P : Program} {w : World} {ops : Array Oper} {rest : List Oper} {o : Oper} {a : Act} {Q : Exit → Act → World → Prop}

/-- 'out = append(out, xs...)': out nil or an own row. -/
theorem wpList_append_rows (f : α → List Value) (k bytes : Nat) (hk : ∀ a, (f a).length = k) (h0 : 0 < k) (hb0 : 0 < bytes) (z : Value) (hzk : z.cells.size = k) (hgd : o.guard = none) (s x : Operand) (t : TypeId)
    (ho : o.op = .call { callee := .builtin .append, args := #[s, x], argTypes := #[t, t] })
    (e : TypeId) (base : Nat) (ht : P.underlying t = some (.slice e)) (hinfo : (P.info? e).map (fun i => (i.zero, i.size, i.bytes)) = some (some z, k, bytes))
    (v : Value) (l : List α) (hs : a.eval s = v) (hown : OwnG f k e base w v l) (vx : Value) (m : List α) (hx : a.eval x = vx) (his : RowG f w vx m) (hone : ∀ u ∈ gcells f m, u.oneCell' = true)
    (hlen : (l.length + m.length) * bytes ≤ 140737488355328) (hbase : base ≤ w.heap.size)
    (h : ∀ v' w', OwnG f k e base w' v' (l ++ m) → w.grownBy w' v.ownBlock → wpList P ops Q rest (a.put o.dst v') w') : wpList P ops Q (o :: rest) a w := by
  obtain ⟨i, hi, hz, hsize, hb⟩ := info_parts hinfo
  have hn : l.length + m.length ≤ 140737488355328 := Nat.le_trans (Nat.le_mul_of_pos_right _ hb0) hlen
  rcases his with ⟨hv, hy⟩ | ⟨ad, cap, hv, h1, h2, hc⟩
  · subst hy
    refine wpList_append_own_none hgd s x t ho base e i k ht hi v l.length _ hs hown (hx.trans hv) (h v w (by simpa using hown) (World.grownBy.refl _ _))
  · refine wpList_append_own w hgd s x t ho base e i z k bytes ht hi hz hsize hb hzk h0 v l.length _ hs hown ad m.length cap (gcells f m) (hx.trans hv) (gcells_len hk m) hc hone (by unfold maxLen; omega) hlen hbase ?_
    intro v' w' ho' hg _
    exact h v' w' (by unfold OwnG; rw [gcells_app, List.length_append]; exact ho') hg

/-- The same inside a region that draws its order. -/
theorem step_append_rows {K : Act → World → Prop} {E : Prop} (f : α → List Value) (k bytes : Nat) (hk : ∀ a, (f a).length = k) (h0 : 0 < k) (hb0 : 0 < bytes) (z : Value) (hzk : z.cells.size = k) (hgd : o.guard = none) (s x : Operand) (t : TypeId)
    (ho : o.op = .call { callee := .builtin .append, args := #[s, x], argTypes := #[t, t] })
    (e : TypeId) (base : Nat) (ht : P.underlying t = some (.slice e)) (hinfo : (P.info? e).map (fun i => (i.zero, i.size, i.bytes)) = some (some z, k, bytes))
    (v : Value) (l : List α) (hs : a.eval s = v) (hown : OwnG f k e base w v l) (vx : Value) (m : List α) (hx : a.eval x = vx) (his : RowG f w vx m) (hone : ∀ u ∈ gcells f m, u.oneCell' = true)
    (hlen : (l.length + m.length) * bytes ≤ 140737488355328) (hbase : base ≤ w.heap.size)
    (h : ∀ v' w', OwnG f k e base w' v' (l ++ m) → w.grownBy w' v.ownBlock → K (a.put o.dst v') w') :
    if Region.wanted o (yielded ops a.tmps) = true then Oper.wp P o a w K Q else E := by
  have hw : Region.wanted o (yielded ops a.tmps) = true := by simp [Region.wanted, hgd]
  rw [if_pos hw]
  obtain ⟨i, hi, hz, hsize, hb⟩ := info_parts hinfo
  have hn : l.length + m.length ≤ 140737488355328 := Nat.le_trans (Nat.le_mul_of_pos_right _ hb0) hlen
  rcases his with ⟨hv, hy⟩ | ⟨ad, cap, hv, h1, h2, hc⟩
  · subst hy
    have hrun := run_append_owned_none (P := P) (w := w) base t o.type e i k ht hi v l.length _ hown
    have hk := h v w (by simpa using hown) (World.grownBy.refl _ _)
    unfold Oper.wp
    simp [execOp, ho, resolve, invoke, builtin, hs, hx.trans hv, hrun, Result.andThen]
    exact hk
  · refine wp_append_own w s x t ho base e i z k bytes ht hi hz hsize hb hzk h0 v l.length _ hs hown ad m.length cap (gcells f m) (hx.trans hv) (gcells_len hk m) hc hone (by unfold maxLen; omega) hlen hbase ?_
    intro v' w' ho' hg _
    exact h v' w' (by unfold OwnG; rw [gcells_app, List.length_append]; exact ho') hg

end

end Go.Proofs.YtgcdibglkbfjdaaGreatDoor
