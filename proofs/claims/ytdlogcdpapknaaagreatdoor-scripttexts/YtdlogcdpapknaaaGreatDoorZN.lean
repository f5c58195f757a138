/- Texts of one layer, one behind the other. -/
import Derived.Test.YtdlogcdpapknaaaGreatDoorZC
import Derived.Test.YtdlogcdpapknaaaGreatDoorZE
/- Objects in memory: what a call that writes into a set F of blocks leaves of the others ('Out'); facts that rest on blocks that stay. No program. -/
namespace Go.Proofs.YtdlogcdpapknaaaGreatDoor
open Go.RowKit
set_option linter.unusedVariables false

/-- Blocks outside F are as they were; new ones may have come. -/
structure Out (F : Nat → Prop) (w w' : World) : Prop where
  os : w'.os = w.os
  tape : w'.tape = w.tape
  output : w'.output = w.output
  size : w.heap.size ≤ w'.heap.size
  block : ∀ g, g < w.heap.size → ¬ F g → w'.heap[g]? = w.heap[g]?

theorem Out.refl (F : Nat → Prop) (w : World) : Out F w w := ⟨rfl, rfl, rfl, Nat.le_refl _, fun _ _ _ => rfl⟩

theorem Out.trans {F G : Nat → Prop} {w w1 w2 : World} (h : Out F w w1) (k : Out G w1 w2) (hs : ∀ g, G g → F g ∨ w.heap.size ≤ g) : Out F w w2 :=
  ⟨k.os.trans h.os, k.tape.trans h.tape, k.output.trans h.output, Nat.le_trans h.size k.size, fun g hg hn => (k.block g (Nat.lt_of_lt_of_le hg h.size) fun hG => by
    rcases hs g hG with h1 | h1
    · exact hn h1
    · omega).trans (h.block g hg hn)⟩

theorem Out.mono {F G : Nat → Prop} {w w' : World} (h : Out F w w') (hs : ∀ g, F g → G g ∨ w.heap.size ≤ g) : Out G w w' :=
  ⟨h.os, h.tape, h.output, h.size, fun g hg hn => h.block g hg fun hF => by
    rcases hs g hF with h1 | h1
    · exact hn h1
    · omega⟩

theorem Out.of_below {F : Nat → Prop} {w w' : World} (h : Below w.heap.size w w') : Out F w w' := ⟨h.os, h.tape, h.output, h.size, fun g hg _ => h.block g hg⟩

theorem Out.of_base {F : Nat → Prop} {w w' : World} {base : Nat} (h : Below base w w') (hF : ∀ g, base ≤ g → g < w.heap.size → F g) : Out F w w' :=
  ⟨h.os, h.tape, h.output, h.size, fun g hg hn => h.block g (Nat.lt_of_not_le fun hb => hn (hF g hb hg))⟩

theorem Out.of_grown {F : Nat → Prop} {w w' : World} {row : Option Nat} (h : w.grownBy w' row) (hF : ∀ g, row = some g → F g) : Out F w w' :=
  ⟨h.os, h.tape, h.output, h.size, fun g hg hn => h.block g hg fun e => hn (hF g e.symm)⟩

theorem Out.below {F : Nat → Prop} {w w' : World} {base : Nat} (h : Out F w w') (hF : ∀ g, F g → base ≤ g) (hb : base ≤ w.heap.size) : Below base w w' :=
  ⟨h.os, h.tape, h.output, h.size, fun g hg => h.block g (Nat.lt_of_lt_of_le hg hb) fun hf => by have := hF g hf; omega⟩

theorem Out.drew {F : Nat → Prop} {w w' : World} (h : Out F w w') (n : Nat) : Out F w (w'.drewN n) := ⟨h.os, h.tape, h.output, h.size, h.block⟩

/-- What a slice reads as, where its block stays. -/
theorem Is.agree {k : IntKind} {w w' : World} {v : Value} {zs : List Int} (h : Is k w v zs) (hb : ∀ b, v.ownBlock = some b → w'.heap[b]? = w.heap[b]?) : Is k w' v zs := by
  refine ⟨h.1, ?_⟩
  rcases h.2 with h | ⟨ad, cap, hv, h1, h2, hc⟩
  · exact .inl h
  · refine .inr ⟨ad, cap, hv, h1, h2, fun i hi => ?_⟩
    rw [World.cell?_of_block (show w'.heap[(ad.add i).block]? = w.heap[(ad.add i).block]? from ?_)]
    · exact hc i hi
    · have e : (ad.add i).block = ad.block := by unfold Addr.add; split <;> rfl
      rw [e]
      exact hb ad.block (by rw [hv]; rfl)

theorem row_agree {w w' : World} {base e size n : Nat} {v : Value} {xs : List Value} (h : w.ownsRow base e size v n xs) (hb : ∀ b, v.ownBlock = some b → w'.heap[b]? = w.heap[b]?) : w'.ownsRow base e size v n xs := by
  refine ⟨h.1, ?_⟩
  rcases h.2 with h | ⟨g, cap, cur, hv, h1, hh, r⟩
  · exact .inl h
  · refine .inr ⟨g, cap, cur, hv, h1, ?_, r⟩
    rw [hb g (by rw [hv]; rfl)]
    exact hh

theorem Is.lt {k : IntKind} {w : World} {v : Value} {zs : List Int} (h : Is k w v zs) (hne : 0 < zs.length) : ∀ b, v.ownBlock = some b → b < w.heap.size := by
  intro b hb
  obtain ⟨g, off, cap, rfl, _, _, hB, _⟩ := h.full hne
  simp [Value.ownBlock] at hb
  omega

end Go.Proofs.YtdlogcdpapknaaaGreatDoor

/- Rows of anything in memory, k cells each: what a slice of them reads as ('RowG'), one of the call's own ('OwnG'), an append between the two. No program. -/
namespace Go.Proofs.YtdlogcdpapknaaaGreatDoor
open Go.RowKit
set_option linter.unusedVariables false

section
variable {α : Type}

def gcells (f : α → List Value) : List α → List Value
  | [] => []
  | a :: r => f a ++ gcells f r

theorem gcells_len {f : α → List Value} {k : Nat} (hk : ∀ a, (f a).length = k) : ∀ (l : List α), (gcells f l).length = l.length * k
  | [] => by simp [gcells]
  | a :: r => by rw [gcells, List.length_append, hk, gcells_len hk r, List.length_cons, Nat.add_mul]; omega

theorem gcells_app (f : α → List Value) : ∀ (l m : List α), gcells f (l ++ m) = gcells f l ++ gcells f m
  | [], _ => rfl
  | a :: l, m => by simp only [List.cons_append, gcells, gcells_app f l m, List.append_assoc]

theorem gcells_at {f : α → List Value} {k : Nat} (hk : ∀ a, (f a).length = k) : ∀ (l : List α) (i : Nat) (a : α), l[i]? = some a → ∀ j u, (f a)[j]? = some u → (gcells f l)[i * k + j]? = some u
  | [], _, _, h, _, _, _ => by simp at h
  | b :: r, 0, a, h, j, u, hj => by
    simp at h
    subst h
    have := (List.getElem?_eq_some_iff.1 hj).1
    rw [gcells, Nat.zero_mul, Nat.zero_add, List.getElem?_append_left this]
    exact hj
  | b :: r, i + 1, a, h, j, u, hj => by
    have := gcells_at hk r i a (by simpa using h) j u hj
    rw [gcells, List.getElem?_append_right (by rw [hk, Nat.add_mul]; omega), hk, show (i + 1) * k + j - k = i * k + j by rw [Nat.add_mul]; omega]
    exact this

theorem gcells_take {f : α → List Value} {k : Nat} (hk : ∀ a, (f a).length = k) : ∀ (l : List α) (p : Nat), gcells f (l.take p) = (gcells f l).take (p * k)
  | [], p => by simp [gcells]
  | a :: l, 0 => by simp [gcells]
  | a :: l, p + 1 => by
    have h1 : (f a).take ((p + 1) * k) = f a := List.take_of_length_le (by rw [hk, Nat.add_mul]; omega)
    have h2 : (p + 1) * k - k = p * k := by rw [Nat.add_mul]; omega
    rw [List.take_succ_cons, gcells, gcells, gcells_take hk l p, List.take_append, hk, h1, h2]

theorem gcells_drop {f : α → List Value} {k : Nat} (hk : ∀ a, (f a).length = k) : ∀ (l : List α) (p : Nat), gcells f (l.drop p) = (gcells f l).drop (p * k)
  | [], p => by simp [gcells]
  | a :: l, 0 => by simp [gcells]
  | a :: l, p + 1 => by
    have h1 : (f a).drop ((p + 1) * k) = [] := List.drop_eq_nil_of_le (by rw [hk, Nat.add_mul]; omega)
    have h2 : (p + 1) * k - k = p * k := by rw [Nat.add_mul]; omega
    rw [List.drop_succ_cons, gcells_drop hk l p, gcells, List.drop_append, hk, h1, h2, List.nil_append]

theorem gcells_set {f : α → List Value} {k : Nat} (hk : ∀ a, (f a).length = k) : ∀ (l : List α) (i : Nat) (a b : α), l[i]? = some a → ∀ j u, j < k → (f a).set j u = f b → (gcells f l).set (i * k + j) u = gcells f (l.set i b)
  | [], _, _, _, h, _, _, _, _ => by simp at h
  | c :: r, 0, a, b, h, j, u, hj, hb => by
    simp at h
    subst h
    rw [gcells, Nat.zero_mul, Nat.zero_add, List.set_append_left _ _ (by rw [hk]; exact hj), hb]
    rfl
  | c :: r, i + 1, a, b, h, j, u, hj, hb => by
    rw [gcells, List.set_append_right _ _ (by rw [hk, Nat.add_mul]; omega), hk, show (i + 1) * k + j - k = i * k + j by rw [Nat.add_mul]; omega, gcells_set hk r i a b (by simpa using h) j u hj hb]
    rfl

/-- A slice value whose cells are those of l. -/
def RowG (f : α → List Value) (w : World) (v : Value) (l : List α) : Prop :=
  (v = .slice none 0 0 ∧ l = []) ∨ ∃ ad cap, v = .slice (some ad) l.length cap ∧ l.length ≤ cap ∧ cap ≤ maxLen ∧ ∀ j u, (gcells f l)[j]? = some u → w.cell? (ad.add j) = some u

/-- A row of the call's (the object's) own. -/
def OwnG (f : α → List Value) (k : Nat) (e : TypeId) (base : Nat) (w : World) (v : Value) (l : List α) : Prop := w.ownsRow base e k v l.length (gcells f l)

theorem RowG.nil (f : α → List Value) (w : World) : RowG f w (.slice none 0 0) [] := .inl ⟨rfl, rfl⟩
theorem OwnG.nil (f : α → List Value) (k : Nat) (e : TypeId) (base : Nat) (w : World) : OwnG f k e base w (.slice none 0 0) [] := World.ownsRow_nil _ _ _ _

theorem RowG.agree {f : α → List Value} {w w' : World} {v : Value} {l : List α} (h : RowG f w v l) (hb : ∀ b, v.ownBlock = some b → w'.heap[b]? = w.heap[b]?) : RowG f w' v l := by
  rcases h with h | ⟨ad, cap, hv, h1, h2, hc⟩
  · exact .inl h
  · refine .inr ⟨ad, cap, hv, h1, h2, fun j u hj => ?_⟩
    rw [World.cell?_of_block (show w'.heap[(ad.add j).block]? = w.heap[(ad.add j).block]? from ?_)]
    · exact hc j u hj
    · have e : (ad.add j).block = ad.block := by unfold Addr.add; split <;> rfl
      rw [e]
      exact hb ad.block (by rw [hv]; rfl)

theorem RowG.below {f : α → List Value} {w w' : World} {v : Value} {l : List α} (h : RowG f w v l) (hb : Below w.heap.size w w') : RowG f w' v l := by
  rcases h with h | ⟨ad, cap, hv, h1, h2, hc⟩
  · exact .inl h
  · refine .inr ⟨ad, cap, hv, h1, h2, fun j u hj => ?_⟩
    have := hc j u hj
    rw [hb.cell (World.block_lt_of_cell? _ _ this)]
    exact this

theorem RowG.shape {f : α → List Value} {w : World} {v : Value} {l : List α} (h : RowG f w v l) : ∃ ao cap, v = .slice ao l.length cap ∧ l.length ≤ cap ∧ cap ≤ maxLen := by
  rcases h with ⟨hv, e⟩ | ⟨ad, cap, hv, h1, h2, _⟩
  · subst e; exact ⟨none, 0, hv, by simp, by simp⟩
  · exact ⟨some ad, cap, hv, h1, h2⟩

theorem RowG.full {f : α → List Value} {k : Nat} (hk : ∀ a, (f a).length = k) (h0 : 0 < k) {w : World} {v : Value} {l : List α} (h : RowG f w v l) (hne : 0 < l.length) :
    ∃ b off cap, v = .slice (some ⟨b, off, none⟩) l.length cap ∧ l.length ≤ cap ∧ cap ≤ maxLen ∧ b < w.heap.size ∧ ∀ i a, l[i]? = some a → ∀ j u, (f a)[j]? = some u → w.cell? ⟨b, off + i * k + j, none⟩ = some u := by
  rcases h with ⟨_, h⟩ | ⟨⟨b, off, spot⟩, cap, hv, h1, h2, hc⟩
  · subst h; simp at hne
  · obtain ⟨a0, ha0⟩ : ∃ a, l[0]? = some a := ⟨l[0], by rw [List.getElem?_eq_getElem]⟩
    have hf0 : (f a0)[0]? = some ((f a0)[0]'(by rw [hk]; exact h0)) := List.getElem?_eq_getElem (by rw [hk]; exact h0)
    have g0 := hc _ _ (gcells_at hk l 0 a0 ha0 0 _ hf0)
    have hspot : spot = none := by simpa [Addr.add] using World.cell?_spot g0
    subst hspot
    rw [add_at] at g0
    refine ⟨b, off, cap, hv, h1, h2, World.block_lt_of_cell? _ _ g0, fun i a hia j u hj => ?_⟩
    have := hc _ _ (gcells_at hk l i a hia j u hj)
    rw [add_at] at this
    rw [Nat.add_assoc]
    exact this

theorem OwnG.row {f : α → List Value} {k e base : Nat} {w : World} {v : Value} {l : List α} (h : OwnG f k e base w v l) : RowG f w v l := by
  rcases h.2 with ⟨hv, hn⟩ | ⟨g, cap, cur, hv, h1, hh, hc, hm, hs, ht⟩
  · exact .inl ⟨hv, List.eq_nil_of_length_eq_zero hn⟩
  · refine .inr ⟨⟨g, 0, none⟩, cap, hv, hc, hm, fun j u hj => ?_⟩
    exact h.cells (by rw [hv]; rfl) j u hj

theorem OwnG.agree {f : α → List Value} {k e base : Nat} {w w' : World} {v : Value} {l : List α} (h : OwnG f k e base w v l) (hb : ∀ b, v.ownBlock = some b → w'.heap[b]? = w.heap[b]?) : OwnG f k e base w' v l := row_agree h hb

theorem OwnG.lt {f : α → List Value} {k e base : Nat} {w : World} {v : Value} {l : List α} (h : OwnG f k e base w v l) : ∀ b, v.ownBlock = some b → base ≤ b ∧ b < w.heap.size := World.ownsRow.lt h

theorem OwnG.type {f : α → List Value} {k e base : Nat} {w : World} {v : Value} {l : List α} (h : OwnG f k e base w v l) {g : Nat} (hg : v.ownBlock = some g) : ∃ cs, w.heap[g]? = some (.cells cs e (0, 0)) := by
  rcases h.2 with ⟨rfl, _⟩ | ⟨g', cap, cur, rfl, _, hh, _⟩
  · simp [Value.ownBlock] at hg
  · simp [Value.ownBlock] at hg
    subst hg
    exact ⟨_, hh⟩

/-- Laid in a new block. -/
theorem rows_step (f : α → List Value) (k : Nat) (hk : ∀ a, (f a).length = k) (e : TypeId) (w : World) (cs : Array Value) (n : Nat) (l : List α) (hn : l.length = n) (h : cs.toList = gcells f l) (hm : n ≤ maxLen) :
    ∃ W, w.alloc (.cells cs e) = W ∧ W.heap.size = w.heap.size + 1 ∧ Below w.heap.size w W ∧ OwnG f k e w.heap.size W (.slice (some ⟨w.heap.size, 0, none⟩) n n) l := by
  subst hn
  refine ⟨_, rfl, by simp, (Below.refl _ _).alloc (Nat.le_refl _) _, ?_⟩
  have ho := World.ownsRow_lit (base := w.heap.size) (e := e) (size := k) w cs l.length (Nat.le_refl _) hm (by have := congrArg List.length h; rw [gcells_len hk] at this; simpa using this)
  rw [h] at ho
  exact ho

variable {P : Program} {w : World} {ops : Array Oper} {rest : List Oper} {o : Oper} {a : Act} {Q : Exit → Act → World → Prop}

/-- 'out = append(out, xs...)': out nil or an own row. -/
theorem wpList_append_rows (f : α → List Value) (k bytes : Nat) (hk : ∀ a, (f a).length = k) (h0 : 0 < k) (hb0 : 0 < bytes) (z : Value) (hzk : z.cells.size = k) (hgd : o.guard = none) (s x : Operand) (t : TypeId)
    (ho : o.op = .call { callee := .builtin .append, args := #[s, x], argTypes := #[t, t] })
    (e : TypeId) (base : Nat) (ht : P.underlying t = some (.slice e)) (hinfo : (P.info? e).map (fun i => (i.zero, i.size, i.bytes)) = some (some z, k, bytes))
    (v : Value) (l : List α) (hs : a.eval s = v) (hown : OwnG f k e base w v l) (vx : Value) (m : List α) (hx : a.eval x = vx) (his : RowG f w vx m) (hone : ∀ u ∈ gcells f m, u.oneCell' = true)
    (hlen : (l.length + m.length) * bytes ≤ 140737488355328) (hbase : base ≤ w.heap.size)
    (h : ∀ v' w', OwnG f k e base w' v' (l ++ m) → w.grownBy w' v.ownBlock → wpList P ops Q rest (a.put o.dst v') w') : wpList P ops Q (o :: rest) a w := by
  obtain ⟨i, hi, hz, hsize, hb⟩ := info_parts hinfo
  have hn : l.length + m.length ≤ 140737488355328 := Nat.le_trans (Nat.le_mul_of_pos_right _ hb0) hlen
  rcases his with ⟨hv, hy⟩ | ⟨ad, cap, hv, h1, h2, hc⟩
  · subst hy
    refine wpList_append_own_none hgd s x t ho base e i k ht hi v l.length _ hs hown (hx.trans hv) (h v w (by simpa using hown) (World.grownBy.refl _ _))
  · refine wpList_append_own w hgd s x t ho base e i z k bytes ht hi hz hsize hb hzk h0 v l.length _ hs hown ad m.length cap (gcells f m) (hx.trans hv) (gcells_len hk m) hc hone (by unfold maxLen; omega) hlen hbase ?_
    intro v' w' ho' hg _
    exact h v' w' (by unfold OwnG; rw [gcells_app, List.length_append]; exact ho') hg

/-- The same inside a region that draws its order. -/
theorem step_append_rows {K : Act → World → Prop} {E : Prop} (f : α → List Value) (k bytes : Nat) (hk : ∀ a, (f a).length = k) (h0 : 0 < k) (hb0 : 0 < bytes) (z : Value) (hzk : z.cells.size = k) (hgd : o.guard = none) (s x : Operand) (t : TypeId)
    (ho : o.op = .call { callee := .builtin .append, args := #[s, x], argTypes := #[t, t] })
    (e : TypeId) (base : Nat) (ht : P.underlying t = some (.slice e)) (hinfo : (P.info? e).map (fun i => (i.zero, i.size, i.bytes)) = some (some z, k, bytes))
    (v : Value) (l : List α) (hs : a.eval s = v) (hown : OwnG f k e base w v l) (vx : Value) (m : List α) (hx : a.eval x = vx) (his : RowG f w vx m) (hone : ∀ u ∈ gcells f m, u.oneCell' = true)
    (hlen : (l.length + m.length) * bytes ≤ 140737488355328) (hbase : base ≤ w.heap.size)
    (h : ∀ v' w', OwnG f k e base w' v' (l ++ m) → w.grownBy w' v.ownBlock → K (a.put o.dst v') w') :
    if Region.wanted o (yielded ops a.tmps) = true then Oper.wp P o a w K Q else E := by
  have hw : Region.wanted o (yielded ops a.tmps) = true := by simp [Region.wanted, hgd]
  rw [if_pos hw]
  obtain ⟨i, hi, hz, hsize, hb⟩ := info_parts hinfo
  have hn : l.length + m.length ≤ 140737488355328 := Nat.le_trans (Nat.le_mul_of_pos_right _ hb0) hlen
  rcases his with ⟨hv, hy⟩ | ⟨ad, cap, hv, h1, h2, hc⟩
  · subst hy
    have hrun := run_append_owned_none (P := P) (w := w) base t o.type e i k ht hi v l.length _ hown
    have hk := h v w (by simpa using hown) (World.grownBy.refl _ _)
    unfold Oper.wp
    simp [execOp, ho, resolve, invoke, builtin, hs, hx.trans hv, hrun, Result.andThen]
    exact hk
  · refine wp_append_own w s x t ho base e i z k bytes ht hi hz hsize hb hzk h0 v l.length _ hs hown ad m.length cap (gcells f m) (hx.trans hv) (gcells_len hk m) hc hone (by unfold maxLen; omega) hlen hbase ?_
    intro v' w' ho' hg _
    exact h v' w' (by unfold OwnG; rw [gcells_app, List.length_append]; exact ho') hg

end

end Go.Proofs.YtdlogcdpapknaaaGreatDoor

/- Rows of an own kind: their form, a place in them. No program. -/
namespace Go.Proofs.YtdlogcdpapknaaaGreatDoor
open Go.RowKit
set_option linter.unusedVariables false

theorem OwnG.rebase {α : Type} {f : α → List Value} {k e base base' : Nat} {w : World} {v : Value} {l : List α} (h : OwnG f k e base w v l) (hb : base' ≤ base) : OwnG f k e base' w v l := by
  refine ⟨h.1, ?_⟩
  rcases h.2 with h | ⟨g, cap, cur, hv, h1, r⟩
  · exact .inl h
  · exact .inr ⟨g, cap, cur, hv, by omega, r⟩

theorem OwnG.form {α : Type} {f : α → List Value} {k e base : Nat} {w : World} {v : Value} {l : List α} (h : OwnG f k e base w v l) (h0 : 0 < l.length) : ∃ g cap, v = .slice (some ⟨g, 0, none⟩) l.length cap ∧ l.length ≤ cap ∧ cap ≤ maxLen ∧ base ≤ g := by
  rcases h.2 with ⟨_, h1⟩ | ⟨g, cap, cur, hv, h1, _, h2, h3, _⟩
  · omega
  · exact ⟨g, cap, hv, h2, h3, h1⟩

theorem OwnG.at {α : Type} {f : α → List Value} {k e base : Nat} (hk : ∀ a, (f a).length = k) {w : World} {g n cap : Nat} {l : List α} (h : OwnG f k e base w (.slice (some ⟨g, 0, none⟩) n cap) l) {i : Nat} {a : α} (hi : l[i]? = some a) {j : Nat} {u : Value} (hj : (f a)[j]? = some u) : w.cell? ⟨g, i * k + j, none⟩ = some u := by
  have := World.ownsRow.cells h (show (Value.slice (some ⟨g, 0, none⟩) n cap).ownBlock = some g from rfl) (i * k + j) _ (gcells_at hk _ i a hi j _ hj)
  rwa [add_at, Nat.zero_add] at this

end Go.Proofs.YtdlogcdpapknaaaGreatDoor
