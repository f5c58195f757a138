/- Texts of one layer, one behind the other. -/
import Derived.Test.YtofbnkeglhhnlaaG3
import Derived.Test.YtofbnkeglhhnlaaG7
import Derived.Deep.RegionHeld3
import Derived.Test.YtofbnkeglhhnlaaG2
/- Objects in memory: what a call that writes into a set F of blocks leaves of the others ('Out'); facts that rest on blocks that stay. No program. -/
namespace Go.Proofs.Ytofbnkeglhhnlaa
open Go.RowKit
set_option linter.unusedVariables false

/-- Blocks outside F are as they were; new ones may have come. -/
structure Out (F : Nat → Prop) (w w' : World) : Prop where
  os : w'.os = w.os
  tape : w'.tape = w.tape
  output : w'.output = w.output
  size : w.heap.size ≤ w'.heap.size
  block : ∀ g, g < w.heap.size → ¬ F g → w'.heap[g]? = w.heap[g]?

theorem Out.refl (F : Nat → Prop) (w : World) : Out F w w := ⟨rfl, rfl, rfl, Nat.le_refl _, fun _ _ _ => rfl⟩

theorem Out.trans {F G : Nat → Prop} {w w1 w2 : World} (h : Out F w w1) (k : Out G w1 w2) (hs : ∀ g, G g → F g ∨ w.heap.size ≤ g) : Out F w w2 :=
  ⟨k.os.trans h.os, k.tape.trans h.tape, k.output.trans h.output, Nat.le_trans h.size k.size, fun g hg hn => (k.block g (Nat.lt_of_lt_of_le hg h.size) fun hG => by
    rcases hs g hG with h1 | h1
    · exact hn h1
    · omega).trans (h.block g hg hn)⟩

theorem Out.mono {F G : Nat → Prop} {w w' : World} (h : Out F w w') (hs : ∀ g, F g → G g ∨ w.heap.size ≤ g) : Out G w w' :=
  ⟨h.os, h.tape, h.output, h.size, fun g hg hn => h.block g hg fun hF => by
    rcases hs g hF with h1 | h1
    · exact hn h1
    · omega⟩

theorem Out.of_below {F : Nat → Prop} {w w' : World} (h : Below w.heap.size w w') : Out F w w' := ⟨h.os, h.tape, h.output, h.size, fun g hg _ => h.block g hg⟩

theorem Out.of_base {F : Nat → Prop} {w w' : World} {base : Nat} (h : Below base w w') (hF : ∀ g, base ≤ g → g < w.heap.size → F g) : Out F w w' :=
  ⟨h.os, h.tape, h.output, h.size, fun g hg hn => h.block g (Nat.lt_of_not_le fun hb => hn (hF g hb hg))⟩

theorem Out.of_grown {F : Nat → Prop} {w w' : World} {row : Option Nat} (h : w.grownBy w' row) (hF : ∀ g, row = some g → F g) : Out F w w' :=
  ⟨h.os, h.tape, h.output, h.size, fun g hg hn => h.block g hg fun e => hn (hF g e.symm)⟩

theorem Out.below {F : Nat → Prop} {w w' : World} {base : Nat} (h : Out F w w') (hF : ∀ g, F g → base ≤ g) (hb : base ≤ w.heap.size) : Below base w w' :=
  ⟨h.os, h.tape, h.output, h.size, fun g hg => h.block g (Nat.lt_of_lt_of_le hg hb) fun hf => by have := hF g hf; omega⟩

theorem Out.drew {F : Nat → Prop} {w w' : World} (h : Out F w w') (n : Nat) : Out F w (w'.drewN n) := ⟨h.os, h.tape, h.output, h.size, h.block⟩

/-- What a slice reads as, where its block stays. -/
theorem Is.agree {k : IntKind} {w w' : World} {v : Value} {zs : List Int} (h : Is k w v zs) (hb : ∀ b, v.ownBlock = some b → w'.heap[b]? = w.heap[b]?) : Is k w' v zs := by
  refine ⟨h.1, ?_⟩
  rcases h.2 with h | ⟨ad, cap, hv, h1, h2, hc⟩
  · exact .inl h
  · refine .inr ⟨ad, cap, hv, h1, h2, fun i hi => ?_⟩
    rw [World.cell?_of_block (show w'.heap[(ad.add i).block]? = w.heap[(ad.add i).block]? from ?_)]
    · exact hc i hi
    · have e : (ad.add i).block = ad.block := by unfold Addr.add; split <;> rfl
      rw [e]
      exact hb ad.block (by rw [hv]; rfl)

theorem row_agree {w w' : World} {base e size n : Nat} {v : Value} {xs : List Value} (h : w.ownsRow base e size v n xs) (hb : ∀ b, v.ownBlock = some b → w'.heap[b]? = w.heap[b]?) : w'.ownsRow base e size v n xs := by
  refine ⟨h.1, ?_⟩
  rcases h.2 with h | ⟨g, cap, cur, hv, h1, hh, r⟩
  · exact .inl h
  · refine .inr ⟨g, cap, cur, hv, h1, ?_, r⟩
    rw [hb g (by rw [hv]; rfl)]
    exact hh

theorem Is.lt {k : IntKind} {w : World} {v : Value} {zs : List Int} (h : Is k w v zs) (hne : 0 < zs.length) : ∀ b, v.ownBlock = some b → b < w.heap.size := by
  intro b hb
  obtain ⟨g, off, cap, rfl, _, _, hB, _⟩ := h.full hne
  simp [Value.ownBlock] at hb
  omega

end Go.Proofs.Ytofbnkeglhhnlaa

/- Lists of commits: the same, of the call's own, apart. -/
namespace Go.Proofs.Ytofbnkeglhhnlaa
open Go.RowKit
set_option linter.unusedVariables false

/-- Whether two lists of commits are the same. -/
def sameV : List Cm.Cv → List Cm.Cv → Bool
  | [], [] => true
  | c :: r, d :: s => sameC c.e c.n c.l d.e d.n d.l && sameV r s
  | _, _ => false

theorem sameC_iff {e n e' n' : Int} {l l' : List Bm.Ov} : sameC e n l e' n' l' = true ↔ e = e' ∧ n = n' ∧ l = l' := by
  simp [sameC, Bm.sameL_iff]

theorem sameV_iff : ∀ {r s : List Cm.Cv}, sameV r s = true ↔ r = s
  | [], [] => by simp [sameV]
  | [], _ :: _ => by simp [sameV]
  | _ :: _, [] => by simp [sameV]
  | ⟨e, n, l⟩ :: r, ⟨e', n', l'⟩ :: s => by
    simp only [sameV, Bool.and_eq_true, sameC_iff, sameV_iff (r := r) (s := s)]
    simp [and_assoc]

theorem sameV_no {r s : List Cm.Cv} (h : r ≠ s) : sameV r s = false := by
  cases hs : sameV r s
  · rfl
  · exact absurd (sameV_iff.1 hs) h

theorem sameV_self (r : List Cm.Cv) : sameV r r = true := sameV_iff.2 rfl

theorem cvs_length (r : List Cw) : (cvs r).length = r.length := by unfold cvs; rw [List.length_map]

/-- A list's cells, where there are any. -/
theorem isC_cells {w : World} {v : Value} {r : List Cw} (h : IsC w v r) : 0 < r.length → ∃ b1 o1 c1, v = .slice (some ⟨b1, o1, none⟩) r.length c1 ∧ b1 < w.heap.size ∧ ∀ i c, r[i]? = some c → w.cell? ⟨b1, o1 + i * 3, none⟩ = some (.int .i64 c.e) ∧ w.cell? ⟨b1, o1 + i * 3 + 1, none⟩ = some (.int .i64 c.n) ∧ w.cell? ⟨b1, o1 + i * 3 + 2, none⟩ = some c.v := by
  intro hp
  obtain ⟨b1, o1, c1, hv, _, _, hB, hc⟩ := h.1.full hp
  exact ⟨b1, o1, c1, hv, hB, hc⟩

theorem cvs_get (r : List Cw) (k : Nat) : (cvs r)[k]? = (r[k]?).map Cw.c := by unfold cvs; rw [List.getElem?_map]

/-- Commits whose ops lie apart. -/
def ApC (cs : List Cw) : Prop := ∀ (i j : Nat) (c d : Cw), i ≠ j → cs[i]? = some c → cs[j]? = some d → c.v.ownBlock = none ∨ c.v.ownBlock ≠ d.v.ownBlock

theorem OwnR.rebase {e base base' : Nat} {w : World} {v : Value} {l : List Cw} (h : OwnR e base w v l) (hb : base' ≤ base) : OwnR e base' w v l := by
  refine ⟨h.1, ?_⟩
  rcases h.2 with h | ⟨g, cap, cur, hv, h1, r⟩
  · exact .inl h
  · exact .inr ⟨g, cap, cur, hv, by omega, r⟩

theorem row_out {e base size n : Nat} {w w' : World} {v : Value} {xs : List Value} {F : Nat → Prop} (h : w.ownsRow base e size v n xs) (ho : Out F w w') (hF : ∀ i, F i → i < base) : w'.ownsRow base e size v n xs :=
  row_agree h fun g hg => ho.block g (World.ownsRow.lt h g hg).2 fun hf => by have := hF g hf; have := (World.ownsRow.lt h g hg).1; omega

theorem row_rebase {e base base' size n : Nat} {w : World} {v : Value} {xs : List Value} (h : w.ownsRow base e size v n xs) (hb : base' ≤ base) : w.ownsRow base' e size v n xs := by
  refine ⟨h.1, ?_⟩
  rcases h.2 with k | ⟨g, cap, cur, hv, h1, r⟩
  · exact .inl k
  · exact .inr ⟨g, cap, cur, hv, Nat.le_trans hb h1, r⟩

theorem apc_snoc {cs : List Cw} {c : Cw} {N : Nat} (h : ApC cs) (h1 : ∀ d ∈ cs, ∀ b, d.v.ownBlock = some b → b < N) (h2 : ∀ b, c.v.ownBlock = some b → N ≤ b) : ApC (cs ++ [c]) := by
  intro i j x y hij hx hy
  have hix := (List.getElem?_eq_some_iff.1 hx).1
  have hjx := (List.getElem?_eq_some_iff.1 hy).1
  rw [List.length_append, List.length_singleton] at hix hjx
  have key : ∀ u v : Value, (∀ b d, u.ownBlock = some b → v.ownBlock = some d → b ≠ d) → u.ownBlock = none ∨ u.ownBlock ≠ v.ownBlock := by
    intro u v h
    cases hu : u.ownBlock with
    | none => exact .inl rfl
    | some b => exact .inr fun e => h b b hu e.symm rfl
  by_cases hi : i < cs.length
  · rw [List.getElem?_append_left hi] at hx
    by_cases hj : j < cs.length
    · rw [List.getElem?_append_left hj] at hy
      exact h i j x y hij hx hy
    · have : j = cs.length := by omega
      subst this
      simp at hy
      subst hy
      exact key _ _ fun b d hb hd => by have := h1 x (List.mem_of_getElem? hx) b hb; have := h2 d hd; omega
  · have : i = cs.length := by omega
    subst this
    simp at hx
    subst hx
    rw [List.getElem?_append_left (by omega)] at hy
    exact key _ _ fun b d hb hd => by have := h2 b hb; have := h1 y (List.mem_of_getElem? hy) d hd; omega

end Go.Proofs.Ytofbnkeglhhnlaa

/- Rows of anything in memory, k cells each: what a slice of them reads as ('RowG'), one of the call's own ('OwnG'), an append between the two. No program. -/
namespace Go.Proofs.Ytofbnkeglhhnlaa
open Go.RowKit
set_option linter.unusedVariables false

section
variable {α : Type}

def gcells (f : α → List Value) : List α → List Value
  | [] => []
  | a :: r => f a ++ gcells f r

theorem gcells_len {f : α → List Value} {k : Nat} (hk : ∀ a, (f a).length = k) : ∀ (l : List α), (gcells f l).length = l.length * k
  | [] => by simp [gcells]
  | a :: r => by rw [gcells, List.length_append, hk, gcells_len hk r, List.length_cons, Nat.add_mul]; omega

theorem gcells_app (f : α → List Value) : ∀ (l m : List α), gcells f (l ++ m) = gcells f l ++ gcells f m
  | [], _ => rfl
  | a :: l, m => by simp only [List.cons_append, gcells, gcells_app f l m, List.append_assoc]

theorem gcells_at {f : α → List Value} {k : Nat} (hk : ∀ a, (f a).length = k) : ∀ (l : List α) (i : Nat) (a : α), l[i]? = some a → ∀ j u, (f a)[j]? = some u → (gcells f l)[i * k + j]? = some u
  | [], _, _, h, _, _, _ => by simp at h
  | b :: r, 0, a, h, j, u, hj => by
    simp at h
    subst h
    have := (List.getElem?_eq_some_iff.1 hj).1
    rw [gcells, Nat.zero_mul, Nat.zero_add, List.getElem?_append_left this]
    exact hj
  | b :: r, i + 1, a, h, j, u, hj => by
    have := gcells_at hk r i a (by simpa using h) j u hj
    rw [gcells, List.getElem?_append_right (by rw [hk, Nat.add_mul]; omega), hk, show (i + 1) * k + j - k = i * k + j by rw [Nat.add_mul]; omega]
    exact this

theorem gcells_take {f : α → List Value} {k : Nat} (hk : ∀ a, (f a).length = k) : ∀ (l : List α) (p : Nat), gcells f (l.take p) = (gcells f l).take (p * k)
  | [], p => by simp [gcells]
  | a :: l, 0 => by simp [gcells]
  | a :: l, p + 1 => by
    have h1 : (f a).take ((p + 1) * k) = f a := List.take_of_length_le (by rw [hk, Nat.add_mul]; omega)
    have h2 : (p + 1) * k - k = p * k := by rw [Nat.add_mul]; omega
    rw [List.take_succ_cons, gcells, gcells, gcells_take hk l p, List.take_append, hk, h1, h2]

theorem gcells_drop {f : α → List Value} {k : Nat} (hk : ∀ a, (f a).length = k) : ∀ (l : List α) (p : Nat), gcells f (l.drop p) = (gcells f l).drop (p * k)
  | [], p => by simp [gcells]
  | a :: l, 0 => by simp [gcells]
  | a :: l, p + 1 => by
    have h1 : (f a).drop ((p + 1) * k) = [] := List.drop_eq_nil_of_le (by rw [hk, Nat.add_mul]; omega)
    have h2 : (p + 1) * k - k = p * k := by rw [Nat.add_mul]; omega
    rw [List.drop_succ_cons, gcells_drop hk l p, gcells, List.drop_append, hk, h1, h2, List.nil_append]

theorem gcells_set {f : α → List Value} {k : Nat} (hk : ∀ a, (f a).length = k) : ∀ (l : List α) (i : Nat) (a b : α), l[i]? = some a → ∀ j u, j < k → (f a).set j u = f b → (gcells f l).set (i * k + j) u = gcells f (l.set i b)
  | [], _, _, _, h, _, _, _, _ => by simp at h
  | c :: r, 0, a, b, h, j, u, hj, hb => by
    simp at h
    subst h
    rw [gcells, Nat.zero_mul, Nat.zero_add, List.set_append_left _ _ (by rw [hk]; exact hj), hb]
    rfl
  | c :: r, i + 1, a, b, h, j, u, hj, hb => by
    rw [gcells, List.set_append_right _ _ (by rw [hk, Nat.add_mul]; omega), hk, show (i + 1) * k + j - k = i * k + j by rw [Nat.add_mul]; omega, gcells_set hk r i a b (by simpa using h) j u hj hb]
    rfl

/-- A slice value whose cells are those of l. -/
def RowG (f : α → List Value) (w : World) (v : Value) (l : List α) : Prop :=
  (v = .slice none 0 0 ∧ l = []) ∨ ∃ ad cap, v = .slice (some ad) l.length cap ∧ l.length ≤ cap ∧ cap ≤ maxLen ∧ ∀ j u, (gcells f l)[j]? = some u → w.cell? (ad.add j) = some u

/-- A row of the call's (the object's) own. -/
def OwnG (f : α → List Value) (k : Nat) (e : TypeId) (base : Nat) (w : World) (v : Value) (l : List α) : Prop := w.ownsRow base e k v l.length (gcells f l)

theorem RowG.nil (f : α → List Value) (w : World) : RowG f w (.slice none 0 0) [] := .inl ⟨rfl, rfl⟩
theorem OwnG.nil (f : α → List Value) (k : Nat) (e : TypeId) (base : Nat) (w : World) : OwnG f k e base w (.slice none 0 0) [] := World.ownsRow_nil _ _ _ _

theorem RowG.agree {f : α → List Value} {w w' : World} {v : Value} {l : List α} (h : RowG f w v l) (hb : ∀ b, v.ownBlock = some b → w'.heap[b]? = w.heap[b]?) : RowG f w' v l := by
  rcases h with h | ⟨ad, cap, hv, h1, h2, hc⟩
  · exact .inl h
  · refine .inr ⟨ad, cap, hv, h1, h2, fun j u hj => ?_⟩
    rw [World.cell?_of_block (show w'.heap[(ad.add j).block]? = w.heap[(ad.add j).block]? from ?_)]
    · exact hc j u hj
    · have e : (ad.add j).block = ad.block := by unfold Addr.add; split <;> rfl
      rw [e]
      exact hb ad.block (by rw [hv]; rfl)

theorem RowG.below {f : α → List Value} {w w' : World} {v : Value} {l : List α} (h : RowG f w v l) (hb : Below w.heap.size w w') : RowG f w' v l := by
  rcases h with h | ⟨ad, cap, hv, h1, h2, hc⟩
  · exact .inl h
  · refine .inr ⟨ad, cap, hv, h1, h2, fun j u hj => ?_⟩
    have := hc j u hj
    rw [hb.cell (World.block_lt_of_cell? _ _ this)]
    exact this

theorem RowG.shape {f : α → List Value} {w : World} {v : Value} {l : List α} (h : RowG f w v l) : ∃ ao cap, v = .slice ao l.length cap ∧ l.length ≤ cap ∧ cap ≤ maxLen := by
  rcases h with ⟨hv, e⟩ | ⟨ad, cap, hv, h1, h2, _⟩
  · subst e; exact ⟨none, 0, hv, by simp, by simp⟩
  · exact ⟨some ad, cap, hv, h1, h2⟩

theorem RowG.full {f : α → List Value} {k : Nat} (hk : ∀ a, (f a).length = k) (h0 : 0 < k) {w : World} {v : Value} {l : List α} (h : RowG f w v l) (hne : 0 < l.length) :
    ∃ b off cap, v = .slice (some ⟨b, off, none⟩) l.length cap ∧ l.length ≤ cap ∧ cap ≤ maxLen ∧ b < w.heap.size ∧ ∀ i a, l[i]? = some a → ∀ j u, (f a)[j]? = some u → w.cell? ⟨b, off + i * k + j, none⟩ = some u := by
  rcases h with ⟨_, h⟩ | ⟨⟨b, off, spot⟩, cap, hv, h1, h2, hc⟩
  · subst h; simp at hne
  · obtain ⟨a0, ha0⟩ : ∃ a, l[0]? = some a := ⟨l[0], by rw [List.getElem?_eq_getElem]⟩
    have hf0 : (f a0)[0]? = some ((f a0)[0]'(by rw [hk]; exact h0)) := List.getElem?_eq_getElem (by rw [hk]; exact h0)
    have g0 := hc _ _ (gcells_at hk l 0 a0 ha0 0 _ hf0)
    have hspot : spot = none := by simpa [Addr.add] using World.cell?_spot g0
    subst hspot
    rw [add_at] at g0
    refine ⟨b, off, cap, hv, h1, h2, World.block_lt_of_cell? _ _ g0, fun i a hia j u hj => ?_⟩
    have := hc _ _ (gcells_at hk l i a hia j u hj)
    rw [add_at] at this
    rw [Nat.add_assoc]
    exact this

theorem OwnG.row {f : α → List Value} {k e base : Nat} {w : World} {v : Value} {l : List α} (h : OwnG f k e base w v l) : RowG f w v l := by
  rcases h.2 with ⟨hv, hn⟩ | ⟨g, cap, cur, hv, h1, hh, hc, hm, hs, ht⟩
  · exact .inl ⟨hv, List.eq_nil_of_length_eq_zero hn⟩
  · refine .inr ⟨⟨g, 0, none⟩, cap, hv, hc, hm, fun j u hj => ?_⟩
    exact h.cells (by rw [hv]; rfl) j u hj

theorem OwnG.agree {f : α → List Value} {k e base : Nat} {w w' : World} {v : Value} {l : List α} (h : OwnG f k e base w v l) (hb : ∀ b, v.ownBlock = some b → w'.heap[b]? = w.heap[b]?) : OwnG f k e base w' v l := row_agree h hb

theorem OwnG.lt {f : α → List Value} {k e base : Nat} {w : World} {v : Value} {l : List α} (h : OwnG f k e base w v l) : ∀ b, v.ownBlock = some b → base ≤ b ∧ b < w.heap.size := World.ownsRow.lt h

theorem OwnG.type {f : α → List Value} {k e base : Nat} {w : World} {v : Value} {l : List α} (h : OwnG f k e base w v l) {g : Nat} (hg : v.ownBlock = some g) : ∃ cs, w.heap[g]? = some (.cells cs e (0, 0)) := by
  rcases h.2 with ⟨rfl, _⟩ | ⟨g', cap, cur, rfl, _, hh, _⟩
  · simp [Value.ownBlock] at hg
  · simp [Value.ownBlock] at hg
    subst hg
    exact ⟨_, hh⟩

/-- Laid in a new block. -/
theorem rows_step (f : α → List Value) (k : Nat) (hk : ∀ a, (f a).length = k) (e : TypeId) (w : World) (cs : Array Value) (n : Nat) (l : List α) (hn : l.length = n) (h : cs.toList = gcells f l) (hm : n ≤ maxLen) :
    ∃ W, w.alloc (.cells cs e) = W ∧ W.heap.size = w.heap.size + 1 ∧ Below w.heap.size w W ∧ OwnG f k e w.heap.size W (.slice (some ⟨w.heap.size, 0, none⟩) n n) l := by
  subst hn
  refine ⟨_, rfl, by simp, (Below.refl _ _).alloc (Nat.le_refl _) _, ?_⟩
  have ho := World.ownsRow_lit (base := w.heap.size) (e := e) (size := k) w cs l.length (Nat.le_refl _) hm (by have := congrArg List.length h; rw [gcells_len hk] at this; simpa using this)
  rw [h] at ho
  exact ho

variable {P : Program} {w : World} {ops : Array Oper} {rest : List Oper} {o : Oper} {a : Act} {Q : Exit → Act → World → Prop}

/-- 'out = append(out, xs...)': out nil or an own row. -/
theorem wpList_append_rows (f : α → List Value) (k bytes : Nat) (hk : ∀ a, (f a).length = k) (h0 : 0 < k) (hb0 : 0 < bytes) (z : Value) (hzk : z.cells.size = k) (hgd : o.guard = none) (s x : Operand) (t : TypeId)
    (ho : o.op = .call { callee := .builtin .append, args := #[s, x], argTypes := #[t, t] })
    (e : TypeId) (base : Nat) (ht : P.underlying t = some (.slice e)) (hinfo : (P.info? e).map (fun i => (i.zero, i.size, i.bytes)) = some (some z, k, bytes))
    (v : Value) (l : List α) (hs : a.eval s = v) (hown : OwnG f k e base w v l) (vx : Value) (m : List α) (hx : a.eval x = vx) (his : RowG f w vx m) (hone : ∀ u ∈ gcells f m, u.oneCell' = true)
    (hlen : (l.length + m.length) * bytes ≤ 140737488355328) (hbase : base ≤ w.heap.size)
    (h : ∀ v' w', OwnG f k e base w' v' (l ++ m) → w.grownBy w' v.ownBlock → wpList P ops Q rest (a.put o.dst v') w') : wpList P ops Q (o :: rest) a w := by
  obtain ⟨i, hi, hz, hsize, hb⟩ := info_parts hinfo
  have hn : l.length + m.length ≤ 140737488355328 := Nat.le_trans (Nat.le_mul_of_pos_right _ hb0) hlen
  rcases his with ⟨hv, hy⟩ | ⟨ad, cap, hv, h1, h2, hc⟩
  · subst hy
    refine wpList_append_own_none hgd s x t ho base e i k ht hi v l.length _ hs hown (hx.trans hv) (h v w (by simpa using hown) (World.grownBy.refl _ _))
  · refine wpList_append_own w hgd s x t ho base e i z k bytes ht hi hz hsize hb hzk h0 v l.length _ hs hown ad m.length cap (gcells f m) (hx.trans hv) (gcells_len hk m) hc hone (by unfold maxLen; omega) hlen hbase ?_
    intro v' w' ho' hg _
    exact h v' w' (by unfold OwnG; rw [gcells_app, List.length_append]; exact ho') hg

/-- The same inside a region that draws its order. -/
theorem step_append_rows {K : Act → World → Prop} {E : Prop} (f : α → List Value) (k bytes : Nat) (hk : ∀ a, (f a).length = k) (h0 : 0 < k) (hb0 : 0 < bytes) (z : Value) (hzk : z.cells.size = k) (hgd : o.guard = none) (s x : Operand) (t : TypeId)
    (ho : o.op = .call { callee := .builtin .append, args := #[s, x], argTypes := #[t, t] })
    (e : TypeId) (base : Nat) (ht : P.underlying t = some (.slice e)) (hinfo : (P.info? e).map (fun i => (i.zero, i.size, i.bytes)) = some (some z, k, bytes))
    (v : Value) (l : List α) (hs : a.eval s = v) (hown : OwnG f k e base w v l) (vx : Value) (m : List α) (hx : a.eval x = vx) (his : RowG f w vx m) (hone : ∀ u ∈ gcells f m, u.oneCell' = true)
    (hlen : (l.length + m.length) * bytes ≤ 140737488355328) (hbase : base ≤ w.heap.size)
    (h : ∀ v' w', OwnG f k e base w' v' (l ++ m) → w.grownBy w' v.ownBlock → K (a.put o.dst v') w') :
    if Region.wanted o (yielded ops a.tmps) = true then Oper.wp P o a w K Q else E := by
  have hw : Region.wanted o (yielded ops a.tmps) = true := by simp [Region.wanted, hgd]
  rw [if_pos hw]
  obtain ⟨i, hi, hz, hsize, hb⟩ := info_parts hinfo
  have hn : l.length + m.length ≤ 140737488355328 := Nat.le_trans (Nat.le_mul_of_pos_right _ hb0) hlen
  rcases his with ⟨hv, hy⟩ | ⟨ad, cap, hv, h1, h2, hc⟩
  · subst hy
    have hrun := run_append_owned_none (P := P) (w := w) base t o.type e i k ht hi v l.length _ hown
    have hk := h v w (by simpa using hown) (World.grownBy.refl _ _)
    unfold Oper.wp
    simp [execOp, ho, resolve, invoke, builtin, hs, hx.trans hv, hrun, Result.andThen]
    exact hk
  · refine wp_append_own w s x t ho base e i z k bytes ht hi hz hsize hb hzk h0 v l.length _ hs hown ad m.length cap (gcells f m) (hx.trans hv) (gcells_len hk m) hc hone (by unfold maxLen; omega) hlen hbase ?_
    intro v' w' ho' hg _
    exact h v' w' (by unfold OwnG; rw [gcells_app, List.length_append]; exact ho') hg

end

end Go.Proofs.Ytofbnkeglhhnlaa

/- Disks, by mathematics. No program. -/
namespace Go.Proofs.Ytofbnkeglhhnlaa.Dm
set_option linter.unusedVariables false

/-- A raw step that is pending. -/
structure Rw where
  file : Nat
  cut : Bool
  to : Nat
  bytes : List Int

/-- A disk: what is durable, what is pending; is it on; its fuse; how many raw steps it has done. -/
structure Ds where
  sure : Nat → List Int
  wait : List Rw
  on : Bool
  has : Bool
  left : Nat
  count : Nat

def upd (s : Nat → List Int) (f : Nat) (x : List Int) : Nat → List Int := fun j => if j = f then x else s j

theorem upd_same (s : Nat → List Int) (f : Nat) (x : List Int) : upd s f x f = x := by simp [upd]
theorem upd_other {s : Nat → List Int} {f j : Nat} {x : List Int} (h : j ≠ f) : upd s f x j = s j := by simp [upd, h]

/-- Bytes behind a raw step. -/
def wth (b : List Int) (r : Rw) : List Int := if r.cut then b.take r.to else b ++ r.bytes

def one (s : Nat → List Int) (r : Rw) : Nat → List Int := upd s r.file (wth (s r.file) r)

/-- All of them done, in order. -/
def dof (s : Nat → List Int) : List Rw → Nat → List Int
  | [] => s
  | r :: l => dof (one s r) l

theorem dof_app : ∀ (l m : List Rw) (s : Nat → List Int), dof s (l ++ m) = dof (dof s l) m
  | [], _, _ => rfl
  | r :: l, m, s => dof_app l m (one s r)

theorem dof_snoc (l : List Rw) (r : Rw) (s : Nat → List Int) : dof s (l ++ [r]) = one (dof s l) r := dof_app l [r] s

/-- One file's bytes behind the steps of that file. -/
def hold (f : Nat) (b : List Int) : List Rw → List Int
  | [] => b
  | r :: l => hold f (if r.file = f then wth b r else b) l

theorem hold_dof : ∀ (l : List Rw) (s : Nat → List Int) (f : Nat), hold f (s f) l = dof s l f
  | [], _, _ => rfl
  | r :: l, s, f => by
    rw [hold, dof, ← hold_dof l (one s r) f]
    congr 1
    by_cases h : r.file = f
    · subst h; rw [if_pos rfl, one, upd_same]
    · rw [if_neg h, one, upd_other (Ne.symm h)]

theorem hold_app : ∀ (l m : List Rw) (b : List Int) (f : Nat), hold f b (l ++ m) = hold f (hold f b l) m
  | [], _, _, _ => rfl
  | r :: l, m, b, f => hold_app l m _ f

theorem hold_snoc (l : List Rw) (r : Rw) (b : List Int) (f : Nat) : hold f b (l ++ [r]) = if r.file = f then wth (hold f b l) r else hold f b l := hold_app l [r] b f

/-- A raw step that fits what stands ahead of it. -/
def fits (s : Nat → List Int) (r : Rw) : Prop := r.file < 4 ∧ (r.cut = true → r.to ≤ (s r.file).length) ∧ (r.cut = false → 1 ≤ r.bytes.length ∧ r.bytes.length ≤ 64)

def valid (s : Nat → List Int) : List Rw → Prop
  | [] => True
  | r :: l => fits s r ∧ valid (one s r) l

theorem valid_app : ∀ (l m : List Rw) (s : Nat → List Int), valid s (l ++ m) ↔ valid s l ∧ valid (dof s l) m
  | [], _, _ => by simp [valid, dof]
  | r :: l, m, s => by simp [valid, dof, valid_app l m, and_assoc]

theorem valid_at {l : List Rw} {s : Nat → List Int} (h : valid s l) {k : Nat} {r : Rw} (hk : l[k]? = some r) : fits (dof s (l.take k)) r := by
  obtain ⟨hlt, rfl⟩ := List.getElem?_eq_some_iff.1 hk
  rw [← List.take_append_drop k l, valid_app, List.drop_eq_getElem_cons hlt] at h
  exact h.2.1

/-- How many bytes are pending. -/
def bulk : List Rw → Nat
  | [] => 0
  | r :: l => r.bytes.length + bulk l

theorem bulk_app : ∀ (l m : List Rw), bulk (l ++ m) = bulk l + bulk m
  | [], _ => by simp [bulk]
  | r :: l, m => by simp [bulk, bulk_app l m]; omega

theorem wth_len (b : List Int) (r : Rw) : (wth b r).length ≤ b.length + r.bytes.length := by
  unfold wth
  split
  · rw [List.length_take]; omega
  · simp

theorem hold_len : ∀ (l : List Rw) (b : List Int) (f : Nat), (hold f b l).length ≤ b.length + bulk l
  | [], _, _ => by simp [hold, bulk]
  | r :: l, b, f => by
    have h1 := hold_len l (if r.file = f then wth b r else b) f
    have h2 := wth_len b r
    simp only [hold, bulk]
    split at h1 <;> simp_all <;> omega

/-- No file, nor what is pending, has more than t bytes in all; no more than u raw steps. -/
def Sz (t u : Nat) (st : Ds) : Prop := (∀ f, (st.sure f).length + bulk st.wait ≤ t) ∧ st.wait.length ≤ u ∧ st.count ≤ u

def Ok (st : Ds) : Prop := valid st.sure st.wait

/-- One raw step is allowed, or the disk goes off. -/
def off (st : Ds) : Bool := st.has && st.left == 0
def burn (st : Ds) : Ds := { st with left := if st.has then st.left - 1 else st.left, count := st.count + 1 }
def dark (st : Ds) : Ds := { st with on := false }
def push (st : Ds) (r : Rw) : Ds := { st with wait := st.wait ++ [r] }

/-- The raw writes of a Write, piece by piece (n: as many bytes at the most). -/
def wrt (file : Nat) : Nat → Ds → List Int → Int × Ds
  | 0, st, _ => (0, st)
  | n + 1, st, bs => if bs = [] then (0, st) else if off st then (6, dark st) else wrt file n (push (burn st) ⟨file, false, 0, bs.take 64⟩) (bs.drop 64)

def inF (file : Int) : Bool := decide (0 ≤ file) && decide (file < 4)

def write (st : Ds) (file : Int) (bs : List Int) : Int × Ds := if st.on = false then (6, st) else if inF file = false then (2, st) else wrt file.toNat bs.length st bs
def cutD (st : Ds) (file len : Int) : Int × Ds := if st.on = false then (6, st) else if inF file = false then (2, st) else if len < 0 ∨ (hold file.toNat (st.sure file.toNat) st.wait).length < len then (2, st) else if off st then (6, dark st) else (0, push (burn st) ⟨file.toNat, true, len.toNat, []⟩)
def flush (st : Ds) : Ds := { st with sure := dof st.sure st.wait, wait := [] }
def sync (st : Ds) : Int × Ds := if st.on = false then (6, st) else if off st then (6, dark st) else (0, flush (burn st))
def fuse (st : Ds) (n : Int) : Int × Ds := if st.on = false then (6, st) else if n < 0 then (2, st) else (0, { st with has := true, left := n.toNat })
def safe (st : Ds) : Int × Ds := if st.on = false then (6, st) else (0, { st with has := false })
def pull (st : Ds) : Int × Ds := if st.on = false then (6, st) else (0, dark st)

/-- What stands of the steps when it is on again with k and t. -/
def kept (st : Ds) (k t : Nat) : Nat → List Int :=
  match st.wait[k]? with
  | some r => if r.cut then dof st.sure (st.wait.take k) else one (dof st.sure (st.wait.take k)) ⟨r.file, false, 0, r.bytes.take (min t (r.bytes.length - 1))⟩
  | none => dof st.sure (st.wait.take k)
def start (st : Ds) (k t : Int) : Int × Ds := if st.on = true ∨ k < 0 ∨ t < 0 then (2, st) else (0, { st with sure := kept st k.toNat t.toNat, wait := [], has := false, on := true })

def new : Ds := ⟨fun _ => [], [], true, false, 0, 0⟩

end Go.Proofs.Ytofbnkeglhhnlaa.Dm

/- Bytes of an object, in blocks of its own. -/
namespace Go.Proofs.Ytofbnkeglhhnlaa
open Go.RowKit
set_option linter.unusedVariables false

/-- Bytes of an object: they lie in the blocks of F, in a block of bytes. -/
def Byt (F : Nat → Prop) (w : World) (v : Value) (zs : List Int) : Prop := Is .u8 w v zs ∧ ∀ b, v.ownBlock = some b → F b ∧ ∃ cs fr, w.heap[b]? = some (.cells cs 5 fr)

theorem Byt.nil (F : Nat → Prop) (w : World) : Byt F w (.slice none 0 0) [] := ⟨Is.nil _ _, fun b hb => by simp [Value.ownBlock] at hb⟩

theorem Byt.agree {F : Nat → Prop} {w w' : World} {v : Value} {zs : List Int} (h : Byt F w v zs) (ha : ∀ b, v.ownBlock = some b → w'.heap[b]? = w.heap[b]?) : Byt F w' v zs :=
  ⟨h.1.agree ha, fun b hb => ⟨(h.2 b hb).1, by obtain ⟨_, cs, fr, hc⟩ := h.2 b hb; exact ⟨cs, fr, (ha b hb).trans hc⟩⟩⟩

theorem Byt.mono {F G : Nat → Prop} {w : World} {v : Value} {zs : List Int} (h : Byt F w v zs) (hs : ∀ g, F g → G g) : Byt G w v zs := ⟨h.1, fun b hb => ⟨hs b (h.2 b hb).1, (h.2 b hb).2⟩⟩

theorem Byt.ne {F : Nat → Prop} {w : World} {v : Value} {zs : List Int} (h : Byt F w v zs) {p : Nat} {cs : Array Value} {t : TypeId} {fr : Nat × Nat} (hp : w.heap[p]? = some (.cells cs t fr)) (ht : t ≠ 5) : ∀ b, v.ownBlock = some b → b ≠ p := by
  intro b hb e
  obtain ⟨_, cs', fr', hc⟩ := h.2 b hb
  rw [e, hp] at hc
  simp at hc
  exact ht hc.2.1

theorem Byt.of_own {F : Nat → Prop} {base : Nat} {w : World} {v : Value} {zs : List Int} (h : Own .u8 5 base w v zs) (hF : ∀ b, base ≤ b → b < w.heap.size → F b) : Byt F w v zs := by
  refine ⟨h.is, fun b hb => ⟨hF b (h.block b hb).1 (h.block b hb).2, ?_⟩⟩
  rcases h.2.2 with ⟨rfl, _⟩ | ⟨g, cap, cur, rfl, _, hh, _⟩
  · simp [Value.ownBlock] at hb
  · simp [Value.ownBlock] at hb
    subst hb
    exact ⟨_, _, hh⟩

end Go.Proofs.Ytofbnkeglhhnlaa

/- The document's disk in memory, and the contracts of its small methods. -/
namespace Go.Proofs.Ytofbnkeglhhnlaa
open Go.RowKit
set_option linter.unusedVariables false

/-- A raw step as it stands in memory. -/
structure Rv where
  file : Nat
  cut : Bool
  to : Nat
  v : Value
  bytes : List Int

def Rv.r (r : Rv) : Dm.Rw := ⟨r.file, r.cut, r.to, r.bytes⟩
def rawc (r : Rv) : List Value := [.int .i64 r.file, .bool r.cut, .int .i64 r.to, r.v]
theorem rawc_len (r : Rv) : (rawc r).length = 4 := rfl

/-- A disk's ten cells. -/
def dcells (s : Nat → Value) (wv : Value) (on has : Bool) (left count : Int) : Array Value := #[.bool true, s 0, s 1, s 2, s 3, wv, .bool on, .bool has, .int .i64 left, .int .i64 count]

section
variable {p : Nat} {F G : Nat → Prop} {w w' w1 w2 : World} {st st' : Dm.Ds} {s s' : Nat → Value} {wv wv' : Value} {rs rs' : List Rv}

end

/-- Why nothing is done. -/
def ask (st : Dm.Ds) : Int := if st.on then 0 else 6

theorem ask_on {st : Dm.Ds} (h : st.on = true) : ask st = 0 := by simp [ask, h]
theorem ask_off {st : Dm.Ds} (h : st.on = false) : ask st = 6 := by simp [ask, h]

/-- The disk is nobody's where it was not made: a pointer to such a block, or none. -/
theorem ok_dark {st : Dm.Ds} (h : Dm.Ok st) : Dm.Ok (Dm.dark st) := h
theorem ok_burn {st : Dm.Ds} (h : Dm.Ok st) : Dm.Ok (Dm.burn st) := h

end Go.Proofs.Ytofbnkeglhhnlaa
