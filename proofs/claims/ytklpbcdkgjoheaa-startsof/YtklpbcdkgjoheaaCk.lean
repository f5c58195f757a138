/- Rows of commits in memory: what a slice of commits reads as, one of the call's own, an append between the two. -/
import Derived.Test.YtklpbcdkgjoheaaBb
import Derived.Test.YtklpbcdkgjoheaaCutb
import Derived.Test.YtklpbcdkgjoheaaCm
namespace Go.Proofs.Ytklpbcdkgjoheaa
open Go.RowKit
set_option linter.unusedVariables false

/-- A commit as it stands in memory: v is its slice of ops, which reads as l. -/
structure Cw where
  e : Int
  n : Int
  v : Value
  l : List Bm.Ov

def Cw.c (c : Cw) : Cm.Cv := ⟨c.e, c.n, c.l⟩
def cvs (r : List Cw) : List Cm.Cv := r.map Cw.c

/-- A commit as a value. -/
def cmv (e n : Int) (v : Value) : Value := .agg #[.int .i64 e, .int .i64 n, v]

def ccell (c : Cw) : List Value := [.int .i64 c.e, .int .i64 c.n, c.v]
def ccells : List Cw → List Value
  | [] => []
  | c :: r => ccell c ++ ccells r

theorem ccells_len : ∀ (l : List Cw), (ccells l).length = l.length * 3
  | [] => rfl
  | o :: r => by
    have := ccells_len r
    simp only [ccells, ccell, List.length_append, List.length_cons, List.length_nil]
    omega

theorem ccells_app : ∀ (l m : List Cw), ccells (l ++ m) = ccells l ++ ccells m
  | [], _ => rfl
  | o :: l, m => by simp only [List.cons_append, ccells, ccells_app l m, List.append_assoc]

theorem ccells_cell : ∀ (l : List Cw), (∀ c ∈ l, c.v.oneCell' = true) → ∀ u ∈ ccells l, u.oneCell' = true
  | [], _, u, h => by simp [ccells] at h
  | o :: r, hv, u, h => by
    rcases List.mem_append.1 h with h | h
    · simp only [ccell, List.mem_cons, List.not_mem_nil, or_false] at h
      rcases h with rfl | rfl | rfl
      · rfl
      · rfl
      · exact hv o (List.mem_cons_self ..)
    · exact ccells_cell r (fun c hc => hv c (List.mem_cons_of_mem _ hc)) u h

theorem ccells_at : ∀ (l : List Cw) (i : Nat) (hi : i < l.length), (ccells l)[i * 3]? = some (.int .i64 l[i].e) ∧ (ccells l)[i * 3 + 1]? = some (.int .i64 l[i].n) ∧ (ccells l)[i * 3 + 2]? = some l[i].v
  | [], _, hi => by simp at hi
  | o :: r, 0, hi => by simp [ccells, ccell]
  | o :: r, i + 1, hi => by
    have := ccells_at r i (by simpa using hi)
    simp only [ccells, ccell]
    rw [show (i + 1) * 3 = i * 3 + 3 by omega]
    simpa [List.getElem?_append] using this

theorem ccells_take : ∀ (l : List Cw) (p : Nat), ccells (l.take p) = (ccells l).take (p * 3)
  | [], p => by simp [ccells]
  | o :: l, 0 => by simp [ccells]
  | o :: l, p + 1 => by
    rw [List.take_succ_cons, show (p + 1) * 3 = p * 3 + 3 by omega]
    simp [ccells, ccell, ccells_take l p]

theorem ccells_drop : ∀ (l : List Cw) (p : Nat), ccells (l.drop p) = (ccells l).drop (p * 3)
  | [], p => by simp [ccells]
  | o :: l, 0 => by simp [ccells]
  | o :: l, p + 1 => by
    rw [List.drop_succ_cons, show (p + 1) * 3 = p * 3 + 3 by omega]
    simp [ccells, ccell, ccells_drop l p]

theorem IsO.one {w : World} {v : Value} {l : List Bm.Ov} (h : IsO w v l) : v.oneCell' = true := by
  obtain ⟨ao, cap, rfl, _⟩ := h.shape
  rfl

/-- A number that a cell of 64 bits holds. -/
def In64 (x : Int) : Prop := -9223372036854775808 ≤ x ∧ x < 9223372036854775808

/-- What each commit of a row is. -/
def InC (w : World) (r : List Cw) : Prop := ∀ c ∈ r, IsO w c.v c.l ∧ In64 c.e ∧ In64 c.n
def FitC (r : List Cw) : Prop := ∀ c ∈ r, FitO c.l ∧ c.l.length * 40 ≤ 140737488351232

theorem InC.below {w w' : World} {r : List Cw} (h : InC w r) (hb : Below w.heap.size w w') : InC w' r := fun c hc => ⟨(h c hc).1.below hb, (h c hc).2⟩
theorem InC.one {w : World} {r : List Cw} (h : InC w r) : ∀ c ∈ r, c.v.oneCell' = true := fun c hc => (h c hc).1.one
theorem InC.take {w : World} {r : List Cw} (h : InC w r) (p : Nat) : InC w (r.take p) := fun c hc => h c (List.mem_of_mem_take hc)
theorem InC.drop {w : World} {r : List Cw} (h : InC w r) (p : Nat) : InC w (r.drop p) := fun c hc => h c (List.mem_of_mem_drop hc)
theorem InC.app {w : World} {r s : List Cw} (h : InC w r) (k : InC w s) : InC w (r ++ s) := fun c hc => (List.mem_append.1 hc).elim (h c) (k c)
theorem FitC.take {r : List Cw} (h : FitC r) (p : Nat) : FitC (r.take p) := fun c hc => h c (List.mem_of_mem_take hc)
theorem FitC.drop {r : List Cw} (h : FitC r) (p : Nat) : FitC (r.drop p) := fun c hc => h c (List.mem_of_mem_drop hc)
theorem FitC.app {r s : List Cw} (h : FitC r) (k : FitC s) : FitC (r ++ s) := fun c hc => (List.mem_append.1 hc).elim (h c) (k c)

/-- A slice value whose cells are those of the commits r. -/
def RowC (w : World) (v : Value) (r : List Cw) : Prop :=
  (v = .slice none 0 0 ∧ r = []) ∨ ∃ ad cap, v = .slice (some ad) r.length cap ∧ r.length ≤ cap ∧ cap ≤ maxLen ∧ ∀ j u, (ccells r)[j]? = some u → w.cell? (ad.add j) = some u

/-- A slice value that reads as the commits r. -/
def IsC (w : World) (v : Value) (r : List Cw) : Prop := RowC w v r ∧ InC w r

/-- A row of the call's own. -/
def OwnR (e : TypeId) (base : Nat) (w : World) (v : Value) (r : List Cw) : Prop := w.ownsRow base e 3 v r.length (ccells r)

theorem RowC.nil (w : World) : RowC w (.slice none 0 0) [] := .inl ⟨rfl, rfl⟩
theorem IsC.nil (w : World) : IsC w (.slice none 0 0) [] := ⟨RowC.nil w, fun c hc => by simp at hc⟩
theorem OwnR.nil (e : TypeId) (base : Nat) (w : World) : OwnR e base w (.slice none 0 0) [] := World.ownsRow_nil _ _ _ _

theorem RowC.below {w w' : World} {v : Value} {l : List Cw} (h : RowC w v l) (hb : Below w.heap.size w w') : RowC w' v l := by
  rcases h with h | ⟨ad, cap, hv, h1, h2, hc⟩
  · exact .inl h
  · refine .inr ⟨ad, cap, hv, h1, h2, fun j u hj => ?_⟩
    have := hc j u hj
    rw [hb.cell (World.block_lt_of_cell? _ _ this)]
    exact this

theorem IsC.below {w w' : World} {v : Value} {l : List Cw} (h : IsC w v l) (hb : Below w.heap.size w w') : IsC w' v l := ⟨h.1.below hb, h.2.below hb⟩
theorem IsC.drewN {w : World} {v : Value} {l : List Cw} (h : IsC w v l) (n : Nat) : IsC (w.drewN n) v l := h.below (below_drewN (Below.refl _ _) n)

theorem RowC.shape {w : World} {v : Value} {l : List Cw} (h : RowC w v l) : ∃ ao cap, v = .slice ao l.length cap ∧ l.length ≤ cap ∧ cap ≤ maxLen := by
  rcases h with ⟨hv, e⟩ | ⟨ad, cap, hv, h1, h2, _⟩
  · subst e; exact ⟨none, 0, hv, by simp, by simp⟩
  · exact ⟨some ad, cap, hv, h1, h2⟩

theorem RowC.full {w : World} {v : Value} {l : List Cw} (h : RowC w v l) (hne : 0 < l.length) :
    ∃ b off cap, v = .slice (some ⟨b, off, none⟩) l.length cap ∧ l.length ≤ cap ∧ cap ≤ maxLen ∧ b < w.heap.size ∧
      ∀ i c, l[i]? = some c → w.cell? ⟨b, off + i * 3, none⟩ = some (.int .i64 c.e) ∧ w.cell? ⟨b, off + i * 3 + 1, none⟩ = some (.int .i64 c.n) ∧ w.cell? ⟨b, off + i * 3 + 2, none⟩ = some c.v := by
  rcases h with ⟨_, h⟩ | ⟨⟨b, off, spot⟩, cap, hv, h1, h2, hc⟩
  · subst h; simp at hne
  · have h0 := hc 0 _ (ccells_at l 0 hne).1
    have hspot : spot = none := by simpa [Addr.add] using World.cell?_spot h0
    subst hspot
    refine ⟨b, off, cap, hv, h1, h2, World.block_lt_of_cell? _ _ h0, fun i o hio => ?_⟩
    obtain ⟨hi, rfl⟩ := List.getElem?_eq_some_iff.1 hio
    obtain ⟨g1, g2, g3⟩ := ccells_at l i hi
    have k1 := hc _ _ g1
    have k2 := hc _ _ g2
    have k3 := hc _ _ g3
    rw [add_at] at k1 k2 k3
    exact ⟨k1, by rw [Nat.add_assoc]; exact k2, by rw [Nat.add_assoc]; exact k3⟩

theorem OwnR.row {e base : Nat} {w : World} {v : Value} {l : List Cw} (h : OwnR e base w v l) : RowC w v l := by
  rcases h.2 with ⟨hv, hn⟩ | ⟨g, cap, cur, hv, h1, hh, hc, hm, hs, ht⟩
  · exact .inl ⟨hv, List.eq_nil_of_length_eq_zero hn⟩
  · refine .inr ⟨⟨g, 0, none⟩, cap, hv, hc, hm, fun j u hj => ?_⟩
    exact h.cells (by rw [hv]; rfl) j u hj

theorem row_below {e base size n : Nat} {w w' : World} {v : Value} {xs : List Value} (h : w.ownsRow base e size v n xs) (hb : Below w.heap.size w w') : w'.ownsRow base e size v n xs := by
  refine ⟨h.1, ?_⟩
  rcases h.2 with h | ⟨g, cap, cur, hv, h1, hh, r⟩
  · exact .inl h
  · refine .inr ⟨g, cap, cur, hv, h1, ?_, r⟩
    rw [hb.block g (Array.getElem?_eq_some_iff.1 hh).1]
    exact hh

theorem OwnR.below {e base : Nat} {w w' : World} {v : Value} {l : List Cw} (h : OwnR e base w v l) (hb : Below w.heap.size w w') : OwnR e base w' v l := row_below h hb

/-- Commits laid in a new block. -/
theorem coms_step (e : TypeId) (w : World) (cs : Array Value) (n : Nat) (l : List Cw) (hn : l.length = n) (h : cs.toList = ccells l) (hm : n ≤ maxLen) :
    ∃ W, w.alloc (.cells cs e) = W ∧ W.heap.size = w.heap.size + 1 ∧ Below w.heap.size w W ∧ OwnR e w.heap.size W (.slice (some ⟨w.heap.size, 0, none⟩) n n) l := by
  subst hn
  refine ⟨_, rfl, by simp, (Below.refl _ _).alloc (Nat.le_refl _) _, ?_⟩
  have ho := World.ownsRow_lit (base := w.heap.size) (e := e) (size := 3) w cs l.length (Nat.le_refl _) hm (by have := congrArg List.length h; rw [ccells_len] at this; simpa using this)
  rw [h] at ho
  exact ho

/-- What a row of the call's own grows by leaves blocks of another type. -/
theorem KeepT.of_row {e base size n : Nat} {w w' : World} {v : Value} {xs : List Value} (h : w.ownsRow base e size v n xs) (hg : w.grownBy w' v.ownBlock) : KeepT e w w' := by
  intro g cs t fr hc ht
  refine (hg.block g (blk_lt hc) fun e1 => ?_).trans hc
  rcases h.2 with ⟨rfl, _⟩ | ⟨g', cap, cur, rfl, _, hh, _⟩
  · simp [Value.ownBlock] at e1
  · simp [Value.ownBlock] at e1
    subst e1
    rw [hh] at hc
    simp at hc
    exact ht hc.2.1.symm

theorem OwnO.keepT {e e' base : Nat} {w w' : World} {v : Value} {l : List Bm.Ov} (h : OwnO e base w v l) (k : KeepT e' w w') (hne : e ≠ e') : OwnO e base w' v l := by
  refine ⟨h.1, ?_⟩
  rcases h.2 with h | ⟨g, cap, cur, hv, h1, hh, r⟩
  · exact .inl h
  · exact .inr ⟨g, cap, cur, hv, h1, k _ _ _ _ hh hne, r⟩

section
variable {P : Program} {w : World} {ops : Array Oper} {rest : List Oper} {o : Oper} {a : Act} {Q : Exit → Act → World → Prop}

/-- 'out = append(out, xs...)' of commits: out nil or the call's own. -/
theorem wpList_append_coms (hgd : o.guard = none) (s x : Operand) (t : TypeId)
    (ho : o.op = .call { callee := .builtin .append, args := #[s, x], argTypes := #[t, t] })
    (e : TypeId) (base : Nat) (ht : P.underlying t = some (.slice e)) (hinfo : (P.info? e).map (fun i => (i.zero, i.size, i.bytes)) = some (some (.agg #[.int .i64 0, .int .i64 0, .slice none 0 0]), 3, 40))
    (v : Value) (l : List Cw) (hs : a.eval s = v) (hown : OwnR e base w v l) (vx : Value) (m : List Cw) (hx : a.eval x = vx) (his : RowC w vx m) (hone : ∀ c ∈ m, c.v.oneCell' = true)
    (hlen : (l.length + m.length) * 40 ≤ 140737488355328) (hbase : base ≤ w.heap.size)
    (h : ∀ v' w', OwnR e base w' v' (l ++ m) → Below base w w' → KeepT e w w' → wpList P ops Q rest (a.put o.dst v') w') : wpList P ops Q (o :: rest) a w := by
  obtain ⟨i, hi, hz, hsize, hb⟩ := info_parts hinfo
  have hn : l.length + m.length ≤ 140737488355328 := by omega
  rcases his with ⟨hv, hy⟩ | ⟨ad, cap, hv, h1, h2, hc⟩
  · subst hy
    refine wpList_append_own_none hgd s x t ho base e i 3 ht hi v l.length _ hs hown (hx.trans hv) (h v w (by simpa using hown) (Below.refl _ _) (KeepT.refl _ _))
  · refine wpList_append_own w hgd s x t ho base e i _ 3 40 ht hi hz hsize hb rfl (by decide) v l.length _ hs hown ad m.length cap (ccells m) (hx.trans hv) (ccells_len m) hc (ccells_cell m hone) (by unfold maxLen; omega) hlen hbase ?_
    intro v' w' ho' hg _
    refine h v' w' (by unfold OwnR; rw [ccells_app, List.length_append]; exact ho') ((Below.refl _ _).grown hg hbase fun k' hk => ?_) (KeepT.of_row hown hg)
    exact (World.ownsRow.lt hown k' hk).1

variable {v : Value}

/-- 'v[:p]' of commits. -/
theorem RowC.slice_h {l : List Cw} (h : RowC w v l) {t : TypeId} (ht : P.underlying t = some (.slice (P.elem t))) (hs : ∀ wx, (sizeOf (P.elem t)).run P wx = .ok 3 wx) (p : Nat) (hp : p ≤ l.length) :
    ∃ vs, (∀ wx, (Instr.slice t v none (some (.int .i64 p)) none).run P wx = .ok vs wx) ∧ RowC w vs (l.take p) := by
  obtain ⟨ao, cap, rfl, hcap, hm⟩ := h.shape
  refine ⟨.slice ao p cap, fun wx => ?_, ?_⟩
  · rw [run_slice_h wx t ao l.length cap ht .i64 _ (by omega) (by omega), hs]
    simp only [Result.andThen, sliced]
    cases ao <;> simp [Addr.add]
  · cases ao with
    | none =>
      rcases h with ⟨hv, e⟩ | ⟨ad, cap', hv, _⟩
      · subst e
        simp at hp hv
        subst hp hv
        exact RowC.nil _
      · simp at hv
    | some ad =>
      have hl : (l.take p).length = p := by rw [List.length_take]; omega
      rcases h with ⟨hv, _⟩ | ⟨ad', cap', hv, h1, h2, hc⟩
      · simp at hv
      · simp at hv
        obtain ⟨rfl, rfl⟩ := hv
        refine .inr ⟨ad, cap, by rw [hl], by omega, h2, fun j u hj => hc j u ?_⟩
        rw [ccells_take, List.getElem?_take] at hj
        split at hj
        · exact hj
        · simp at hj

/-- 'v[p:]' of commits. -/
theorem RowC.slice_l {l : List Cw} (h : RowC w v l) {t : TypeId} (ht : P.underlying t = some (.slice (P.elem t))) (hs : ∀ wx, (sizeOf (P.elem t)).run P wx = .ok 3 wx) (p : Nat) (hp : p < l.length) :
    ∃ vs, (∀ wx, (Instr.slice t v (some (.int .i64 p)) none none).run P wx = .ok vs wx) ∧ RowC w vs (l.drop p) := by
  obtain ⟨b, off, cap, rfl, hcap, hm, hB, hcell⟩ := h.full (by omega)
  refine ⟨.slice (some ⟨b, off + p * 3, none⟩) (l.length - p) (cap - p), fun wx => ?_, ?_⟩
  · rw [run_slice_l wx t _ l.length cap ht .i64 _ (by omega) (by omega), hs]
    have hne : ¬ cap = p := by omega
    simp [Result.andThen, sliced, hne, add_at]
  · rcases h with ⟨hv, _⟩ | ⟨ad', cap', hv, h1, h2, hc⟩
    · simp at hv
    · simp at hv
      obtain ⟨rfl, rfl⟩ := hv
      refine .inr ⟨⟨b, off + p * 3, none⟩, cap - p, by simp, by simp; omega, by omega, fun j u hj => ?_⟩
      rw [ccells_drop, List.getElem?_drop] at hj
      have := hc _ _ hj
      rw [add_at] at this ⊢
      rw [Nat.add_assoc]
      exact this

/-- 'len(v)' of commits. -/
theorem RowC.len_run {l : List Cw} (h : RowC w v l) {t : TypeId} (ht : P.underlying t = some (.slice (P.elem t))) : ∀ ty wx, (Builtin.len_ #[t] ty #[v]).run P wx = .ok (goInt l.length) wx := by
  intro ty wx
  obtain ⟨ao, cap, rfl, _, _⟩ := h.shape
  simp [Builtin.len_, run_underlying ht]
end

theorem Try.info40 : (Try.prog.info? 40).map (fun i => (i.zero, i.size, i.bytes)) = some (some (.agg #[.int .i64 0, .int .i64 0, .slice none 0 0]), 3, 40) := by kernel_rfl
theorem Try.elemC : Try.prog.underlying 37 = some (.slice (Try.prog.elem 37)) := by kernel_rfl
theorem Try.sizeC (wx : World) : (sizeOf (Try.prog.elem 37)).run Try.prog wx = .ok 3 wx := by kernel_rfl

end Go.Proofs.Ytklpbcdkgjoheaa
