/- Texts of one layer, one behind the other. -/
import Derived.Test.YtkpnkknolobioaaGreatG4
import Derived.Test.YtkpnkknolobioaaGreatG1
import Derived.Test.YtkpnkknolobioaaGreatG3
import Derived.Laws.StructEq
/- Rows of commits in memory: what a slice of commits reads as, one of the call's own, an append between the two. -/
namespace Go.Proofs.YtkpnkknolobioaaGreat
open Go.RowKit
set_option linter.unusedVariables false

/-- A commit as it stands in memory: v is its slice of ops, which reads as l. -/
structure Cw where
  e : Int
  n : Int
  v : Value
  l : List Bm.Ov

def Cw.c (c : Cw) : Cm.Cv := ⟨c.e, c.n, c.l⟩
def cvs (r : List Cw) : List Cm.Cv := r.map Cw.c

/-- A commit as a value. -/
def cmv (e n : Int) (v : Value) : Value := .agg #[.int .i64 e, .int .i64 n, v]

def ccell (c : Cw) : List Value := [.int .i64 c.e, .int .i64 c.n, c.v]
def ccells : List Cw → List Value
  | [] => []
  | c :: r => ccell c ++ ccells r

theorem ccells_len : ∀ (l : List Cw), (ccells l).length = l.length * 3
  | [] => rfl
  | o :: r => by
    have := ccells_len r
    simp only [ccells, ccell, List.length_append, List.length_cons, List.length_nil]
    omega

theorem ccells_app : ∀ (l m : List Cw), ccells (l ++ m) = ccells l ++ ccells m
  | [], _ => rfl
  | o :: l, m => by simp only [List.cons_append, ccells, ccells_app l m, List.append_assoc]

theorem ccells_cell : ∀ (l : List Cw), (∀ c ∈ l, c.v.oneCell' = true) → ∀ u ∈ ccells l, u.oneCell' = true
  | [], _, u, h => by simp [ccells] at h
  | o :: r, hv, u, h => by
    rcases List.mem_append.1 h with h | h
    · simp only [ccell, List.mem_cons, List.not_mem_nil, or_false] at h
      rcases h with rfl | rfl | rfl
      · rfl
      · rfl
      · exact hv o (List.mem_cons_self ..)
    · exact ccells_cell r (fun c hc => hv c (List.mem_cons_of_mem _ hc)) u h

theorem ccells_at : ∀ (l : List Cw) (i : Nat) (hi : i < l.length), (ccells l)[i * 3]? = some (.int .i64 l[i].e) ∧ (ccells l)[i * 3 + 1]? = some (.int .i64 l[i].n) ∧ (ccells l)[i * 3 + 2]? = some l[i].v
  | [], _, hi => by simp at hi
  | o :: r, 0, hi => by simp [ccells, ccell]
  | o :: r, i + 1, hi => by
    have := ccells_at r i (by simpa using hi)
    simp only [ccells, ccell]
    rw [show (i + 1) * 3 = i * 3 + 3 by omega]
    simpa [List.getElem?_append] using this

theorem ccells_take : ∀ (l : List Cw) (p : Nat), ccells (l.take p) = (ccells l).take (p * 3)
  | [], p => by simp [ccells]
  | o :: l, 0 => by simp [ccells]
  | o :: l, p + 1 => by
    rw [List.take_succ_cons, show (p + 1) * 3 = p * 3 + 3 by omega]
    simp [ccells, ccell, ccells_take l p]

theorem ccells_drop : ∀ (l : List Cw) (p : Nat), ccells (l.drop p) = (ccells l).drop (p * 3)
  | [], p => by simp [ccells]
  | o :: l, 0 => by simp [ccells]
  | o :: l, p + 1 => by
    rw [List.drop_succ_cons, show (p + 1) * 3 = p * 3 + 3 by omega]
    simp [ccells, ccell, ccells_drop l p]

theorem IsO.one {w : World} {v : Value} {l : List Bm.Ov} (h : IsO w v l) : v.oneCell' = true := by
  obtain ⟨ao, cap, rfl, _⟩ := h.shape
  rfl

/-- A number that a cell of 64 bits holds. -/
def In64 (x : Int) : Prop := -9223372036854775808 ≤ x ∧ x < 9223372036854775808

/-- What each commit of a row is. -/
def InC (w : World) (r : List Cw) : Prop := ∀ c ∈ r, IsO w c.v c.l ∧ In64 c.e ∧ In64 c.n
def FitC (r : List Cw) : Prop := ∀ c ∈ r, FitO c.l ∧ c.l.length * 40 ≤ 140737488351232

theorem InC.below {w w' : World} {r : List Cw} (h : InC w r) (hb : Below w.heap.size w w') : InC w' r := fun c hc => ⟨(h c hc).1.below hb, (h c hc).2⟩
theorem InC.one {w : World} {r : List Cw} (h : InC w r) : ∀ c ∈ r, c.v.oneCell' = true := fun c hc => (h c hc).1.one
theorem InC.take {w : World} {r : List Cw} (h : InC w r) (p : Nat) : InC w (r.take p) := fun c hc => h c (List.mem_of_mem_take hc)
theorem InC.drop {w : World} {r : List Cw} (h : InC w r) (p : Nat) : InC w (r.drop p) := fun c hc => h c (List.mem_of_mem_drop hc)
theorem InC.app {w : World} {r s : List Cw} (h : InC w r) (k : InC w s) : InC w (r ++ s) := fun c hc => (List.mem_append.1 hc).elim (h c) (k c)
theorem FitC.take {r : List Cw} (h : FitC r) (p : Nat) : FitC (r.take p) := fun c hc => h c (List.mem_of_mem_take hc)
theorem FitC.drop {r : List Cw} (h : FitC r) (p : Nat) : FitC (r.drop p) := fun c hc => h c (List.mem_of_mem_drop hc)
theorem FitC.app {r s : List Cw} (h : FitC r) (k : FitC s) : FitC (r ++ s) := fun c hc => (List.mem_append.1 hc).elim (h c) (k c)

/-- A slice value whose cells are those of the commits r. -/
def RowC (w : World) (v : Value) (r : List Cw) : Prop :=
  (v = .slice none 0 0 ∧ r = []) ∨ ∃ ad cap, v = .slice (some ad) r.length cap ∧ r.length ≤ cap ∧ cap ≤ maxLen ∧ ∀ j u, (ccells r)[j]? = some u → w.cell? (ad.add j) = some u

/-- A slice value that reads as the commits r. -/
def IsC (w : World) (v : Value) (r : List Cw) : Prop := RowC w v r ∧ InC w r

/-- A row of the call's own. -/
def OwnR (e : TypeId) (base : Nat) (w : World) (v : Value) (r : List Cw) : Prop := w.ownsRow base e 3 v r.length (ccells r)

theorem RowC.nil (w : World) : RowC w (.slice none 0 0) [] := .inl ⟨rfl, rfl⟩
theorem IsC.nil (w : World) : IsC w (.slice none 0 0) [] := ⟨RowC.nil w, fun c hc => by simp at hc⟩
theorem OwnR.nil (e : TypeId) (base : Nat) (w : World) : OwnR e base w (.slice none 0 0) [] := World.ownsRow_nil _ _ _ _

theorem RowC.below {w w' : World} {v : Value} {l : List Cw} (h : RowC w v l) (hb : Below w.heap.size w w') : RowC w' v l := by
  rcases h with h | ⟨ad, cap, hv, h1, h2, hc⟩
  · exact .inl h
  · refine .inr ⟨ad, cap, hv, h1, h2, fun j u hj => ?_⟩
    have := hc j u hj
    rw [hb.cell (World.block_lt_of_cell? _ _ this)]
    exact this

theorem IsC.below {w w' : World} {v : Value} {l : List Cw} (h : IsC w v l) (hb : Below w.heap.size w w') : IsC w' v l := ⟨h.1.below hb, h.2.below hb⟩
theorem IsC.drewN {w : World} {v : Value} {l : List Cw} (h : IsC w v l) (n : Nat) : IsC (w.drewN n) v l := h.below (below_drewN (Below.refl _ _) n)

theorem RowC.shape {w : World} {v : Value} {l : List Cw} (h : RowC w v l) : ∃ ao cap, v = .slice ao l.length cap ∧ l.length ≤ cap ∧ cap ≤ maxLen := by
  rcases h with ⟨hv, e⟩ | ⟨ad, cap, hv, h1, h2, _⟩
  · subst e; exact ⟨none, 0, hv, by simp, by simp⟩
  · exact ⟨some ad, cap, hv, h1, h2⟩

theorem RowC.full {w : World} {v : Value} {l : List Cw} (h : RowC w v l) (hne : 0 < l.length) :
    ∃ b off cap, v = .slice (some ⟨b, off, none⟩) l.length cap ∧ l.length ≤ cap ∧ cap ≤ maxLen ∧ b < w.heap.size ∧
      ∀ i c, l[i]? = some c → w.cell? ⟨b, off + i * 3, none⟩ = some (.int .i64 c.e) ∧ w.cell? ⟨b, off + i * 3 + 1, none⟩ = some (.int .i64 c.n) ∧ w.cell? ⟨b, off + i * 3 + 2, none⟩ = some c.v := by
  rcases h with ⟨_, h⟩ | ⟨⟨b, off, spot⟩, cap, hv, h1, h2, hc⟩
  · subst h; simp at hne
  · have h0 := hc 0 _ (ccells_at l 0 hne).1
    have hspot : spot = none := by simpa [Addr.add] using World.cell?_spot h0
    subst hspot
    refine ⟨b, off, cap, hv, h1, h2, World.block_lt_of_cell? _ _ h0, fun i o hio => ?_⟩
    obtain ⟨hi, rfl⟩ := List.getElem?_eq_some_iff.1 hio
    obtain ⟨g1, g2, g3⟩ := ccells_at l i hi
    have k1 := hc _ _ g1
    have k2 := hc _ _ g2
    have k3 := hc _ _ g3
    rw [add_at] at k1 k2 k3
    exact ⟨k1, by rw [Nat.add_assoc]; exact k2, by rw [Nat.add_assoc]; exact k3⟩

theorem OwnR.row {e base : Nat} {w : World} {v : Value} {l : List Cw} (h : OwnR e base w v l) : RowC w v l := by
  rcases h.2 with ⟨hv, hn⟩ | ⟨g, cap, cur, hv, h1, hh, hc, hm, hs, ht⟩
  · exact .inl ⟨hv, List.eq_nil_of_length_eq_zero hn⟩
  · refine .inr ⟨⟨g, 0, none⟩, cap, hv, hc, hm, fun j u hj => ?_⟩
    exact h.cells (by rw [hv]; rfl) j u hj

theorem row_below {e base size n : Nat} {w w' : World} {v : Value} {xs : List Value} (h : w.ownsRow base e size v n xs) (hb : Below w.heap.size w w') : w'.ownsRow base e size v n xs := by
  refine ⟨h.1, ?_⟩
  rcases h.2 with h | ⟨g, cap, cur, hv, h1, hh, r⟩
  · exact .inl h
  · refine .inr ⟨g, cap, cur, hv, h1, ?_, r⟩
    rw [hb.block g (Array.getElem?_eq_some_iff.1 hh).1]
    exact hh

theorem OwnR.below {e base : Nat} {w w' : World} {v : Value} {l : List Cw} (h : OwnR e base w v l) (hb : Below w.heap.size w w') : OwnR e base w' v l := row_below h hb

/-- Commits laid in a new block. -/
theorem coms_step (e : TypeId) (w : World) (cs : Array Value) (n : Nat) (l : List Cw) (hn : l.length = n) (h : cs.toList = ccells l) (hm : n ≤ maxLen) :
    ∃ W, w.alloc (.cells cs e) = W ∧ W.heap.size = w.heap.size + 1 ∧ Below w.heap.size w W ∧ OwnR e w.heap.size W (.slice (some ⟨w.heap.size, 0, none⟩) n n) l := by
  subst hn
  refine ⟨_, rfl, by simp, (Below.refl _ _).alloc (Nat.le_refl _) _, ?_⟩
  have ho := World.ownsRow_lit (base := w.heap.size) (e := e) (size := 3) w cs l.length (Nat.le_refl _) hm (by have := congrArg List.length h; rw [ccells_len] at this; simpa using this)
  rw [h] at ho
  exact ho

/-- What a row of the call's own grows by leaves blocks of another type. -/
theorem KeepT.of_row {e base size n : Nat} {w w' : World} {v : Value} {xs : List Value} (h : w.ownsRow base e size v n xs) (hg : w.grownBy w' v.ownBlock) : KeepT e w w' := by
  intro g cs t fr hc ht
  refine (hg.block g (blk_lt hc) fun e1 => ?_).trans hc
  rcases h.2 with ⟨rfl, _⟩ | ⟨g', cap, cur, rfl, _, hh, _⟩
  · simp [Value.ownBlock] at e1
  · simp [Value.ownBlock] at e1
    subst e1
    rw [hh] at hc
    simp at hc
    exact ht hc.2.1.symm

theorem OwnO.keepT {e e' base : Nat} {w w' : World} {v : Value} {l : List Bm.Ov} (h : OwnO e base w v l) (k : KeepT e' w w') (hne : e ≠ e') : OwnO e base w' v l := by
  refine ⟨h.1, ?_⟩
  rcases h.2 with h | ⟨g, cap, cur, hv, h1, hh, r⟩
  · exact .inl h
  · exact .inr ⟨g, cap, cur, hv, h1, k _ _ _ _ hh hne, r⟩

section
variable {P : Program} {w : World} {ops : Array Oper} {rest : List Oper} {o : Oper} {a : Act} {Q : Exit → Act → World → Prop}

/-- 'out = append(out, xs...)' of commits: out nil or the call's own. -/
theorem wpList_append_coms (hgd : o.guard = none) (s x : Operand) (t : TypeId)
    (ho : o.op = .call { callee := .builtin .append, args := #[s, x], argTypes := #[t, t] })
    (e : TypeId) (base : Nat) (ht : P.underlying t = some (.slice e)) (hinfo : (P.info? e).map (fun i => (i.zero, i.size, i.bytes)) = some (some (.agg #[.int .i64 0, .int .i64 0, .slice none 0 0]), 3, 40))
    (v : Value) (l : List Cw) (hs : a.eval s = v) (hown : OwnR e base w v l) (vx : Value) (m : List Cw) (hx : a.eval x = vx) (his : RowC w vx m) (hone : ∀ c ∈ m, c.v.oneCell' = true)
    (hlen : (l.length + m.length) * 40 ≤ 140737488355328) (hbase : base ≤ w.heap.size)
    (h : ∀ v' w', OwnR e base w' v' (l ++ m) → Below base w w' → KeepT e w w' → wpList P ops Q rest (a.put o.dst v') w') : wpList P ops Q (o :: rest) a w := by
  obtain ⟨i, hi, hz, hsize, hb⟩ := info_parts hinfo
  have hn : l.length + m.length ≤ 140737488355328 := by omega
  rcases his with ⟨hv, hy⟩ | ⟨ad, cap, hv, h1, h2, hc⟩
  · subst hy
    refine wpList_append_own_none hgd s x t ho base e i 3 ht hi v l.length _ hs hown (hx.trans hv) (h v w (by simpa using hown) (Below.refl _ _) (KeepT.refl _ _))
  · refine wpList_append_own w hgd s x t ho base e i _ 3 40 ht hi hz hsize hb rfl (by decide) v l.length _ hs hown ad m.length cap (ccells m) (hx.trans hv) (ccells_len m) hc (ccells_cell m hone) (by unfold maxLen; omega) hlen hbase ?_
    intro v' w' ho' hg _
    refine h v' w' (by unfold OwnR; rw [ccells_app, List.length_append]; exact ho') ((Below.refl _ _).grown hg hbase fun k' hk => ?_) (KeepT.of_row hown hg)
    exact (World.ownsRow.lt hown k' hk).1

variable {v : Value}

/-- 'v[:p]' of commits. -/
theorem RowC.slice_h {l : List Cw} (h : RowC w v l) {t : TypeId} (ht : P.underlying t = some (.slice (P.elem t))) (hs : ∀ wx, (sizeOf (P.elem t)).run P wx = .ok 3 wx) (p : Nat) (hp : p ≤ l.length) :
    ∃ vs, (∀ wx, (Instr.slice t v none (some (.int .i64 p)) none).run P wx = .ok vs wx) ∧ RowC w vs (l.take p) := by
  obtain ⟨ao, cap, rfl, hcap, hm⟩ := h.shape
  refine ⟨.slice ao p cap, fun wx => ?_, ?_⟩
  · rw [run_slice_h wx t ao l.length cap ht .i64 _ (by omega) (by omega), hs]
    simp only [Result.andThen, sliced]
    cases ao <;> simp [Addr.add]
  · cases ao with
    | none =>
      rcases h with ⟨hv, e⟩ | ⟨ad, cap', hv, _⟩
      · subst e
        simp at hp hv
        subst hp hv
        exact RowC.nil _
      · simp at hv
    | some ad =>
      have hl : (l.take p).length = p := by rw [List.length_take]; omega
      rcases h with ⟨hv, _⟩ | ⟨ad', cap', hv, h1, h2, hc⟩
      · simp at hv
      · simp at hv
        obtain ⟨rfl, rfl⟩ := hv
        refine .inr ⟨ad, cap, by rw [hl], by omega, h2, fun j u hj => hc j u ?_⟩
        rw [ccells_take, List.getElem?_take] at hj
        split at hj
        · exact hj
        · simp at hj

/-- 'v[p:]' of commits. -/
theorem RowC.slice_l {l : List Cw} (h : RowC w v l) {t : TypeId} (ht : P.underlying t = some (.slice (P.elem t))) (hs : ∀ wx, (sizeOf (P.elem t)).run P wx = .ok 3 wx) (p : Nat) (hp : p < l.length) :
    ∃ vs, (∀ wx, (Instr.slice t v (some (.int .i64 p)) none none).run P wx = .ok vs wx) ∧ RowC w vs (l.drop p) := by
  obtain ⟨b, off, cap, rfl, hcap, hm, hB, hcell⟩ := h.full (by omega)
  refine ⟨.slice (some ⟨b, off + p * 3, none⟩) (l.length - p) (cap - p), fun wx => ?_, ?_⟩
  · rw [run_slice_l wx t _ l.length cap ht .i64 _ (by omega) (by omega), hs]
    have hne : ¬ cap = p := by omega
    simp [Result.andThen, sliced, hne, add_at]
  · rcases h with ⟨hv, _⟩ | ⟨ad', cap', hv, h1, h2, hc⟩
    · simp at hv
    · simp at hv
      obtain ⟨rfl, rfl⟩ := hv
      refine .inr ⟨⟨b, off + p * 3, none⟩, cap - p, by simp, by simp; omega, by omega, fun j u hj => ?_⟩
      rw [ccells_drop, List.getElem?_drop] at hj
      have := hc _ _ hj
      rw [add_at] at this ⊢
      rw [Nat.add_assoc]
      exact this

/-- 'len(v)' of commits. -/
theorem RowC.len_run {l : List Cw} (h : RowC w v l) {t : TypeId} (ht : P.underlying t = some (.slice (P.elem t))) : ∀ ty wx, (Builtin.len_ #[t] ty #[v]).run P wx = .ok (goInt l.length) wx := by
  intro ty wx
  obtain ⟨ao, cap, rfl, _, _⟩ := h.shape
  simp [Builtin.len_, run_underlying ht]

end

theorem Tryz.info59 : (Tryz.prog.info? 59).map (fun i => (i.zero, i.size, i.bytes)) = some (some (.agg #[.int .i64 0, .int .i64 0, .slice none 0 0]), 3, 40) := by kernel_rfl
theorem Tryz.elemC : Tryz.prog.underlying 23 = some (.slice (Tryz.prog.elem 23)) := by kernel_rfl
theorem Tryz.sizeC (wx : World) : (sizeOf (Tryz.prog.elem 23)).run Tryz.prog wx = .ok 3 wx := by kernel_rfl

end Go.Proofs.YtkpnkknolobioaaGreat

/- The contracts of the functions that compare rows of ops. -/
namespace Go.Proofs.YtkpnkknolobioaaGreat
open Go.RowKit
set_option linter.unusedVariables false

theorem Tryz.guardO (op : BinOp) (x y : Operand) (xs ys : Array Value) (w : World) : (eqGuard op 93 x y (.agg xs) (.agg ys)).run Tryz.prog w = .ok () w := run_eqGuard_agg w op 93 x y xs ys (by kernel_rfl)

theorem Tryz.fieldsO : (Tryz.prog.fieldsOf 93).toList.map (fun f => (f.type, f.offset)) = [(4, 0), (9, 1), (9, 2)] := by kernel_rfl

theorem Tryz.neqO (o q : Bm.Ov) (w : World) : (binOp .neq 93 (.agg #[.bool o.p, .string o.k, .string o.v]) (.agg #[.bool q.p, .string q.k, .string q.v])).run Tryz.prog w = .ok (.bool (!Bm.eqO o q)) w := by
  rw [run_neq_struct, run_equalIn_agg w 9999 93 _ _ (by kernel_rfl) (by kernel_rfl)]
  unfold Program.fieldsOf
  rw [Tryz.underlying93]
  simp [Op.eqFields, go_sem, Tryz.underlying4, Tryz.underlying9]
  unfold Bm.eqO Bm.Ov.kl Bm.Ov.vl
  simp only [Lib.toList_data]
  by_cases h1 : o.p = q.p <;> by_cases h2 : o.k.data.toList = q.k.data.toList <;> by_cases h3 : o.v.data.toList = q.v.data.toList <;> simp [h1, h2, h3]

set_option maxHeartbeats 400000 in
theorem sameO_quiet (va vb : Value) (xs ys : List Bm.Ov) (w : World) (ha : IsO w va xs) (hb : IsO w vb ys) (hl : xs.length ≤ 140737488355328) (hl' : ys.length ≤ 140737488355328) :
    Calls Tryz.prog 70 #[va, vb] w fun e w' => e = .returned (.bool (Bm.sameL xs ys)) ∧ ∃ m, w' = w.drewN m := by
  by_cases hne : xs.length = ys.length
  · by_cases hz : 0 < xs.length
    · obtain ⟨b1, o1, c1, rfl, _, _, hB1, hc1⟩ := ha.full hz
      obtain ⟨b2, o2, c2, rfl, _, _, hB2, hc2⟩ := hb.full (by omega)
      have ht : ((xs.length : Int) != (ys.length : Int)) = false := by simp; omega
      have HL := hide hne
      have HC1 := hide hc1
      have HC2 := hide hc2
      clear hne ha hb hc1 hc2
      generalize hn : xs.length = n at *
      generalize hm : ys.length = m at *
      have HN := hide hn
      have HM := hide hm
      clear hn hm
      go_enter Tryz.func70, Tryz.ntmps70
      go_wp2
      go_loopw [5] (fun i wr => ∃ (k : Nat), k ≤ n ∧ i = .int .i64 k ∧ Hid (xs.take k = ys.take k) ∧ ∃ m, wr = w.drewN m) (fun i _ => n - (intOf i).toNat)
      case atStart => exact ⟨0, by omega, rfl, hide rfl, 0, rfl⟩
      case round =>
        obtain ⟨k, hk, rfl, HT, mm, rfl⟩ := hrel
        by_cases hlt : k < n
        · obtain ⟨o, ho⟩ : ∃ o, xs[k]? = some o := ⟨xs[k]'(by have := HN.out; omega), by rw [List.getElem?_eq_getElem]⟩
          obtain ⟨q, hq⟩ : ∃ q, ys[k]? = some q := ⟨ys[k]'(by have := HM.out; have := HL.out; omega), by rw [List.getElem?_eq_getElem]⟩
          obtain ⟨d0, d1, d2⟩ := HC1.out k o ho
          obtain ⟨e0, e1, e2⟩ := HC2.out k q hq
          have hlt' : (k : Int) < n := by omega
          have hlt2 : (k : Int) < m := by have := HL.out; omega
          have HO := hide ho
          have HQ := hide hq
          clear ho hq
          have hnq := Tryz.neqO o q
          have hgd := Tryz.guardO
          cases hoq : Bm.eqO o q
          · have HS : Hid (Bm.sameL xs ys = false) := hide (Bm.sameL_no fun e => by
              have h1 := HO.out
              rw [e, HQ.out] at h1
              rw [Bm.eqO_iff.2 (Option.some.inj h1.symm)] at hoq
              simp at hoq)
            rw [hoq] at hnq
            clear hoq
            go_wp2
            go_quiet (fail)
            go_wp2
            go_ret
            refine ⟨?_, _, World.drewN_drewN _ _ _⟩
            rw [HS.out]
            rfl
          · have HT2 : Hid (xs.take (k + 1) = ys.take (k + 1)) := hide (by
              rw [List.take_add_one, List.take_add_one, HT.out, HO.out, HQ.out, Bm.eqO_iff.1 hoq])
            rw [hoq] at hnq
            clear hoq
            go_wp2
            go_quiet (fail)
            go_wp2
            go_roundw
            case rel => exact ⟨k + 1, by omega, by go_num, HT2, _, rfl⟩
            case measure => simp [intOf]; omega
        · have hlt' : ¬ (k : Int) < n := by omega
          have HS : Hid (Bm.sameL xs ys = true) := hide (Bm.sameL_iff.2 (by
            have h1 := HT.out
            rw [List.take_of_length_le (by have := HN.out; omega), List.take_of_length_le (by have := HN.out; have := HM.out; have := HL.out; omega)] at h1
            exact h1))
          go_wp2
          go_ret
          refine ⟨?_, mm, rfl⟩
          rw [HS.out]
          rfl
    · have hx : xs = [] := List.eq_nil_of_length_eq_zero (by omega)
      have hy : ys = [] := List.eq_nil_of_length_eq_zero (by omega)
      subst hx hy
      obtain ⟨a1, c1, rfl⟩ := ha.bare
      obtain ⟨a2, c2, rfl⟩ := hb.bare
      clear hl hl' hne hz ha hb
      go_enter Tryz.func70, Tryz.ntmps70
      go_wp2
      refine wp_loop_rounds 1 ?_
      rw [rounds_succ]
      go_wp2
      go_ret
      exact ⟨by simp [Bm.sameL], 0, rfl⟩
  · obtain ⟨a1, c1, rfl, _, _⟩ := ha.shape
    obtain ⟨a2, c2, rfl, _, _⟩ := hb.shape
    have ht : ((xs.length : Int) != (ys.length : Int)) = true := by simp; omega
    have HX : Hid (Bm.sameL xs ys = false) := hide (Bm.sameL_no fun h => hne (by rw [h]))
    clear hne
    go_enter Tryz.func70, Tryz.ntmps70
    go_wp2
    go_ret
    exact ⟨by rw [HX.out]; rfl, 0, rfl⟩

theorem sameO_any (va vb : Value) (xs ys : List Bm.Ov) (w : World) (ha : IsO w va xs) (hb : IsO w vb ys) (hl : xs.length ≤ 140737488355328) (hl' : ys.length ≤ 140737488355328) :
    Calls Tryz.prog 70 #[va, vb] w fun e w' => e = .returned (.bool (Bm.sameL xs ys)) ∧ Below w.heap.size w w' :=
  (sameO_quiet va vb xs ys w ha hb hl hl').mono (by rintro e w' ⟨rfl, m, rfl⟩; exact ⟨rfl, below_drewN (Below.refl _ _) m⟩)

end Go.Proofs.YtkpnkknolobioaaGreat

/- The contract of the document's Shared. -/
namespace Go.Proofs.YtkpnkknolobioaaGreat
open Go.RowKit
set_option linter.unusedVariables false

set_option maxHeartbeats 400000 in
theorem sharedR_quiet (a b : ByteArray) (w : World) (ha : a.size ≤ 140737488355328) (hb : b.size ≤ 140737488355328) :
    Calls Tryz.prog 107 #[.string a, .string b] w fun E w' => E = .returned (.int .i64 (Bm.com a.data.toList b.data.toList)) ∧ ∃ m, w' = w.drewN m := by
  have la : a.data.toList.length = a.size := (Lib.size_eq a).symm
  have lb : b.data.toList.length = b.size := (Lib.size_eq b).symm
  go_enter Tryz.func107, Tryz.ntmps107
  go_wp2
  go_loopw [5] (fun i wr => ∃ (k : Nat), k ≤ a.size ∧ k ≤ b.size ∧ i = .int .i64 k ∧ Hid (a.data.toList.take k = b.data.toList.take k) ∧ ∃ m, wr = w.drewN m) (fun i _ => a.size + b.size - (intOf i).toNat)
  case atStart => exact ⟨0, by omega, by omega, rfl, hide rfl, 0, rfl⟩
  case round =>
    obtain ⟨k, hka, hkb, rfl, HT, m, rfl⟩ := hrel
    by_cases hA : k < a.size
    · have hA' : (k : Int) < a.size := by omega
      by_cases hB : k < b.size
      · have hB' : (k : Int) < b.size := by omega
        obtain ⟨c, hc⟩ : ∃ c : UInt8, a[k] = c := ⟨_, rfl⟩
        obtain ⟨d, hd⟩ : ∃ c : UInt8, b[k] = c := ⟨_, rfl⟩
        have EA : Hid (a.data.toList[k]? = some c) := hide (by rw [List.getElem?_eq_getElem (by omega), ← hc]; rfl)
        have EB : Hid (b.data.toList[k]? = some d) := hide (by rw [List.getElem?_eq_getElem (by omega), ← hd]; rfl)
        by_cases hcd : c = d
        · have ht : ((c.toNat : Int) == (d.toNat : Int)) = true := by simp [hcd]
          have HK : Hid (a.data.toList.take (k + 1) = b.data.toList.take (k + 1)) := hide (by
            have h1 := EA.out
            have h2 := EB.out
            rw [List.take_add_one, List.take_add_one, HT.out, h1, h2, hcd])
          clear hcd
          go_wp2_with fail
          go_quiet (fail)
          go_wp2
          go_roundw
          case rel => exact ⟨k + 1, by omega, by omega, by go_num, HK, _, rfl⟩
          case measure => simp [intOf]; omega
        · have ht : ((c.toNat : Int) == (d.toNat : Int)) = false := by
            have : c.toNat ≠ d.toNat := fun h => hcd (UInt8.toNat_inj.1 h)
            simp; omega
          have HK : Hid (Bm.com a.data.toList b.data.toList = k) := hide (Bm.com_is _ _ k (by omega) (by omega) HT.out (.inr (.inr (by rw [EA.out, EB.out]; simpa using hcd))))
          clear hcd
          go_wp2_with fail
          go_quiet (fail)
          go_wp2
          go_ret
          exact ⟨ret_i64 (by rw [HK.out]), _, World.drewN_drewN _ _ _⟩
      · have hB' : ¬ (k : Int) < b.size := by omega
        have HK : Hid (Bm.com a.data.toList b.data.toList = k) := hide (Bm.com_is _ _ k (by omega) (by omega) HT.out (.inr (.inl (by omega))))
        go_wp2_with fail
        go_quiet (fail)
        go_wp2
        go_ret
        exact ⟨ret_i64 (by rw [HK.out]), _, World.drewN_drewN _ _ _⟩
    · have hA' : ¬ (k : Int) < a.size := by omega
      have HK : Hid (Bm.com a.data.toList b.data.toList = k) := hide (Bm.com_is _ _ k (by omega) (by omega) HT.out (.inl (by omega)))
      go_wp2_with fail
      go_quiet (fail)
      go_wp2
      go_ret
      exact ⟨ret_i64 (by rw [HK.out]), _, World.drewN_drewN _ _ _⟩

theorem sharedR_any (a b : ByteArray) (w : World) (ha : a.size ≤ 140737488355328) (hb : b.size ≤ 140737488355328) :
    Calls Tryz.prog 107 #[.string a, .string b] w fun E w' => E = .returned (.int .i64 (Bm.com a.data.toList b.data.toList)) ∧ Below w.heap.size w w' :=
  (sharedR_quiet a b w ha hb).mono (by rintro E w' ⟨rfl, m, rfl⟩; exact ⟨rfl, below_drewN (Below.refl _ _) m⟩)

end Go.Proofs.YtkpnkknolobioaaGreat

/- The contract of the document's Check. -/
namespace Go.Proofs.YtkpnkknolobioaaGreat
open Go.RowKit
set_option linter.unusedVariables false

set_option maxHeartbeats 400000 in
theorem checkR_any (p : Bool) (k v : ByteArray) (w : World) (hk : k.size ≤ 140737488351232) (hv : v.size ≤ 140737488351232) :
    Calls Tryz.prog 109 #[opv p k v] w fun E w' => E = .returned (.int .i64 (Om.chk p k.data.toList v.data.toList)) ∧ Below w.heap.size w w' := by
  unfold opv
  obtain ⟨c, hc⟩ : ∃ c, Om.chk p k.data.toList v.data.toList = c := ⟨_, rfl⟩
  rw [hc]
  have HC := hide hc
  clear hc
  cases p
  all_goals go_enter Tryz.func109, Tryz.ntmps109
  all_goals go_wp2
  all_goals go_ret
  all_goals refine ⟨ret_i64 ?_, (Below.refl _ _).alloc (Nat.le_refl _) _⟩
  all_goals rw [← HC.out, chk_size]
  all_goals clear HC
  all_goals generalize v.toList.isEmpty = q at *
  all_goals (cases q <;> simp_all <;> omega)

end Go.Proofs.YtkpnkknolobioaaGreat

/- The contract of op's Append. -/
namespace Go.Proofs.YtkpnkknolobioaaGreat
open Go.RowKit
set_option linter.unusedVariables false

theorem ret2 {v : Value} {a b : Int} (h : a = b) : Ending.returned (.tuple #[v, .int .i64 a]) = .returned (.tuple #[v, .int .i64 b]) := by rw [h]

end Go.Proofs.YtkpnkknolobioaaGreat

/- The contracts of the document's Append, Read, Small. -/
namespace Go.Proofs.YtkpnkknolobioaaGreat
open Go.RowKit
set_option linter.unusedVariables false

set_option maxHeartbeats 400000 in
theorem appR_any (vb : Value) (bs : List Int) (x : Int) (w : World) (hb : Is .u8 w vb bs) (hlb : bs.length ≤ 140737488353000) (h0 : 0 ≤ x) (h1 : x < 18446744073709551616) :
    Calls Tryz.prog 85 #[vb, .int .u64 x] w fun e w' => ∃ v, e = .returned v ∧ Own .u8 5 w.heap.size w' v (bs ++ Vm.enc x.toNat) ∧ Below w.heap.size w w' := by
  have hm := Vm.sz_le10 (x := x.toNat) (by omega)
  go_enter Tryz.func85, Tryz.ntmps85
  go_wp2_with (at_builtin; refine wpList_append_is rfl (.tmp 6) (.tmp 7) 22 rfl .u8 5 w.heap.size 1 Tryz.underlying22 Tryz.info5 (by decide) _ [] rfl (Own.nil _ _ _ _) _ bs rfl hb (by simp; omega) (Nat.le_refl _) ?_)
  intro v1 w1 own1 bel1 _
  go_wp2
  go_loopw [1, 5] (fun xx vv wr => ∃ (y : Int) (zs : List Int), 0 ≤ y ∧ y < 18446744073709551616 ∧ xx = .int .u64 y ∧ zs.length ≤ 140737488353010 ∧ Own .u8 5 w.heap.size wr vv zs ∧ zs ++ Vm.enc y.toNat = bs ++ Vm.enc x.toNat ∧ Below w.heap.size w wr) (fun xx _ _ => (intOf xx).toNat)
  case atStart => exact ⟨x, bs, h0, h1, rfl, by omega, own1, rfl, bel1⟩
  case round =>
    obtain ⟨y, zs, hy0, hy1, rfl, hl, own, heq, belr⟩ := hrel
    have HE := hide heq
    clear heq own1 bel1
    have szr := belr.size
    by_cases hy : 128 ≤ y
    · have e1 : y % 128 % 256 = y % 128 := by omega
      have e2 : (y % 128 + 128) % 256 = y % 128 + 128 := by omega
      have W := wf_u8 (z := y % 128 + 128) (by omega) (by omega)
      go_wp2_with (at_builtin; refine wpList_append_is rfl (.tmp 11) (.tmp 16) 22 rfl .u8 5 w.heap.size 1 Tryz.underlying22 Tryz.info5 (by decide) _ zs rfl (own.below ((Below.refl _ _).alloc (Nat.le_refl _) _)) _ [y % 128 + 128] rfl (Is.one .u8 _ _ 5 W) (by simp; omega) (by simp; omega) ?_)
      intro v2 w2 own2 bel2 _
      have HE2 : zs ++ [y % 128 + 128] ++ Vm.enc (y / 128).toNat = bs ++ Vm.enc x.toNat := by
        rw [← HE.out, Vm.enc_hi (x := y.toNat) (by omega)]
        have : (y / 128).toNat = y.toNat / 128 := by omega
        have : ((y.toNat % 128 + 128 : Nat) : Int) = y % 128 + 128 := by omega
        simp_all
      have HL : zs.length + 1 ≤ 140737488353010 := by
        have := congrArg List.length HE2
        have := Vm.sz_pos (y / 128).toNat
        simp at *
        unfold Vm.sz at *
        omega
      have HE3 := hide HE2
      have b3 := (belr.alloc szr _).trans bel2
      clear HE2 own e1 e2
      go_wp2
      go_roundw
      case rel => exact ⟨y / 128, zs ++ [y % 128 + 128], by omega, by omega, rfl, by simp; omega, own2, HE3.out, b3⟩
      case measure => simp [intOf]; omega
    · have e1 : y % 256 = y := by omega
      have W := wf_u8 (z := y) hy0 (by omega)
      go_wp2_with (at_builtin; refine wpList_append_is rfl (.tmp 20) (.tmp 23) 22 rfl .u8 5 w.heap.size 1 Tryz.underlying22 Tryz.info5 (by decide) _ zs rfl (own.below ((Below.refl _ _).alloc (Nat.le_refl _) _)) _ [y] rfl (Is.one .u8 _ _ 5 W) (by simp; omega) (by simp; omega) ?_)
      intro v2 w2 own2 bel2 _
      go_wp2
      go_ret
      refine ⟨_, rfl, ?_, (belr.alloc szr _).trans bel2⟩
      rw [← HE.out, Vm.enc_lo (x := y.toNat) (by omega), Int.toNat_of_nonneg hy0]
      exact own2

end Go.Proofs.YtkpnkknolobioaaGreat

/- The contracts of the document's Put, Append. -/
namespace Go.Proofs.YtkpnkknolobioaaGreat
open Go.RowKit
set_option linter.unusedVariables false

set_option maxHeartbeats 400000 in
theorem putR_any (vb : Value) (bs : List Int) (x : Int) (w : World) (hb : Is .u8 w vb bs) (hl : bs.length ≤ 140737488352900) (h0 : 0 ≤ x) (h1 : x < 9223372036854775808) :
    Calls Tryz.prog 66 #[vb, .int .i64 x] w fun e w' => ∃ v, e = .returned v ∧ Own .u8 5 w.heap.size w' v (bs ++ Vm.enc x.toNat) ∧ Below w.heap.size w w' := by
  go_enter Tryz.func66, Tryz.ntmps66
  go_wp2_with fail
  refine (appR_any _ bs x _ hb (by omega) (by omega) (by omega)).mono ?_
  rintro E w1 ⟨v1, rfl, own1, bel1⟩
  go_wp2
  go_ret
  exact ⟨_, rfl, own1, bel1⟩

end Go.Proofs.YtkpnkknolobioaaGreat
