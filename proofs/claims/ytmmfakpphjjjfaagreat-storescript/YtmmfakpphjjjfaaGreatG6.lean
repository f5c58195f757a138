/- Texts of one layer, one behind the other. -/
import Derived.Test.YtmmfakpphjjjfaaGreatG5
import Derived.Test.YtmmfakpphjjjfaaGreatG2
import Derived.Laws.StructEq
import Derived.Test.YtmmfakpphjjjfaaGreatG4
/- Rows of commits in memory: what a slice of commits reads as, one of the call's own, an append between the two. -/
namespace Go.Proofs.YtmmfakpphjjjfaaGreat
open Go.RowKit
set_option linter.unusedVariables false

structure Cw where
 e : Int
 n : Int
 v : Value
 l : List Bm.Ov

def Cw.c (c : Cw) : Cm.Cv := ⟨c.e, c.n, c.l⟩
def cvs (r : List Cw) : List Cm.Cv := r.map Cw.c

def cmv (e n : Int) (v : Value) : Value := .agg #[.int .i64 e, .int .i64 n, v]

def ccell (c : Cw) : List Value := [.int .i64 c.e, .int .i64 c.n, c.v]
def ccells : List Cw → List Value
 | [] => []
 | c :: r => ccell c ++ ccells r

theorem ccells_len : ∀ (l : List Cw), (ccells l).length = l.length * 3
 | [] => rfl
 | o :: r => by
  have := ccells_len r
  simp only [ccells, ccell, List.length_append, List.length_cons, List.length_nil]
  omega

theorem ccells_app : ∀ (l m : List Cw), ccells (l ++ m) = ccells l ++ ccells m
 | [], _ => rfl
 | o :: l, m => by simp only [List.cons_append, ccells, ccells_app l m, List.append_assoc]

theorem ccells_cell : ∀ (l : List Cw), (∀ c ∈ l, c.v.oneCell' = true) → ∀ u ∈ ccells l, u.oneCell' = true
 | [], _, u, h => by simp [ccells] at h
 | o :: r, hv, u, h => by
  rcases List.mem_append.1 h with h | h
  ·simp only [ccell, List.mem_cons, List.not_mem_nil, or_false] at h
   rcases h with rfl | rfl | rfl
   ·rfl
   ·rfl
   ·exact hv o (List.mem_cons_self ..)
  ·exact ccells_cell r (fun c hc => hv c (List.mem_cons_of_mem _ hc)) u h

theorem ccells_at : ∀ (l : List Cw) (i : Nat) (hi : i < l.length), (ccells l)[i * 3]? = some (.int .i64 l[i].e) ∧ (ccells l)[i * 3 + 1]? = some (.int .i64 l[i].n) ∧ (ccells l)[i * 3 + 2]? = some l[i].v
 | [], _, hi => by simp at hi
 | o :: r, 0, hi => by simp [ccells, ccell]
 | o :: r, i + 1, hi => by
  have := ccells_at r i (by simpa using hi)
  simp only [ccells, ccell]
  rw [show (i + 1) * 3 = i * 3 + 3 by omega]
  simpa [List.getElem?_append] using this

theorem ccells_take : ∀ (l : List Cw) (p : Nat), ccells (l.take p) = (ccells l).take (p * 3)
 | [], p => by simp [ccells]
 | o :: l, 0 => by simp [ccells]
 | o :: l, p + 1 => by
  rw [List.take_succ_cons, show (p + 1) * 3 = p * 3 + 3 by omega]
  simp [ccells, ccell, ccells_take l p]

theorem ccells_drop : ∀ (l : List Cw) (p : Nat), ccells (l.drop p) = (ccells l).drop (p * 3)
 | [], p => by simp [ccells]
 | o :: l, 0 => by simp [ccells]
 | o :: l, p + 1 => by
  rw [List.drop_succ_cons, show (p + 1) * 3 = p * 3 + 3 by omega]
  simp [ccells, ccell, ccells_drop l p]

theorem IsO.one {w : World} {v : Value} {l : List Bm.Ov} (h : IsO w v l) : v.oneCell' = true := by
 obtain ⟨ao, cap, rfl, _⟩ := h.shape
 rfl

def In64 (x : Int) : Prop := -9223372036854775808 ≤ x ∧ x < 9223372036854775808

def InC (w : World) (r : List Cw) : Prop := ∀ c ∈ r, IsO w c.v c.l ∧ In64 c.e ∧ In64 c.n
def FitC (r : List Cw) : Prop := ∀ c ∈ r, FitO c.l ∧ c.l.length * 40 ≤ 140737488351232

theorem InC.below {w w' : World} {r : List Cw} (h : InC w r) (hb : Below w.heap.size w w') : InC w' r := fun c hc => ⟨(h c hc).1.below hb, (h c hc).2⟩

def RowC (w : World) (v : Value) (r : List Cw) : Prop :=
 (v = .slice none 0 0 ∧ r = []) ∨ ∃ ad cap, v = .slice (some ad) r.length cap ∧ r.length ≤ cap ∧ cap ≤ maxLen ∧ ∀ j u, (ccells r)[j]? = some u → w.cell? (ad.add j) = some u

def IsC (w : World) (v : Value) (r : List Cw) : Prop := RowC w v r ∧ InC w r

def OwnR (e : TypeId) (base : Nat) (w : World) (v : Value) (r : List Cw) : Prop := w.ownsRow base e 3 v r.length (ccells r)

theorem RowC.nil (w : World) : RowC w (.slice none 0 0) [] := .inl ⟨rfl, rfl⟩
theorem IsC.nil (w : World) : IsC w (.slice none 0 0) [] := ⟨RowC.nil w, fun c hc => by simp at hc⟩
theorem OwnR.nil (e : TypeId) (base : Nat) (w : World) : OwnR e base w (.slice none 0 0) [] := World.ownsRow_nil _ _ _ _

theorem RowC.below {w w' : World} {v : Value} {l : List Cw} (h : RowC w v l) (hb : Below w.heap.size w w') : RowC w' v l := by
 rcases h with h | ⟨ad, cap, hv, h1, h2, hc⟩
 ·exact .inl h
 ·refine .inr ⟨ad, cap, hv, h1, h2, fun j u hj => ?_⟩
  have := hc j u hj
  rw [hb.cell (World.block_lt_of_cell? _ _ this)]
  exact this

theorem IsC.below {w w' : World} {v : Value} {l : List Cw} (h : IsC w v l) (hb : Below w.heap.size w w') : IsC w' v l := ⟨h.1.below hb, h.2.below hb⟩

theorem RowC.shape {w : World} {v : Value} {l : List Cw} (h : RowC w v l) : ∃ ao cap, v = .slice ao l.length cap ∧ l.length ≤ cap ∧ cap ≤ maxLen := by
 rcases h with ⟨hv, e⟩ | ⟨ad, cap, hv, h1, h2, _⟩
 ·subst e; exact ⟨none, 0, hv, by simp, by simp⟩
 ·exact ⟨some ad, cap, hv, h1, h2⟩

theorem RowC.full {w : World} {v : Value} {l : List Cw} (h : RowC w v l) (hne : 0 < l.length) :
  ∃ b off cap, v = .slice (some ⟨b, off, none⟩) l.length cap ∧ l.length ≤ cap ∧ cap ≤ maxLen ∧ b < w.heap.size ∧
   ∀ i c, l[i]? = some c → w.cell? ⟨b, off + i * 3, none⟩ = some (.int .i64 c.e) ∧ w.cell? ⟨b, off + i * 3 + 1, none⟩ = some (.int .i64 c.n) ∧ w.cell? ⟨b, off + i * 3 + 2, none⟩ = some c.v := by
 rcases h with ⟨_, h⟩ | ⟨⟨b, off, spot⟩, cap, hv, h1, h2, hc⟩
 ·subst h; simp at hne
 ·have h0 := hc 0 _ (ccells_at l 0 hne).1
  have hspot : spot = none := by simpa [Addr.add] using World.cell?_spot h0
  subst hspot
  refine ⟨b, off, cap, hv, h1, h2, World.block_lt_of_cell? _ _ h0, fun i o hio => ?_⟩
  obtain ⟨hi, rfl⟩ := List.getElem?_eq_some_iff.1 hio
  obtain ⟨g1, g2, g3⟩ := ccells_at l i hi
  have k1 := hc _ _ g1
  have k2 := hc _ _ g2
  have k3 := hc _ _ g3
  rw [add_at] at k1 k2 k3
  exact ⟨k1, by rw [Nat.add_assoc]; exact k2, by rw [Nat.add_assoc]; exact k3⟩

theorem OwnR.row {e base : Nat} {w : World} {v : Value} {l : List Cw} (h : OwnR e base w v l) : RowC w v l := by
 rcases h.2 with ⟨hv, hn⟩ | ⟨g, cap, cur, hv, h1, hh, hc, hm, hs, ht⟩
 ·exact .inl ⟨hv, List.eq_nil_of_length_eq_zero hn⟩
 ·refine .inr ⟨⟨g, 0, none⟩, cap, hv, hc, hm, fun j u hj => ?_⟩
  exact h.cells (by rw [hv]; rfl) j u hj

theorem row_below {e base size n : Nat} {w w' : World} {v : Value} {xs : List Value} (h : w.ownsRow base e size v n xs) (hb : Below w.heap.size w w') : w'.ownsRow base e size v n xs := by
 refine ⟨h.1, ?_⟩
 rcases h.2 with h | ⟨g, cap, cur, hv, h1, hh, r⟩
 ·exact .inl h
 ·refine .inr ⟨g, cap, cur, hv, h1, ?_, r⟩
  rw [hb.block g (Array.getElem?_eq_some_iff.1 hh).1]
  exact hh

theorem OwnR.below {e base : Nat} {w w' : World} {v : Value} {l : List Cw} (h : OwnR e base w v l) (hb : Below w.heap.size w w') : OwnR e base w' v l := row_below h hb

theorem coms_step (e : TypeId) (w : World) (cs : Array Value) (n : Nat) (l : List Cw) (hn : l.length = n) (h : cs.toList = ccells l) (hm : n ≤ maxLen) :
  ∃ W, w.alloc (.cells cs e) = W ∧ W.heap.size = w.heap.size + 1 ∧ Below w.heap.size w W ∧ OwnR e w.heap.size W (.slice (some ⟨w.heap.size, 0, none⟩) n n) l := by
 subst hn
 refine ⟨_, rfl, by simp, (Below.refl _ _).alloc (Nat.le_refl _) _, ?_⟩
 have ho := World.ownsRow_lit (base := w.heap.size) (e := e) (size := 3) w cs l.length (Nat.le_refl _) hm (by have := congrArg List.length h; rw [ccells_len] at this; simpa using this)
 rw [h] at ho
 exact ho

theorem KeepT.of_row {e base size n : Nat} {w w' : World} {v : Value} {xs : List Value} (h : w.ownsRow base e size v n xs) (hg : w.grownBy w' v.ownBlock) : KeepT e w w' := by
 intro g cs t fr hc ht
 refine (hg.block g (blk_lt hc) fun e1 => ?_).trans hc
 rcases h.2 with ⟨rfl, _⟩ | ⟨g', cap, cur, rfl, _, hh, _⟩
 ·simp [Value.ownBlock] at e1
 ·simp [Value.ownBlock] at e1
  subst e1
  rw [hh] at hc
  simp at hc
  exact ht hc.2.1.symm

theorem OwnO.keepT {e e' base : Nat} {w w' : World} {v : Value} {l : List Bm.Ov} (h : OwnO e base w v l) (k : KeepT e' w w') (hne : e ≠ e') : OwnO e base w' v l := by
 refine ⟨h.1, ?_⟩
 rcases h.2 with h | ⟨g, cap, cur, hv, h1, hh, r⟩
 ·exact .inl h
 ·exact .inr ⟨g, cap, cur, hv, h1, k _ _ _ _ hh hne, r⟩

section
variable {P : Program} {w : World} {ops : Array Oper} {rest : List Oper} {o : Oper} {a : Act} {Q : Exit → Act → World → Prop}

theorem wpList_append_coms (hgd : o.guard = none) (s x : Operand) (t : TypeId)
  (ho : o.op = .call { callee := .builtin .append, args := #[s, x], argTypes := #[t, t] })
  (e : TypeId) (base : Nat) (ht : P.underlying t = some (.slice e)) (hinfo : (P.info? e).map (fun i => (i.zero, i.size, i.bytes)) = some (some (.agg #[.int .i64 0, .int .i64 0, .slice none 0 0]), 3, 40))
  (v : Value) (l : List Cw) (hs : a.eval s = v) (hown : OwnR e base w v l) (vx : Value) (m : List Cw) (hx : a.eval x = vx) (his : RowC w vx m) (hone : ∀ c ∈ m, c.v.oneCell' = true)
  (hlen : (l.length + m.length) * 40 ≤ 140737488355328) (hbase : base ≤ w.heap.size)
  (h : ∀ v' w', OwnR e base w' v' (l ++ m) → Below base w w' → KeepT e w w' → wpList P ops Q rest (a.put o.dst v') w') : wpList P ops Q (o :: rest) a w := by
 obtain ⟨i, hi, hz, hsize, hb⟩ := info_parts hinfo
 have hn : l.length + m.length ≤ 140737488355328 := by omega
 rcases his with ⟨hv, hy⟩ | ⟨ad, cap, hv, h1, h2, hc⟩
 ·subst hy
  refine wpList_append_own_none hgd s x t ho base e i 3 ht hi v l.length _ hs hown (hx.trans hv) (h v w (by simpa using hown) (Below.refl _ _) (KeepT.refl _ _))
 ·refine wpList_append_own w hgd s x t ho base e i _ 3 40 ht hi hz hsize hb rfl (by decide) v l.length _ hs hown ad m.length cap (ccells m) (hx.trans hv) (ccells_len m) hc (ccells_cell m hone) (by unfold maxLen; omega) hlen hbase ?_
  intro v' w' ho' hg _
  refine h v' w' (by unfold OwnR; rw [ccells_app, List.length_append]; exact ho') ((Below.refl _ _).grown hg hbase fun k' hk => ?_) (KeepT.of_row hown hg)
  exact (World.ownsRow.lt hown k' hk).1

variable {v : Value}

theorem RowC.slice_h {l : List Cw} (h : RowC w v l) {t : TypeId} (ht : P.underlying t = some (.slice (P.elem t))) (hs : ∀ wx, (sizeOf (P.elem t)).run P wx = .ok 3 wx) (p : Nat) (hp : p ≤ l.length) :
  ∃ vs, (∀ wx, (Instr.slice t v none (some (.int .i64 p)) none).run P wx = .ok vs wx) ∧ RowC w vs (l.take p) := by
 obtain ⟨ao, cap, rfl, hcap, hm⟩ := h.shape
 refine ⟨.slice ao p cap, fun wx => ?_, ?_⟩
 ·rw [run_slice_h wx t ao l.length cap ht .i64 _ (by omega) (by omega), hs]
  simp only [Result.andThen, sliced]
  cases ao <;> simp [Addr.add]
 ·cases ao with
  | none =>
   rcases h with ⟨hv, e⟩ | ⟨ad, cap', hv, _⟩
   ·subst e
    simp at hp hv
    subst hp hv
    exact RowC.nil _
   ·simp at hv
  | some ad =>
   have hl : (l.take p).length = p := by rw [List.length_take]; omega
   rcases h with ⟨hv, _⟩ | ⟨ad', cap', hv, h1, h2, hc⟩
   ·simp at hv
   ·simp at hv
    obtain ⟨rfl, rfl⟩ := hv
    refine .inr ⟨ad, cap, by rw [hl], by omega, h2, fun j u hj => hc j u ?_⟩
    rw [ccells_take, List.getElem?_take] at hj
    split at hj
    ·exact hj
    ·simp at hj

theorem RowC.slice_l {l : List Cw} (h : RowC w v l) {t : TypeId} (ht : P.underlying t = some (.slice (P.elem t))) (hs : ∀ wx, (sizeOf (P.elem t)).run P wx = .ok 3 wx) (p : Nat) (hp : p < l.length) :
  ∃ vs, (∀ wx, (Instr.slice t v (some (.int .i64 p)) none none).run P wx = .ok vs wx) ∧ RowC w vs (l.drop p) := by
 obtain ⟨b, off, cap, rfl, hcap, hm, hB, hcell⟩ := h.full (by omega)
 refine ⟨.slice (some ⟨b, off + p * 3, none⟩) (l.length - p) (cap - p), fun wx => ?_, ?_⟩
 ·rw [run_slice_l wx t _ l.length cap ht .i64 _ (by omega) (by omega), hs]
  have hne : ¬ cap = p := by omega
  simp [Result.andThen, sliced, hne, add_at]
 ·rcases h with ⟨hv, _⟩ | ⟨ad', cap', hv, h1, h2, hc⟩
  ·simp at hv
  ·simp at hv
   obtain ⟨rfl, rfl⟩ := hv
   refine .inr ⟨⟨b, off + p * 3, none⟩, cap - p, by simp, by simp; omega, by omega, fun j u hj => ?_⟩
   rw [ccells_drop, List.getElem?_drop] at hj
   have := hc _ _ hj
   rw [add_at] at this ⊢
   rw [Nat.add_assoc]
   exact this

end

theorem Tryz.info50 : (Tryz.prog.info? 50).map (fun i => (i.zero, i.size, i.bytes)) = some (some (.agg #[.int .i64 0, .int .i64 0, .slice none 0 0]), 3, 40) := by kernel_rfl
theorem Tryz.elemC : Tryz.prog.underlying 22 = some (.slice (Tryz.prog.elem 22)) := by kernel_rfl
theorem Tryz.sizeC (wx : World) : (sizeOf (Tryz.prog.elem 22)).run Tryz.prog wx = .ok 3 wx := by kernel_rfl

theorem Tryz.guardO (op : BinOp) (x y : Operand) (xs ys : Array Value) (w : World) : (eqGuard op 65 x y (.agg xs) (.agg ys)).run Tryz.prog w = .ok () w := run_eqGuard_agg w op 65 x y xs ys (by kernel_rfl)

theorem Tryz.neqO (o q : Bm.Ov) (w : World) : (binOp .neq 65 (.agg #[.bool o.p, .string o.k, .string o.v]) (.agg #[.bool q.p, .string q.k, .string q.v])).run Tryz.prog w = .ok (.bool (!Bm.eqO o q)) w := by
 rw [run_neq_struct, run_equalIn_agg w 9999 65 _ _ (by kernel_rfl) (by kernel_rfl)]
 unfold Program.fieldsOf
 rw [Tryz.underlying65]
 simp [Op.eqFields, go_sem, Tryz.underlying4, Tryz.underlying9]
 unfold Bm.eqO Bm.Ov.kl Bm.Ov.vl
 simp only [Lib.toList_data]
 by_cases h1 : o.p = q.p <;> by_cases h2 : o.k.data.toList = q.k.data.toList <;> by_cases h3 : o.v.data.toList = q.v.data.toList <;> simp [h1, h2, h3]

set_option maxHeartbeats 400000 in
theorem sameO_quiet (va vb : Value) (xs ys : List Bm.Ov) (w : World) (ha : IsO w va xs) (hb : IsO w vb ys) (hl : xs.length ≤ 140737488355328) (hl' : ys.length ≤ 140737488355328) :
  Calls Tryz.prog 20 #[va, vb] w fun e w' => e = .returned (.bool (Bm.sameL xs ys)) ∧ ∃ m, w' = w.drewN m := by
 by_cases hne : xs.length = ys.length
 ·by_cases hz : 0 < xs.length
  ·obtain ⟨b1, o1, c1, rfl, _, _, hB1, hc1⟩ := ha.full hz
   obtain ⟨b2, o2, c2, rfl, _, _, hB2, hc2⟩ := hb.full (by omega)
   have ht : ((xs.length : Int) != (ys.length : Int)) = false := by simp; omega
   have HL := hide hne
   have HC1 := hide hc1
   have HC2 := hide hc2
   clear hne ha hb hc1 hc2
   generalize hn : xs.length = n at *
   generalize hm : ys.length = m at *
   have HN := hide hn
   have HM := hide hm
   clear hn hm
   go_enter Tryz.func20, Tryz.ntmps20
   go_wp2
   go_loopw [5] (fun i wr => ∃ (k : Nat), k ≤ n ∧ i = .int .i64 k ∧ Hid (xs.take k = ys.take k) ∧ ∃ m, wr = w.drewN m) (fun i _ => n - (intOf i).toNat)
   case atStart => exact ⟨0, by omega, rfl, hide rfl, 0, rfl⟩
   case round =>
    obtain ⟨k, hk, rfl, HT, mm, rfl⟩ := hrel
    by_cases hlt : k < n
    ·obtain ⟨o, ho⟩ : ∃ o, xs[k]? = some o := ⟨xs[k]'(by have := HN.out; omega), by rw [List.getElem?_eq_getElem]⟩
     obtain ⟨q, hq⟩ : ∃ q, ys[k]? = some q := ⟨ys[k]'(by have := HM.out; have := HL.out; omega), by rw [List.getElem?_eq_getElem]⟩
     obtain ⟨d0, d1, d2⟩ := HC1.out k o ho
     obtain ⟨e0, e1, e2⟩ := HC2.out k q hq
     have hlt' : (k : Int) < n := by omega
     have hlt2 : (k : Int) < m := by have := HL.out; omega
     have HO := hide ho
     have HQ := hide hq
     clear ho hq
     have hnq := Tryz.neqO o q
     have hgd := Tryz.guardO
     cases hoq : Bm.eqO o q
     ·have HS : Hid (Bm.sameL xs ys = false) := hide (Bm.sameL_no fun e => by
       have h1 := HO.out
       rw [e, HQ.out] at h1
       rw [Bm.eqO_iff.2 (Option.some.inj h1.symm)] at hoq
       simp at hoq)
      rw [hoq] at hnq
      clear hoq
      go_wp2
      go_quiet (fail)
      go_wp2
      go_ret
      refine ⟨?_, _, World.drewN_drewN _ _ _⟩
      rw [HS.out]
      rfl
     ·have HT2 : Hid (xs.take (k + 1) = ys.take (k + 1)) := hide (by
       rw [List.take_add_one, List.take_add_one, HT.out, HO.out, HQ.out, Bm.eqO_iff.1 hoq])
      rw [hoq] at hnq
      clear hoq
      go_wp2
      go_quiet (fail)
      go_wp2
      go_roundw
      case rel => exact ⟨k + 1, by omega, by go_num, HT2, _, rfl⟩
      case measure => simp [intOf]; omega
    ·have hlt' : ¬ (k : Int) < n := by omega
     have HS : Hid (Bm.sameL xs ys = true) := hide (Bm.sameL_iff.2 (by
      have h1 := HT.out
      rw [List.take_of_length_le (by have := HN.out; omega), List.take_of_length_le (by have := HN.out; have := HM.out; have := HL.out; omega)] at h1
      exact h1))
     go_wp2
     go_ret
     refine ⟨?_, mm, rfl⟩
     rw [HS.out]
     rfl
  ·have hx : xs = [] := List.eq_nil_of_length_eq_zero (by omega)
   have hy : ys = [] := List.eq_nil_of_length_eq_zero (by omega)
   subst hx hy
   obtain ⟨a1, c1, rfl⟩ := ha.bare
   obtain ⟨a2, c2, rfl⟩ := hb.bare
   clear hl hl' hne hz ha hb
   go_enter Tryz.func20, Tryz.ntmps20
   go_wp2
   refine wp_loop_rounds 1 ?_
   rw [rounds_succ]
   go_wp2
   go_ret
   exact ⟨by simp [Bm.sameL], 0, rfl⟩
 ·obtain ⟨a1, c1, rfl, _, _⟩ := ha.shape
  obtain ⟨a2, c2, rfl, _, _⟩ := hb.shape
  have ht : ((xs.length : Int) != (ys.length : Int)) = true := by simp; omega
  have HX : Hid (Bm.sameL xs ys = false) := hide (Bm.sameL_no fun h => hne (by rw [h]))
  clear hne
  go_enter Tryz.func20, Tryz.ntmps20
  go_wp2
  go_ret
  exact ⟨by rw [HX.out]; rfl, 0, rfl⟩

theorem sameO_any (va vb : Value) (xs ys : List Bm.Ov) (w : World) (ha : IsO w va xs) (hb : IsO w vb ys) (hl : xs.length ≤ 140737488355328) (hl' : ys.length ≤ 140737488355328) :
  Calls Tryz.prog 20 #[va, vb] w fun e w' => e = .returned (.bool (Bm.sameL xs ys)) ∧ Below w.heap.size w w' :=
 (sameO_quiet va vb xs ys w ha hb hl hl').mono (by rintro e w' ⟨rfl, m, rfl⟩; exact ⟨rfl, below_drewN (Below.refl _ _) m⟩)

set_option maxHeartbeats 400000 in
theorem checkR_any (p : Bool) (k v : ByteArray) (w : World) (hk : k.size ≤ 140737488351232) (hv : v.size ≤ 140737488351232) :
  Calls Tryz.prog 140 #[opv p k v] w fun E w' => E = .returned (.int .i64 (Om.chk p k.data.toList v.data.toList)) ∧ Below w.heap.size w w' := by
 unfold opv
 obtain ⟨c, hc⟩ : ∃ c, Om.chk p k.data.toList v.data.toList = c := ⟨_, rfl⟩
 rw [hc]
 have HC := hide hc
 clear hc
 cases p
 all_goals go_enter Tryz.func140, Tryz.ntmps140
 all_goals go_wp2
 all_goals go_ret
 all_goals refine ⟨ret_i64 ?_, (Below.refl _ _).alloc (Nat.le_refl _) _⟩
 all_goals rw [← HC.out, chk_size]
 all_goals clear HC
 all_goals generalize v.toList.isEmpty = q at *
 all_goals (cases q <;> simp_all <;> omega)

set_option maxHeartbeats 400000 in
theorem oapp_any (vb : Value) (bs : List Int) (p : Bool) (k v : ByteArray) (w : World) (hb : Is .u8 w vb bs) (hl : bs.length ≤ 140737488351232) (hk : k.size ≤ 140737488351232) (hv : v.size ≤ 140737488351232) :
  Calls Tryz.prog 170 #[vb, opv p k v] w fun E w' => ∃ v', E = .returned (.tuple #[v', .int .i64 (Om.chk p k.data.toList v.data.toList)]) ∧ Own .u8 5 w.heap.size w' v' (Om.appd bs p k.data.toList v.data.toList) ∧ Below w.heap.size w w' := by
 obtain ⟨w0, hw0, sz0, bel0, cell0⟩ := alloc_step w #[.bool p, .string k, .string v] 65
 have c0 := cell0 0 _ rfl
 have c1 := cell0 1 _ rfl
 have c2 := cell0 2 _ rfl
 clear cell0
 have hb0 := hb.below bel0
 unfold opv
 rcases Om.chk_two p k.data.toList v.data.toList with hc | hc
 ·obtain ⟨ao, cap, hshape, _, _⟩ := hb.shape
  subst hshape
  have hle := Om.opEnc_le hc
  have hh := Om.chk_ok' hc
  rw [← Lib.size_eq, ← Lib.size_eq] at hh
  have hh1 := hh.2.1
  have hh2 := hh.2.2.1
  obtain ⟨i0, hi, hz0, hz1, hz2⟩ := info_parts Tryz.info5
  rw [Om.appd_ok hc, hc]
  have HC := hide hc
  clear hc hh
  cases p
  ·have hk64 : k.size ≤ 64 := by omega
   have hv64 : v.size ≤ 64 := by omega
   generalize hn : (Om.opEnc false k.data.toList v.data.toList).length = n at *
   have HN := hide hn
   clear hn
   go_enter Tryz.func170, Tryz.ntmps170
   go_wp2_with fail
   refine (check_any false k v _ hk hv).mono ?_
   rintro E w1 ⟨rfl, bel1⟩
   rw [HC.out]
   have d0 := (bel1.cell (p := ⟨w.heap.size, 0, none⟩) (by simp [sz0])).trans c0
   have d1 := (bel1.cell (p := ⟨w.heap.size, 1, none⟩) (by simp [sz0])).trans c1
   have d2 := (bel1.cell (p := ⟨w.heap.size, 2, none⟩) (by simp [sz0])).trans c2
   have hb1 := hb0.below bel1
   have sz1 := bel1.size
   go_wp2_with fail
   refine (osize_any false k v _ HC.out).mono ?_
   rintro E w2 ⟨rfl, bel2⟩
   rw [HN.out]
   have sz2 := bel2.size
   have f0 := (bel2.cell (p := ⟨w.heap.size, 0, none⟩) (by simp; omega)).trans d0
   have f1 := (bel2.cell (p := ⟨w.heap.size, 1, none⟩) (by simp; omega)).trans d1
   have f2 := (bel2.cell (p := ⟨w.heap.size, 2, none⟩) (by simp; omega)).trans d2
   have hb2 := hb1.below bel2
   clear hb1 d0 d1 d2 c0 c1 c2 hb0 hw0
   have bel02 : Below w.heap.size w w2 := (bel0.trans (bel1.mono bel0.size)).trans (bel2.mono (by omega))
   clear bel0 bel1 bel2
   go_wp2_with (at_make; refine wpList_make_own _ rfl _ _ 66 rfl (w.heap.size + 1) 5 i0 (.int .u8 0) 1 Tryz.underlying66 hi hz0 hz1 _ _ _ (bs.length + n) rfl rfl (by omega) ?b2 ?b3 (by omega) ?_)
   case b2 => rw [hz2]; omega
   case b3 => unfold maxLen; omega
   intro w3 hown3 hgrow3
   have bel3 : Below w2.heap.size w2 w3 := (Below.refl _ _).grown hgrow3 (Nat.le_refl _) (by simp)
   have own3 : Own .u8 5 (w.heap.size + 1) w3 (.slice (some ⟨w2.heap.size, 0, none⟩) 0 (bs.length + n)) [] := ⟨by simp, hown3⟩
   have hb3 := hb2.below bel3
   have sz3 := bel3.size
   clear hown3 hgrow3 hb2
   go_wp2_with (at_builtin; refine wpList_append_is rfl (.tmp 19) (.tmp 20) 66 rfl .u8 5 (w.heap.size + 1) 1 Tryz.underlying66 Tryz.info5 (by decide) _ [] rfl own3 _ bs rfl hb3 (by simp; omega) (by omega) ?_)
   intro v4 w4 own4 bel4 _
   have sz4 := bel4.size
   have g0 := (bel4.cell (p := ⟨w.heap.size, 0, none⟩) (by simp)).trans ((bel3.cell (p := ⟨w.heap.size, 0, none⟩) (by simp; omega)).trans f0)
   have g1 := (bel4.cell (p := ⟨w.heap.size, 1, none⟩) (by simp)).trans ((bel3.cell (p := ⟨w.heap.size, 1, none⟩) (by simp; omega)).trans f1)
   have g2 := (bel4.cell (p := ⟨w.heap.size, 2, none⟩) (by simp)).trans ((bel3.cell (p := ⟨w.heap.size, 2, none⟩) (by simp; omega)).trans f2)
   have bel04 : Below w.heap.size w w4 := (bel02.trans (bel3.mono (by omega))).trans (bel4.mono (by omega))
   clear f0 f1 f2 hb3 own3 bel02 bel3 bel4
   obtain ⟨w5, hw5, sz5, bel5, own5⟩ := own_step .u8 5 w4 #[.int .u8 0] 1 [0] rfl rfl (by simp [maxLen]) (by simp [wf_u8])
   go_wp2_with (at_builtin; refine wpList_append_is rfl (.tmp 25) (.tmp 26) 66 rfl .u8 5 (w.heap.size + 1) 1 Tryz.underlying66 Tryz.info5 (by decide) _ bs rfl (own4.below bel5) _ [0] rfl own5.is (by simp; omega) (by omega) ?_)
   intro v6 w6 own6 bel6 _
   have sz6 := bel6.size
   have k0 := (bel6.cell (p := ⟨w.heap.size, 0, none⟩) (by simp)).trans ((bel5.cell (p := ⟨w.heap.size, 0, none⟩) (by simp; omega)).trans g0)
   have k1 := (bel6.cell (p := ⟨w.heap.size, 1, none⟩) (by simp)).trans ((bel5.cell (p := ⟨w.heap.size, 1, none⟩) (by simp; omega)).trans g1)
   have k2 := (bel6.cell (p := ⟨w.heap.size, 2, none⟩) (by simp)).trans ((bel5.cell (p := ⟨w.heap.size, 2, none⟩) (by simp; omega)).trans g2)
   have bel06 : Below w.heap.size w w6 := (bel04.trans (bel5.mono (by omega))).trans (bel6.mono (by omega))
   clear g0 g1 g2 own4 own5 bel04 bel5 bel6 hw5
   have hl6 : (bs ++ [0]).length ≤ 140737488351300 := by rw [List.length_append]; simp; omega
   go_wp2_with fail
   refine (appc_any (w.heap.size + 1) _ _ k _ own6 (by omega) (by omega) hk64).mono ?_
   rintro E w7 ⟨v7, rfl, own7, bel7⟩
   have sz7 := bel7.size
   have own8 : Own .u8 5 w.heap.size w7 v7 (bs ++ Om.opEnc false k.data.toList v.data.toList) := by
    have : bs ++ Om.opEnc false k.data.toList v.data.toList = bs ++ [0] ++ Om.cnt k.data.toList := by unfold Om.opEnc; simp
    rw [this]
    exact own7.rebase (by omega)
   go_wp2
   go_ret2
   exact ⟨_, rfl, own8, bel06.trans (bel7.mono (by omega))⟩
  ·have hk64 : k.size ≤ 64 := by omega
   have hv64 : v.size ≤ 64 := by omega
   generalize hn : (Om.opEnc true k.data.toList v.data.toList).length = n at *
   have HN := hide hn
   clear hn
   go_enter Tryz.func170, Tryz.ntmps170
   go_wp2_with fail
   refine (check_any true k v _ hk hv).mono ?_
   rintro E w1 ⟨rfl, bel1⟩
   rw [HC.out]
   have d0 := (bel1.cell (p := ⟨w.heap.size, 0, none⟩) (by simp [sz0])).trans c0
   have d1 := (bel1.cell (p := ⟨w.heap.size, 1, none⟩) (by simp [sz0])).trans c1
   have d2 := (bel1.cell (p := ⟨w.heap.size, 2, none⟩) (by simp [sz0])).trans c2
   have hb1 := hb0.below bel1
   have sz1 := bel1.size
   go_wp2_with fail
   refine (osize_any true k v _ HC.out).mono ?_
   rintro E w2 ⟨rfl, bel2⟩
   rw [HN.out]
   have sz2 := bel2.size
   have f0 := (bel2.cell (p := ⟨w.heap.size, 0, none⟩) (by simp; omega)).trans d0
   have f1 := (bel2.cell (p := ⟨w.heap.size, 1, none⟩) (by simp; omega)).trans d1
   have f2 := (bel2.cell (p := ⟨w.heap.size, 2, none⟩) (by simp; omega)).trans d2
   have hb2 := hb1.below bel2
   clear hb1 d0 d1 d2 c0 c1 c2 hb0 hw0
   have bel02 : Below w.heap.size w w2 := (bel0.trans (bel1.mono bel0.size)).trans (bel2.mono (by omega))
   clear bel0 bel1 bel2
   go_wp2_with (at_make; refine wpList_make_own _ rfl _ _ 66 rfl (w.heap.size + 1) 5 i0 (.int .u8 0) 1 Tryz.underlying66 hi hz0 hz1 _ _ _ (bs.length + n) rfl rfl (by omega) ?b2 ?b3 (by omega) ?_)
   case b2 => rw [hz2]; omega
   case b3 => unfold maxLen; omega
   intro w3 hown3 hgrow3
   have bel3 : Below w2.heap.size w2 w3 := (Below.refl _ _).grown hgrow3 (Nat.le_refl _) (by simp)
   have own3 : Own .u8 5 (w.heap.size + 1) w3 (.slice (some ⟨w2.heap.size, 0, none⟩) 0 (bs.length + n)) [] := ⟨by simp, hown3⟩
   have hb3 := hb2.below bel3
   have sz3 := bel3.size
   clear hown3 hgrow3 hb2
   go_wp2_with (at_builtin; refine wpList_append_is rfl (.tmp 19) (.tmp 20) 66 rfl .u8 5 (w.heap.size + 1) 1 Tryz.underlying66 Tryz.info5 (by decide) _ [] rfl own3 _ bs rfl hb3 (by simp; omega) (by omega) ?_)
   intro v4 w4 own4 bel4 _
   have sz4 := bel4.size
   have g0 := (bel4.cell (p := ⟨w.heap.size, 0, none⟩) (by simp)).trans ((bel3.cell (p := ⟨w.heap.size, 0, none⟩) (by simp; omega)).trans f0)
   have g1 := (bel4.cell (p := ⟨w.heap.size, 1, none⟩) (by simp)).trans ((bel3.cell (p := ⟨w.heap.size, 1, none⟩) (by simp; omega)).trans f1)
   have g2 := (bel4.cell (p := ⟨w.heap.size, 2, none⟩) (by simp)).trans ((bel3.cell (p := ⟨w.heap.size, 2, none⟩) (by simp; omega)).trans f2)
   have bel04 : Below w.heap.size w w4 := (bel02.trans (bel3.mono (by omega))).trans (bel4.mono (by omega))
   clear f0 f1 f2 hb3 own3 bel02 bel3 bel4
   obtain ⟨w5, hw5, sz5, bel5, own5⟩ := own_step .u8 5 w4 #[.int .u8 1] 1 [1] rfl rfl (by simp [maxLen]) (by simp [wf_u8])
   go_wp2_with (at_builtin; refine wpList_append_is rfl (.tmp 32) (.tmp 33) 66 rfl .u8 5 (w.heap.size + 1) 1 Tryz.underlying66 Tryz.info5 (by decide) _ bs rfl (own4.below bel5) _ [1] rfl own5.is (by simp; omega) (by omega) ?_)
   intro v6 w6 own6 bel6 _
   have sz6 := bel6.size
   have k0 := (bel6.cell (p := ⟨w.heap.size, 0, none⟩) (by simp)).trans ((bel5.cell (p := ⟨w.heap.size, 0, none⟩) (by simp; omega)).trans g0)
   have k1 := (bel6.cell (p := ⟨w.heap.size, 1, none⟩) (by simp)).trans ((bel5.cell (p := ⟨w.heap.size, 1, none⟩) (by simp; omega)).trans g1)
   have k2 := (bel6.cell (p := ⟨w.heap.size, 2, none⟩) (by simp)).trans ((bel5.cell (p := ⟨w.heap.size, 2, none⟩) (by simp; omega)).trans g2)
   have bel06 : Below w.heap.size w w6 := (bel04.trans (bel5.mono (by omega))).trans (bel6.mono (by omega))
   clear g0 g1 g2 own4 own5 bel04 bel5 bel6 hw5
   have hl6 : (bs ++ [1]).length ≤ 140737488351300 := by rw [List.length_append]; simp; omega
   go_wp2_with fail
   refine (appc_any (w.heap.size + 1) _ _ k _ own6 (by omega) (by omega) hk64).mono ?_
   rintro E w7 ⟨v7, rfl, own7, bel7⟩
   have sz7 := bel7.size
   have m2 := (bel7.cell (p := ⟨w.heap.size, 2, none⟩) (by simp)).trans k2
   have hl7 : (bs ++ [1] ++ Om.cnt k.data.toList).length ≤ 140737488351400 := by
    rw [List.length_append]
    have := Om.cnt_le (s := k.data.toList) (by rw [← Lib.size_eq]; omega)
    omega
   have bel07 : Below w.heap.size w w7 := bel06.trans (bel7.mono (by omega))
   clear own6 bel06 bel7 k0 k1 k2
   go_wp2_with fail
   refine (appc_any (w.heap.size + 1) _ _ v _ own7 (by omega) (by omega) hv64).mono ?_
   rintro E w8 ⟨v8, rfl, own8, bel8⟩
   have own9 : Own .u8 5 w.heap.size w8 v8 (bs ++ Om.opEnc true k.data.toList v.data.toList) := by
    have : bs ++ Om.opEnc true k.data.toList v.data.toList = bs ++ [1] ++ Om.cnt k.data.toList ++ Om.cnt v.data.toList := by unfold Om.opEnc; simp
    rw [this]
    exact own8.rebase (by omega)
   go_wp2
   go_ret2
   exact ⟨_, rfl, own9, bel07.trans (bel8.mono (by omega))⟩
 ·rw [Om.appd_no hc, hc]
  have HC := hide hc
  clear hc
  go_enter Tryz.func170, Tryz.ntmps170
  go_wp2_with fail
  refine (check_any p k v _ hk hv).mono ?_
  rintro E w1 ⟨rfl, bel1⟩
  rw [HC.out]
  go_wp2
  go_ret2
  exact ⟨_, rfl, Own.nil _ _ _ _, bel0.trans (bel1.mono bel0.size)⟩

end Go.Proofs.YtmmfakpphjjjfaaGreat
