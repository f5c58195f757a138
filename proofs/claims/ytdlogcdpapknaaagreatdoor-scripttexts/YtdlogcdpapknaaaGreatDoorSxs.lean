/- Package script (layer 25): Parse. -/
import Derived.Test.YtdlogcdpapknaaaGreatDoorSxr
namespace Go.Proofs.YtdlogcdpapknaaaGreatDoor
open Go.RowKit Go.Shelf
set_option linter.unusedVariables false
set_option maxRecDepth 100000
attribute [local go_sem] Oper.semAt_some

theorem lnsA_ten : ∀ (l cur : List UInt8), (10 : UInt8) ∉ cur → ∀ x ∈ Sct.lnsA cur l, (10 : UInt8) ∉ x
  | [], cur, h, x, hx => by
    rw [Sct.lnsA] at hx
    split at hx
    · simp at hx
    · rw [List.mem_singleton.1 hx]; exact h
  | c :: r, cur, h, x, hx => by
    rw [Sct.lnsA] at hx
    split at hx
    · rcases List.mem_cons.1 hx with rfl | hx
      · exact h
      · exact lnsA_ten r [] (by simp) x hx
    · rename_i hc
      refine lnsA_ten r (cur ++ [c]) (fun e => ?_) x hx
      rcases List.mem_append.1 e with e | e
      · exact h e
      · exact hc (List.mem_singleton.1 e).symm

theorem lrp_res {s : List UInt8} {a : Sct.Av} {th : Bool} {e : Int} (h : LRp s a th e) (h10 : (10 : UInt8) ∉ s) : Sct.LRes s a th e := by
  rcases h with h | ⟨h1, h2, h3⟩ | ⟨h1, h2, h3⟩ | ⟨h1, h2, h3, h4⟩
  · exact .inl h
  · exact .inr (.inl ⟨h1, h10, h2, h3⟩)
  · exact .inr (.inr (.inl ⟨h1, h10, h2, h3⟩))
  · exact .inr (.inr (.inr ⟨h1, .inr ⟨h2, h3⟩, h4⟩))

/-- The lines that were read, and the acts of them. -/
def PPre (pre : List (List UInt8)) (acc : List Sct.Av) : Prop := ∀ rest out p e, Sct.PGo rest pre.length acc out p e → Sct.PGo (pre ++ rest) 0 [] out p e
theorem PPre.nil : PPre [] [] := fun rest out p e h => h
theorem PPre.act {pre : List (List UInt8)} {acc : List Sct.Av} {x : List UInt8} {a : Sct.Av} (h : PPre pre acc) (hl : Sct.LRes x a true 0) (hn : acc.length ≠ 200) : PPre (pre ++ [x]) (acc ++ [a]) := fun rest out p e k => by
  have := h (x :: rest) out p e ⟨a, true, 0, hl, .inr (.inr (.inl ⟨rfl, rfl, hn, by rw [List.length_append] at k; exact k⟩))⟩
  simpa using this
theorem PPre.skip {pre : List (List UInt8)} {acc : List Sct.Av} {x : List UInt8} {a : Sct.Av} (h : PPre pre acc) (hl : Sct.LRes x a false 0) : PPre (pre ++ [x]) acc := fun rest out p e k => by
  have := h (x :: rest) out p e ⟨a, false, 0, hl, .inr (.inr (.inr ⟨rfl, rfl, by rw [List.length_append] at k; exact k⟩))⟩
  simpa using this

theorem ErrV.kept {w w' : World} {v : Value} {line e : Int} {k : Nat} (h : ErrV w v line e) (hg : w.grownBy w' (some k)) (hk : ∀ cs : Array Value, w.heap[k]? ≠ some (.cells cs 82 (0, 0))) : ErrV w' v line e := by
  rcases h with h | ⟨h, b, h1, h2⟩
  · exact .inl h
  · exact .inr ⟨h, b, h1, (hg.block b (blk_lt h2) fun e => by cases e; exact hk _ h2).trans h2⟩

/-- What Parse gives back. -/
def ParR (w : World) (s : List UInt8) (E : Ending) (w' : World) : Prop := ∃ v ev l p e, E = .returned (.tuple #[v, ev]) ∧ OwnAs w.heap.size w' v l ∧ ErrV w' ev p e ∧ Sct.PRes s (l.map Aw.a) p e ∧ Below w.heap.size w w'

/-- Between two rounds of Parse's loop. -/
def ParI (w : World) (B : Nat) (pre : List ByteArray) (W : World) : Prop := ∃ (vl : Value) (l : List Aw), W.heap[w.heap.size + 2]? = some (.cells #[vl] 34 (0, 0)) ∧ W.heap[w.heap.size + 3]? = some (.cells #[.int .i64 pre.length] 3 (0, 0)) ∧
  W.heap[w.heap.size]? = some (.cells #[.slice none 0 0] 34 (0, 0)) ∧ W.heap[w.heap.size + 1]? = some (.cells #[.nilIface] 31 (0, 0)) ∧ OwnAs B W vl l ∧ PPre (pre.map trm) (l.map Aw.a) ∧ l.length ≤ 200 ∧ w.heap.size + 5 ≤ W.heap.size ∧ Below w.heap.size w W
/-- A refusal has left Parse's loop. -/
def ParX (w : World) (B : Nat) (s : List UInt8) (c : Code) (pre : List ByteArray) (W : World) : Prop := c = .ret ∧ ∃ (eb : Nat) (p e : Int), W.heap[w.heap.size]? = some (.cells #[.slice none 0 0] 34 (0, 0)) ∧ W.heap[w.heap.size + 1]? = some (.cells #[.iface 78 (.pointer (some ⟨eb, 0, none⟩))] 31 (0, 0)) ∧
  B ≤ eb ∧ W.heap[eb]? = some (.cells #[.int .i64 p, .int .i64 e] 82 (0, 0)) ∧ e ≠ 0 ∧ Sct.PRes s [] p e ∧ Below w.heap.size w W

theorem parI_hold (w : World) : HoldV (w.heap.size + 4) (w.heap.size + 5) (ParI w (w.heap.size + 5)) := by
  rintro pre W W' row ⟨vl, l, h2, h3, h0, h1, own, hp, hn, h5, hb⟩ hg hr
  have blk : ∀ k cs t, k < w.heap.size + 4 → W.heap[k]? = some (.cells cs t (0, 0)) → W'.heap[k]? = some (.cells cs t (0, 0)) := fun k cs t hk h => (hg.block k (blk_lt h) fun e => by
    rcases hr k e.symm with h4 | ⟨h4, _⟩ <;> omega).trans h
  refine ⟨vl, l, blk _ _ _ (by omega) h2, blk _ _ _ (by omega) h3, blk _ _ _ (by omega) h0, blk _ _ _ (by omega) h1, own.kept hg fun r e => ?_, hp, hn, Nat.le_trans h5 hg.size, hb.grown hg hb.size fun r e => ?_⟩
  · rcases hr r e with h4 | ⟨_, h4⟩
    · exact .inl (by omega)
    · exact .inr h4
  · rcases hr r e with h4 | ⟨h4, _⟩ <;> omega
theorem parX_hold (w : World) (s : List UInt8) (c : Code) : HoldV (w.heap.size + 4) (w.heap.size + 5) (ParX w (w.heap.size + 5) s c) := by
  rintro pre W W' row ⟨hc, eb, p, e, h0, h1, hB, hE, he, hp, hb⟩ hg hr
  have blk : ∀ k cs t, k < w.heap.size + 4 → W.heap[k]? = some (.cells cs t (0, 0)) → W'.heap[k]? = some (.cells cs t (0, 0)) := fun k cs t hk h => (hg.block k (blk_lt h) fun e => by
    rcases hr k e.symm with h4 | ⟨h4, _⟩ <;> omega).trans h
  refine ⟨hc, eb, p, e, blk _ _ _ (by omega) h0, blk _ _ _ (by omega) h1, hB, (hg.block eb (blk_lt hE) fun e => ?_).trans hE, he, hp, hb.grown hg hb.size fun r e => ?_⟩
  · rcases hr eb e.symm with h4 | ⟨_, o, h4, h5⟩
    · omega
    · rw [hE] at h4
      cases h4
      simp [Obj.isCells] at h5
  · rcases hr r e with h4 | ⟨h4, _⟩ <;> omega

theorem Tryz.info24 : (Tryz.prog.info? 24).map (fun i => (i.zero, i.size, i.bytes)) = some (some (.agg #[.int .i64 0, .int .i64 0, .int .i64 0, .int .i64 0, .string ⟨#[]⟩, .slice none 0 0]), 6, 72) := by kernel_rfl

/-- A row of acts' is written: the ops lie apart from it. -/
theorem OwnO.apart {base : Nat} {w w' : World} {v vl : Value} {l : List Bm.Ov} {m : List Aw} (h : OwnO 77 base w v l) (hm : OwnG aca 6 24 base w vl m) (hg : w.grownBy w' vl.ownBlock) : OwnO 77 base w' v l := by
  refine h.kept hg ?_
  rcases h.2 with ⟨rfl, _⟩ | ⟨g, cap, cur, rfl, _, hh, _⟩
  · exact .inl rfl
  · refine .inr fun e => ?_
    obtain ⟨cs, hc⟩ := hm.type (g := g) e.symm
    rw [hh] at hc
    cases hc

/-- 'l = append(l, a)' of acts. -/
theorem wpListIn_append_act {F : Fence} {nf : Nat} {w : World} {ops : Array Oper} {rest : List Oper} {o : Oper} {a : Act} {Q : Exit → Act → World → Prop} (hgd : o.guard = none) (s x : Operand)
    (ho : o.op = .call { callee := .builtin .append, args := #[s, x], argTypes := #[34, 34] }) (base : Nat) (v : Value) (l : List Aw) (hs : a.eval s = v) (hown : OwnAs base w v l) (g : Nat) (y : Aw)
    (hx : a.eval x = .slice (some ⟨g, 0, none⟩) 1 1) (hc : w.heap[g]? = some (.cells #[.int .i64 y.a.k, .int .i64 y.a.u, .int .i64 y.a.n, .int .i64 y.a.t, .string y.a.key, y.v] 24 (0, 0))) (hyo : OwnO 77 base w y.v y.a.ops) (hone : y.v.oneCell' = true)
    (hlen : l.length ≤ 1000) (hbase : base ≤ w.heap.size)
    (h : ∀ v' w', OwnAs base w' v' (l ++ [y]) → Below base w w' → w.grownBy w' v.ownBlock → wpListIn F nf Tryz.prog ops Q rest (a.put o.dst v') w') : wpListIn F nf Tryz.prog ops Q (o :: rest) a w := by
  obtain ⟨i, hi, hz, hsize, hb⟩ := info_parts Tryz.info24
  refine wpListIn_append_own w hgd s x 34 ho base 24 i _ 6 72 Tryz.underlying34 hi hz hsize hb rfl (by decide) v l.length _ hs hown.1 ⟨g, 0, none⟩ 1 1 (aca y) hx rfl (fun j u hj => ?_) (fun u hu => ?_) (by unfold maxLen; omega) (by omega) hbase ?_
  · rw [add_at, Nat.zero_add]
    exact blk_cell hc j (by simpa [aca] using hj)
  · simp only [aca, List.mem_cons, List.not_mem_nil, or_false] at hu
    rcases hu with rfl | rfl | rfl | rfl | rfl | rfl
    all_goals first | rfl | exact hone
  · intro v' w' ho' hg _
    refine h v' w' ⟨by unfold OwnG; rw [gcells_app, List.length_append]; simpa [gcells] using ho', fun z hz => ?_⟩ ((Below.refl _ _).grown hg hbase fun k' hk => (hown.1.lt k' hk).1) hg
    rcases List.mem_append.1 hz with hz | hz
    · exact (hown.2 z hz).apart hown.1 hg
    · rw [List.mem_singleton.1 hz]
      exact hyo.apart hown.1 hg

theorem refused_at (line e : Int) (w W : World) (hW : w.alloc (.cells #[.int .i64 line, .int .i64 e] 82) = W) : Calls Tryz.prog 26 #[.int .i64 line, .int .i64 e] w fun E w' => E = .returned (.iface 78 (.pointer (some ⟨w.heap.size, 0, none⟩))) ∧ W = w' := by
  go_enter Tryz.func26, Tryz.ntmps26
  go_wp2
  go_ret
  exact ⟨rfl, rfl⟩

theorem lnB_len : ∀ (f : Nat) (s : ByteArray), (lnB f s).length ≤ s.size
  | 0, s => by simp [lnB]
  | f + 1, s => by
    rw [lnB]
    split
    · simp
    · split
      · rename_i h0 hq
        have := lnB_len f (s.extract ((Lib.indexByte s.data.toList 10).toNat + 1) s.size)
        rw [ext_size] at this
        rw [List.length_cons]
        omega
      · simp; omega

theorem keeps_below {W W' : World} (h : Below W.heap.size W W') : KeepsOthers W W' := ⟨h.size, fun k o hk ho => (h.block k (Array.getElem?_eq_some_iff.1 hk).1).trans hk⟩

theorem lnB_size : ∀ (f : Nat) (s : ByteArray), ∀ x ∈ lnB f s, x.size ≤ s.size
  | 0, s, x, h => by simp [lnB] at h
  | f + 1, s, x, h => by
    rw [lnB] at h
    split at h
    · simp at h
    · split at h
      · rcases List.mem_cons.1 h with rfl | h
        · rw [ext_size]; omega
        · have := lnB_size f _ x h
          rw [ext_size] at this
          omega
      · rw [List.mem_singleton.1 h]
        exact Nat.le_refl _

theorem trm_le (x : ByteArray) : (trm x).length ≤ x.size := by
  unfold trm Lib.trimSuffix
  rw [Lib.size_eq]
  split
  · rw [List.length_take]; omega
  · omega

/-- A refusal leaves the loop. -/
theorem par_ret (w W w7 : World) (s : List UInt8) (pre : List ByteArray) (x : ByteArray) (p e : Int) (h5 : w.heap.size + 5 ≤ w7.heap.size) (q0 : w7.heap[w.heap.size]? = some (.cells #[.slice none 0 0] 34 (0, 0))) (q1 : w7.heap[w.heap.size + 1]? = some (.cells #[.nilIface] 31 (0, 0)))
    (kw : KeepsOthers W w7) (hb : Below w.heap.size w w7) (he : e ≠ 0) (hp : Sct.PRes s [] p e) :
    ∃ w8 V, w7.alloc (.cells #[.int .i64 p, .int .i64 e] 82) = w8 ∧ w8.setCell ⟨w.heap.size, 0, none⟩ (.slice none 0 0) = w8 ∧ w8.setCell ⟨w.heap.size + 1, 0, none⟩ (.iface 78 (.pointer (some ⟨w7.heap.size, 0, none⟩))) = V ∧
      w8.cell? ⟨w.heap.size, 0, none⟩ = some (.slice none 0 0) ∧ w8.frozen? ⟨w.heap.size, 0, none⟩ = false ∧ w8.cell? ⟨w.heap.size + 1, 0, none⟩ = some .nilIface ∧ w8.frozen? ⟨w.heap.size + 1, 0, none⟩ = false ∧
      ∀ a', PostV (w.heap.size + 4) (w.heap.size + 5) (ParI w (w.heap.size + 5)) (ParX w (w.heap.size + 5) s) (pre ++ [x]) W .ret a' V := by
  obtain ⟨w8, hw8, s8, b8, eb⟩ := blk_step w7 #[.int .i64 p, .int .i64 e] 82
  replace q0 := (b8.block _ (blk_lt q0)).trans q0
  replace q1 := (b8.block _ (blk_lt q1)).trans q1
  have gV := grown_setCell w8 ⟨w.heap.size + 1, 0, none⟩ (.iface 78 (.pointer (some ⟨w7.heap.size, 0, none⟩)))
  refine ⟨w8, _, hw8, set_same q0 (j := 0) rfl, rfl, blk_cell q0 0 rfl, blk_froz q0 0, blk_cell q1 0 rfl, blk_froz q1 0, fun a' => ⟨((kw.trans (keeps_below b8)).trans (KeepsOthers.setCell _ _ _)).from _, rfl, w7.heap.size, p, e, (gV.block _ (blk_lt q0) (by simp)).trans q0, set_cells q1 0 _, h5, (gV.block _ (blk_lt eb) (by simp; omega)).trans eb, he, hp, below_put (hb.trans (b8.mono hb.size)) gV (by simp) (by have := hb.size; omega)⟩⟩

/-- A round goes on. -/
theorem par_next (w W X : World) (s : List UInt8) (pre : List ByteArray) (x : ByteArray) (vl : Value) (l : List Aw) (h5 : w.heap.size + 5 ≤ X.heap.size) (q2 : X.heap[w.heap.size + 2]? = some (.cells #[vl] 34 (0, 0))) (q3 : X.heap[w.heap.size + 3]? = some (.cells #[.int .i64 pre.length] 3 (0, 0)))
    (q0 : X.heap[w.heap.size]? = some (.cells #[.slice none 0 0] 34 (0, 0))) (q1 : X.heap[w.heap.size + 1]? = some (.cells #[.nilIface] 31 (0, 0))) (own : OwnAs (w.heap.size + 5) X vl l) (hp : PPre ((pre ++ [x]).map trm) (l.map Aw.a)) (hn : l.length ≤ 200)
    (kw : KeepsOthers W X) (hv : X.heap[w.heap.size + 4]? = W.heap[w.heap.size + 4]?) (hb : Below w.heap.size w X) :
    ∃ V, X.setCell ⟨w.heap.size + 3, 0, none⟩ (.int .i64 ((pre.length : Int) + 1)) = V ∧ X.cell? ⟨w.heap.size + 3, 0, none⟩ = some (.int .i64 pre.length) ∧ X.frozen? ⟨w.heap.size + 3, 0, none⟩ = false ∧
      ∀ a', PostV (w.heap.size + 4) (w.heap.size + 5) (ParI w (w.heap.size + 5)) (ParX w (w.heap.size + 5) s) (pre ++ [x]) W .normal a' V := by
  have gV := grown_setCell X ⟨w.heap.size + 3, 0, none⟩ (.int .i64 ((pre.length : Int) + 1))
  have hvl : w.heap.size + 4 < X.heap.size := by omega
  refine ⟨_, rfl, blk_cell q3 0 rfl, blk_froz q3 0, fun a' => ⟨(kw.trans (KeepsOthers.setCell _ _ _)).from _, (gV.block _ hvl (by simp)).trans hv, vl, l, (gV.block _ (blk_lt q2) (by simp)).trans q2, ?_, (gV.block _ (blk_lt q0) (by simp)).trans q0, (gV.block _ (blk_lt q1) (by simp)).trans q1, own.kept gV fun r e => ?_, hp, hn, by have := gV.size; omega, below_put hb gV (by simp) hb.size⟩⟩
  · rw [set_cells q3 0 _]
    simp
  · cases e
    exact .inl (by simp)

set_option maxHeartbeats 8000000 in
theorem parse_any (s : ByteArray) (w : World) (hs : s.size ≤ 140737488351232) (hv : Vs w) : Calls Tryz.prog 10 #[.string s] w (ParR w s.data.toList) := by
  obtain ⟨w1, hw1, sz1, b1, r0⟩ := blk_step w #[.slice none 0 0] 34
  obtain ⟨w2, hw2, sz2, b2, r1⟩ := blk_step w1 #[.nilIface] 31
  have hsz := Lib.size_eq s
  by_cases hlong : 65536 < s.size
  · have hl' : (65536 : Int) < s.size := by omega
    have HLT := hide (show 65536 < s.data.toList.length by omega)
    clear hsz
    go_enter Tryz.func10, Tryz.ntmps10
    rw [sz1] at r1 b2
    have r0' := (b2.block w.heap.size (by omega)).trans r0
    go_wp2_with fail
    refine (refused_any (-1) 3 w2 (by decide)).mono ?_
    rintro E w3 ⟨ev, rfl, he, b3⟩
    obtain ⟨eb, rfl⟩ : ∃ eb, ev = .iface 78 (.pointer (some ⟨eb, 0, none⟩)) := by
      rcases he with ⟨h, _⟩ | ⟨_, b, h, _⟩
      · exact absurd h (by decide)
      · exact ⟨b, h⟩
    have s3 := b3.size
    have q0 := (b3.block w.heap.size (by omega)).trans r0'
    have q1 := (b3.block (w.heap.size + 1) (by omega)).trans r1
    have B3 : Below w.heap.size w w3 := (b1.trans (b2.mono (by omega))).trans (b3.mono (by omega))
    have c0 := blk_cell q0 0 rfl
    have c1 := blk_cell q1 0 rfl
    have f0 := blk_froz q0 0
    have f1 := blk_froz q1 0
    have x0 := set_same q0 (j := 0) (u := .slice none 0 0) rfl
    obtain ⟨V, hV⟩ : ∃ V, w3.setCell ⟨w.heap.size + 1, 0, none⟩ (.iface 78 (.pointer (some ⟨eb, 0, none⟩))) = V := ⟨_, rfl⟩
    have v1 : V.heap[w.heap.size + 1]? = some (.cells #[.iface 78 (.pointer (some ⟨eb, 0, none⟩))] 31 (0, 0)) := by rw [← hV]; exact set_cells q1 0 _
    have gV : w3.grownBy V (some (w.heap.size + 1)) := by rw [← hV]; exact grown_setCell _ _ _
    have v0 := (gV.block w.heap.size (by omega) (by simp)).trans q0
    have z0 := blk_cell v0 0 rfl
    have z1 := blk_cell v1 0 rfl
    have T := hide (show ParR w s.data.toList (.returned (.tuple #[.slice none 0 0, .iface 78 (.pointer (some ⟨eb, 0, none⟩))])) V from ⟨_, _, [], -1, 3, rfl, OwnAs.nil _ _, he.kept gV (fun cs => by rw [q1]; intro e; cases e), .inl ⟨HLT.out, rfl, rfl, rfl⟩, below_put B3 gV (by omega) (by omega)⟩)
    clear he b3 q0 q1 B3 v0 v1 gV b1 b2 r0 r1 r0'
    go_wp2
    refine bodyPost_ret (v := .tuple #[.slice none 0 0, .iface 78 (.pointer (some ⟨eb, 0, none⟩))]) (by simp [results, Tryz.results10, go_sem, z0, z1]) rfl ?_
    exact T.out
  have hl' : ¬ (65536 : Int) < s.size := by omega
  have hls := hide (show s.data.toList.length ≤ 65536 by omega)
  clear hsz
  rw [sz1] at r1 b2
  replace sz2 : w2.heap.size = w.heap.size + 2 := by omega
  obtain ⟨w3, hw3, sz3, b3, k0⟩ := blk_step w2 #[.slice none 0 0] 34
  replace sz3 : w3.heap.size = w.heap.size + 3 := by omega
  obtain ⟨w4, hw4, sz4, b4, k1⟩ := blk_step w3 #[.int .i64 0] 3
  replace sz4 : w4.heap.size = w.heap.size + 4 := by omega
  obtain ⟨w5, hw5, sz5, b5, k2⟩ := blk_step w4 #[.string s] 9
  replace sz5 : w5.heap.size = w.heap.size + 5 := by omega
  rw [sz2] at k0 b3
  rw [sz3] at k1 b4
  rw [sz4] at k2 b5
  have f1 := blk_froz k1 0
  have c1 := blk_cell k1 0 rfl
  have x1 := set_same k1 (j := 0) (u := .int .i64 0) rfl
  have LN := hide (lines_any s w4)
  rw [sz4] at LN
  refine (callsIn_wide (n := 6)).1 ?_
  refine callsIn_of_wp_marks Tryz.func10 rfl trivial ?_ rfl
  simp only [Tryz.ntmps10, List.size_toArray, List.length_cons, List.length_nil, Nat.reduceAdd, Nat.reduceSub, Array.replicate_succ, Array.replicate_zero, List.push_toArray, List.append_toArray, List.nil_append, List.cons_append]
  gi_wp2_with fail
  refine ⟨trivial, (callsIn_wide.2 LN.out).mono ?_⟩
  rintro E wx ⟨rfl, hx⟩
  obtain rfl : w5 = wx := by rw [← hx, hw5]
  clear hx LN
  have I0 : ParI w (w.heap.size + 5) [] w5 := ⟨.slice none 0 0, [], (b5.block _ (by omega)).trans ((b4.block _ (by omega)).trans k0), (b5.block _ (by omega)).trans k1, (b5.block _ (by omega)).trans ((b4.block _ (by omega)).trans ((b3.block _ (by omega)).trans ((b2.block _ (by omega)).trans r0))), (b5.block _ (by omega)).trans ((b4.block _ (by omega)).trans ((b3.block _ (by omega)).trans r1)), OwnAs.nil _ _, PPre.nil, by simp, by omega, (((b1.trans (b2.mono (by omega))).trans (b3.mono (by omega))).trans (b4.mono (by omega))).trans (b5.mono (by omega))⟩
  have HV := hide hv
  clear hv r0 r1 b1 b2 b3 b4 b5 k0 k1
  gi_wp2
  refine range_v (by omega) (gf := 62) (V := w.heap.size + 4) (lb := #[.pointer (some ⟨w.heap.size + 4, 0, none⟩)]) rfl (enters_of Tryz.func62 (by kernel_rfl) rfl) (by omega) Value.string (lnB s.size s) (lines_seq 5 (by omega) (w.heap.size + 4) s (by omega) w5 k2) rfl (ParI w (w.heap.size + 5)) (ParX w (w.heap.size + 5) s.data.toList) (by rw [sz5]; exact parI_hold w) (fun c => by rw [sz5]; exact parX_hold w _ c) I0
    (fun x => { tmps := #[.string s, undef, .pointer (some ⟨w.heap.size, 0, none⟩), .pointer (some ⟨w.heap.size + 1, 0, none⟩), .pointer (some ⟨w.heap.size + 2, 0, none⟩), .pointer (some ⟨w.heap.size + 3, 0, none⟩), .string x, undef, undef, undef, .string s, .int .i64 s.size, .bool false, undef, .string s, .func (.func 62) #[] #[.pointer (some ⟨w.heap.size + 4, 0, none⟩)], .string x, undef, undef, undef, undef, undef, undef, undef, undef, undef, undef, undef, undef, undef, undef, undef, undef, undef, undef, undef, undef, undef, undef, undef, undef, undef, undef], defers := [] }) ?assign ?body ?done ?stop
  case assign =>
    intro l x W K hK
    gi_wp2
    exact hK
  case done =>
    rintro D W hD ⟨vl, l, h2, h3, h0, h1, own, hp, hn, h5, hb⟩ hk
    obtain ⟨vo, vc, rfl, _, _⟩ := own.1.row.shape
    have c2 := blk_cell h2 0 rfl
    have c0 := blk_cell h0 0 rfl
    have c1 := blk_cell h1 0 rfl
    have f0 := blk_froz h0 0
    have f1 := blk_froz h1 0
    have OWN := hide own
    have HB := hide hb
    have HK := hide hk
    have HP := hide hp
    obtain ⟨W2, hW2⟩ : ∃ W2, W.setCell ⟨w.heap.size, 0, none⟩ (.slice vo l.length vc) = W2 := ⟨_, rfl⟩
    have g2 : W.grownBy W2 (some w.heap.size) := by rw [← hW2]; exact grown_setCell _ _ _
    have k0 : W2.heap[w.heap.size]? = some (.cells #[.slice vo l.length vc] 34 (0, 0)) := by rw [← hW2]; exact set_cells h0 0 _
    have k1 := (g2.block (w.heap.size + 1) (blk_lt h1) (by simp)).trans h1
    have x1 := set_same k1 (j := 0) (u := .nilIface) rfl
    have d1 := blk_cell k1 0 rfl
    have e1 := blk_froz k1 0
    have hkD := (g2.block D (Array.getElem?_eq_some_iff.1 hk).1 (by simp; omega)).trans hk
    have g3 := grownBy_putObj' W2 D (.deferred none)
    have z0 : (W2.putObj D (.deferred none)).cell? ⟨w.heap.size, 0, none⟩ = some (.slice vo l.length vc) := blk_cell ((g3.block w.heap.size (blk_lt k0) (by simp; omega)).trans k0) 0 rfl
    have z1 : (W2.putObj D (.deferred none)).cell? ⟨w.heap.size + 1, 0, none⟩ = some .nilIface := blk_cell ((g3.block (w.heap.size + 1) (blk_lt k1) (by simp; omega)).trans k1) 0 rfl
    have T := hide (show ParR w s.data.toList (.returned (.tuple #[.slice vo l.length vc, .nilIface])) (W2.putObj D (.deferred none)) from by
      refine ⟨_, _, l, 0, 0, rfl, ((own.kept g2 fun r e => ?_).kept g3 fun r e => ?_).rebase (by omega), .inl ⟨rfl, rfl⟩, .inr ⟨hls.out, ?_⟩, (hb.grown g2 hb.size fun r e => ?_).grown g3 (Nat.le_trans hb.size g2.size) fun r e => ?_⟩
      · cases e; exact .inl (by omega)
      · cases e; exact .inr ⟨_, hkD, rfl⟩
      · have := hp [] (l.map Aw.a) 0 0 ⟨rfl, rfl, rfl⟩
        rw [List.append_nil, lnB_lns _ _ (Nat.le_refl _)] at this
        exact this
      · cases e; exact Nat.le_refl _
      · cases e; omega)
    have HKD := hide hkD
    clear own hb hk hp h2 h3 h0 h1 g2 k0 k1 g3 hkD
    gi_wp2
    refine ⟨by simp, .inl ⟨_, _, rfl, run_takeDeferred HKD.out, ?_⟩⟩
    refine ⟨_, ?_, T.out⟩
    simp [results, Tryz.results10, go_sem, z0, z1]
  case stop =>
    rintro D c pre W hD ⟨rfl, eb, p, e, h0, h1, hB, hE, he, hp, hb⟩ hk
    have g3 := grownBy_putObj' W D (.deferred none)
    have z0 : (W.putObj D (.deferred none)).cell? ⟨w.heap.size, 0, none⟩ = some (.slice none 0 0) := blk_cell ((g3.block w.heap.size (blk_lt h0) (by simp; omega)).trans h0) 0 rfl
    have z1 : (W.putObj D (.deferred none)).cell? ⟨w.heap.size + 1, 0, none⟩ = some (.iface 78 (.pointer (some ⟨eb, 0, none⟩))) := blk_cell ((g3.block (w.heap.size + 1) (blk_lt h1) (by simp; omega)).trans h1) 0 rfl
    have T := hide (show ParR w s.data.toList (.returned (.tuple #[.slice none 0 0, .iface 78 (.pointer (some ⟨eb, 0, none⟩))])) (W.putObj D (.deferred none)) from by
      refine ⟨_, _, [], p, e, rfl, OwnAs.nil _ _, .inr ⟨he, eb, rfl, (g3.block eb (blk_lt hE) fun h => ?_).trans hE⟩, hp, hb.grown g3 hb.size fun r e => ?_⟩
      · cases h
        rw [hE] at hk
        cases hk
      · cases e; omega)
    have HK := hide hk
    clear hk h0 h1 hE hb g3
    gi_wp2
    refine ⟨by simp, .inl ⟨_, _, rfl, run_takeDeferred HK.out, ?_⟩⟩
    refine ⟨_, ?_, T.out⟩
    simp [results, Tryz.results10, go_sem, z0, z1]
  case body =>
    rintro l pre x W hpre ⟨vl, ls, h2, h3, h0, h1, own, hp, hn, h5, hb⟩
    rw [sz5]
    obtain ⟨rst, hrst⟩ := hpre
    have hxm : x ∈ lnB s.size s := by rw [← hrst]; simp
    have hxs := lnB_size _ _ x hxm
    have h10 : (10 : UInt8) ∉ trm x := by
      refine lnsA_ten s.data.toList [] (by simp) _ ?_
      show _ ∈ Sct.lns _
      rw [← lnB_lns _ s (Nat.le_refl _)]
      exact List.mem_map.2 ⟨x, hxm, rfl⟩
    have htl := trm_le x
    have VW := hide (HV.out.below hb)
    have TS : Hid (Calls Tryz.prog 32 #[.string x, .string ⟨#[10]⟩] W fun E w' => E = .returned (.string ⟨(trm x).toArray⟩) ∧ W = w') := hide ((Tryz.strings_TrimSuffix x ⟨#[10]⟩ W (by omega)).mono fun E w' h => ⟨h.1, h.2.symm⟩)
    have LA := hide (line_any ⟨(trm x).toArray⟩ W (by rw [Lib.size_eq]; show (trm x).length ≤ _; omega) VW.out)
    gi_wp2_with fail
    refine ⟨trivial, ((callsIn_wide.2 TS.out).inRound _).mono ?_⟩
    rintro E wx ⟨rfl, rfl⟩
    clear TS
    gi_wp2_with fail
    refine ⟨trivial, ((callsIn_wide.2 LA.out).inRound _).mono ?_⟩
    rintro E w6 ⟨a, v, th, e, rfl, ownv, LR, b6⟩
    obtain ⟨oa, oc, rfl, _, _⟩ := ownv.is.shape
    unfold acv acc
    have LS : Sct.LRes (trm x) a th e := lrp_res LR h10
    have hbW := hb.size
    have s6 := b6.size
    have q2 := (b6.block _ (blk_lt h2)).trans h2
    have q3 := (b6.block _ (blk_lt h3)).trans h3
    have q0 := (b6.block _ (blk_lt h0)).trans h0
    have q1 := (b6.block _ (blk_lt h1)).trans h1
    obtain ⟨w7, hw7, s7, b7, ab⟩ := blk_step w6 #[.int .i64 a.k, .int .i64 a.u, .int .i64 a.n, .int .i64 a.t, .string a.key, .slice oa a.ops.length oc] 24
    replace q2 := (b7.block _ (blk_lt q2)).trans q2
    replace q3 := (b7.block _ (blk_lt q3)).trans q3
    replace q0 := (b7.block _ (blk_lt q0)).trans q0
    replace q1 := (b7.block _ (blk_lt q1)).trans q1
    have bW7 : Below W.heap.size W w7 := b6.trans (b7.mono s6)
    obtain ⟨vo, vc, rfl, _, _⟩ := own.1.row.shape
    have OWN7 := hide (own.below bW7)
    have OWV7 := hide ((ownv.below b7).rebase (base' := w.heap.size + 5) (by omega))
    have HB7 := hide (hb.trans (bW7.mono hbW))
    have KW7 := hide (keeps_below bW7)
    have BW7 := hide bW7
    have HP := hide hp
    have LSS := hide LS
    have hplen : pre.length ≤ 65536 := by
      have h1 := lnB_len s.size s
      rw [← hrst] at h1
      simp only [List.length_append, List.length_cons] at h1
      omega
    have RST : Hid (pre.map trm ++ (trm x :: rst.map trm) = Sct.lns s.data.toList) := hide (by
      rw [← lnB_lns _ s (Nat.le_refl _), ← hrst]
      simp)
    have c2 := blk_cell q2 0 rfl
    have c3 := blk_cell q3 0 rfl
    have c0 := blk_cell q0 0 rfl
    have c1 := blk_cell q1 0 rfl
    have f2 := blk_froz q2 0
    have f3 := blk_froz q3 0
    have f0 := blk_froz q0 0
    have f1 := blk_froz q1 0
    have a6 := sx_of ab
    obtain ⟨a0, a1, a2, a3, a4, a5⟩ := a6
    have g0 := blk_froz ab 0; have g1 := blk_froz ab 1; have g2 := blk_froz ab 2; have g3 := blk_froz ab 3; have g4 := blk_froz ab 4; have g5 := blk_froz ab 5
    have y0 := set_same q0 (j := 0) (u := .slice none 0 0) rfl
    have Q2 := hide q2; have Q3 := hide q3; have Q0 := hide q0; have Q1 := hide q1; have AB := hide ab
    have HN := hide hn
    have hbk : W.heap.size ≤ w7.heap.size := bW7.size
    clear LR LS h2 h3 h0 h1 own ownv hb hp b6 b7 q2 q3 q0 q1 ab bW7 LA hn hrst hxm
    have cases3 : (th = false ∧ e ≠ 0) ∨ (th = false ∧ e = 0) ∨ (th = true ∧ e = 0) := by
      rcases LSS.out with ⟨_, _, rfl, rfl⟩ | ⟨_, _, _, _, rfl, rfl⟩ | ⟨_, _, _, _, _, rfl, rfl⟩ | ⟨_, _, _, rfl, rfl⟩
      · exact .inl ⟨rfl, by decide⟩
      · exact .inr (.inl ⟨rfl, rfl⟩)
      · exact .inr (.inr ⟨rfl, rfl⟩)
      · exact .inl ⟨rfl, by decide⟩
    have h57 : w.heap.size + 5 ≤ w7.heap.size := by omega
    have V7 : Hid (w7.heap[w.heap.size + 4]? = W.heap[w.heap.size + 4]?) := hide (BW7.out.block _ (by omega))
    clear y0
    rcases cases3 with ⟨rfl, he⟩ | ⟨rfl, rfl⟩ | ⟨rfl, rfl⟩
    · have hq : (e != 0) = true := by simpa using he
      have PR := hide (show Sct.PRes s.data.toList [] pre.length e from .inr ⟨hls.out, by
        have := HP.out (trm x :: rst.map trm) [] pre.length e ⟨a, false, e, LSS.out, .inl ⟨he, rfl, by simp, rfl⟩⟩
        rw [RST.out] at this
        exact this⟩)
      obtain ⟨w8, V8, hw8, y0, hV8, d0, e0, d1, e1, FIN⟩ := par_ret w W w7 s.data.toList pre x pre.length e h57 Q0.out Q1.out KW7.out HB7.out he PR.out
      rw [s7] at hV8
      have RF := hide (refused_at pre.length e w7 w8 hw8)
      have FF := hide FIN
      clear FIN he
      gi_wp2_with fail
      refine ⟨trivial, ((callsIn_wide.2 RF.out).inRound _).mono ?_⟩
      rintro E wx ⟨rfl, rfl⟩
      clear RF c0 c1 f0 f1 c2 f2 a0 a1 a2 a3 a4 a5 g0 g1 g2 g3 g4 g5
      gi_wp2
      exact FF.out _
    · obtain ⟨V8, hV8, d3, e3, FIN⟩ := par_next w W w7 s.data.toList pre x _ ls h57 Q2.out Q3.out Q0.out Q1.out OWN7.out (by rw [List.map_append]; exact HP.out.skip LSS.out) HN.out KW7.out V7.out HB7.out
      have FF := hide FIN
      clear FIN
      gi_wp2
      exact FF.out _
    · by_cases h200 : ls.length = 200
      · have hq : ((ls.length : Int) == 200) = true := by rw [h200]; rfl
        have PR := hide (show Sct.PRes s.data.toList [] pre.length 3 from .inr ⟨hls.out, by
          have := HP.out (trm x :: rst.map trm) [] pre.length 3 ⟨a, true, 0, LSS.out, .inr (.inl ⟨rfl, rfl, by rw [List.length_map]; exact h200, rfl, by simp, rfl⟩)⟩
          rw [RST.out] at this
          exact this⟩)
        obtain ⟨w8, V8, hw8, y0, hV8, d0, e0, d1, e1, FIN⟩ := par_ret w W w7 s.data.toList pre x pre.length 3 h57 Q0.out Q1.out KW7.out HB7.out (by decide) PR.out
        rw [s7] at hV8
        have RF := hide (refused_at pre.length 3 w7 w8 hw8)
        have FF := hide FIN
        clear FIN h200
        gi_wp2_with fail
        refine ⟨trivial, ((callsIn_wide.2 RF.out).inRound _).mono ?_⟩
        rintro E wx ⟨rfl, rfl⟩
        clear RF c0 c1 f0 f1 c2 f2 a0 a1 a2 a3 a4 a5 g0 g1 g2 g3 g4 g5
        gi_wp2
        exact FF.out _
      · have hq : ((ls.length : Int) == 200) = false := by simp; omega
        have H200 := hide h200
        have hn2 := HN.out
        obtain ⟨w8, hw8, s8, b8, nb⟩ := blk_step w7 #[.int .i64 a.k, .int .i64 a.u, .int .i64 a.n, .int .i64 a.t, .string a.key, .slice oa a.ops.length oc] 24
        rw [s7] at nb
        have OWN8 := OWN7.out.below b8
        have OWV8 := OWV7.out.below b8
        clear h200
        gi_wp2_with (gi_at_builtin; refine wpListIn_append_act rfl (.tmp 36) (.tmp 38) rfl (w.heap.size + 5) _ ls rfl OWN8 (w6.heap.size + 1) ⟨a, .slice oa a.ops.length oc⟩ rfl nb OWV8 rfl (by omega) (by omega) ?_)
        intro v' w9 own9 b9 hg9
        obtain ⟨vo9, vc9, rfl, _, _⟩ := own9.1.row.shape
        generalize hn9 : (ls ++ [(⟨a, .slice oa a.ops.length oc⟩ : Aw)]).length = n9 at own9 ⊢
        have b8w := b8.size
        have g9 := b9.size
        have r2 := (b9.block _ (by omega)).trans ((b8.block _ (blk_lt Q2.out)).trans Q2.out)
        have r3 := (b9.block _ (by omega)).trans ((b8.block _ (blk_lt Q3.out)).trans Q3.out)
        have r0 := (b9.block _ (by omega)).trans ((b8.block _ (blk_lt Q0.out)).trans Q0.out)
        have r1 := (b9.block _ (by omega)).trans ((b8.block _ (blk_lt Q1.out)).trans Q1.out)
        have d2 := blk_cell r2 0 rfl
        have e2 := blk_froz r2 0
        obtain ⟨X, hX⟩ : ∃ X, w9.setCell ⟨w.heap.size + 2, 0, none⟩ (.slice vo9 n9 vc9) = X := ⟨_, rfl⟩
        have gX : w9.grownBy X (some (w.heap.size + 2)) := by rw [← hX]; exact grown_setCell _ _ _
        have x2 : X.heap[w.heap.size + 2]? = some (.cells #[.slice vo9 n9 vc9] 34 (0, 0)) := by rw [← hX]; exact set_cells r2 0 _
        have x3 := (gX.block _ (blk_lt r3) (by simp)).trans r3
        have x0 := (gX.block _ (blk_lt r0) (by simp)).trans r0
        have x1 := (gX.block _ (blk_lt r1) (by simp)).trans r1
        have kX : KeepsOthers W X := by
          refine ((KW7.out.trans (keeps_below b8)).trans (KeepsOthers.of_grownBy hg9 fun j o hj ho => ?_)).trans (KeepsOthers.of_grownBy gX fun j o hj ho => ?_)
          · obtain ⟨cs, hc⟩ := OWN8.1.type hj
            rw [hc] at ho
            cases ho
            rfl
          · cases hj
            rw [r2] at ho
            cases ho
            rfl
        have vX : X.heap[w.heap.size + 4]? = W.heap[w.heap.size + 4]? := ((gX.block _ (by omega) (by simp)).trans (b9.block _ (by omega))).trans ((b8.block _ (by omega)).trans V7.out)
        have bX : Below w.heap.size w X := below_put (HB7.out.trans ((b8.mono HB7.out.size).trans (b9.mono (by omega)))) gX (by omega) (by have := HB7.out.size; omega)
        obtain ⟨V8, hV8, d3, e3, FIN⟩ := par_next w W X s.data.toList pre x _ _ (by have := gX.size; omega) x2 x3 x0 x1 (own9.kept gX fun r e => by cases e; exact .inl (by omega)) (by rw [List.map_append, List.map_append]; exact HP.out.act LSS.out (by rw [List.length_map]; exact H200.out)) (by rw [List.length_append]; have := HN.out; have := H200.out; simp only [List.length_cons, List.length_nil]; omega) kX vX bX
        have FF := hide FIN
        clear FIN hn9 own9 b9 hg9 r2 r3 r0 r1 gX x2 x3 x0 x1 kX vX bX OWN8 OWV8 b8 nb
        gi_wp2
        exact FF.out _

end Go.Proofs.YtdlogcdpapknaaaGreatDoor
