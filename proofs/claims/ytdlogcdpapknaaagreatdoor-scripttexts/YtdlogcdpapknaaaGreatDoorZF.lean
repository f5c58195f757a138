/- Texts of one layer, one behind the other. -/
import Derived.Test.YtdlogcdpapknaaaGreatDoorZE
import Derived.Test.YtdlogcdpapknaaaGreatDoorZA
/- Rows of ops in memory: what a slice of ops reads as ('IsO'), one of the call's own ('OwnO'), an append between the two. -/
namespace Go.Proofs.YtdlogcdpapknaaaGreatDoor
open Go.RowKit
set_option linter.unusedVariables false

/-- An op's cells. -/
def ocell (o : Bm.Ov) : List Value := [.bool o.p, .string o.k, .string o.v]
def ocells : List Bm.Ov → List Value
  | [] => []
  | o :: r => ocell o ++ ocells r

theorem ocells_len : ∀ (l : List Bm.Ov), (ocells l).length = l.length * 3
  | [] => rfl
  | o :: r => by
    have := ocells_len r
    simp only [ocells, ocell, List.length_append, List.length_cons, List.length_nil]
    omega

theorem ocells_app : ∀ (l m : List Bm.Ov), ocells (l ++ m) = ocells l ++ ocells m
  | [], _ => rfl
  | o :: l, m => by simp only [List.cons_append, ocells, ocells_app l m, List.append_assoc]

theorem ocells_one (o : Bm.Ov) : ocells [o] = ocell o := by simp [ocells]

theorem ocells_cell : ∀ (l : List Bm.Ov), ∀ u ∈ ocells l, u.oneCell' = true
  | [], u, h => by simp [ocells] at h
  | o :: r, u, h => by
    rcases List.mem_append.1 h with h | h
    · simp only [ocell, List.mem_cons, List.not_mem_nil, or_false] at h
      rcases h with rfl | rfl | rfl <;> rfl
    · exact ocells_cell r u h

theorem ocells_at : ∀ (l : List Bm.Ov) (i : Nat) (hi : i < l.length), (ocells l)[i * 3]? = some (.bool l[i].p) ∧ (ocells l)[i * 3 + 1]? = some (.string l[i].k) ∧ (ocells l)[i * 3 + 2]? = some (.string l[i].v)
  | [], _, hi => by simp at hi
  | o :: r, 0, hi => by simp [ocells, ocell]
  | o :: r, i + 1, hi => by
    have := ocells_at r i (by simpa using hi)
    simp only [ocells, ocell]
    rw [show (i + 1) * 3 = i * 3 + 3 by omega]
    simpa [List.getElem?_append] using this

/-- A slice value that reads as the ops l. -/
def IsO (w : World) (v : Value) (l : List Bm.Ov) : Prop :=
  (v = .slice none 0 0 ∧ l = []) ∨ ∃ ad cap, v = .slice (some ad) l.length cap ∧ l.length ≤ cap ∧ cap ≤ maxLen ∧ ∀ j u, (ocells l)[j]? = some u → w.cell? (ad.add j) = some u

/-- A slice value of the call's own that holds the ops l. -/
def OwnO (e : TypeId) (base : Nat) (w : World) (v : Value) (l : List Bm.Ov) : Prop := w.ownsRow base e 3 v l.length (ocells l)

/-- Their texts are not too long for a machine. -/
def FitO (l : List Bm.Ov) : Prop := ∀ o ∈ l, o.k.size ≤ 140737488351232 ∧ o.v.size ≤ 140737488351232

theorem IsO.nil (w : World) : IsO w (.slice none 0 0) [] := .inl ⟨rfl, rfl⟩
theorem OwnO.nil (e : TypeId) (base : Nat) (w : World) : OwnO e base w (.slice none 0 0) [] := World.ownsRow_nil _ _ _ _

theorem IsO.below {w w' : World} {v : Value} {l : List Bm.Ov} (h : IsO w v l) (hb : Below w.heap.size w w') : IsO w' v l := by
  rcases h with h | ⟨ad, cap, hv, h1, h2, hc⟩
  · exact .inl h
  · refine .inr ⟨ad, cap, hv, h1, h2, fun j u hj => ?_⟩
    have := hc j u hj
    rw [hb.cell (World.block_lt_of_cell? _ _ this)]
    exact this

theorem IsO.drewN {w : World} {v : Value} {l : List Bm.Ov} (h : IsO w v l) (n : Nat) : IsO (w.drewN n) v l := h.below (below_drewN (Below.refl _ _) n)

theorem IsO.shape {w : World} {v : Value} {l : List Bm.Ov} (h : IsO w v l) : ∃ ao cap, v = .slice ao l.length cap ∧ l.length ≤ cap ∧ cap ≤ maxLen := by
  rcases h with ⟨hv, e⟩ | ⟨ad, cap, hv, h1, h2, _⟩
  · subst e; exact ⟨none, 0, hv, by simp, by simp⟩
  · exact ⟨some ad, cap, hv, h1, h2⟩

theorem IsO.bare {w : World} {v : Value} (h : IsO w v []) : ∃ ao cap, v = .slice ao 0 cap := by
  obtain ⟨ao, cap, h, _⟩ := h.shape
  exact ⟨ao, cap, h⟩

theorem IsO.full {w : World} {v : Value} {l : List Bm.Ov} (h : IsO w v l) (hne : 0 < l.length) :
    ∃ b off cap, v = .slice (some ⟨b, off, none⟩) l.length cap ∧ l.length ≤ cap ∧ cap ≤ maxLen ∧ b < w.heap.size ∧
      ∀ i o, l[i]? = some o → w.cell? ⟨b, off + i * 3, none⟩ = some (.bool o.p) ∧ w.cell? ⟨b, off + i * 3 + 1, none⟩ = some (.string o.k) ∧ w.cell? ⟨b, off + i * 3 + 2, none⟩ = some (.string o.v) := by
  rcases h with ⟨_, h⟩ | ⟨⟨b, off, spot⟩, cap, hv, h1, h2, hc⟩
  · subst h; simp at hne
  · have h0 := hc 0 _ (ocells_at l 0 hne).1
    have hspot : spot = none := by simpa [Addr.add] using World.cell?_spot h0
    subst hspot
    refine ⟨b, off, cap, hv, h1, h2, World.block_lt_of_cell? _ _ h0, fun i o hio => ?_⟩
    obtain ⟨hi, rfl⟩ := List.getElem?_eq_some_iff.1 hio
    obtain ⟨g1, g2, g3⟩ := ocells_at l i hi
    have k1 := hc _ _ g1
    have k2 := hc _ _ g2
    have k3 := hc _ _ g3
    rw [add_at] at k1 k2 k3
    exact ⟨k1, by rw [Nat.add_assoc]; exact k2, by rw [Nat.add_assoc]; exact k3⟩

theorem OwnO.is {e base : Nat} {w : World} {v : Value} {l : List Bm.Ov} (h : OwnO e base w v l) : IsO w v l := by
  rcases h.2 with ⟨hv, hn⟩ | ⟨g, cap, cur, hv, h1, hh, hc, hm, hs, ht⟩
  · exact .inl ⟨hv, List.eq_nil_of_length_eq_zero hn⟩
  · refine .inr ⟨⟨g, 0, none⟩, cap, hv, hc, hm, fun j u hj => ?_⟩
    exact h.cells (by rw [hv]; rfl) j u hj

theorem OwnO.below {e base : Nat} {w w' : World} {v : Value} {l : List Bm.Ov} (h : OwnO e base w v l) (hb : Below w.heap.size w w') : OwnO e base w' v l := by
  refine ⟨h.1, ?_⟩
  rcases h.2 with h | ⟨g, cap, cur, hv, h1, hh, r⟩
  · exact .inl h
  · refine .inr ⟨g, cap, cur, hv, h1, ?_, r⟩
    rw [hb.block g (Array.getElem?_eq_some_iff.1 hh).1]
    exact hh

theorem OwnO.kept {e base : Nat} {w w' : World} {v : Value} {l : List Bm.Ov} {row : Option Nat} (h : OwnO e base w v l) (hg : w.grownBy w' row) (hne : v.ownBlock = none ∨ v.ownBlock ≠ row) : OwnO e base w' v l := World.ownsRow.kept h hg hne

theorem OwnO.rebase {e base base' : Nat} {w : World} {v : Value} {l : List Bm.Ov} (h : OwnO e base w v l) (hb : base' ≤ base) : OwnO e base' w v l := by
  refine ⟨h.1, ?_⟩
  rcases h.2 with h | ⟨g, cap, cur, hv, h1, r⟩
  · exact .inl h
  · exact .inr ⟨g, cap, cur, hv, by omega, r⟩

theorem OwnO.block {e base : Nat} {w : World} {v : Value} {l : List Bm.Ov} (h : OwnO e base w v l) : ∀ b, v.ownBlock = some b → base ≤ b ∧ b < w.heap.size := World.ownsRow.lt h

/-- Ops laid in a new block. -/
theorem ops_step (e : TypeId) (w : World) (cs : Array Value) (n : Nat) (l : List Bm.Ov) (hn : l.length = n) (h : cs.toList = ocells l) (hm : n ≤ maxLen) :
    ∃ W, w.alloc (.cells cs e) = W ∧ W.heap.size = w.heap.size + 1 ∧ Below w.heap.size w W ∧ OwnO e w.heap.size W (.slice (some ⟨w.heap.size, 0, none⟩) n n) l := by
  subst hn
  refine ⟨_, rfl, by simp, (Below.refl _ _).alloc (Nat.le_refl _) _, ?_⟩
  have ho := World.ownsRow_lit (base := w.heap.size) (e := e) (size := 3) w cs l.length (Nat.le_refl _) hm (by have := congrArg List.length h; rw [ocells_len] at this; simpa using this)
  rw [h] at ho
  exact ho

section
variable {P : Program} {w : World} {ops : Array Oper} {rest : List Oper} {o : Oper} {a : Act} {Q : Exit → Act → World → Prop}

/-- 'out = append(out, xs...)' of ops: out nil or the call's own. -/
theorem wpList_append_ops (hgd : o.guard = none) (s x : Operand) (t : TypeId)
    (ho : o.op = .call { callee := .builtin .append, args := #[s, x], argTypes := #[t, t] })
    (e : TypeId) (base : Nat) (ht : P.underlying t = some (.slice e)) (hinfo : (P.info? e).map (fun i => (i.zero, i.size, i.bytes)) = some (some (.agg #[.bool false, .string ⟨#[]⟩, .string ⟨#[]⟩]), 3, 40))
    (v : Value) (l : List Bm.Ov) (hs : a.eval s = v) (hown : OwnO e base w v l) (vx : Value) (m : List Bm.Ov) (hx : a.eval x = vx) (his : IsO w vx m)
    (hlen : (l.length + m.length) * 40 ≤ 140737488355328) (hbase : base ≤ w.heap.size)
    (h : ∀ v' w', OwnO e base w' v' (l ++ m) → Below base w w' → w.grownBy w' v.ownBlock → wpList P ops Q rest (a.put o.dst v') w') : wpList P ops Q (o :: rest) a w := by
  obtain ⟨i, hi, hz, hsize, hb⟩ := info_parts hinfo
  have hn : l.length + m.length ≤ 140737488355328 := by omega
  rcases his with ⟨hv, hy⟩ | ⟨ad, cap, hv, h1, h2, hc⟩
  · subst hy
    refine wpList_append_own_none hgd s x t ho base e i 3 ht hi v l.length _ hs hown (hx.trans hv) (h v w (by simpa using hown) (Below.refl _ _) (World.grownBy.refl _ _))
  · refine wpList_append_own w hgd s x t ho base e i _ 3 40 ht hi hz hsize hb rfl (by decide) v l.length _ hs hown ad m.length cap (ocells m) (hx.trans hv) (ocells_len m) hc (ocells_cell m) (by unfold maxLen; omega) hlen hbase ?_
    intro v' w' ho' hg _
    refine h v' w' (by unfold OwnO; rw [ocells_app, List.length_append]; exact ho') ((Below.refl _ _).grown hg hbase fun k' hk => ?_) hg
    exact (World.ownsRow.lt hown k' hk).1

end

theorem Tryz.info77 : (Tryz.prog.info? 77).map (fun i => (i.zero, i.size, i.bytes)) = some (some (.agg #[.bool false, .string ⟨#[]⟩, .string ⟨#[]⟩]), 3, 40) := by kernel_rfl

end Go.Proofs.YtdlogcdpapknaaaGreatDoor

/- The contracts of batch's Check, Shared. -/
namespace Go.Proofs.YtdlogcdpapknaaaGreatDoor
open Go.RowKit
set_option linter.unusedVariables false

theorem first_take {l : List Bm.Ov} {k : Nat} {o : Bm.Ov} (h : ∀ q ∈ l.take k, q.c = 0) (ho : l[k]? = some o) (hc : o.c = 0) : ∀ q ∈ l.take (k + 1), q.c = 0 := by
  obtain ⟨hk, rfl⟩ := List.getElem?_eq_some_iff.1 ho
  intro q hq
  rw [List.take_succ_eq_append_getElem hk] at hq
  rcases List.mem_append.1 hq with hq | hq
  · exact h q hq
  · rw [List.mem_singleton.1 hq]; exact hc

set_option maxHeartbeats 400000 in
theorem bcheck_any (vl : Value) (l : List Bm.Ov) (w : World) (h : IsO w vl l) (hf : FitO l) (hl : l.length ≤ 140737488355328) :
    Calls Tryz.prog 78 #[vl] w fun E w' => E = .returned (.int .i64 (Bm.chkL l)) ∧ Below w.heap.size w w' := by
  by_cases h0 : l.length = 0
  · have : l = [] := List.eq_nil_of_length_eq_zero h0
    subst this
    obtain ⟨ao, cap, rfl⟩ := h.bare
    clear h hf hl h0
    go_enter Tryz.func78, Tryz.ntmps78
    go_wp2
    go_ret
    exact ⟨rfl, Below.refl _ _⟩
  · by_cases h8 : 8 < l.length
    · obtain ⟨ao, cap, rfl, _, _⟩ := h.shape
      rw [Bm.chkL_long h8]
      clear h hf
      have e0 : ((l.length : Int) == 0) = false := by rw [beq_eq_false_iff_ne]; omega
      have e8 : (8 : Int) < l.length := by omega
      go_enter Tryz.func78, Tryz.ntmps78
      go_wp2
      go_ret
      exact ⟨rfl, Below.refl _ _⟩
    · obtain ⟨b1, o1, c1, rfl, _, _, hB, hcell⟩ := h.full (by omega)
      rw [Bm.chkL_mid h0 h8]
      have e0 : ((l.length : Int) == 0) = false := by rw [beq_eq_false_iff_ne]; omega
      have e8 : ¬ (8 : Int) < l.length := by omega
      clear h
      generalize hn : l.length = n at *
      have HN := hide hn
      have HC := hide hcell
      have HF := hide hf
      clear hn hcell hf
      go_enter Tryz.func78, Tryz.ntmps78
      go_wp2
      go_loopw [14] (fun i wr => ∃ (k : Nat), k ≤ n ∧ i = .int .i64 k ∧ Hid (∀ q ∈ l.take k, q.c = 0) ∧ Below w.heap.size w wr) (fun i _ => n - (intOf i).toNat)
      case atStart => exact ⟨0, by omega, rfl, hide (by simp), Below.refl _ _⟩
      case round =>
        obtain ⟨k, hk, rfl, HT, bel⟩ := hrel
        by_cases hlt : k < n
        · obtain ⟨o, ho⟩ : ∃ o, l[k]? = some o := ⟨l[k]'(by have := HN.out; omega), by rw [List.getElem?_eq_getElem]⟩
          obtain ⟨c0, c1, c2⟩ := HC.out k o ho
          have sz := bel.size
          have d0 := (bel.cell (p := ⟨b1, o1 + k * 3, none⟩) hB).trans c0
          have d1 := (bel.cell (p := ⟨b1, o1 + k * 3 + 1, none⟩) hB).trans c1
          have d2 := (bel.cell (p := ⟨b1, o1 + k * 3 + 2, none⟩) hB).trans c2
          have HO := hide ho
          clear c0 c1 c2 ho
          have hlt' : (k : Int) < n := by omega
          obtain ⟨hk1, hv1⟩ := HF.out o (List.mem_of_getElem? HO.out)
          go_wp2_with fail
          refine (check_any o.p o.k o.v _ hk1 hv1).mono ?_
          rintro E w1 ⟨rfl, bel1⟩
          have bel0 : Below wr.heap.size wr (wr.alloc (.cells #[.bool o.p, .string o.k, .string o.v] 77)) := (Below.refl _ _).alloc (Nat.le_refl _) _
          have bel2 : Below w.heap.size w w1 := (bel.trans (bel0.mono sz)).trans (bel1.mono (by simp; omega))
          clear bel0 bel1 d0 d1 d2
          rcases (show Om.chk o.p o.k.data.toList o.v.data.toList = 0 ∨ _ from Om.chk_two _ _ _) with hc | hc
          · rw [hc]
            have HT2 := hide (first_take HT.out HO.out hc)
            clear hc
            go_wp2
            go_roundw
            case rel => exact ⟨k + 1, by omega, by go_num, HT2, bel2⟩
            case measure => simp [intOf]; omega
          · rw [hc]
            have HB := hide (Bm.first_bad (List.mem_of_getElem? HO.out) (show Bm.Ov.c o ≠ 0 by unfold Bm.Ov.c Bm.Ov.kl Bm.Ov.vl; rw [hc]; simp))
            clear hc
            go_wp2
            go_ret
            exact ⟨ret_i64 HB.out.symm, bel2⟩
        · have hkn : k = n := by omega
          have HB : Hid (Bm.first l = 0) := hide (Bm.first_all (fun q hq => HT.out q (by rw [List.take_of_length_le (by have := HN.out; omega)]; exact hq)))
          have hlt' : ¬ (k : Int) < n := by omega
          go_wp2
          go_ret
          exact ⟨ret_i64 HB.out.symm, bel⟩

end Go.Proofs.YtdlogcdpapknaaaGreatDoor
