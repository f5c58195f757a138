/- Texts of one layer, one behind the other. -/
import Derived.Test.YtajlhdmnincehaaGreatDoorH2
import Derived.Test.YtajlhdmnincehaaGreatDoorG1
import Derived.Test.YtajlhdmnincehaaGreatDoorH1
import Derived.Lib.SliceRun
import Derived.Shelf.Abstract
import Derived.Laws.StructEq
import Derived.Test.YtajlhdmnincehaaGreatDoorH4
import Derived.Deep.RegionHeld3
/- Rows of ops in memory: what a slice of ops reads as ('IsO'), one of the call's own ('OwnO'), an append between the two. -/
namespace Go.Proofs.YtajlhdmnincehaaGreatDoor
open Go.RowKit
set_option linter.unusedVariables false

/-- An op's cells. -/
def ocell (o : Bm.Ov) : List Value := [.bool o.p, .string o.k, .string o.v]
def ocells : List Bm.Ov → List Value
  | [] => []
  | o :: r => ocell o ++ ocells r

theorem ocells_len : ∀ (l : List Bm.Ov), (ocells l).length = l.length * 3
  | [] => rfl
  | o :: r => by
    have := ocells_len r
    simp only [ocells, ocell, List.length_append, List.length_cons, List.length_nil]
    omega

theorem ocells_app : ∀ (l m : List Bm.Ov), ocells (l ++ m) = ocells l ++ ocells m
  | [], _ => rfl
  | o :: l, m => by simp only [List.cons_append, ocells, ocells_app l m, List.append_assoc]


theorem ocells_cell : ∀ (l : List Bm.Ov), ∀ u ∈ ocells l, u.oneCell' = true
  | [], u, h => by simp [ocells] at h
  | o :: r, u, h => by
    rcases List.mem_append.1 h with h | h
    · simp only [ocell, List.mem_cons, List.not_mem_nil, or_false] at h
      rcases h with rfl | rfl | rfl <;> rfl
    · exact ocells_cell r u h

theorem ocells_at : ∀ (l : List Bm.Ov) (i : Nat) (hi : i < l.length), (ocells l)[i * 3]? = some (.bool l[i].p) ∧ (ocells l)[i * 3 + 1]? = some (.string l[i].k) ∧ (ocells l)[i * 3 + 2]? = some (.string l[i].v)
  | [], _, hi => by simp at hi
  | o :: r, 0, hi => by simp [ocells, ocell]
  | o :: r, i + 1, hi => by
    have := ocells_at r i (by simpa using hi)
    simp only [ocells, ocell]
    rw [show (i + 1) * 3 = i * 3 + 3 by omega]
    simpa [List.getElem?_append] using this

/-- A slice value that reads as the ops l. -/
def IsO (w : World) (v : Value) (l : List Bm.Ov) : Prop :=
  (v = .slice none 0 0 ∧ l = []) ∨ ∃ ad cap, v = .slice (some ad) l.length cap ∧ l.length ≤ cap ∧ cap ≤ maxLen ∧ ∀ j u, (ocells l)[j]? = some u → w.cell? (ad.add j) = some u

/-- A slice value of the call's own that holds the ops l. -/
def OwnO (e : TypeId) (base : Nat) (w : World) (v : Value) (l : List Bm.Ov) : Prop := w.ownsRow base e 3 v l.length (ocells l)

/-- Their texts are not too long for a machine. -/
def FitO (l : List Bm.Ov) : Prop := ∀ o ∈ l, o.k.size ≤ 140737488351232 ∧ o.v.size ≤ 140737488351232

theorem IsO.nil (w : World) : IsO w (.slice none 0 0) [] := .inl ⟨rfl, rfl⟩
theorem OwnO.nil (e : TypeId) (base : Nat) (w : World) : OwnO e base w (.slice none 0 0) [] := World.ownsRow_nil _ _ _ _

theorem IsO.below {w w' : World} {v : Value} {l : List Bm.Ov} (h : IsO w v l) (hb : Below w.heap.size w w') : IsO w' v l := by
  rcases h with h | ⟨ad, cap, hv, h1, h2, hc⟩
  · exact .inl h
  · refine .inr ⟨ad, cap, hv, h1, h2, fun j u hj => ?_⟩
    have := hc j u hj
    rw [hb.cell (World.block_lt_of_cell? _ _ this)]
    exact this

theorem IsO.drewN {w : World} {v : Value} {l : List Bm.Ov} (h : IsO w v l) (n : Nat) : IsO (w.drewN n) v l := h.below (below_drewN (Below.refl _ _) n)

theorem IsO.shape {w : World} {v : Value} {l : List Bm.Ov} (h : IsO w v l) : ∃ ao cap, v = .slice ao l.length cap ∧ l.length ≤ cap ∧ cap ≤ maxLen := by
  rcases h with ⟨hv, e⟩ | ⟨ad, cap, hv, h1, h2, _⟩
  · subst e; exact ⟨none, 0, hv, by simp, by simp⟩
  · exact ⟨some ad, cap, hv, h1, h2⟩

theorem IsO.bare {w : World} {v : Value} (h : IsO w v []) : ∃ ao cap, v = .slice ao 0 cap := by
  obtain ⟨ao, cap, h, _⟩ := h.shape
  exact ⟨ao, cap, h⟩

theorem IsO.full {w : World} {v : Value} {l : List Bm.Ov} (h : IsO w v l) (hne : 0 < l.length) :
    ∃ b off cap, v = .slice (some ⟨b, off, none⟩) l.length cap ∧ l.length ≤ cap ∧ cap ≤ maxLen ∧ b < w.heap.size ∧
      ∀ i o, l[i]? = some o → w.cell? ⟨b, off + i * 3, none⟩ = some (.bool o.p) ∧ w.cell? ⟨b, off + i * 3 + 1, none⟩ = some (.string o.k) ∧ w.cell? ⟨b, off + i * 3 + 2, none⟩ = some (.string o.v) := by
  rcases h with ⟨_, h⟩ | ⟨⟨b, off, spot⟩, cap, hv, h1, h2, hc⟩
  · subst h; simp at hne
  · have h0 := hc 0 _ (ocells_at l 0 hne).1
    have hspot : spot = none := by simpa [Addr.add] using World.cell?_spot h0
    subst hspot
    refine ⟨b, off, cap, hv, h1, h2, World.block_lt_of_cell? _ _ h0, fun i o hio => ?_⟩
    obtain ⟨hi, rfl⟩ := List.getElem?_eq_some_iff.1 hio
    obtain ⟨g1, g2, g3⟩ := ocells_at l i hi
    have k1 := hc _ _ g1
    have k2 := hc _ _ g2
    have k3 := hc _ _ g3
    rw [add_at] at k1 k2 k3
    exact ⟨k1, by rw [Nat.add_assoc]; exact k2, by rw [Nat.add_assoc]; exact k3⟩

theorem OwnO.is {e base : Nat} {w : World} {v : Value} {l : List Bm.Ov} (h : OwnO e base w v l) : IsO w v l := by
  rcases h.2 with ⟨hv, hn⟩ | ⟨g, cap, cur, hv, h1, hh, hc, hm, hs, ht⟩
  · exact .inl ⟨hv, List.eq_nil_of_length_eq_zero hn⟩
  · refine .inr ⟨⟨g, 0, none⟩, cap, hv, hc, hm, fun j u hj => ?_⟩
    exact h.cells (by rw [hv]; rfl) j u hj

theorem OwnO.below {e base : Nat} {w w' : World} {v : Value} {l : List Bm.Ov} (h : OwnO e base w v l) (hb : Below w.heap.size w w') : OwnO e base w' v l := by
  refine ⟨h.1, ?_⟩
  rcases h.2 with h | ⟨g, cap, cur, hv, h1, hh, r⟩
  · exact .inl h
  · refine .inr ⟨g, cap, cur, hv, h1, ?_, r⟩
    rw [hb.block g (Array.getElem?_eq_some_iff.1 hh).1]
    exact hh

theorem OwnO.kept {e base : Nat} {w w' : World} {v : Value} {l : List Bm.Ov} {row : Option Nat} (h : OwnO e base w v l) (hg : w.grownBy w' row) (hne : v.ownBlock = none ∨ v.ownBlock ≠ row) : OwnO e base w' v l := World.ownsRow.kept h hg hne

theorem OwnO.rebase {e base base' : Nat} {w : World} {v : Value} {l : List Bm.Ov} (h : OwnO e base w v l) (hb : base' ≤ base) : OwnO e base' w v l := by
  refine ⟨h.1, ?_⟩
  rcases h.2 with h | ⟨g, cap, cur, hv, h1, r⟩
  · exact .inl h
  · exact .inr ⟨g, cap, cur, hv, by omega, r⟩

theorem OwnO.block {e base : Nat} {w : World} {v : Value} {l : List Bm.Ov} (h : OwnO e base w v l) : ∀ b, v.ownBlock = some b → base ≤ b ∧ b < w.heap.size := World.ownsRow.lt h

/-- Ops laid in a new block. -/
theorem ops_step (e : TypeId) (w : World) (cs : Array Value) (n : Nat) (l : List Bm.Ov) (hn : l.length = n) (h : cs.toList = ocells l) (hm : n ≤ maxLen) :
    ∃ W, w.alloc (.cells cs e) = W ∧ W.heap.size = w.heap.size + 1 ∧ Below w.heap.size w W ∧ OwnO e w.heap.size W (.slice (some ⟨w.heap.size, 0, none⟩) n n) l := by
  subst hn
  refine ⟨_, rfl, by simp, (Below.refl _ _).alloc (Nat.le_refl _) _, ?_⟩
  have ho := World.ownsRow_lit (base := w.heap.size) (e := e) (size := 3) w cs l.length (Nat.le_refl _) hm (by have := congrArg List.length h; rw [ocells_len] at this; simpa using this)
  rw [h] at ho
  exact ho

section
variable {P : Program} {w : World} {ops : Array Oper} {rest : List Oper} {o : Oper} {a : Act} {Q : Exit → Act → World → Prop}

/-- 'out = append(out, xs...)' of ops: out nil or the call's own. -/
theorem wpList_append_ops (hgd : o.guard = none) (s x : Operand) (t : TypeId)
    (ho : o.op = .call { callee := .builtin .append, args := #[s, x], argTypes := #[t, t] })
    (e : TypeId) (base : Nat) (ht : P.underlying t = some (.slice e)) (hinfo : (P.info? e).map (fun i => (i.zero, i.size, i.bytes)) = some (some (.agg #[.bool false, .string ⟨#[]⟩, .string ⟨#[]⟩]), 3, 40))
    (v : Value) (l : List Bm.Ov) (hs : a.eval s = v) (hown : OwnO e base w v l) (vx : Value) (m : List Bm.Ov) (hx : a.eval x = vx) (his : IsO w vx m)
    (hlen : (l.length + m.length) * 40 ≤ 140737488355328) (hbase : base ≤ w.heap.size)
    (h : ∀ v' w', OwnO e base w' v' (l ++ m) → Below base w w' → w.grownBy w' v.ownBlock → wpList P ops Q rest (a.put o.dst v') w') : wpList P ops Q (o :: rest) a w := by
  obtain ⟨i, hi, hz, hsize, hb⟩ := info_parts hinfo
  have hn : l.length + m.length ≤ 140737488355328 := by omega
  rcases his with ⟨hv, hy⟩ | ⟨ad, cap, hv, h1, h2, hc⟩
  · subst hy
    refine wpList_append_own_none hgd s x t ho base e i 3 ht hi v l.length _ hs hown (hx.trans hv) (h v w (by simpa using hown) (Below.refl _ _) (World.grownBy.refl _ _))
  · refine wpList_append_own w hgd s x t ho base e i _ 3 40 ht hi hz hsize hb rfl (by decide) v l.length _ hs hown ad m.length cap (ocells m) (hx.trans hv) (ocells_len m) hc (ocells_cell m) (by unfold maxLen; omega) hlen hbase ?_
    intro v' w' ho' hg _
    refine h v' w' (by unfold OwnO; rw [ocells_app, List.length_append]; exact ho') ((Below.refl _ _).grown hg hbase fun k' hk => ?_) hg
    exact (World.ownsRow.lt hown k' hk).1

end

theorem Tryz.info88 : (Tryz.prog.info? 88).map (fun i => (i.zero, i.size, i.bytes)) = some (some (.agg #[.bool false, .string ⟨#[]⟩, .string ⟨#[]⟩]), 3, 40) := by kernel_rfl

end Go.Proofs.YtajlhdmnincehaaGreatDoor

/- The contracts of batch's Check, Shared. -/
namespace Go.Proofs.YtajlhdmnincehaaGreatDoor
open Go.RowKit
set_option linter.unusedVariables false

theorem first_take {l : List Bm.Ov} {k : Nat} {o : Bm.Ov} (h : ∀ q ∈ l.take k, q.c = 0) (ho : l[k]? = some o) (hc : o.c = 0) : ∀ q ∈ l.take (k + 1), q.c = 0 := by
  obtain ⟨hk, rfl⟩ := List.getElem?_eq_some_iff.1 ho
  intro q hq
  rw [List.take_succ_eq_append_getElem hk] at hq
  rcases List.mem_append.1 hq with hq | hq
  · exact h q hq
  · rw [List.mem_singleton.1 hq]; exact hc

set_option maxHeartbeats 400000 in
theorem bcheck_any (vl : Value) (l : List Bm.Ov) (w : World) (h : IsO w vl l) (hf : FitO l) (hl : l.length ≤ 140737488355328) :
    Calls Tryz.prog 50 #[vl] w fun E w' => E = .returned (.int .i64 (Bm.chkL l)) ∧ Below w.heap.size w w' := by
  by_cases h0 : l.length = 0
  · have : l = [] := List.eq_nil_of_length_eq_zero h0
    subst this
    obtain ⟨ao, cap, rfl⟩ := h.bare
    clear h hf hl h0
    go_enter Tryz.func50, Tryz.ntmps50
    go_wp2
    go_ret
    exact ⟨rfl, Below.refl _ _⟩
  · by_cases h8 : 8 < l.length
    · obtain ⟨ao, cap, rfl, _, _⟩ := h.shape
      rw [Bm.chkL_long h8]
      clear h hf
      have e0 : ((l.length : Int) == 0) = false := by rw [beq_eq_false_iff_ne]; omega
      have e8 : (8 : Int) < l.length := by omega
      go_enter Tryz.func50, Tryz.ntmps50
      go_wp2
      go_ret
      exact ⟨rfl, Below.refl _ _⟩
    · obtain ⟨b1, o1, c1, rfl, _, _, hB, hcell⟩ := h.full (by omega)
      rw [Bm.chkL_mid h0 h8]
      have e0 : ((l.length : Int) == 0) = false := by rw [beq_eq_false_iff_ne]; omega
      have e8 : ¬ (8 : Int) < l.length := by omega
      clear h
      generalize hn : l.length = n at *
      have HN := hide hn
      have HC := hide hcell
      have HF := hide hf
      clear hn hcell hf
      go_enter Tryz.func50, Tryz.ntmps50
      go_wp2
      go_loopw [14] (fun i wr => ∃ (k : Nat), k ≤ n ∧ i = .int .i64 k ∧ Hid (∀ q ∈ l.take k, q.c = 0) ∧ Below w.heap.size w wr) (fun i _ => n - (intOf i).toNat)
      case atStart => exact ⟨0, by omega, rfl, hide (by simp), Below.refl _ _⟩
      case round =>
        obtain ⟨k, hk, rfl, HT, bel⟩ := hrel
        by_cases hlt : k < n
        · obtain ⟨o, ho⟩ : ∃ o, l[k]? = some o := ⟨l[k]'(by have := HN.out; omega), by rw [List.getElem?_eq_getElem]⟩
          obtain ⟨c0, c1, c2⟩ := HC.out k o ho
          have sz := bel.size
          have d0 := (bel.cell (p := ⟨b1, o1 + k * 3, none⟩) hB).trans c0
          have d1 := (bel.cell (p := ⟨b1, o1 + k * 3 + 1, none⟩) hB).trans c1
          have d2 := (bel.cell (p := ⟨b1, o1 + k * 3 + 2, none⟩) hB).trans c2
          have HO := hide ho
          clear c0 c1 c2 ho
          have hlt' : (k : Int) < n := by omega
          obtain ⟨hk1, hv1⟩ := HF.out o (List.mem_of_getElem? HO.out)
          go_wp2_with fail
          refine (check_any o.p o.k o.v _ hk1 hv1).mono ?_
          rintro E w1 ⟨rfl, bel1⟩
          have bel0 : Below wr.heap.size wr (wr.alloc (.cells #[.bool o.p, .string o.k, .string o.v] 88)) := (Below.refl _ _).alloc (Nat.le_refl _) _
          have bel2 : Below w.heap.size w w1 := (bel.trans (bel0.mono sz)).trans (bel1.mono (by simp; omega))
          clear bel0 bel1 d0 d1 d2
          rcases (show Om.chk o.p o.k.data.toList o.v.data.toList = 0 ∨ _ from Om.chk_two _ _ _) with hc | hc
          · rw [hc]
            have HT2 := hide (first_take HT.out HO.out hc)
            clear hc
            go_wp2
            go_roundw
            case rel => exact ⟨k + 1, by omega, by go_num, HT2, bel2⟩
            case measure => simp [intOf]; omega
          · rw [hc]
            have HB := hide (Bm.first_bad (List.mem_of_getElem? HO.out) (show Bm.Ov.c o ≠ 0 by unfold Bm.Ov.c Bm.Ov.kl Bm.Ov.vl; rw [hc]; simp))
            clear hc
            go_wp2
            go_ret
            exact ⟨ret_i64 HB.out.symm, bel2⟩
        · have hkn : k = n := by omega
          have HB : Hid (Bm.first l = 0) := hide (Bm.first_all (fun q hq => HT.out q (by rw [List.take_of_length_le (by have := HN.out; omega)]; exact hq)))
          have hlt' : ¬ (k : Int) < n := by omega
          go_wp2
          go_ret
          exact ⟨ret_i64 HB.out.symm, bel⟩

set_option maxHeartbeats 400000 in
theorem shared_quiet (a b : ByteArray) (w : World) (ha : a.size ≤ 140737488355328) (hb : b.size ≤ 140737488355328) :
    Calls Tryz.prog 325 #[.string a, .string b] w fun E w' => E = .returned (.int .i64 (Bm.com a.data.toList b.data.toList)) ∧ ∃ m, w' = w.drewN m := by
  have la : a.data.toList.length = a.size := (Lib.size_eq a).symm
  have lb : b.data.toList.length = b.size := (Lib.size_eq b).symm
  go_enter Tryz.func325, Tryz.ntmps325
  go_wp2
  all_goals
    go_loopw [13] (fun i wr => ∃ (k : Nat), k ≤ a.size ∧ k ≤ b.size ∧ i = .int .i64 k ∧ Hid (a.data.toList.take k = b.data.toList.take k) ∧ ∃ m, wr = w.drewN m) (fun i _ => a.size + b.size - (intOf i).toNat)
    case atStart => exact ⟨0, by omega, by omega, rfl, hide rfl, 0, rfl⟩
    case round =>
      obtain ⟨k, hka, hkb, rfl, HT, m, rfl⟩ := hrel
      by_cases hA : k < a.size
      · by_cases hB : k < b.size
        · have hA' : (k : Int) < a.size := by omega
          have hB' : (k : Int) < b.size := by omega
          obtain ⟨c, hc⟩ : ∃ c : UInt8, a[k] = c := ⟨_, rfl⟩
          obtain ⟨d, hd⟩ : ∃ c : UInt8, b[k] = c := ⟨_, rfl⟩
          have ea : a.data.toList[k]? = some c := by rw [List.getElem?_eq_getElem (by omega), ← hc]; rfl
          have eb : b.data.toList[k]? = some d := by rw [List.getElem?_eq_getElem (by omega), ← hd]; rfl
          have EA := hide ea
          have EB := hide eb
          clear ea eb
          by_cases hcd : c = d
          · have ht : ((c.toNat : Int) != (d.toNat : Int)) = false := by simp [hcd]
            have HK : Hid (a.data.toList.take (k + 1) = b.data.toList.take (k + 1)) := hide (by
              have h1 := EA.out
              have h2 := EB.out
              rw [List.take_add_one, List.take_add_one, HT.out, h1, h2, hcd])
            clear hcd
            go_wp2
            go_quiet (fail)
            go_wp2
            go_roundw
            case rel => exact ⟨k + 1, by omega, by omega, by go_num, HK, _, rfl⟩
            case measure => simp [intOf]; omega
          · have ht : ((c.toNat : Int) != (d.toNat : Int)) = true := by
              have : c.toNat ≠ d.toNat := fun h => hcd (UInt8.toNat_inj.1 h)
              simp; omega
            have HK : Hid (Bm.com a.data.toList b.data.toList = k) := hide (Bm.com_is _ _ k (by omega) (by omega) HT.out (.inr (.inr (by rw [EA.out, EB.out]; simpa using hcd))))
            clear hcd
            go_wp2
            go_quiet (fail)
            go_wp2
            go_ret
            exact ⟨ret_i64 (by rw [HK.out]), _, World.drewN_drewN _ _ _⟩
        · have hB' : ¬ (k : Int) < b.size := by omega
          have HK : Hid (Bm.com a.data.toList b.data.toList = k) := hide (Bm.com_is _ _ k (by omega) (by omega) HT.out (.inr (.inl (by omega))))
          have hkk : k = b.size := by omega
          have h' : ¬ a.size ≤ k := by omega
          try (exfalso; omega)
          try (
            go_wp2
            go_ret
            exact ⟨ret_i64 (by rw [HK.out]; omega), m, rfl⟩)
      · have hA' : ¬ (k : Int) < a.size := by omega
        have HK : Hid (Bm.com a.data.toList b.data.toList = k) := hide (Bm.com_is _ _ k (by omega) (by omega) HT.out (.inl (by omega)))
        have hkk : k = a.size := by omega
        have hB' : b.size < a.size ∨ ¬ b.size < a.size := by omega
        try (exfalso; omega)
        try (
          go_wp2
          go_ret
          exact ⟨ret_i64 (by rw [HK.out]; omega), m, rfl⟩)

theorem shared_any (a b : ByteArray) (w : World) (ha : a.size ≤ 140737488355328) (hb : b.size ≤ 140737488355328) :
    Calls Tryz.prog 325 #[.string a, .string b] w fun E w' => E = .returned (.int .i64 (Bm.com a.data.toList b.data.toList)) ∧ Below w.heap.size w w' :=
  (shared_quiet a b w ha hb).mono (by rintro E w' ⟨rfl, m, rfl⟩; exact ⟨rfl, below_drewN (Below.refl _ _) m⟩)

end Go.Proofs.YtajlhdmnincehaaGreatDoor

/- The contracts of slices.Clone and of batch's appendNumber, appendKey, appendOp, Append. -/
namespace Go.Proofs.YtajlhdmnincehaaGreatDoor
open Go.RowKit
set_option linter.unusedVariables false
set_option maxRecDepth 100000

/-- Blocks of another type than e are as they were. -/
def KeepT (e : TypeId) (w w' : World) : Prop := ∀ (g : Nat) (cs : Array Value) (t : TypeId) (fr : Nat × Nat), w.heap[g]? = some (.cells cs t fr) → t ≠ e → w'.heap[g]? = some (.cells cs t fr)

theorem KeepT.refl (e : TypeId) (w : World) : KeepT e w w := fun _ _ _ _ h _ => h
theorem KeepT.trans {e : TypeId} {w w1 w2 : World} (h : KeepT e w w1) (k : KeepT e w1 w2) : KeepT e w w2 := fun g cs t fr hg ht => k g cs t fr (h g cs t fr hg ht) ht
theorem KeepT.of_below {e : TypeId} {w w' : World} (h : Below w.heap.size w w') : KeepT e w w' := fun g cs t fr hg _ => (h.block g (blk_lt hg)).trans hg

theorem Own.block_type {k : IntKind} {e : TypeId} {base : Nat} {w : World} {v : Value} {zs : List Int} (h : Own k e base w v zs) {g : Nat} (hg : v.ownBlock = some g) : ∃ cs, w.heap[g]? = some (.cells cs e (0, 0)) := by
  rcases h.2.2 with ⟨rfl, _⟩ | ⟨g', cap, cur, rfl, _, hh, _⟩
  · simp [Value.ownBlock] at hg
  · simp [Value.ownBlock] at hg
    subst hg
    exact ⟨_, hh⟩

theorem KeepT.of_grown {k : IntKind} {e : TypeId} {base : Nat} {w w' : World} {v : Value} {zs : List Int} (h : Own k e base w v zs) (hg : w.grownBy w' v.ownBlock) : KeepT e w w' := by
  intro g cs t fr hc ht
  refine (hg.block g (blk_lt hc) fun e1 => ?_).trans hc
  obtain ⟨cs', h'⟩ := h.block_type e1.symm
  rw [h'] at hc
  simp at hc
  exact ht hc.2.1.symm

section
variable {P : Program} {w : World} {ops : Array Oper} {rest : List Oper} {o : Oper} {a : Act} {Q : Exit → Act → World → Prop}

/-- 'out = append(out, s...)', s a string; what else there is stays. -/
theorem wpList_append_str2 (hgd : o.guard = none) (sl x : Operand) (t u : TypeId)
    (ho : o.op = .call { callee := .builtin .append, args := #[sl, x], argTypes := #[t, u] })
    (e : TypeId) (base : Nat) (ht : P.underlying t = some (.slice e)) (hu : P.underlying u = some .string) (hinfo : (P.info? e).map (fun i => (i.zero, i.size, i.bytes)) = some (some (.int .u8 0), 1, 1))
    (v : Value) (zs : List Int) (hs : a.eval sl = v) (hown : Own .u8 e base w v zs) (s : ByteArray) (hx : a.eval x = .string s)
    (hlen : zs.length + s.size ≤ 140737488355328) (hbase : base ≤ w.heap.size)
    (h : ∀ v' w', Own .u8 e base w' v' (zs ++ Om.ints s.data.toList) → Below base w w' → KeepT e w w' → wpList P ops Q rest (a.put o.dst v') w') : wpList P ops Q (o :: rest) a w := by
  obtain ⟨i, hi, hz, hsize, hb⟩ := info_parts hinfo
  refine Lib.wpList_append_own_string w hgd sl x t u ho base e i ht hu hi hz hsize hb v zs.length _ hs hown.2 s hx (by unfold maxLen; omega) hlen hbase fun v' w' h1 h2 _ => ?_
  refine h v' w' ⟨?_, ?_⟩ ((Below.refl _ _).grown h2 hbase fun k' hk => (hown.2.lt k' hk).1) (KeepT.of_grown hown h2)
  · intro z hz
    rcases List.mem_append.1 hz with hz | hz
    · exact hown.1 z hz
    · unfold Om.ints at hz
      obtain ⟨c, _, rfl⟩ := List.mem_map.1 hz
      have := c.toNat_lt
      exact wf_u8 (by omega) (by omega)
  · have e1 : zs.length + s.size = (zs ++ Om.ints s.data.toList).length := by rw [List.length_append, Om.ints_len, Lib.size_eq]
    rw [e1] at h1
    simpa [Lib.strCells_eq, Lib.byteCells, Om.ints, List.map_append, Function.comp_def] using h1

end

set_option maxHeartbeats 400000 in
theorem clone_any (vb : Value) (bs : List Int) (w : World) (hb : Is .u8 w vb bs) (hl : bs.length ≤ 140737488355328) :
    Calls Tryz.prog 309 #[vb] w fun e w' => ∃ v, e = .returned v ∧ Own .u8 5 w.heap.size w' v bs ∧ Below w.heap.size w w' := by
  have q : ∀ (w : World) (a : Option Addr) (n c n' c' : Nat), (binOp .eql 28 (.slice a n c) (.slice none n' c')).run Tryz.prog w = .ok (.bool a.isNone) w := fun w a n c n' c' => Lib.run_eql_slice_nil w _ _ a n c n' c' Tryz.underlying28
  by_cases hn : vb = .slice none 0 0
  · subst hn
    have : bs = [] := by
      rcases hb.2 with ⟨_, h⟩ | ⟨ad, cap, h, _⟩
      · exact h
      · simp at h
    subst this
    clear hb hl
    go_enter Tryz.func309, Tryz.ntmps309
    go_wp2
    go_ret
    exact ⟨_, rfl, Own.nil _ _ _ _, Below.refl _ _⟩
  · obtain ⟨ad, cap, rfl⟩ : ∃ ad cap, vb = .slice (some ad) bs.length cap := by
      rcases hb.2 with ⟨h, _⟩ | ⟨ad, cap, h, _⟩
      · exact absurd h hn
      · exact ⟨ad, cap, h⟩
    clear hn
    obtain ⟨w1, hw1, sz1, bel1, own1⟩ := own_step .u8 5 w #[] 0 [] rfl rfl (by simp [maxLen]) (by simp)
    have hb1 := hb.below bel1
    go_enter Tryz.func309, Tryz.ntmps309
    go_wp2_with (at_builtin; refine wpList_append_is rfl (.tmp 5) (.tmp 6) 28 rfl .u8 5 w.heap.size 1 Tryz.underlying28 Tryz.info5 (by decide) _ [] rfl own1 _ bs rfl hb1 (by simp; omega) (by omega) ?_)
    intro v2 w2 own2 bel2 _
    go_wp2
    go_ret
    exact ⟨_, rfl, own2, bel1.trans bel2⟩

set_option maxHeartbeats 400000 in
theorem appn_any (base : Nat) (v : Value) (zs : List Int) (x : Nat) (w : World) (hv : Own .u8 5 base w v zs) (hb : base ≤ w.heap.size) (hl : zs.length ≤ 140737488355000) (hx : x < 128) :
    Calls Tryz.prog 310 #[v, .int .i64 x] w fun E w' => ∃ v', E = .returned v' ∧ Own .u8 5 base w' v' (zs ++ Vm.enc x) ∧ Below base w w' ∧ KeepT 5 w w' := by
  have hz1 : (Vm.enc x).length = 1 := Vm.sz_lo hx
  go_enter Tryz.func310, Tryz.ntmps310
  go_wp2_with fail
  refine (app_any _ [] x _ (Is.nil _ _) (by simp) (by omega) (by omega)).mono ?_
  rintro E w1 ⟨v1, rfl, own1, bel1⟩
  rw [Int.toNat_natCast, List.nil_append] at own1
  have hb1 := bel1.size
  have hv1 := hv.below bel1
  have is1 := own1.is
  go_wp2_with (at_builtin; refine wpList_append_is rfl (.tmp 5) (.tmp 8) 28 rfl .u8 5 base 1 Tryz.underlying28 Tryz.info5 (by decide) _ zs rfl hv1 _ (Vm.enc x) rfl is1 (by omega) (by omega) ?_)
  intro v2 w2 own2 bel2 gr2
  go_wp2
  go_ret
  exact ⟨_, rfl, own2, (bel1.mono hb).trans bel2, (KeepT.of_below bel1).trans (KeepT.of_grown hv1 gr2)⟩

theorem drop_take_len (k : ByteArray) (n : Nat) : List.take (k.size - n) (List.drop n k.data.toList) = List.drop n k.data.toList := by
  rw [List.take_of_length_le]
  rw [List.length_drop, ← Lib.size_eq]
  exact Nat.le_refl _

set_option maxHeartbeats 400000 in
theorem appk_any (base : Nat) (v : Value) (zs : List Int) (k : ByteArray) (n : Nat) (w : World) (hv : Own .u8 5 base w v zs) (hb : base ≤ w.heap.size) (hl : zs.length ≤ 140737488354000) (hk : k.size ≤ 64) (hn : n ≤ k.size) :
    Calls Tryz.prog 326 #[v, .string k, .int .i64 n] w fun E w' => ∃ v', E = .returned v' ∧ Own .u8 5 base w' v' (zs ++ (Vm.enc n ++ (Vm.enc (k.size - n) ++ Om.ints (k.data.toList.drop n)))) ∧ Below base w w' ∧ KeepT 5 w w' := by
  have hz1 : (Vm.enc n).length = 1 := Vm.sz_lo (by omega)
  have hz2 : (Vm.enc (k.size - n)).length = 1 := Vm.sz_lo (by omega)
  have hsub : (k.size : Int) - n = ((k.size - n : Nat) : Int) := by omega
  have hdt := drop_take_len k n
  go_enter Tryz.func326, Tryz.ntmps326
  go_wp2_with fail
  refine (appn_any base v zs n _ hv hb (by omega) (by omega)).mono ?_
  rintro E w1 ⟨v1, rfl, own1, bel1, kp1⟩
  have hb1 := bel1.size
  go_wp2_with fail
  refine (appn_any base v1 _ (k.size - n) _ own1 (by omega) (by simp; omega) (by omega)).mono ?_
  rintro E w2 ⟨v2, rfl, own2, bel2, kp2⟩
  have hb2 := bel2.size
  have hl2 : (zs ++ Vm.enc n ++ Vm.enc (k.size - n)).length ≤ 140737488354100 := by rw [List.length_append, List.length_append]; omega
  go_wp2_with (at_builtin; refine wpList_append_str2 rfl (.tmp 16) (.tmp 19) 28 9 rfl 5 base Tryz.underlying28 Tryz.underlying9 Tryz.info5 _ _ rfl own2 _ rfl ?q1 (by omega) ?_)
  case q1 => simp; simp at hl2; omega
  intro v3 w3 own3 bel3 kp3
  go_wp2
  go_ret
  exact ⟨_, rfl, own3, (bel1.trans bel2).trans bel3, (kp1.trans kp2).trans kp3⟩

theorem Tryz.enters326 : ∀ args w, (callFunc 326 args).run Tryz.prog w = .ok (.enter 326 args) w := enters_of Tryz.func326 (by kernel_rfl) rfl

/-- A call of a Go function inside a region that draws its order. -/
theorem call_step {P : Program} {ops : Array Oper} {o : Oper} {a : Act} {w : World} {K : Act → World → Prop} {Q : Exit → Act → World → Prop} {E : Prop} (hgd : o.guard = none) (f : FuncId) (args : Array Operand) (ts : Array TypeId)
    (ho : o.op = .call { callee := .value (.func f), args := args, argTypes := ts }) (hent : ∀ args w, (callFunc f args).run P w = .ok (.enter f args) w) (vs : Array Value) (hvs : args.map a.eval = vs)
    {R : Value → World → Prop} (hc : Calls P f vs w fun e w' => ∃ v, e = .returned v ∧ R v w') (h : ∀ v w', R v w' → K (a.put o.dst v) w') :
    if Region.wanted o (yielded ops a.tmps) = true then Oper.wp P o a w K Q else E := by
  have hw : Region.wanted o (yielded ops a.tmps) = true := by simp [Region.wanted, hgd]
  rw [if_pos hw]
  unfold Oper.wp
  simp only [execOp, ho, resolve, invoke, Sem.run_bind, hvs]
  simp only [Act.eval, Deferred.ofValue, Sem.run_pure, Result.andThen_ok, Array.empty_append, hent]
  rw [Oper.upon_enter]
  refine hc.mono ?_
  rintro e w' ⟨v, rfl, hr⟩
  exact h v w' hr

theorem encO_del {ah : List UInt8} {k u : ByteArray} {n : Nat} (hn : Bm.com ah k.data.toList = n) : Bm.encO ah ⟨false, k, u⟩ = [0] ++ (Vm.enc n ++ (Vm.enc (k.size - n) ++ Om.ints (k.data.toList.drop n))) := by
  unfold Bm.encO Bm.pre4 Bm.Ov.bit Bm.Ov.kl
  simp only [hn, List.length_drop, ← Lib.size_eq]
  rw [if_neg (by simp), if_neg (by simp), Vm.enc_lo (by omega)]
  simp

theorem encO_put {ah : List UInt8} {k u : ByteArray} {n : Nat} (hn : Bm.com ah k.data.toList = n) : Bm.encO ah ⟨true, k, u⟩ = [1] ++ (Vm.enc n ++ (Vm.enc (k.size - n) ++ Om.ints (k.data.toList.drop n))) ++ Vm.enc u.size ++ Om.ints u.data.toList := by
  unfold Bm.encO Bm.pre4 Bm.Ov.bit Bm.Ov.kl Bm.Ov.vl Om.cnt
  simp only [hn, List.length_drop, ← Lib.size_eq]
  rw [if_pos trivial, if_pos trivial, Vm.enc_lo (by omega)]
  simp

set_option maxHeartbeats 1000000 in
theorem appo_any (base : Nat) (v : Value) (zs : List Int) (o : Bm.Ov) (ah : ByteArray) (w : World) (hv : Own .u8 5 base w v zs) (hb : base ≤ w.heap.size) (hl : zs.length ≤ 140737488353000) (hah : ah.size ≤ 64) (hc : o.c = 0) :
    Calls Tryz.prog 311 #[v, opv o.p o.k o.v, .string ah] w fun E w' => ∃ v', E = .returned v' ∧ Own .u8 5 base w' v' (zs ++ Bm.encO ah.data.toList o) ∧ Below base w w' ∧ KeepT 5 w w' := by
  obtain ⟨p, k, u⟩ := o
  have hh := Om.chk_ok' hc
  have hcl := Bm.com_le ah.data.toList k.data.toList
  simp only [Bm.Ov.kl, Bm.Ov.vl, ← Lib.size_eq] at hh hcl
  clear hc
  unfold opv
  simp only
  obtain ⟨n, hn⟩ : ∃ n, Bm.com ah.data.toList k.data.toList = n := ⟨_, rfl⟩
  rw [hn] at hcl
  have hnk := hcl.2.1
  have hk16 := hh.2.1
  have hu32 := hh.2.2.1
  have hz1 : (Vm.enc n).length = 1 := Vm.sz_lo (by omega)
  have hz2 : (Vm.enc (k.size - n)).length = 1 := Vm.sz_lo (by omega)
  have hz3 : (Vm.enc u.size).length = 1 := Vm.sz_lo (by omega)
  have hz4 : (Om.ints (k.data.toList.drop n)).length ≤ 16 := by rw [Om.ints_len, List.length_drop, ← Lib.size_eq]; omega
  obtain ⟨w0, hw0, sz0, bel0, blk0⟩ := blk_step w #[.bool p, .string k, .string u] 88
  have c0 := blk_cell blk0 0 rfl
  have c1 := blk_cell blk0 1 rfl
  have c2 := blk_cell blk0 2 rfl
  have HN := hide hn
  have HB := hide blk0
  clear hn hh blk0 hcl
  cases p
  · rw [encO_del HN.out]
    go_enter Tryz.func311, Tryz.ntmps311
    go_wp2_with fail
    refine (shared_any ah k _ (by omega) (by omega)).mono ?_
    rintro E w1 ⟨rfl, bel1⟩
    rw [HN.out]
    have sz1 := bel1.size
    have d0 := (bel1.cell (p := ⟨w.heap.size, 0, none⟩) (by simp [sz0])).trans c0
    have d1 := (bel1.cell (p := ⟨w.heap.size, 1, none⟩) (by simp [sz0])).trans c1
    have B1 := hide ((bel1.block w.heap.size (by omega)).trans HB.out)
    have bel01 : Below w.heap.size w w1 := bel0.trans (bel1.mono bel0.size)
    have hv1 := hv.below bel01
    clear c0 c1 c2 HB bel0 bel1 hw0
    obtain ⟨w2, hw2, sz2, bel2, own2⟩ := own_step .u8 5 w1 #[.int .u8 0] 1 [0] rfl rfl (by simp [maxLen]) (by simp [wf_u8])
    have e0 := (bel2.cell (p := ⟨w.heap.size, 0, none⟩) (by simp; omega)).trans d0
    have e1 := (bel2.cell (p := ⟨w.heap.size, 1, none⟩) (by simp; omega)).trans d1
    have B2 := hide ((bel2.block w.heap.size (by omega)).trans B1.out)
    have i1 := fun m => (hv1.below bel2).drewN m
    have i2 := fun m => own2.is.drewN m
    have HZ := hide hl
    go_wp2_with fail
    go_region_law (first
      | (refine step_append_is rfl (.tmp 15) (.tmp 16) 28 rfl .u8 5 base 1 Tryz.underlying28 Tryz.info5 (by decide) _ zs (by simp [Act.eval]) (i1 1) _ [0] (by simp [Act.eval]) (i2 1) (by simp; omega) (by simp; omega) ?_; intro v3 w3 own3 bel3 gr3; have B3 := KeepT.of_grown (i1 1) gr3 _ _ _ _ B2.out (by decide); have f0 := blk_cell B3 0 rfl; have f1 := blk_cell B3 1 rfl; have f2 := blk_cell B3 2 rfl; replace B3 := hide B3)
      | (refine call_step rfl 326 #[.tmp 17, .tmp 19, .tmp 20] #[28, 9, 3] rfl Tryz.enters326 #[v3, .string k, .int .i64 n] (by simp [Act.eval]) ((appk_any base v3 _ k n _ own3 (by have := bel3.size; simp at this; omega) (by simp; omega) (by omega) hnk).mono (by rintro E w' ⟨v', rfl, h⟩; exact ⟨v', rfl, h⟩)) ?_; rintro v4 w4 ⟨own4, bel4, kp4⟩))
    all_goals
      have bel5 : Below base w w4 := (((bel01.mono hb).trans (bel2.mono (by omega))).trans ((Below.refl _ _).drew.trans bel3)).trans bel4
      have kp5 : KeepT 5 w w4 := ((((KeepT.of_below bel01).trans (KeepT.of_below bel2)).trans (KeepT.of_below (below_drewN (Below.refl w2.heap.size w2) 1))).trans (KeepT.of_grown (i1 1) gr3)).trans kp4
      have own5 : Own .u8 5 base w4 v4 (zs ++ 0 :: (Vm.enc n ++ (Vm.enc (k.size - n) ++ Om.ints (List.drop n k.data.toList)))) := by simpa using own4
      clear i1 i2 own4 own3 gr3 bel3 bel4 kp4 f0 f1 f2 e0 e1 d0 d1 B1 B2 B3
      go_wp2
      go_ret
      exact ⟨_, rfl, own5, bel5, kp5⟩
  · rw [encO_put HN.out]
    go_enter Tryz.func311, Tryz.ntmps311
    go_wp2_with fail
    refine (shared_any ah k _ (by omega) (by omega)).mono ?_
    rintro E w1 ⟨rfl, bel1⟩
    rw [HN.out]
    have sz1 := bel1.size
    have d0 := (bel1.cell (p := ⟨w.heap.size, 0, none⟩) (by simp [sz0])).trans c0
    have d1 := (bel1.cell (p := ⟨w.heap.size, 1, none⟩) (by simp [sz0])).trans c1
    have B1 := hide ((bel1.block w.heap.size (by omega)).trans HB.out)
    have bel01 : Below w.heap.size w w1 := bel0.trans (bel1.mono bel0.size)
    have hv1 := hv.below bel01
    clear c0 c1 c2 HB bel0 bel1 hw0
    obtain ⟨w2, hw2, sz2, bel2, own2⟩ := own_step .u8 5 w1 #[.int .u8 1] 1 [1] rfl rfl (by simp [maxLen]) (by simp [wf_u8])
    have e0 := (bel2.cell (p := ⟨w.heap.size, 0, none⟩) (by simp; omega)).trans d0
    have e1 := (bel2.cell (p := ⟨w.heap.size, 1, none⟩) (by simp; omega)).trans d1
    have B2 := hide ((bel2.block w.heap.size (by omega)).trans B1.out)
    have i1 := fun m => (hv1.below bel2).drewN m
    have i2 := fun m => own2.is.drewN m
    have HZ := hide hl
    go_wp2_with fail
    go_region_law (first
      | (refine step_append_is rfl (.tmp 22) (.tmp 23) 28 rfl .u8 5 base 1 Tryz.underlying28 Tryz.info5 (by decide) _ zs (by simp [Act.eval]) (i1 1) _ [1] (by simp [Act.eval]) (i2 1) (by simp; omega) (by simp; omega) ?_; intro v3 w3 own3 bel3 gr3; have B3 := KeepT.of_grown (i1 1) gr3 _ _ _ _ B2.out (by decide); have f0 := blk_cell B3 0 rfl; have f1 := blk_cell B3 1 rfl; have f2 := blk_cell B3 2 rfl; replace B3 := hide B3)
      | (refine call_step rfl 326 #[.tmp 24, .tmp 26, .tmp 27] #[28, 9, 3] rfl Tryz.enters326 #[v3, .string k, .int .i64 n] (by simp [Act.eval]) ((appk_any base v3 _ k n _ own3 (by have := bel3.size; simp at this; omega) (by simp; omega) (by omega) hnk).mono (by rintro E w' ⟨v', rfl, h⟩; exact ⟨v', rfl, h⟩)) ?_; rintro v4 w4 ⟨own4, bel4, kp4⟩))
    all_goals
      have bel5 : Below base w w4 := (((bel01.mono hb).trans (bel2.mono (by omega))).trans ((Below.refl _ _).drew.trans bel3)).trans bel4
      have kp5 : KeepT 5 w w4 := ((((KeepT.of_below bel01).trans (KeepT.of_below bel2)).trans (KeepT.of_below (below_drewN (Below.refl w2.heap.size w2) 1))).trans (KeepT.of_grown (i1 1) gr3)).trans kp4
      have B4 := kp4 _ _ _ _ B3.out (by decide)
      have g2 := blk_cell B4 2 rfl
      have sz4 := bel5.size
      replace B4 := hide B4
      have hl5 : (zs ++ [1] ++ (Vm.enc n ++ (Vm.enc (k.size - n) ++ Om.ints (List.drop n k.data.toList)))).length ≤ 140737488353100 := by simp only [List.length_append, List.length_cons, List.length_nil]; omega
      generalize hz5 : zs ++ [1] ++ (Vm.enc n ++ (Vm.enc (k.size - n) ++ Om.ints (List.drop n k.data.toList))) = z5 at *
      have HZ5 := hide hz5
      clear hz5 i1 i2 own3 gr3 bel3 bel4 kp4 f0 f1 f2 e0 e1 d0 d1 B1 B2 B3
      go_wp2_with fail
      refine (appn_any base v4 z5 u.size _ own4 (by omega) (by omega) (by omega)).mono ?_
      rintro E w6 ⟨v6, rfl, own6, bel6, kp6⟩
      have sz6 := bel6.size
      have g3 := blk_cell (kp6 _ _ _ _ B4.out (by decide)) 2 rfl
      go_wp2_with (at_builtin; refine wpList_append_str2 rfl (.tmp 34) (.tmp 36) 28 9 rfl 5 base Tryz.underlying28 Tryz.underlying9 Tryz.info5 _ _ rfl own6 u rfl ?q1 (by omega) ?_)
      case q1 => simp only [List.length_append]; omega
      intro v7 w7 own7 bel7 kp7
      have own8 : Own .u8 5 base w7 v7 (zs ++ ([1] ++ (Vm.enc n ++ (Vm.enc (k.size - n) ++ Om.ints (List.drop n k.data.toList))) ++ Vm.enc u.size ++ Om.ints u.data.toList)) := by
        rw [← HZ5.out] at own7
        simpa using own7
      clear own7 own6 own4
      go_wp2
      go_ret
      exact ⟨_, rfl, by simpa using own8, (bel5.trans bel6).trans bel7, (kp5.trans kp6).trans kp7⟩

theorem lst_take {l : List Bm.Ov} {k : Nat} {o : Bm.Ov} (ho : l[k]? = some o) : l.take (k + 1) = l.take k ++ [o] := by
  obtain ⟨hk, rfl⟩ := List.getElem?_eq_some_iff.1 ho
  exact List.take_succ_eq_append_getElem hk

theorem encL_take {l : List Bm.Ov} {k : Nat} {o : Bm.Ov} (ho : l[k]? = some o) : Bm.encL [] (l.take (k + 1)) = Bm.encL [] (l.take k) ++ Bm.encO (Bm.lst [] (l.take k)) o := by
  rw [lst_take ho, Bm.encL_snoc]

theorem encL_small {l : List Bm.Ov} (hc : Bm.chkL l = 0) (k : Nat) : (Bm.encL [] (l.take k)).length ≤ 420 := by
  obtain ⟨h1, h2, h3⟩ := Bm.chkL_zero hc
  have h4 : ∀ o ∈ l.take k, Bm.Ov.c o = 0 := fun o ho => h3 o (List.mem_of_mem_take ho)
  have := Bm.encL_le [] (l.take k) h4
  have := Bm.sum_le h4
  have : (l.take k).length ≤ 8 := by rw [List.length_take]; omega
  omega

set_option maxHeartbeats 1000000 in
theorem bapp_any (vb : Value) (bs : List Int) (vl : Value) (l : List Bm.Ov) (w : World) (hb : Is .u8 w vb bs) (hl : bs.length ≤ 140737488351700) (h : IsO w vl l) (hf : FitO l) (hll : l.length ≤ 140737488355328) :
    Calls Tryz.prog 290 #[vb, vl] w fun E w' => ∃ v', E = .returned (.tuple #[v', .int .i64 (Bm.chkL l)]) ∧ Own .u8 5 w.heap.size w' v' (Bm.appB bs l) ∧ Below w.heap.size w w' := by
  by_cases hc : Bm.chkL l = 0
  · rw [hc, Bm.appB_ok hc]
    obtain ⟨h1, h8, h3⟩ := Bm.chkL_zero hc
    obtain ⟨b1, o1, c1, rfl, _, _, hB, hcell⟩ := h.full (by omega)
    have HC := hide hc
    have HL := hide hcell
    have H3 := hide h3
    have HE := hide (encL_small hc)
    have hz1 : (Vm.enc l.length).length = 1 := Vm.sz_lo (by omega)
    have hlen : (l.length : Int) ≤ 8 := by omega
    clear hc hcell h3
    go_enter Tryz.func290, Tryz.ntmps290
    go_wp2_with fail
    refine (bcheck_any _ l _ h hf hll).mono ?_
    rintro E w1 ⟨rfl, bel1⟩
    rw [HC.out]
    have sz1 := bel1.size
    have hb1 := hb.below bel1
    go_wp2_with fail
    refine (clone_any _ bs _ hb1 (by omega)).mono ?_
    rintro E w2 ⟨v2, rfl, own2, bel2⟩
    have sz2 := bel2.size
    replace own2 := own2.rebase sz1
    go_wp2_with fail
    refine (appn_any w.heap.size v2 bs l.length _ own2 (by omega) (by omega) (by omega)).mono ?_
    rintro E w3 ⟨v3, rfl, own3, bel3, _⟩
    have sz3 := bel3.size
    have bel03 : Below w.heap.size w w3 := (bel1.trans (bel2.mono sz1)).trans bel3
    clear own2 bel1 bel2 bel3 hb1
    go_wp2
    go_loopw [7, 8, 24] (fun ov av i wr => ∃ (k : Nat) (ah : ByteArray), k ≤ l.length ∧ i = .int .i64 k ∧ av = .string ah ∧ Hid (ah.data.toList = Bm.lst [] (l.take k)) ∧ ah.size ≤ 64 ∧ Own .u8 5 w.heap.size wr ov (bs ++ Vm.enc l.length ++ Bm.encL [] (l.take k)) ∧ Below w.heap.size w wr) (fun _ _ i _ => l.length - (intOf i).toNat)
    case atStart => exact ⟨0, ⟨#[]⟩, by omega, rfl, rfl, hide rfl, by simp [ByteArray.size], by simpa [Bm.encL] using own3, bel03⟩
    case round =>
      obtain ⟨k, ah, hk, rfl, rfl, HA, hah, own, bel⟩ := hrel
      have sz := bel.size
      by_cases hlt : k < l.length
      · obtain ⟨o, ho⟩ : ∃ o, l[k]? = some o := ⟨l[k], by rw [List.getElem?_eq_getElem]⟩
        obtain ⟨c0, c1, c2⟩ := HL.out k o ho
        have d0 := (bel.cell (p := ⟨b1, o1 + k * 3, none⟩) hB).trans c0
        have d1 := (bel.cell (p := ⟨b1, o1 + k * 3 + 1, none⟩) hB).trans c1
        have d2 := (bel.cell (p := ⟨b1, o1 + k * 3 + 2, none⟩) hB).trans c2
        have HO := hide ho
        have hoc := H3.out o (List.mem_of_getElem? ho)
        have hk64 : o.k.size ≤ 64 := by have := (Om.chk_ok' hoc).2.1; simp only [Bm.Ov.kl, ← Lib.size_eq] at this; omega
        have hel := HE.out k
        have e5 : bs ++ Vm.enc l.length ++ Bm.encL [] (l.take k) ++ Bm.encO ah.data.toList o = bs ++ Vm.enc l.length ++ Bm.encL [] (l.take (k + 1)) := by rw [encL_take ho, HA.out, ← List.append_assoc]
        have HA2 : Hid (o.k.data.toList = Bm.lst [] (l.take (k + 1))) := hide (by rw [lst_take ho, Bm.lst_snoc]; rfl)
        have hlz : (bs ++ Vm.enc l.length ++ Bm.encL [] (l.take k)).length ≤ 140737488353000 := by simp only [List.length_append]; omega
        generalize bs ++ Vm.enc l.length ++ Bm.encL [] (l.take k) = zs at *
        have E5 := hide e5
        clear c0 c1 c2 ho e5
        have hlt' : (k : Int) < l.length := by omega
        obtain ⟨w4, hw4, sz4, bel4, blk4⟩ := blk_step wr #[.bool o.p, .string o.k, .string o.v] 88
        have f0 := blk_cell blk4 0 rfl
        have f1 := blk_cell blk4 1 rfl
        have f2 := blk_cell blk4 2 rfl
        have B4 := hide blk4
        clear blk4
        go_wp2_with fail
        refine (appo_any w.heap.size _ zs o ah _ (own.below bel4) (by omega) (by omega) hah hoc).mono ?_
        rintro E w5 ⟨v5, rfl, own5, bel5, kp5⟩
        rw [E5.out] at own5
        have B5 := kp5 _ _ _ _ B4.out (by decide)
        have g1 := blk_cell B5 1 rfl
        have bel6 : Below w.heap.size w w5 := (bel.trans (bel4.mono sz)).trans bel5
        clear own bel4 bel5 kp5 B5 d0 d1 d2 f0 f1 f2 hel hlz
        go_wp2
        go_roundw
        case rel => exact ⟨k + 1, o.k, by omega, by go_num, rfl, HA2, hk64, own5, bel6⟩
        case measure => simp [intOf]; omega
      · have hlt' : ¬ (k : Int) < l.length := by omega
        rw [List.take_of_length_le (by omega), List.append_assoc] at own
        go_wp2
        go_ret2
        exact ⟨_, rfl, own, bel⟩
  · rw [Bm.appB_no hc]
    obtain ⟨c, hcc⟩ : ∃ c, Bm.chkL l = c := ⟨_, rfl⟩
    have h0 : (c != 0) = true := by rw [← hcc]; simpa using hc
    obtain ⟨ao, cp, rfl, _, _⟩ := hb.shape
    rw [hcc]
    have HC := hide hcc
    clear hc hcc
    go_enter Tryz.func290, Tryz.ntmps290
    go_wp2_with fail
    refine (bcheck_any _ l _ h hf hll).mono ?_
    rintro E w1 ⟨rfl, bel1⟩
    rw [HC.out]
    go_wp2
    go_ret2
    exact ⟨_, rfl, Own.nil _ _ _ _, bel1⟩

theorem OwnO.keptg {e base g : Nat} {w w' : World} {v : Value} {l : List Bm.Ov} (h : OwnO e base w v l) (hg : w.grownBy w' (some g)) (hb : g < base) : OwnO e base w' v l := by
  refine h.kept hg ?_
  cases hv : v.ownBlock with
  | none => exact .inl rfl
  | some b =>
    refine .inr fun e => ?_
    have := h.block b hv
    simp at e
    omega

end Go.Proofs.YtajlhdmnincehaaGreatDoor

/- Rows of commits in memory: what a slice of commits reads as, one of the call's own, an append between the two. -/
namespace Go.Proofs.YtajlhdmnincehaaGreatDoor
open Go.RowKit
set_option linter.unusedVariables false

/-- A commit as it stands in memory: v is its slice of ops, which reads as l. -/
structure Cw where
  e : Int
  n : Int
  v : Value
  l : List Bm.Ov

def Cw.c (c : Cw) : Cm.Cv := ⟨c.e, c.n, c.l⟩
def cvs (r : List Cw) : List Cm.Cv := r.map Cw.c

/-- A commit as a value. -/
def cmv (e n : Int) (v : Value) : Value := .agg #[.int .i64 e, .int .i64 n, v]

def ccell (c : Cw) : List Value := [.int .i64 c.e, .int .i64 c.n, c.v]
def ccells : List Cw → List Value
  | [] => []
  | c :: r => ccell c ++ ccells r

theorem ccells_len : ∀ (l : List Cw), (ccells l).length = l.length * 3
  | [] => rfl
  | o :: r => by
    have := ccells_len r
    simp only [ccells, ccell, List.length_append, List.length_cons, List.length_nil]
    omega

theorem ccells_app : ∀ (l m : List Cw), ccells (l ++ m) = ccells l ++ ccells m
  | [], _ => rfl
  | o :: l, m => by simp only [List.cons_append, ccells, ccells_app l m, List.append_assoc]

theorem ccells_cell : ∀ (l : List Cw), (∀ c ∈ l, c.v.oneCell' = true) → ∀ u ∈ ccells l, u.oneCell' = true
  | [], _, u, h => by simp [ccells] at h
  | o :: r, hv, u, h => by
    rcases List.mem_append.1 h with h | h
    · simp only [ccell, List.mem_cons, List.not_mem_nil, or_false] at h
      rcases h with rfl | rfl | rfl
      · rfl
      · rfl
      · exact hv o (List.mem_cons_self ..)
    · exact ccells_cell r (fun c hc => hv c (List.mem_cons_of_mem _ hc)) u h

theorem ccells_at : ∀ (l : List Cw) (i : Nat) (hi : i < l.length), (ccells l)[i * 3]? = some (.int .i64 l[i].e) ∧ (ccells l)[i * 3 + 1]? = some (.int .i64 l[i].n) ∧ (ccells l)[i * 3 + 2]? = some l[i].v
  | [], _, hi => by simp at hi
  | o :: r, 0, hi => by simp [ccells, ccell]
  | o :: r, i + 1, hi => by
    have := ccells_at r i (by simpa using hi)
    simp only [ccells, ccell]
    rw [show (i + 1) * 3 = i * 3 + 3 by omega]
    simpa [List.getElem?_append] using this

theorem ccells_take : ∀ (l : List Cw) (p : Nat), ccells (l.take p) = (ccells l).take (p * 3)
  | [], p => by simp [ccells]
  | o :: l, 0 => by simp [ccells]
  | o :: l, p + 1 => by
    rw [List.take_succ_cons, show (p + 1) * 3 = p * 3 + 3 by omega]
    simp [ccells, ccell, ccells_take l p]

theorem ccells_drop : ∀ (l : List Cw) (p : Nat), ccells (l.drop p) = (ccells l).drop (p * 3)
  | [], p => by simp [ccells]
  | o :: l, 0 => by simp [ccells]
  | o :: l, p + 1 => by
    rw [List.drop_succ_cons, show (p + 1) * 3 = p * 3 + 3 by omega]
    simp [ccells, ccell, ccells_drop l p]

theorem IsO.one {w : World} {v : Value} {l : List Bm.Ov} (h : IsO w v l) : v.oneCell' = true := by
  obtain ⟨ao, cap, rfl, _⟩ := h.shape
  rfl

/-- A number that a cell of 64 bits holds. -/
def In64 (x : Int) : Prop := -9223372036854775808 ≤ x ∧ x < 9223372036854775808

/-- What each commit of a row is. -/
def InC (w : World) (r : List Cw) : Prop := ∀ c ∈ r, IsO w c.v c.l ∧ In64 c.e ∧ In64 c.n
def FitC (r : List Cw) : Prop := ∀ c ∈ r, FitO c.l ∧ c.l.length * 40 ≤ 140737488351232

theorem InC.below {w w' : World} {r : List Cw} (h : InC w r) (hb : Below w.heap.size w w') : InC w' r := fun c hc => ⟨(h c hc).1.below hb, (h c hc).2⟩

/-- A slice value whose cells are those of the commits r. -/
def RowC (w : World) (v : Value) (r : List Cw) : Prop :=
  (v = .slice none 0 0 ∧ r = []) ∨ ∃ ad cap, v = .slice (some ad) r.length cap ∧ r.length ≤ cap ∧ cap ≤ maxLen ∧ ∀ j u, (ccells r)[j]? = some u → w.cell? (ad.add j) = some u

/-- A slice value that reads as the commits r. -/
def IsC (w : World) (v : Value) (r : List Cw) : Prop := RowC w v r ∧ InC w r

/-- A row of the call's own. -/
def OwnR (e : TypeId) (base : Nat) (w : World) (v : Value) (r : List Cw) : Prop := w.ownsRow base e 3 v r.length (ccells r)

theorem RowC.nil (w : World) : RowC w (.slice none 0 0) [] := .inl ⟨rfl, rfl⟩
theorem IsC.nil (w : World) : IsC w (.slice none 0 0) [] := ⟨RowC.nil w, fun c hc => by simp at hc⟩
theorem OwnR.nil (e : TypeId) (base : Nat) (w : World) : OwnR e base w (.slice none 0 0) [] := World.ownsRow_nil _ _ _ _

theorem RowC.below {w w' : World} {v : Value} {l : List Cw} (h : RowC w v l) (hb : Below w.heap.size w w') : RowC w' v l := by
  rcases h with h | ⟨ad, cap, hv, h1, h2, hc⟩
  · exact .inl h
  · refine .inr ⟨ad, cap, hv, h1, h2, fun j u hj => ?_⟩
    have := hc j u hj
    rw [hb.cell (World.block_lt_of_cell? _ _ this)]
    exact this

theorem IsC.below {w w' : World} {v : Value} {l : List Cw} (h : IsC w v l) (hb : Below w.heap.size w w') : IsC w' v l := ⟨h.1.below hb, h.2.below hb⟩

theorem RowC.shape {w : World} {v : Value} {l : List Cw} (h : RowC w v l) : ∃ ao cap, v = .slice ao l.length cap ∧ l.length ≤ cap ∧ cap ≤ maxLen := by
  rcases h with ⟨hv, e⟩ | ⟨ad, cap, hv, h1, h2, _⟩
  · subst e; exact ⟨none, 0, hv, by simp, by simp⟩
  · exact ⟨some ad, cap, hv, h1, h2⟩

theorem RowC.full {w : World} {v : Value} {l : List Cw} (h : RowC w v l) (hne : 0 < l.length) :
    ∃ b off cap, v = .slice (some ⟨b, off, none⟩) l.length cap ∧ l.length ≤ cap ∧ cap ≤ maxLen ∧ b < w.heap.size ∧
      ∀ i c, l[i]? = some c → w.cell? ⟨b, off + i * 3, none⟩ = some (.int .i64 c.e) ∧ w.cell? ⟨b, off + i * 3 + 1, none⟩ = some (.int .i64 c.n) ∧ w.cell? ⟨b, off + i * 3 + 2, none⟩ = some c.v := by
  rcases h with ⟨_, h⟩ | ⟨⟨b, off, spot⟩, cap, hv, h1, h2, hc⟩
  · subst h; simp at hne
  · have h0 := hc 0 _ (ccells_at l 0 hne).1
    have hspot : spot = none := by simpa [Addr.add] using World.cell?_spot h0
    subst hspot
    refine ⟨b, off, cap, hv, h1, h2, World.block_lt_of_cell? _ _ h0, fun i o hio => ?_⟩
    obtain ⟨hi, rfl⟩ := List.getElem?_eq_some_iff.1 hio
    obtain ⟨g1, g2, g3⟩ := ccells_at l i hi
    have k1 := hc _ _ g1
    have k2 := hc _ _ g2
    have k3 := hc _ _ g3
    rw [add_at] at k1 k2 k3
    exact ⟨k1, by rw [Nat.add_assoc]; exact k2, by rw [Nat.add_assoc]; exact k3⟩

theorem OwnR.row {e base : Nat} {w : World} {v : Value} {l : List Cw} (h : OwnR e base w v l) : RowC w v l := by
  rcases h.2 with ⟨hv, hn⟩ | ⟨g, cap, cur, hv, h1, hh, hc, hm, hs, ht⟩
  · exact .inl ⟨hv, List.eq_nil_of_length_eq_zero hn⟩
  · refine .inr ⟨⟨g, 0, none⟩, cap, hv, hc, hm, fun j u hj => ?_⟩
    exact h.cells (by rw [hv]; rfl) j u hj

theorem row_below {e base size n : Nat} {w w' : World} {v : Value} {xs : List Value} (h : w.ownsRow base e size v n xs) (hb : Below w.heap.size w w') : w'.ownsRow base e size v n xs := by
  refine ⟨h.1, ?_⟩
  rcases h.2 with h | ⟨g, cap, cur, hv, h1, hh, r⟩
  · exact .inl h
  · refine .inr ⟨g, cap, cur, hv, h1, ?_, r⟩
    rw [hb.block g (Array.getElem?_eq_some_iff.1 hh).1]
    exact hh

theorem OwnR.below {e base : Nat} {w w' : World} {v : Value} {l : List Cw} (h : OwnR e base w v l) (hb : Below w.heap.size w w') : OwnR e base w' v l := row_below h hb

/-- Commits laid in a new block. -/
theorem coms_step (e : TypeId) (w : World) (cs : Array Value) (n : Nat) (l : List Cw) (hn : l.length = n) (h : cs.toList = ccells l) (hm : n ≤ maxLen) :
    ∃ W, w.alloc (.cells cs e) = W ∧ W.heap.size = w.heap.size + 1 ∧ Below w.heap.size w W ∧ OwnR e w.heap.size W (.slice (some ⟨w.heap.size, 0, none⟩) n n) l := by
  subst hn
  refine ⟨_, rfl, by simp, (Below.refl _ _).alloc (Nat.le_refl _) _, ?_⟩
  have ho := World.ownsRow_lit (base := w.heap.size) (e := e) (size := 3) w cs l.length (Nat.le_refl _) hm (by have := congrArg List.length h; rw [ccells_len] at this; simpa using this)
  rw [h] at ho
  exact ho

/-- What a row of the call's own grows by leaves blocks of another type. -/
theorem KeepT.of_row {e base size n : Nat} {w w' : World} {v : Value} {xs : List Value} (h : w.ownsRow base e size v n xs) (hg : w.grownBy w' v.ownBlock) : KeepT e w w' := by
  intro g cs t fr hc ht
  refine (hg.block g (blk_lt hc) fun e1 => ?_).trans hc
  rcases h.2 with ⟨rfl, _⟩ | ⟨g', cap, cur, rfl, _, hh, _⟩
  · simp [Value.ownBlock] at e1
  · simp [Value.ownBlock] at e1
    subst e1
    rw [hh] at hc
    simp at hc
    exact ht hc.2.1.symm

theorem OwnO.keepT {e e' base : Nat} {w w' : World} {v : Value} {l : List Bm.Ov} (h : OwnO e base w v l) (k : KeepT e' w w') (hne : e ≠ e') : OwnO e base w' v l := by
  refine ⟨h.1, ?_⟩
  rcases h.2 with h | ⟨g, cap, cur, hv, h1, hh, r⟩
  · exact .inl h
  · exact .inr ⟨g, cap, cur, hv, h1, k _ _ _ _ hh hne, r⟩

section
variable {P : Program} {w : World} {ops : Array Oper} {rest : List Oper} {o : Oper} {a : Act} {Q : Exit → Act → World → Prop}

/-- 'out = append(out, xs...)' of commits: out nil or the call's own. -/
theorem wpList_append_coms (hgd : o.guard = none) (s x : Operand) (t : TypeId)
    (ho : o.op = .call { callee := .builtin .append, args := #[s, x], argTypes := #[t, t] })
    (e : TypeId) (base : Nat) (ht : P.underlying t = some (.slice e)) (hinfo : (P.info? e).map (fun i => (i.zero, i.size, i.bytes)) = some (some (.agg #[.int .i64 0, .int .i64 0, .slice none 0 0]), 3, 40))
    (v : Value) (l : List Cw) (hs : a.eval s = v) (hown : OwnR e base w v l) (vx : Value) (m : List Cw) (hx : a.eval x = vx) (his : RowC w vx m) (hone : ∀ c ∈ m, c.v.oneCell' = true)
    (hlen : (l.length + m.length) * 40 ≤ 140737488355328) (hbase : base ≤ w.heap.size)
    (h : ∀ v' w', OwnR e base w' v' (l ++ m) → Below base w w' → KeepT e w w' → wpList P ops Q rest (a.put o.dst v') w') : wpList P ops Q (o :: rest) a w := by
  obtain ⟨i, hi, hz, hsize, hb⟩ := info_parts hinfo
  have hn : l.length + m.length ≤ 140737488355328 := by omega
  rcases his with ⟨hv, hy⟩ | ⟨ad, cap, hv, h1, h2, hc⟩
  · subst hy
    refine wpList_append_own_none hgd s x t ho base e i 3 ht hi v l.length _ hs hown (hx.trans hv) (h v w (by simpa using hown) (Below.refl _ _) (KeepT.refl _ _))
  · refine wpList_append_own w hgd s x t ho base e i _ 3 40 ht hi hz hsize hb rfl (by decide) v l.length _ hs hown ad m.length cap (ccells m) (hx.trans hv) (ccells_len m) hc (ccells_cell m hone) (by unfold maxLen; omega) hlen hbase ?_
    intro v' w' ho' hg _
    refine h v' w' (by unfold OwnR; rw [ccells_app, List.length_append]; exact ho') ((Below.refl _ _).grown hg hbase fun k' hk => ?_) (KeepT.of_row hown hg)
    exact (World.ownsRow.lt hown k' hk).1

variable {v : Value}

/-- 'v[:p]' of commits. -/
theorem RowC.slice_h {l : List Cw} (h : RowC w v l) {t : TypeId} (ht : P.underlying t = some (.slice (P.elem t))) (hs : ∀ wx, (sizeOf (P.elem t)).run P wx = .ok 3 wx) (p : Nat) (hp : p ≤ l.length) :
    ∃ vs, (∀ wx, (Instr.slice t v none (some (.int .i64 p)) none).run P wx = .ok vs wx) ∧ RowC w vs (l.take p) := by
  obtain ⟨ao, cap, rfl, hcap, hm⟩ := h.shape
  refine ⟨.slice ao p cap, fun wx => ?_, ?_⟩
  · rw [run_slice_h wx t ao l.length cap ht .i64 _ (by omega) (by omega), hs]
    simp only [Result.andThen, sliced]
    cases ao <;> simp [Addr.add]
  · cases ao with
    | none =>
      rcases h with ⟨hv, e⟩ | ⟨ad, cap', hv, _⟩
      · subst e
        simp at hp hv
        subst hp hv
        exact RowC.nil _
      · simp at hv
    | some ad =>
      have hl : (l.take p).length = p := by rw [List.length_take]; omega
      rcases h with ⟨hv, _⟩ | ⟨ad', cap', hv, h1, h2, hc⟩
      · simp at hv
      · simp at hv
        obtain ⟨rfl, rfl⟩ := hv
        refine .inr ⟨ad, cap, by rw [hl], by omega, h2, fun j u hj => hc j u ?_⟩
        rw [ccells_take, List.getElem?_take] at hj
        split at hj
        · exact hj
        · simp at hj

/-- 'v[p:]' of commits. -/
theorem RowC.slice_l {l : List Cw} (h : RowC w v l) {t : TypeId} (ht : P.underlying t = some (.slice (P.elem t))) (hs : ∀ wx, (sizeOf (P.elem t)).run P wx = .ok 3 wx) (p : Nat) (hp : p < l.length) :
    ∃ vs, (∀ wx, (Instr.slice t v (some (.int .i64 p)) none none).run P wx = .ok vs wx) ∧ RowC w vs (l.drop p) := by
  obtain ⟨b, off, cap, rfl, hcap, hm, hB, hcell⟩ := h.full (by omega)
  refine ⟨.slice (some ⟨b, off + p * 3, none⟩) (l.length - p) (cap - p), fun wx => ?_, ?_⟩
  · rw [run_slice_l wx t _ l.length cap ht .i64 _ (by omega) (by omega), hs]
    have hne : ¬ cap = p := by omega
    simp [Result.andThen, sliced, hne, add_at]
  · rcases h with ⟨hv, _⟩ | ⟨ad', cap', hv, h1, h2, hc⟩
    · simp at hv
    · simp at hv
      obtain ⟨rfl, rfl⟩ := hv
      refine .inr ⟨⟨b, off + p * 3, none⟩, cap - p, by simp, by simp; omega, by omega, fun j u hj => ?_⟩
      rw [ccells_drop, List.getElem?_drop] at hj
      have := hc _ _ hj
      rw [add_at] at this ⊢
      rw [Nat.add_assoc]
      exact this


end

theorem Tryz.info93 : (Tryz.prog.info? 93).map (fun i => (i.zero, i.size, i.bytes)) = some (some (.agg #[.int .i64 0, .int .i64 0, .slice none 0 0]), 3, 40) := by kernel_rfl
theorem Tryz.elemC : Tryz.prog.underlying 25 = some (.slice (Tryz.prog.elem 25)) := by kernel_rfl
theorem Tryz.sizeC (wx : World) : (sizeOf (Tryz.prog.elem 25)).run Tryz.prog wx = .ok 3 wx := by kernel_rfl

end Go.Proofs.YtajlhdmnincehaaGreatDoor

/- The contracts of Check and Same: the program's, the document's, the laws'. -/
namespace Go.Proofs.YtajlhdmnincehaaGreatDoor
open Go.RowKit
set_option linter.unusedVariables false

theorem inb_any (x : Int) (w : World) : Calls Tryz.prog 270 #[.int .i64 x] w fun E w' => E = .returned (.bool (decide (1 ≤ x ∧ x ≤ 1048576))) ∧ w = w' := by
  go_enter Tryz.func270, Tryz.ntmps270
  by_cases h1 : 1 ≤ x
  · by_cases h2 : x ≤ 1048576
    · go_wp2
      go_ret
      exact ⟨by simp [h1, h2], rfl⟩
    · go_wp2
      go_ret
      exact ⟨by simp; omega, rfl⟩
  · go_wp2
    go_ret
    exact ⟨by simp; omega, rfl⟩

set_option maxHeartbeats 400000 in
theorem ccheck_any (e n : Int) (v : Value) (l : List Bm.Ov) (w : World) (h : IsO w v l) (hf : FitO l) (hl : l.length ≤ 140737488355328) :
    Calls Tryz.prog 217 #[cmv e n v] w fun E w' => E = .returned (.int .i64 (Cm.chk e n l)) ∧ Below w.heap.size w w' := by
  unfold cmv
  obtain ⟨w1, hw1, sz1, bel1, hB⟩ := blk_step w #[.int .i64 e, .int .i64 n, v] 93
  have c0 := blk_cell hB 0 rfl
  have c1 := blk_cell hB 1 rfl
  have c2 := blk_cell hB 2 rfl
  have h1 := h.below bel1
  obtain ⟨ao, cap, rfl, _, _⟩ := h.shape
  clear hB
  go_enter Tryz.func217, Tryz.ntmps217
  by_cases he : 1 ≤ e ∧ e ≤ 1048576
  · have he' : decide (1 ≤ e ∧ e ≤ 1048576) = true := by simp [he]
    by_cases hn : 1 ≤ n ∧ n ≤ 1048576
    · have hn' : decide (1 ≤ n ∧ n ≤ 1048576) = true := by simp [hn]
      rw [Cm.chk_in ⟨he.1, he.2, hn.1, hn.2⟩]
      clear he hn
      go_wp2_with fail
      refine (inb_any e _).mono ?_
      rintro E w2 ⟨rfl, rfl⟩
      rw [he']
      go_wp2_with fail
      refine (inb_any n _).mono ?_
      rintro E w2 ⟨rfl, rfl⟩
      rw [hn']
      go_wp2_with fail
      refine (bcheck_any _ l _ h1 hf hl).mono ?_
      rintro E w3 ⟨rfl, bel3⟩
      have bel03 := bel1.trans (bel3.mono (by omega))
      go_wp2
      go_ret
      exact ⟨rfl, bel03⟩
    · have hn' : decide (1 ≤ n ∧ n ≤ 1048576) = false := by simpa using hn
      rw [Cm.chk_out (by omega)]
      clear he hn
      go_wp2_with fail
      refine (inb_any e _).mono ?_
      rintro E w2 ⟨rfl, rfl⟩
      rw [he']
      go_wp2_with fail
      refine (inb_any n _).mono ?_
      rintro E w2 ⟨rfl, rfl⟩
      rw [hn']
      go_wp2
      go_ret
      exact ⟨rfl, bel1⟩
  · have he' : decide (1 ≤ e ∧ e ≤ 1048576) = false := by simpa using he
    rw [Cm.chk_out (by omega)]
    clear he
    go_wp2_with fail
    refine (inb_any e _).mono ?_
    rintro E w2 ⟨rfl, rfl⟩
    rw [he']
    go_wp2
    go_ret
    exact ⟨rfl, bel1⟩




end Go.Proofs.YtajlhdmnincehaaGreatDoor

/- The contracts of the laws' copies of ops: CopyOps, LentOps, KeptOps. -/
namespace Go.Proofs.YtajlhdmnincehaaGreatDoor
open Go.RowKit
set_option linter.unusedVariables false

/-- What stands behind ops that are lent. -/
def behind : Bm.Ov := ⟨true, ⟨#[98, 101, 104, 105, 110, 100]⟩, ⟨#[]⟩⟩

end Go.Proofs.YtajlhdmnincehaaGreatDoor

/- The contracts of the laws' copies of lists of commits: CopyCommits, LentCommits, KeptCommits. -/
namespace Go.Proofs.YtajlhdmnincehaaGreatDoor
open Go.RowKit
set_option linter.unusedVariables false




theorem cvs_take (r : List Cw) (k : Nat) : cvs (r.take k) = (cvs r).take k := by unfold cvs; rw [List.map_take]


/-- The loop of CopyCommits: what was made of the first ones. -/
def CopyR (base : Nat) (w : World) (rs : List Cw) : Prop := ∀ c ∈ rs, OwnO 88 base w c.v c.l




theorem CopyR.below {base : Nat} {w w' : World} {rs : List Cw} (h : CopyR base w rs) (hb : Below w.heap.size w w') : CopyR base w' rs := fun c hc => (h c hc).below hb


theorem CopyR.keepT {base : Nat} {w w' : World} {rs : List Cw} (h : CopyR base w rs) (hb : KeepT 93 w w') : CopyR base w' rs := fun c hc => (h c hc).keepT hb (by decide)


theorem CopyR.snoc {base : Nat} {w : World} {rs : List Cw} (h : CopyR base w rs) {c : Cw} (hc : OwnO 88 base w c.v c.l) : CopyR base w (rs ++ [c]) := fun d hd => (List.mem_append.1 hd).elim (h d) (fun h => by rw [List.mem_singleton.1 h]; exact hc)



end Go.Proofs.YtajlhdmnincehaaGreatDoor
