/- The lists of a script, joined; an op stored in a row of the call's own; two ops that change places. -/
import Derived.Test.YtlfhpbiapnjghaaTw
namespace Go.Proofs.Ytlfhpbiapnjghaa
open Go.RowKit
open Bm (Ov)
set_option linter.unusedVariables false

/-- All ops of a script. -/
def flat (r : List Rw) : List Ov := r.flatMap Rw.l

theorem flat_next {r : List Rw} {k : Nat} {a : Rw} (h : r[k]? = some a) : flat (r.take (k + 1)) = flat (r.take k) ++ a.l := by
  obtain ⟨h1, rfl⟩ := List.getElem?_eq_some_iff.1 h
  unfold flat
  rw [List.take_succ_eq_append_getElem h1, List.flatMap_append]
  simp only [List.flatMap_cons, List.flatMap_nil, List.append_nil]

theorem flat_le : ∀ (r : List Rw), (∀ a ∈ r, a.l.length ≤ 40) → (flat r).length ≤ r.length * 40
  | [], _ => by simp [flat]
  | a :: r, h => by
    have h1 := flat_le r fun b hb => h b (by simp [hb])
    have h2 := h a (by simp)
    have e : flat (a :: r) = a.l ++ flat r := by simp [flat]
    rw [e, List.length_append, List.length_cons]
    omega

theorem flat_len {r : List Rw} (h : Sml r) (k : Nat) : (flat (r.take k)).length ≤ 1200 := by
  have h1 := flat_le (r.take k) fun a ha => h.1 a (List.mem_of_mem_take ha)
  have h2 := h.2
  rw [List.length_take] at h1
  have : min k r.length ≤ 30 := by omega
  omega

theorem flat_fit {r : List Rw} (h : FitL r) (k : Nat) : FitO (flat (r.take k)) := fun o ho => by
  obtain ⟨a, ha, hoa⟩ := List.mem_flatMap.1 ho
  exact h a (List.mem_of_mem_take ha) o hoa

theorem fit_app {t : List Ov} (hu : Tm.Up t) (h : FitO t) {l : List Ov} (hl : FitO l) : FitO (Tm.app t l) := fun o ho => by
  rcases Tm.mem_app l o hu ho with h1 | h1
  · exact h o h1
  · exact hl o h1

theorem fit_aft {t : List Ov} (hu : Tm.Up t) (h : FitO t) {l : List Ov} (hl : FitO l) : FitO (Tm.aft t l) := by
  unfold Tm.aft
  split
  · exact fit_app hu h hl
  · exact h

theorem up_aft {t : List Ov} (hu : Tm.Up t) (l : List Ov) : Tm.Up (Tm.aft t l) := by
  unfold Tm.aft
  split
  · exact Tm.up_app l hu
  · exact hu

theorem aft_len (t l : List Ov) : (Tm.aft t l).length ≤ t.length + l.length := by
  unfold Tm.aft
  split
  · exact Tm.app_len l t
  · omega

theorem aft_ok {t l : List Ov} (h : ∀ o ∈ l, o.c = 0) : Tm.aft t l = Tm.app t l := by
  unfold Tm.aft
  rw [if_pos (Bm.first_all h)]

theorem Tb.out {F : Nat → Prop} {p b : Nat} {w w' : World} {t : List Ov} (h : Tb p b w t) (ho : Out F w w') (h1 : ¬ F p) (h2 : ¬ F b) : Tb p b w' t := h.agree (ho.block p h.plt h1) (ho.block b h.blt h2)

theorem OwnO.out {e base : Nat} {F : Nat → Prop} {w w' : World} {v : Value} {l : List Ov} (h : OwnO e base w v l) (ho : Out F w w') (hF : ∀ g, F g → g < base) : OwnO e base w' v l := row_agree h fun g hg => by
  obtain ⟨h1, h2⟩ := h.block g hg
  exact ho.block g h2 fun hf => by have := hF g hf; omega

theorem fit_nil : FitO [] := fun o ho => by simp at ho

theorem ocells_set : ∀ (l : List Ov) (i : Nat) (o : Ov), i < l.length → (((ocells l).set (i * 3) (.bool o.p)).set (i * 3 + 1) (.string o.k)).set (i * 3 + 2) (.string o.v) = ocells (l.set i o)
  | [], i, o, h => by simp at h
  | x :: r, 0, o, _ => by simp [ocells, ocell]
  | x :: r, i + 1, o, h => by
    have ih := ocells_set r i o (by simpa using h)
    have e : ∀ q : List Value, ocells (x :: r) = [.bool x.p, .string x.k, .string x.v] ++ ocells r := fun _ => rfl
    have e2 : ocells ((x :: r).set (i + 1) o) = [.bool x.p, .string x.k, .string x.v] ++ ocells (r.set i o) := rfl
    rw [e [], e2, ← ih]
    have h3 : (i + 1) * 3 = i * 3 + 3 := by omega
    rw [h3]
    simp

/-- An op is stored in a row of the call's own. -/
theorem own_put {e base g n cap : Nat} {w : World} {l : List Ov} (h : OwnO e base w (.slice (some ⟨g, 0, none⟩) n cap) l) (hn : l.length = n) (i : Nat) (hi : i < n) (o : Ov) :
    ∃ W, ((w.setCell ⟨g, i * 3, none⟩ (.bool o.p)).setCell ⟨g, i * 3 + 1, none⟩ (.string o.k)).setCell ⟨g, i * 3 + 2, none⟩ (.string o.v) = W ∧ OwnO e base W (.slice (some ⟨g, 0, none⟩) n cap) (l.set i o) ∧ w.grownBy W (some g) := by
  subst hn
  unfold OwnO at h
  have s1 := h.stored (i * 3) (.bool o.p)
  have s2 := s1.1.stored (i * 3 + 1) (.string o.k)
  have s3 := s2.1.stored (i * 3 + 2) (.string o.v)
  refine ⟨_, rfl, ?_, grown_trans s1.2 (grown_trans s2.2 s3.2)⟩
  unfold OwnO
  rw [List.length_set, ← ocells_set l i o hi]
  exact s3.1

theorem own_at {e base g n cap : Nat} {w : World} {l : List Ov} (h : OwnO e base w (.slice (some ⟨g, 0, none⟩) n cap) l) (hn : l.length = n) (i : Nat) (o : Ov) (ho : l[i]? = some o) :
    (w.cell? ⟨g, i * 3, none⟩ = some (.bool o.p) ∧ w.cell? ⟨g, i * 3 + 1, none⟩ = some (.string o.k) ∧ w.cell? ⟨g, i * 3 + 2, none⟩ = some (.string o.v)) ∧ (w.frozen? ⟨g, i * 3, none⟩ = false ∧ w.frozen? ⟨g, i * 3 + 1, none⟩ = false ∧ w.frozen? ⟨g, i * 3 + 2, none⟩ = false) := by
  subst hn
  unfold OwnO at h
  obtain ⟨hi, rfl⟩ := List.getElem?_eq_some_iff.1 ho
  obtain ⟨a0, a1, a2⟩ := ocells_at l i hi
  exact ⟨⟨by rw [h.cellAt (i * 3) (by omega)]; exact a0, by rw [h.cellAt (i * 3 + 1) (by omega)]; exact a1, by rw [h.cellAt (i * 3 + 2) (by omega)]; exact a2⟩, h.frozenAt _, h.frozenAt _, h.frozenAt _⟩

/-- Two neighbours change places. -/
def swp (l : List Ov) (k : Nat) (x y : Ov) : List Ov := (l.set k y).set (k + 1) x

theorem swp_eq {l : List Ov} {k : Nat} {x y : Ov} (hx : l[k]? = some x) (hy : l[k + 1]? = some y) : ∃ p q, l = p ++ x :: y :: q ∧ swp l k x y = p ++ y :: x :: q := by
  obtain ⟨h1, rfl⟩ := List.getElem?_eq_some_iff.1 hx
  obtain ⟨h2, rfl⟩ := List.getElem?_eq_some_iff.1 hy
  have e : l = l.take k ++ l[k] :: l[k + 1] :: l.drop (k + 2) := by
    rw [← List.drop_eq_getElem_cons h2, ← List.drop_eq_getElem_cons h1, List.take_append_drop]
  refine ⟨l.take k, l.drop (k + 2), e, ?_⟩
  unfold swp
  apply List.ext_getElem?
  intro i
  have hlen : (l.take k).length = k := by rw [List.length_take]; omega
  rw [List.getElem?_set, List.getElem?_set]
  simp only [List.length_set]
  by_cases h3 : k + 1 = i
  · subst h3
    rw [if_pos rfl, if_pos h2, List.getElem?_append_right (by omega), hlen, show k + 1 - k = 1 by omega]
    rfl
  · rw [if_neg h3]
    by_cases h4 : k = i
    · subst h4
      rw [if_pos rfl, if_pos h1, List.getElem?_append_right (by omega), hlen, Nat.sub_self]
      rfl
    · rw [if_neg h4]
      by_cases h5 : i < k
      · rw [List.getElem?_append_left (by omega), List.getElem?_take_of_lt h5]
      · rw [List.getElem?_append_right (by omega), hlen]
        obtain ⟨j, rfl⟩ : ∃ j, i = k + 2 + j := ⟨i - (k + 2), by omega⟩
        rw [show k + 2 + j - k = j + 2 by omega]
        simp

theorem swp_mem {l : List Ov} {k : Nat} {x y : Ov} (hx : l[k]? = some x) (hy : l[k + 1]? = some y) : ∀ o, o ∈ swp l k x y → o ∈ l := by
  obtain ⟨p, q, e1, e2⟩ := swp_eq hx hy
  intro o ho
  rw [e2] at ho
  rw [e1]
  simp at ho ⊢
  rcases ho with h | h | h | h <;> simp [h]

theorem swp_len (l : List Ov) (k : Nat) (x y : Ov) : (swp l k x y).length = l.length := by simp [swp]

theorem swp_app {l : List Ov} {k : Nat} {x y : Ov} (hx : l[k]? = some x) (hy : l[k + 1]? = some y) (hne : x.k ≠ y.k) : Tm.app [] (swp l k x y) = Tm.app [] l := by
  obtain ⟨p, q, e1, e2⟩ := swp_eq hx hy
  rw [e2, e1]
  exact (Tm.app_swap [] p q x y List.Pairwise.nil hne).symm

end Go.Proofs.Ytlfhpbiapnjghaa
