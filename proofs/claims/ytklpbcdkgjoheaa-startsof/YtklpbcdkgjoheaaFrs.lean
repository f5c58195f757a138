/- What an argument that is a slice of starts, or a slice of yes and no, comes in as. No program. -/
import Derived.Test.YtklpbcdkgjoheaaFrk
import Derived.Test.YtklpbcdkgjoheaaSa
namespace Go.Proofs.Ytklpbcdkgjoheaa
open Go.RowKit Go.ChangeShapes Go.WideShapes Go.Deep
set_option linter.unusedVariables false

def bolc (b : Bool) : List Value := [.bool b]
theorem bolc_len (b : Bool) : (bolc b).length = 1 := rfl

theorem rowB_full {w : World} {v : Value} {r : List Bool} (h : RowG bolc w v r) (hne : 0 < r.length) :
    ∃ b off cap, v = .slice (some ⟨b, off, none⟩) r.length cap ∧ r.length ≤ cap ∧ cap ≤ maxLen ∧ b < w.heap.size ∧ ∀ (i : Nat) (a : Bool), r[i]? = some a → w.cell? ⟨b, off + i, none⟩ = some (.bool a) := by
  obtain ⟨b, off, cap, h1, h2, h3, h4, h5⟩ := RowG.full bolc_len (by decide) h hne
  refine ⟨b, off, cap, h1, h2, h3, h4, fun i a ha => ?_⟩
  have := h5 i a ha 0 (.bool a) rfl
  simpa using this

section
variable {H : Type} {enc : TypeId × Value → H} {P : Program} {w : World} {base : Nat} {spare : Nat → Bool} {held : Bool}

theorem trod_struct2 {t : TypeId} {f0 f1 : Field} {fuel : Nat} {cs : List Value} {x : DataW H × List MemPlace} (ht : P.underlying t = some (.struct #[f0, f1])) (h : DataW.trod enc P w base spare held fuel t cs = some x) :
    ∃ y0 y1 n, DataW.trod enc P w base spare held n f0.type ((cs.drop f0.offset).take (P.cellsOf f0.type)) = some y0 ∧ DataW.trod enc P w base spare held n f1.type ((cs.drop f1.offset).take (P.cellsOf f1.type)) = some y1 := by
  obtain ⟨xs, n, _, rfl, hl, hlen, hf⟩ := DataW.trod_struct ht h
  match xs, hlen with
  | [y0, y1], _ => exact ⟨y0, y1, n, by simpa using hf 0 f0 rfl, by simpa using hf 1 f1 rfl⟩

theorem open_sts {t e : TypeId} {f0 f1 : Field} {fuel : Nat} {v : Value} {x : DataW H × List MemPlace} (ht : P.underlying t = some (.slice e)) (he : P.underlying e = some (.struct #[f0, f1]))
    (hone : oneCellFields P #[f0, f1] = true) (ce : P.cellsOf e = 2) (u0 : P.underlying f0.type = some (.int .i64)) (u1 : P.underlying f1.type = some (.int .i64))
    (h : DataW.trod enc P w base spare held fuel t [v] = some x) : ∃ r : List Sm.S, RowS w v r ∧ ((x.1 = .nil ∧ r = []) ∨ ∃ ds sp, x.1 = .slice ds sp ∧ ds.length = r.length) := by
  rcases open_slice ht h with ⟨hv, hx⟩ | ⟨a, len, cap, m, n, D, Pl, hv, hb, hl, hm, hmm, rfl, hx⟩
  · simp at hv
    subst hv hx
    exact ⟨[], RowG.nil _ _, .inl ⟨rfl, rfl⟩⟩
  · simp at hv
    subst hv
    have hlm : len ≤ m := by rw [hmm]; split <;> omega
    obtain ⟨o0, c0⟩ := hone_of hone 0 f0 rfl
    obtain ⟨o1, c1⟩ := hone_of hone 1 f1 rfl
    have each : ∀ i, i < len → ∃ c : Sm.S, ∀ m u, (stc c)[m]? = some u → w.cell? (a.add (i * 2 + m)) = some u := by
      intro i hi
      obtain ⟨cs', h1, h2⟩ := hx i (by omega)
      rw [ce] at h1
      obtain ⟨_, hlen, hcell⟩ := World.cells?_some h1
      obtain ⟨y0, y1, k, q0, q1⟩ := trod_struct2 he h2
      match cs', hlen with
      | [v0, v1], _ =>
        simp [o0, o1, c0, c1] at q0 q1
        obtain ⟨p0, h0, rfl, w0⟩ := DataW.trod_int u0 q0
        obtain ⟨p1, h1', rfl, w1⟩ := DataW.trod_int u1 q1
        simp at h0 h1'
        subst h0 h1'
        refine ⟨(p0, p1), fun m u hu => ?_⟩
        have hm3 : m < 2 := (List.getElem?_eq_some_iff.1 hu).1
        have hc := hcell m (by omega)
        rw [Go.Deep.add_add] at hc
        rw [hc]
        rcases (show m = 0 ∨ m = 1 by omega) with rfl | rfl <;> simpa [stc] using hu
    have : Inhabited Sm.S := ⟨(0, 0)⟩
    obtain ⟨f, hf⟩ := choose_lt each
    refine ⟨(List.range len).map f, .inr ⟨a, cap, by simp, by simpa using hl, hm, fun j u hj => ?_⟩, .inr ⟨(List.range len).map D, (List.range (m - len)).map fun j => D (len + j), rfl, by simp⟩⟩
    obtain ⟨i, c, m', hic, rfl, hu⟩ := gcells_inv stc_len (by decide) _ j u hj
    obtain ⟨hi, e⟩ := List.getElem?_eq_some_iff.1 hic
    simp at hi e
    subst e
    exact hf i hi m' u hu

theorem open_bols {t e : TypeId} {fuel : Nat} {v : Value} {x : DataW H × List MemPlace} (ht : P.underlying t = some (.slice e)) (he : P.underlying e = some .bool) (ce : P.cellsOf e = 1)
    (h : DataW.trod enc P w base spare held fuel t [v] = some x) : ∃ r : List Bool, RowG bolc w v r ∧ ((x.1 = .nil ∧ r = []) ∨ ∃ ds sp, x.1 = .slice ds sp ∧ ds.length = r.length) := by
  rcases open_slice ht h with ⟨hv, hx⟩ | ⟨a, len, cap, m, n, D, Pl, hv, hb, hl, hm, hmm, rfl, hx⟩
  · simp at hv
    subst hv hx
    exact ⟨[], RowG.nil _ _, .inl ⟨rfl, rfl⟩⟩
  · simp at hv
    subst hv
    have hlm : len ≤ m := by rw [hmm]; split <;> omega
    have each : ∀ i, i < len → ∃ c : Bool, w.cell? (a.add i) = some (.bool c) := by
      intro i hi
      obtain ⟨cs', h1, h2⟩ := hx i (by omega)
      rw [ce] at h1
      obtain ⟨_, hlen, hcell⟩ := World.cells?_some h1
      match cs', hlen with
      | [v0], _ =>
        obtain ⟨p, hp, _⟩ := DataW.trod_bool he h2
        simp at hp
        subst hp
        have e0 := hcell 0 (by omega)
        rw [Go.Deep.add_add] at e0
        exact ⟨p, by simpa using e0⟩
    obtain ⟨f, hf⟩ := choose_lt each
    refine ⟨(List.range len).map f, .inr ⟨a, cap, by simp, by simpa using hl, hm, fun j u hj => ?_⟩, .inr ⟨(List.range len).map D, (List.range (m - len)).map fun j => D (len + j), rfl, by simp⟩⟩
    obtain ⟨i, c, m', hic, rfl, hu⟩ := gcells_inv bolc_len (by decide) _ j u hj
    obtain ⟨hi, e⟩ := List.getElem?_eq_some_iff.1 hic
    simp at hi e
    subst e
    have hm0 : m' = 0 := by
      have := (List.getElem?_eq_some_iff.1 hu).1
      simp [bolc] at this
      exact this
    subst hm0
    simp [bolc] at hu
    subst hu
    simpa using hf i hi

theorem sized_row {ts : List TypeId} {ds : List (DataW H)} (h : (DataW.weightsEach P ts ds).all (· ≤ reachBytes) = true) {j k : Nat} {t e : TypeId} {α : Type} {r : List α} {es sp : List (DataW H)} (ht : ts[j]? = some t) (hd : ds[j]? = some (.slice es sp)) (hlen : es.length = r.length)
    (hu : P.underlying t = some (.slice e)) (hb : P.bytesOf e = k) : r.length * k ≤ 140737488351232 := by
  have := sized_slice h ht hd hu
  rw [hb, Nat.add_mul, hlen] at this
  simp only [reachBytes] at this
  omega
end

end Go.Proofs.Ytklpbcdkgjoheaa
