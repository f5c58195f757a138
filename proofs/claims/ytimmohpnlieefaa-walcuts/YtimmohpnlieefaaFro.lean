/- What an argument that is a slice of ops comes in as. No program. -/
import Derived.SizedLaws
import Derived.Lib.SmallJoins
import Derived.Deep.Slices
import Derived.Test.YtimmohpnlieefaaA2
namespace Go.Proofs.Ytimmohpnlieefaa
open Go.RowKit Go.ChangeShapes Go.WideShapes Go.Deep
set_option linter.unusedVariables false

/-- An op as a datum. -/
def opd {H : Type} (o : Bm.Ov) : DataW H := .agg [.lit (.bool o.p), .lit (.string o.k.data.toList), .lit (.string o.v.data.toList)]

theorem ocells_inv : ∀ (l : List Bm.Ov) (j : Nat) (u : Value), (ocells l)[j]? = some u → ∃ i o, l[i]? = some o ∧ ((j = i * 3 ∧ u = .bool o.p) ∨ (j = i * 3 + 1 ∧ u = .string o.k) ∨ (j = i * 3 + 2 ∧ u = .string o.v))
  | [], j, u, h => by simp [ocells] at h
  | o :: r, 0, u, h => ⟨0, o, rfl, .inl ⟨rfl, by simpa [ocells, ocell] using h.symm⟩⟩
  | o :: r, 1, u, h => ⟨0, o, rfl, .inr (.inl ⟨rfl, by simpa [ocells, ocell] using h.symm⟩)⟩
  | o :: r, 2, u, h => ⟨0, o, rfl, .inr (.inr ⟨rfl, by simpa [ocells, ocell] using h.symm⟩)⟩
  | o :: r, j + 3, u, h => by
    have h' : (ocells r)[j]? = some u := by simpa [ocells, ocell] using h
    obtain ⟨i, q, hq, hc⟩ := ocells_inv r j u h'
    refine ⟨i + 1, q, by simpa using hq, ?_⟩
    rcases hc with ⟨rfl, hu⟩ | ⟨rfl, hu⟩ | ⟨rfl, hu⟩
    · exact .inl ⟨by omega, hu⟩
    · exact .inr (.inl ⟨by omega, hu⟩)
    · exact .inr (.inr ⟨by omega, hu⟩)

section
variable {H : Type} {enc : TypeId × Value → H} {P : Program} {w : World} {base : Nat} {spare : Nat → Bool} {held : Bool}

theorem open_ops {t e : TypeId} {f0 f1 f2 : Field} {fuel : Nat} {v : Value} {x : DataW H × List MemPlace} (ht : P.underlying t = some (.slice e)) (he : P.underlying e = some (.struct #[f0, f1, f2]))
    (hone : oneCellFields P #[f0, f1, f2] = true) (ce : P.cellsOf e = 3) (u0 : P.underlying f0.type = some .bool) (u1 : P.underlying f1.type = some .string) (u2 : P.underlying f2.type = some .string)
    (h : DataW.trod enc P w base spare held fuel t [v] = some x) : ∃ l : List Bm.Ov, IsO w v l ∧ ((x.1 = .nil ∧ l = []) ∨ ∃ sp, x.1 = .slice (l.map opd) sp) := by
  rcases open_slice ht h with ⟨hv, hx⟩ | ⟨a, len, cap, m, n, D, Pl, hv, hb, hl, hm, hmm, rfl, hx⟩
  · simp at hv
    subst hv hx
    exact ⟨[], IsO.nil _, .inl ⟨rfl, rfl⟩⟩
  · simp at hv
    subst hv
    have hlm : len ≤ m := by rw [hmm]; split <;> omega
    obtain ⟨o0, c0⟩ := hone_of hone 0 f0 rfl
    obtain ⟨o1, c1⟩ := hone_of hone 1 f1 rfl
    obtain ⟨o2, c2⟩ := hone_of hone 2 f2 rfl
    have each : ∀ i, i < len → ∃ o : Bm.Ov, w.cell? (a.add (i * 3)) = some (.bool o.p) ∧ w.cell? (a.add (i * 3 + 1)) = some (.string o.k) ∧ w.cell? (a.add (i * 3 + 2)) = some (.string o.v) ∧ D i = opd o := by
      intro i hi
      obtain ⟨cs', h1, h2⟩ := hx i (by omega)
      rw [ce] at h1
      obtain ⟨_, hlen, hcell⟩ := World.cells?_some h1
      obtain ⟨y0, y1, y2, k, hxy, _, g0, g1, g2⟩ := trod_struct3 he h2
      match cs', hlen with
      | [v0, v1, v2], _ =>
        simp [o0, o1, o2, c0, c1, c2] at g0 g1 g2
        obtain ⟨p, hp, rfl⟩ := DataW.trod_bool u0 g0
        obtain ⟨s, hs, rfl, _⟩ := DataW.trod_string u1 g1
        obtain ⟨r, hr, rfl, _⟩ := DataW.trod_string u2 g2
        simp at hp hs hr
        subst hp hs hr
        have e0 := hcell 0 (by omega)
        have e1 := hcell 1 (by omega)
        have e2 := hcell 2 (by omega)
        rw [Go.Deep.add_add] at e0 e1 e2
        simp only [Prod.mk.injEq] at hxy
        exact ⟨⟨p, s, r⟩, by simpa using e0, by simpa using e1, by simpa using e2, hxy.1⟩
    have : Inhabited Bm.Ov := ⟨⟨false, ⟨#[]⟩, ⟨#[]⟩⟩⟩
    obtain ⟨f, hf⟩ := choose_lt each
    refine ⟨(List.range len).map f, .inr ⟨a, cap, by simp, by simpa using hl, hm, fun j u hj => ?_⟩, .inr ⟨(List.range (m - len)).map fun j => D (len + j), ?_⟩⟩
    · obtain ⟨i, o, ho, hc⟩ := ocells_inv _ j u hj
      obtain ⟨hi, e⟩ := List.getElem?_eq_some_iff.1 ho
      simp at hi e
      obtain ⟨k0, k1, k2, _⟩ := hf i hi
      subst e
      rcases hc with ⟨rfl, rfl⟩ | ⟨rfl, rfl⟩ | ⟨rfl, rfl⟩
      · exact k0
      · exact k1
      · exact k2
    · show DataW.slice _ _ = DataW.slice _ _
      congr 1
      rw [List.map_map]
      exact List.map_congr_left fun i hi => (hf i (by simpa using hi)).2.2.2

theorem weights_all {e : TypeId} {n : Nat} {d : DataW H} : ∀ {ds : List (DataW H)}, d ∈ ds → n ∈ d.weights P e → n ∈ DataW.weightsAll P e ds
  | [], h, _ => by simp at h
  | q :: r, h, hn => by
    simp only [DataW.weightsAll, List.mem_append]
    rcases List.mem_cons.1 h with rfl | h
    · exact .inl hn
    · exact .inr (weights_all h hn)

/-- A list of ops as a datum. -/
def OpsD (d : DataW H) (l : List Bm.Ov) : Prop := (d = .nil ∧ l = []) ∨ ∃ sp, d = .slice (l.map opd) sp

theorem ops_fit {t e : TypeId} {f0 f1 f2 : Field} {l : List Bm.Ov} {d : DataW H} (h : ∀ n ∈ d.weights P t, n ≤ reachBytes) (hd : OpsD d l) (hu : P.underlying t = some (.slice e)) (he : P.underlying e = some (.struct #[f0, f1, f2])) (hb : P.bytesOf e = 40) :
    FitO l ∧ l.length * 40 ≤ 140737488351232 := by
  rcases hd with ⟨_, rfl⟩ | ⟨sp, rfl⟩
  · exact ⟨fun o ho => by simp at ho, by simp⟩
  refine ⟨fun o ho => ?_, ?_⟩
  · have key : ∀ n ∈ (opd (H := H) o).weights P e, n ≤ 140737488351232 := by
      intro n hn
      exact h n (by
        simp only [DataW.weights, hu]
        exact List.mem_cons_of_mem _ (List.mem_append_left _ (weights_all (List.mem_map_of_mem ho) hn)))
    constructor
    · have := key o.k.data.toList.length (by simp [opd, DataW.weights, he, DataW.weightsEach])
      rw [Lib.size_eq]; exact this
    · have := key o.v.data.toList.length (by simp [opd, DataW.weights, he, DataW.weightsEach])
      rw [Lib.size_eq]; exact this
  · have := h ((l.map (opd (H := H))).length + sp.length |> (· * P.bytesOf e)) (by simp [DataW.weights, hu])
    rw [hb] at this
    simp only [List.length_map, reachBytes] at this
    omega

theorem sized_ops {ts : List TypeId} {ds : List (DataW H)} (h : (DataW.weightsEach P ts ds).all (· ≤ reachBytes) = true) {j : Nat} {t e : TypeId} {f0 f1 f2 : Field} {l : List Bm.Ov} {sp : List (DataW H)} (ht : ts[j]? = some t) (hd : ds[j]? = some (.slice (l.map opd) sp)) (hu : P.underlying t = some (.slice e)) (he : P.underlying e = some (.struct #[f0, f1, f2])) (hb : P.bytesOf e = 40) :
    FitO l ∧ l.length * 40 ≤ 140737488351232 := by
  have hall := List.all_eq_true.1 h
  refine ⟨fun o ho => ?_, ?_⟩
  · have key : ∀ n ∈ (opd (H := H) o).weights P e, n ≤ 140737488351232 := by
      intro n hn
      have := hall n (DataW.weights_mem_each ht hd n (by
        simp only [DataW.weights, hu]
        exact List.mem_cons_of_mem _ (List.mem_append_left _ (weights_all (List.mem_map_of_mem ho) hn))))
      have h3 : n ≤ reachBytes := of_decide_eq_true this
      exact h3
    constructor
    · have := key o.k.data.toList.length (by simp [opd, DataW.weights, he, DataW.weightsEach])
      rw [Lib.size_eq]; exact this
    · have := key o.v.data.toList.length (by simp [opd, DataW.weights, he, DataW.weightsEach])
      rw [Lib.size_eq]; exact this
  · have := sized_slice h ht hd hu
    rw [hb] at this
    simp only [List.length_map, reachBytes] at this
    omega

end

end Go.Proofs.Ytimmohpnlieefaa
