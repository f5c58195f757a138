/- Texts of one layer, one behind the other. -/
import Derived.SizedLaws
import Derived.Lib.SmallJoins
import Derived.Deep.Slices
import Derived.Test.YtabfihicdphjeaaG3
import Derived.Test.YtabfihicdphjeaaG4
/- What an argument that is a slice of ops comes in as. No program. -/
namespace Go.Proofs.Ytabfihicdphjeaa
open Go.RowKit Go.ChangeShapes Go.WideShapes Go.Deep
set_option linter.unusedVariables false

/-- An op as a datum. -/
def opd {H : Type} (o : Bm.Ov) : DataW H := .agg [.lit (.bool o.p), .lit (.string o.k.data.toList), .lit (.string o.v.data.toList)]

theorem ocells_inv : ∀ (l : List Bm.Ov) (j : Nat) (u : Value), (ocells l)[j]? = some u → ∃ i o, l[i]? = some o ∧ ((j = i * 3 ∧ u = .bool o.p) ∨ (j = i * 3 + 1 ∧ u = .string o.k) ∨ (j = i * 3 + 2 ∧ u = .string o.v))
  | [], j, u, h => by simp [ocells] at h
  | o :: r, 0, u, h => ⟨0, o, rfl, .inl ⟨rfl, by simpa [ocells, ocell] using h.symm⟩⟩
  | o :: r, 1, u, h => ⟨0, o, rfl, .inr (.inl ⟨rfl, by simpa [ocells, ocell] using h.symm⟩)⟩
  | o :: r, 2, u, h => ⟨0, o, rfl, .inr (.inr ⟨rfl, by simpa [ocells, ocell] using h.symm⟩)⟩
  | o :: r, j + 3, u, h => by
    have h' : (ocells r)[j]? = some u := by simpa [ocells, ocell] using h
    obtain ⟨i, q, hq, hc⟩ := ocells_inv r j u h'
    refine ⟨i + 1, q, by simpa using hq, ?_⟩
    rcases hc with ⟨rfl, hu⟩ | ⟨rfl, hu⟩ | ⟨rfl, hu⟩
    · exact .inl ⟨by omega, hu⟩
    · exact .inr (.inl ⟨by omega, hu⟩)
    · exact .inr (.inr ⟨by omega, hu⟩)

section
variable {H : Type} {enc : TypeId × Value → H} {P : Program} {w : World} {base : Nat} {spare : Nat → Bool} {held : Bool}

theorem open_ops {t e : TypeId} {f0 f1 f2 : Field} {fuel : Nat} {v : Value} {x : DataW H × List MemPlace} (ht : P.underlying t = some (.slice e)) (he : P.underlying e = some (.struct #[f0, f1, f2]))
    (hone : oneCellFields P #[f0, f1, f2] = true) (ce : P.cellsOf e = 3) (u0 : P.underlying f0.type = some .bool) (u1 : P.underlying f1.type = some .string) (u2 : P.underlying f2.type = some .string)
    (h : DataW.trod enc P w base spare held fuel t [v] = some x) : ∃ l : List Bm.Ov, IsO w v l ∧ ((x.1 = .nil ∧ l = []) ∨ ∃ sp, x.1 = .slice (l.map opd) sp) := by
  rcases open_slice ht h with ⟨hv, hx⟩ | ⟨a, len, cap, m, n, D, Pl, hv, hb, hl, hm, hmm, rfl, hx⟩
  · simp at hv
    subst hv hx
    exact ⟨[], IsO.nil _, .inl ⟨rfl, rfl⟩⟩
  · simp at hv
    subst hv
    have hlm : len ≤ m := by rw [hmm]; split <;> omega
    obtain ⟨o0, c0⟩ := hone_of hone 0 f0 rfl
    obtain ⟨o1, c1⟩ := hone_of hone 1 f1 rfl
    obtain ⟨o2, c2⟩ := hone_of hone 2 f2 rfl
    have each : ∀ i, i < len → ∃ o : Bm.Ov, w.cell? (a.add (i * 3)) = some (.bool o.p) ∧ w.cell? (a.add (i * 3 + 1)) = some (.string o.k) ∧ w.cell? (a.add (i * 3 + 2)) = some (.string o.v) ∧ D i = opd o := by
      intro i hi
      obtain ⟨cs', h1, h2⟩ := hx i (by omega)
      rw [ce] at h1
      obtain ⟨_, hlen, hcell⟩ := World.cells?_some h1
      obtain ⟨y0, y1, y2, k, hxy, _, g0, g1, g2⟩ := trod_struct3 he h2
      match cs', hlen with
      | [v0, v1, v2], _ =>
        simp [o0, o1, o2, c0, c1, c2] at g0 g1 g2
        obtain ⟨p, hp, rfl⟩ := DataW.trod_bool u0 g0
        obtain ⟨s, hs, rfl, _⟩ := DataW.trod_string u1 g1
        obtain ⟨r, hr, rfl, _⟩ := DataW.trod_string u2 g2
        simp at hp hs hr
        subst hp hs hr
        have e0 := hcell 0 (by omega)
        have e1 := hcell 1 (by omega)
        have e2 := hcell 2 (by omega)
        rw [Go.Deep.add_add] at e0 e1 e2
        simp only [Prod.mk.injEq] at hxy
        exact ⟨⟨p, s, r⟩, by simpa using e0, by simpa using e1, by simpa using e2, hxy.1⟩
    have : Inhabited Bm.Ov := ⟨⟨false, ⟨#[]⟩, ⟨#[]⟩⟩⟩
    obtain ⟨f, hf⟩ := choose_lt each
    refine ⟨(List.range len).map f, .inr ⟨a, cap, by simp, by simpa using hl, hm, fun j u hj => ?_⟩, .inr ⟨(List.range (m - len)).map fun j => D (len + j), ?_⟩⟩
    · obtain ⟨i, o, ho, hc⟩ := ocells_inv _ j u hj
      obtain ⟨hi, e⟩ := List.getElem?_eq_some_iff.1 ho
      simp at hi e
      obtain ⟨k0, k1, k2, _⟩ := hf i hi
      subst e
      rcases hc with ⟨rfl, rfl⟩ | ⟨rfl, rfl⟩ | ⟨rfl, rfl⟩
      · exact k0
      · exact k1
      · exact k2
    · show DataW.slice _ _ = DataW.slice _ _
      congr 1
      rw [List.map_map]
      exact List.map_congr_left fun i hi => (hf i (by simpa using hi)).2.2.2

theorem weights_all {e : TypeId} {n : Nat} {d : DataW H} : ∀ {ds : List (DataW H)}, d ∈ ds → n ∈ d.weights P e → n ∈ DataW.weightsAll P e ds
  | [], h, _ => by simp at h
  | q :: r, h, hn => by
    simp only [DataW.weightsAll, List.mem_append]
    rcases List.mem_cons.1 h with rfl | h
    · exact .inl hn
    · exact .inr (weights_all h hn)

/-- A list of ops as a datum. -/
def OpsD (d : DataW H) (l : List Bm.Ov) : Prop := (d = .nil ∧ l = []) ∨ ∃ sp, d = .slice (l.map opd) sp

theorem ops_fit {t e : TypeId} {f0 f1 f2 : Field} {l : List Bm.Ov} {d : DataW H} (h : ∀ n ∈ d.weights P t, n ≤ reachBytes) (hd : OpsD d l) (hu : P.underlying t = some (.slice e)) (he : P.underlying e = some (.struct #[f0, f1, f2])) (hb : P.bytesOf e = 40) :
    FitO l ∧ l.length * 40 ≤ 140737488351232 := by
  rcases hd with ⟨_, rfl⟩ | ⟨sp, rfl⟩
  · exact ⟨fun o ho => by simp at ho, by simp⟩
  refine ⟨fun o ho => ?_, ?_⟩
  · have key : ∀ n ∈ (opd (H := H) o).weights P e, n ≤ 140737488351232 := by
      intro n hn
      exact h n (by
        simp only [DataW.weights, hu]
        exact List.mem_cons_of_mem _ (List.mem_append_left _ (weights_all (List.mem_map_of_mem ho) hn)))
    constructor
    · have := key o.k.data.toList.length (by simp [opd, DataW.weights, he, DataW.weightsEach])
      rw [Lib.size_eq]; exact this
    · have := key o.v.data.toList.length (by simp [opd, DataW.weights, he, DataW.weightsEach])
      rw [Lib.size_eq]; exact this
  · have := h ((l.map (opd (H := H))).length + sp.length |> (· * P.bytesOf e)) (by simp [DataW.weights, hu])
    rw [hb] at this
    simp only [List.length_map, reachBytes] at this
    omega

theorem sized_ops {ts : List TypeId} {ds : List (DataW H)} (h : (DataW.weightsEach P ts ds).all (· ≤ reachBytes) = true) {j : Nat} {t e : TypeId} {f0 f1 f2 : Field} {l : List Bm.Ov} {sp : List (DataW H)} (ht : ts[j]? = some t) (hd : ds[j]? = some (.slice (l.map opd) sp)) (hu : P.underlying t = some (.slice e)) (he : P.underlying e = some (.struct #[f0, f1, f2])) (hb : P.bytesOf e = 40) :
    FitO l ∧ l.length * 40 ≤ 140737488351232 := by
  have hall := List.all_eq_true.1 h
  refine ⟨fun o ho => ?_, ?_⟩
  · have key : ∀ n ∈ (opd (H := H) o).weights P e, n ≤ 140737488351232 := by
      intro n hn
      have := hall n (DataW.weights_mem_each ht hd n (by
        simp only [DataW.weights, hu]
        exact List.mem_cons_of_mem _ (List.mem_append_left _ (weights_all (List.mem_map_of_mem ho) hn))))
      have h3 : n ≤ reachBytes := of_decide_eq_true this
      exact h3
    constructor
    · have := key o.k.data.toList.length (by simp [opd, DataW.weights, he, DataW.weightsEach])
      rw [Lib.size_eq]; exact this
    · have := key o.v.data.toList.length (by simp [opd, DataW.weights, he, DataW.weightsEach])
      rw [Lib.size_eq]; exact this
  · have := sized_slice h ht hd hu
    rw [hb] at this
    simp only [List.length_map, reachBytes] at this
    omega

end

end Go.Proofs.Ytabfihicdphjeaa

/- What an argument that is a commit, or a slice of commits, comes in as. No program. -/
namespace Go.Proofs.Ytabfihicdphjeaa
open Go.RowKit Go.ChangeShapes Go.WideShapes Go.Deep
set_option linter.unusedVariables false

theorem in64 {z : Int} (h : (Lit.int .i64 z).wf = true) : In64 z := by
  have := range_i64 (zs := [z]) (by simpa using h) 0
  simp at this
  exact ⟨by omega, by omega⟩

theorem ccells_inv : ∀ (l : List Cw) (j : Nat) (u : Value), (ccells l)[j]? = some u → ∃ i c, l[i]? = some c ∧ ((j = i * 3 ∧ u = .int .i64 c.e) ∨ (j = i * 3 + 1 ∧ u = .int .i64 c.n) ∨ (j = i * 3 + 2 ∧ u = c.v))
  | [], j, u, h => by simp [ccells] at h
  | o :: r, 0, u, h => ⟨0, o, rfl, .inl ⟨rfl, by simpa [ccells, ccell] using h.symm⟩⟩
  | o :: r, 1, u, h => ⟨0, o, rfl, .inr (.inl ⟨rfl, by simpa [ccells, ccell] using h.symm⟩)⟩
  | o :: r, 2, u, h => ⟨0, o, rfl, .inr (.inr ⟨rfl, by simpa [ccells, ccell] using h.symm⟩)⟩
  | o :: r, j + 3, u, h => by
    have h' : (ccells r)[j]? = some u := by simpa [ccells, ccell] using h
    obtain ⟨i, q, hq, hc⟩ := ccells_inv r j u h'
    refine ⟨i + 1, q, by simpa using hq, ?_⟩
    rcases hc with ⟨rfl, hu⟩ | ⟨rfl, hu⟩ | ⟨rfl, hu⟩
    · exact .inl ⟨by omega, hu⟩
    · exact .inr (.inl ⟨by omega, hu⟩)
    · exact .inr (.inr ⟨by omega, hu⟩)

section
variable {H : Type} {enc : TypeId × Value → H} {P : Program} {w : World} {base : Nat} {spare : Nat → Bool} {held : Bool}

theorem com_weights {t : TypeId} {f0 f1 f2 : Field} {x0 x1 d : DataW H} {n : Nat} (hu : P.underlying t = some (.struct #[f0, f1, f2])) (hn : n ∈ d.weights P f2.type) : n ∈ (DataW.agg [x0, x1, d]).weights P t := by
  simp only [DataW.weights, hu]
  simp [DataW.weightsEach, hn]

theorem sized_com {ts : List TypeId} {ds : List (DataW H)} (h : (DataW.weightsEach P ts ds).all (· ≤ reachBytes) = true) {j : Nat} {t e : TypeId} {f0 f1 f2 g0 g1 g2 : Field} {l : List Bm.Ov} {x0 x1 d : DataW H} (ht : ts[j]? = some t) (hd : ds[j]? = some (.agg [x0, x1, d])) (hu : P.underlying t = some (.struct #[f0, f1, f2])) (hl : OpsD d l) (h2 : P.underlying f2.type = some (.slice e)) (he : P.underlying e = some (.struct #[g0, g1, g2])) (hb : P.bytesOf e = 40) :
    FitO l ∧ l.length * 40 ≤ 140737488351232 := by
  have hall := List.all_eq_true.1 h
  refine ops_fit (fun n hn => ?_) hl h2 he hb
  exact of_decide_eq_true (hall n (DataW.weights_mem_each ht hd n (com_weights hu hn)))

/-- A commit of a list as a datum. -/
def ComD (d : DataW H) (c : Cw) : Prop := ∃ x0 x1 d2, d = .agg [x0, x1, d2] ∧ OpsD d2 c.l

theorem open_coms {t e o : TypeId} {f0 f1 f2 g0 g1 g2 : Field} {fuel : Nat} {v : Value} {x : DataW H × List MemPlace} (ht : P.underlying t = some (.slice e)) (he : P.underlying e = some (.struct #[f0, f1, f2]))
    (hone : oneCellFields P #[f0, f1, f2] = true) (ce : P.cellsOf e = 3) (u0 : P.underlying f0.type = some (.int .i64)) (u1 : P.underlying f1.type = some (.int .i64)) (u2 : P.underlying f2.type = some (.slice o))
    (ho : P.underlying o = some (.struct #[g0, g1, g2])) (hone' : oneCellFields P #[g0, g1, g2] = true) (co : P.cellsOf o = 3) (k0 : P.underlying g0.type = some .bool) (k1 : P.underlying g1.type = some .string) (k2 : P.underlying g2.type = some .string)
    (h : DataW.trod enc P w base spare held fuel t [v] = some x) : ∃ r : List Cw, IsC w v r ∧ ((x.1 = .nil ∧ r = []) ∨ ∃ ds sp, x.1 = .slice ds sp ∧ ds.length = r.length ∧ ∀ (i : Nat) (c : Cw), r[i]? = some c → ∃ d, ds[i]? = some d ∧ ComD d c) := by
  rcases open_slice ht h with ⟨hv, hx⟩ | ⟨a, len, cap, m, n, D, Pl, hv, hb, hl, hm, hmm, rfl, hx⟩
  · simp at hv
    subst hv hx
    exact ⟨[], IsC.nil _, .inl ⟨rfl, rfl⟩⟩
  · simp at hv
    subst hv
    have hlm : len ≤ m := by rw [hmm]; split <;> omega
    obtain ⟨o0, c0⟩ := hone_of hone 0 f0 rfl
    obtain ⟨o1, c1⟩ := hone_of hone 1 f1 rfl
    obtain ⟨o2, c2⟩ := hone_of hone 2 f2 rfl
    have each : ∀ i, i < len → ∃ c : Cw, (w.cell? (a.add (i * 3)) = some (.int .i64 c.e) ∧ w.cell? (a.add (i * 3 + 1)) = some (.int .i64 c.n) ∧ w.cell? (a.add (i * 3 + 2)) = some c.v) ∧ (IsO w c.v c.l ∧ In64 c.e ∧ In64 c.n) ∧ ComD (D i) c := by
      intro i hi
      obtain ⟨cs', h1, h2⟩ := hx i (by omega)
      rw [ce] at h1
      obtain ⟨_, hlen, hcell⟩ := World.cells?_some h1
      obtain ⟨y0, y1, y2, k, hxy, _, q0, q1, q2⟩ := trod_struct3 he h2
      match cs', hlen with
      | [v0, v1, v2], _ =>
        simp [o0, o1, o2, c0, c1, c2] at q0 q1 q2
        obtain ⟨p, hp, rfl, wp⟩ := DataW.trod_int u0 q0
        obtain ⟨s, hs, rfl, ws⟩ := DataW.trod_int u1 q1
        obtain ⟨l, hl2, hd2⟩ := open_ops u2 ho hone' co k0 k1 k2 q2
        simp at hp hs
        subst hp hs
        have e0 := hcell 0 (by omega)
        have e1 := hcell 1 (by omega)
        have e2 := hcell 2 (by omega)
        rw [Go.Deep.add_add] at e0 e1 e2
        simp only [Prod.mk.injEq] at hxy
        exact ⟨⟨p, s, v2, l⟩, ⟨by simpa using e0, by simpa using e1, by simpa using e2⟩, ⟨hl2, in64 wp, in64 ws⟩, _, _, _, hxy.1, hd2⟩
    have : Inhabited Cw := ⟨⟨0, 0, .slice none 0 0, []⟩⟩
    obtain ⟨f, hf⟩ := choose_lt each
    refine ⟨(List.range len).map f, ⟨.inr ⟨a, cap, by simp, by simpa using hl, hm, fun j u hj => ?_⟩, fun c hc => ?_⟩, .inr ⟨(List.range len).map D, (List.range (m - len)).map fun j => D (len + j), ?_, by simp, fun i c hic => ?_⟩⟩
    · obtain ⟨i, o, ho, hc⟩ := ccells_inv _ j u hj
      obtain ⟨hi, e⟩ := List.getElem?_eq_some_iff.1 ho
      simp at hi e
      obtain ⟨⟨k0, k1, k2⟩, _⟩ := hf i hi
      subst e
      rcases hc with ⟨rfl, rfl⟩ | ⟨rfl, rfl⟩ | ⟨rfl, rfl⟩
      · exact k0
      · exact k1
      · exact k2
    · obtain ⟨i, hi, rfl⟩ := List.mem_map.1 hc
      exact (hf i (by simpa using hi)).2.1
    · rfl
    · obtain ⟨hi, e⟩ := List.getElem?_eq_some_iff.1 hic
      simp at hi e
      subst e
      exact ⟨D i, by simp [hi], (hf i hi).2.2⟩

theorem sized_coms {ts : List TypeId} {ds : List (DataW H)} (h : (DataW.weightsEach P ts ds).all (· ≤ reachBytes) = true) {j : Nat} {t e o : TypeId} {f0 f1 f2 g0 g1 g2 : Field} {r : List Cw} {es sp : List (DataW H)} (ht : ts[j]? = some t) (hd : ds[j]? = some (.slice es sp)) (hlen : es.length = r.length) (hr : ∀ (i : Nat) (c : Cw), r[i]? = some c → ∃ d, es[i]? = some d ∧ ComD d c)
    (hu : P.underlying t = some (.slice e)) (he : P.underlying e = some (.struct #[f0, f1, f2])) (hb : P.bytesOf e = 40) (h2 : P.underlying f2.type = some (.slice o)) (ho : P.underlying o = some (.struct #[g0, g1, g2])) (hbo : P.bytesOf o = 40) :
    FitC r ∧ r.length * 40 ≤ 140737488351232 := by
  have hall := List.all_eq_true.1 h
  refine ⟨fun c hc => ?_, ?_⟩
  · obtain ⟨i, hi⟩ := List.getElem?_of_mem hc
    obtain ⟨d, hd1, x0, x1, d2, rfl, hd2⟩ := hr i c hi
    refine ops_fit (fun n hn => ?_) hd2 h2 ho hbo
    exact of_decide_eq_true (hall n (DataW.weights_mem_each ht hd n (by
      simp only [DataW.weights, hu]
      exact List.mem_cons_of_mem _ (List.mem_append_left _ (weights_all (List.mem_of_getElem? hd1) (com_weights he hn))))))
  · have := sized_slice h ht hd hu
    rw [hb] at this
    simp only [reachBytes] at this
    omega

end

end Go.Proofs.Ytabfihicdphjeaa
