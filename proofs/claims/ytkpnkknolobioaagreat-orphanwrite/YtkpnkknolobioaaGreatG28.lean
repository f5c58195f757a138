/- Texts of one layer, one behind the other. -/
import Derived.Test.YtkpnkknolobioaaGreatG27
import Derived.Test.YtkpnkknolobioaaGreatG5
import Derived.Test.YtkpnkknolobioaaGreatG11
/- What an argument that is a commit, or a slice of commits, comes in as. No program. -/
namespace Go.Proofs.YtkpnkknolobioaaGreat
open Go.RowKit Go.ChangeShapes Go.WideShapes Go.Deep
set_option linter.unusedVariables false

theorem in64 {z : Int} (h : (Lit.int .i64 z).wf = true) : In64 z := by
  have := range_i64 (zs := [z]) (by simpa using h) 0
  simp at this
  exact ⟨by omega, by omega⟩

theorem ccells_inv : ∀ (l : List Cw) (j : Nat) (u : Value), (ccells l)[j]? = some u → ∃ i c, l[i]? = some c ∧ ((j = i * 3 ∧ u = .int .i64 c.e) ∨ (j = i * 3 + 1 ∧ u = .int .i64 c.n) ∨ (j = i * 3 + 2 ∧ u = c.v))
  | [], j, u, h => by simp [ccells] at h
  | o :: r, 0, u, h => ⟨0, o, rfl, .inl ⟨rfl, by simpa [ccells, ccell] using h.symm⟩⟩
  | o :: r, 1, u, h => ⟨0, o, rfl, .inr (.inl ⟨rfl, by simpa [ccells, ccell] using h.symm⟩)⟩
  | o :: r, 2, u, h => ⟨0, o, rfl, .inr (.inr ⟨rfl, by simpa [ccells, ccell] using h.symm⟩)⟩
  | o :: r, j + 3, u, h => by
    have h' : (ccells r)[j]? = some u := by simpa [ccells, ccell] using h
    obtain ⟨i, q, hq, hc⟩ := ccells_inv r j u h'
    refine ⟨i + 1, q, by simpa using hq, ?_⟩
    rcases hc with ⟨rfl, hu⟩ | ⟨rfl, hu⟩ | ⟨rfl, hu⟩
    · exact .inl ⟨by omega, hu⟩
    · exact .inr (.inl ⟨by omega, hu⟩)
    · exact .inr (.inr ⟨by omega, hu⟩)

section
variable {H : Type} {enc : TypeId × Value → H} {P : Program} {w : World} {base : Nat} {spare : Nat → Bool} {held : Bool}

theorem com_weights {t : TypeId} {f0 f1 f2 : Field} {x0 x1 d : DataW H} {n : Nat} (hu : P.underlying t = some (.struct #[f0, f1, f2])) (hn : n ∈ d.weights P f2.type) : n ∈ (DataW.agg [x0, x1, d]).weights P t := by
  simp only [DataW.weights, hu]
  simp [DataW.weightsEach, hn]

theorem sized_com {ts : List TypeId} {ds : List (DataW H)} (h : (DataW.weightsEach P ts ds).all (· ≤ reachBytes) = true) {j : Nat} {t e : TypeId} {f0 f1 f2 g0 g1 g2 : Field} {l : List Bm.Ov} {x0 x1 d : DataW H} (ht : ts[j]? = some t) (hd : ds[j]? = some (.agg [x0, x1, d])) (hu : P.underlying t = some (.struct #[f0, f1, f2])) (hl : OpsD d l) (h2 : P.underlying f2.type = some (.slice e)) (he : P.underlying e = some (.struct #[g0, g1, g2])) (hb : P.bytesOf e = 40) :
    FitO l ∧ l.length * 40 ≤ 140737488351232 := by
  have hall := List.all_eq_true.1 h
  refine ops_fit (fun n hn => ?_) hl h2 he hb
  exact of_decide_eq_true (hall n (DataW.weights_mem_each ht hd n (com_weights hu hn)))

/-- A commit of a list as a datum. -/
def ComD (d : DataW H) (c : Cw) : Prop := ∃ x0 x1 d2, d = .agg [x0, x1, d2] ∧ OpsD d2 c.l

theorem open_coms {t e o : TypeId} {f0 f1 f2 g0 g1 g2 : Field} {fuel : Nat} {v : Value} {x : DataW H × List MemPlace} (ht : P.underlying t = some (.slice e)) (he : P.underlying e = some (.struct #[f0, f1, f2]))
    (hone : oneCellFields P #[f0, f1, f2] = true) (ce : P.cellsOf e = 3) (u0 : P.underlying f0.type = some (.int .i64)) (u1 : P.underlying f1.type = some (.int .i64)) (u2 : P.underlying f2.type = some (.slice o))
    (ho : P.underlying o = some (.struct #[g0, g1, g2])) (hone' : oneCellFields P #[g0, g1, g2] = true) (co : P.cellsOf o = 3) (k0 : P.underlying g0.type = some .bool) (k1 : P.underlying g1.type = some .string) (k2 : P.underlying g2.type = some .string)
    (h : DataW.trod enc P w base spare held fuel t [v] = some x) : ∃ r : List Cw, IsC w v r ∧ ((x.1 = .nil ∧ r = []) ∨ ∃ ds sp, x.1 = .slice ds sp ∧ ds.length = r.length ∧ ∀ (i : Nat) (c : Cw), r[i]? = some c → ∃ d, ds[i]? = some d ∧ ComD d c) := by
  rcases open_slice ht h with ⟨hv, hx⟩ | ⟨a, len, cap, m, n, D, Pl, hv, hb, hl, hm, hmm, rfl, hx⟩
  · simp at hv
    subst hv hx
    exact ⟨[], IsC.nil _, .inl ⟨rfl, rfl⟩⟩
  · simp at hv
    subst hv
    have hlm : len ≤ m := by rw [hmm]; split <;> omega
    obtain ⟨o0, c0⟩ := hone_of hone 0 f0 rfl
    obtain ⟨o1, c1⟩ := hone_of hone 1 f1 rfl
    obtain ⟨o2, c2⟩ := hone_of hone 2 f2 rfl
    have each : ∀ i, i < len → ∃ c : Cw, (w.cell? (a.add (i * 3)) = some (.int .i64 c.e) ∧ w.cell? (a.add (i * 3 + 1)) = some (.int .i64 c.n) ∧ w.cell? (a.add (i * 3 + 2)) = some c.v) ∧ (IsO w c.v c.l ∧ In64 c.e ∧ In64 c.n) ∧ ComD (D i) c := by
      intro i hi
      obtain ⟨cs', h1, h2⟩ := hx i (by omega)
      rw [ce] at h1
      obtain ⟨_, hlen, hcell⟩ := World.cells?_some h1
      obtain ⟨y0, y1, y2, k, hxy, _, q0, q1, q2⟩ := trod_struct3 he h2
      match cs', hlen with
      | [v0, v1, v2], _ =>
        simp [o0, o1, o2, c0, c1, c2] at q0 q1 q2
        obtain ⟨p, hp, rfl, wp⟩ := DataW.trod_int u0 q0
        obtain ⟨s, hs, rfl, ws⟩ := DataW.trod_int u1 q1
        obtain ⟨l, hl2, hd2⟩ := open_ops u2 ho hone' co k0 k1 k2 q2
        simp at hp hs
        subst hp hs
        have e0 := hcell 0 (by omega)
        have e1 := hcell 1 (by omega)
        have e2 := hcell 2 (by omega)
        rw [Go.Deep.add_add] at e0 e1 e2
        simp only [Prod.mk.injEq] at hxy
        exact ⟨⟨p, s, v2, l⟩, ⟨by simpa using e0, by simpa using e1, by simpa using e2⟩, ⟨hl2, in64 wp, in64 ws⟩, _, _, _, hxy.1, hd2⟩
    have : Inhabited Cw := ⟨⟨0, 0, .slice none 0 0, []⟩⟩
    obtain ⟨f, hf⟩ := choose_lt each
    refine ⟨(List.range len).map f, ⟨.inr ⟨a, cap, by simp, by simpa using hl, hm, fun j u hj => ?_⟩, fun c hc => ?_⟩, .inr ⟨(List.range len).map D, (List.range (m - len)).map fun j => D (len + j), ?_, by simp, fun i c hic => ?_⟩⟩
    · obtain ⟨i, o, ho, hc⟩ := ccells_inv _ j u hj
      obtain ⟨hi, e⟩ := List.getElem?_eq_some_iff.1 ho
      simp at hi e
      obtain ⟨⟨k0, k1, k2⟩, _⟩ := hf i hi
      subst e
      rcases hc with ⟨rfl, rfl⟩ | ⟨rfl, rfl⟩ | ⟨rfl, rfl⟩
      · exact k0
      · exact k1
      · exact k2
    · obtain ⟨i, hi, rfl⟩ := List.mem_map.1 hc
      exact (hf i (by simpa using hi)).2.1
    · rfl
    · obtain ⟨hi, e⟩ := List.getElem?_eq_some_iff.1 hic
      simp at hi e
      subst e
      exact ⟨D i, by simp [hi], (hf i hi).2.2⟩

theorem sized_coms {ts : List TypeId} {ds : List (DataW H)} (h : (DataW.weightsEach P ts ds).all (· ≤ reachBytes) = true) {j : Nat} {t e o : TypeId} {f0 f1 f2 g0 g1 g2 : Field} {r : List Cw} {es sp : List (DataW H)} (ht : ts[j]? = some t) (hd : ds[j]? = some (.slice es sp)) (hlen : es.length = r.length) (hr : ∀ (i : Nat) (c : Cw), r[i]? = some c → ∃ d, es[i]? = some d ∧ ComD d c)
    (hu : P.underlying t = some (.slice e)) (he : P.underlying e = some (.struct #[f0, f1, f2])) (hb : P.bytesOf e = 40) (h2 : P.underlying f2.type = some (.slice o)) (ho : P.underlying o = some (.struct #[g0, g1, g2])) (hbo : P.bytesOf o = 40) :
    FitC r ∧ r.length * 40 ≤ 140737488351232 := by
  have hall := List.all_eq_true.1 h
  refine ⟨fun c hc => ?_, ?_⟩
  · obtain ⟨i, hi⟩ := List.getElem?_of_mem hc
    obtain ⟨d, hd1, x0, x1, d2, rfl, hd2⟩ := hr i c hi
    refine ops_fit (fun n hn => ?_) hd2 h2 ho hbo
    exact of_decide_eq_true (hall n (DataW.weights_mem_each ht hd n (by
      simp only [DataW.weights, hu]
      exact List.mem_cons_of_mem _ (List.mem_append_left _ (weights_all (List.mem_of_getElem? hd1) (com_weights he hn))))))
  · have := sized_slice h ht hd hu
    rw [hb] at this
    simp only [reachBytes] at this
    omega

end

end Go.Proofs.YtkpnkknolobioaaGreat

/- What an argument that is a section, or a slice of sections, comes in as. No program. -/
namespace Go.Proofs.YtkpnkknolobioaaGreat
open Go.RowKit Go.ChangeShapes Go.WideShapes Go.Deep
set_option linter.unusedVariables false

section
variable {H : Type} {enc : TypeId × Value → H} {P : Program} {w : World} {base : Nat} {spare : Nat → Bool} {held : Bool}

/-- Commits as a datum. -/
def ComsD (d : DataW H) (r : List Cw) : Prop := (d = .nil ∧ r = []) ∨ ∃ ds sp, d = .slice ds sp ∧ ds.length = r.length ∧ ∀ (i : Nat) (c : Cw), r[i]? = some c → ∃ d, ds[i]? = some d ∧ ComD d c

theorem comsd_fit {t e o : TypeId} {f0 f1 f2 g0 g1 g2 : Field} {d : DataW H} {r : List Cw} (h : ∀ n ∈ d.weights P t, n ≤ reachBytes) (hd : ComsD d r)
    (hu : P.underlying t = some (.slice e)) (he : P.underlying e = some (.struct #[f0, f1, f2])) (hb : P.bytesOf e = 40) (h2 : P.underlying f2.type = some (.slice o)) (ho : P.underlying o = some (.struct #[g0, g1, g2])) (hbo : P.bytesOf o = 40) : FitC r ∧ r.length * 40 ≤ 140737488351232 := by
  rcases hd with ⟨_, rfl⟩ | ⟨es, sp, rfl, hlen, hr⟩
  · exact ⟨fun c hc => by simp at hc, by simp⟩
  refine ⟨fun c hc => ?_, ?_⟩
  · obtain ⟨i, hi⟩ := List.getElem?_of_mem hc
    obtain ⟨d, hd1, x0, x1, d2, rfl, hd2⟩ := hr i c hi
    refine ops_fit (fun n hn => ?_) hd2 h2 ho hbo
    exact h n (by
      simp only [DataW.weights, hu]
      exact List.mem_cons_of_mem _ (List.mem_append_left _ (weights_all (List.mem_of_getElem? hd1) (com_weights he hn))))
  · have := h ((es.length + sp.length) * P.bytesOf e) (by simp [DataW.weights, hu])
    rw [hb] at this
    simp only [reachBytes] at this
    omega

/-- A section of a list as a datum. -/
def SecD (d : DataW H) (x : Sw) : Prop := ∃ x0 x1 d2, d = .agg [x0, x1, d2] ∧ ComsD d2 x.rs

theorem open_secs {t e c o : TypeId} {s0 s1 s2 f0 f1 f2 g0 g1 g2 : Field} {fuel : Nat} {v : Value} {x : DataW H × List MemPlace} (ht : P.underlying t = some (.slice e)) (he : P.underlying e = some (.struct #[s0, s1, s2]))
    (hone : oneCellFields P #[s0, s1, s2] = true) (ce : P.cellsOf e = 3) (v0 : P.underlying s0.type = some (.int .i64)) (v1 : P.underlying s1.type = some (.int .i64)) (v2 : P.underlying s2.type = some (.slice c))
    (hc : P.underlying c = some (.struct #[f0, f1, f2])) (honeC : oneCellFields P #[f0, f1, f2] = true) (cc : P.cellsOf c = 3) (u0 : P.underlying f0.type = some (.int .i64)) (u1 : P.underlying f1.type = some (.int .i64)) (u2 : P.underlying f2.type = some (.slice o))
    (ho : P.underlying o = some (.struct #[g0, g1, g2])) (hone' : oneCellFields P #[g0, g1, g2] = true) (co : P.cellsOf o = 3) (k0 : P.underlying g0.type = some .bool) (k1 : P.underlying g1.type = some .string) (k2 : P.underlying g2.type = some .string)
    (h : DataW.trod enc P w base spare held fuel t [v] = some x) : ∃ r : List Sw, IsSe w v r ∧ ((x.1 = .nil ∧ r = []) ∨ ∃ ds sp, x.1 = .slice ds sp ∧ ds.length = r.length ∧ ∀ (i : Nat) (y : Sw), r[i]? = some y → ∃ d, ds[i]? = some d ∧ SecD d y) := by
  rcases open_slice ht h with ⟨hv, hx⟩ | ⟨a, len, cap, m, n, D, Pl, hv, hb, hl, hm, hmm, rfl, hx⟩
  · simp at hv
    subst hv hx
    exact ⟨[], IsSe.nil _, .inl ⟨rfl, rfl⟩⟩
  · simp at hv
    subst hv
    have hlm : len ≤ m := by rw [hmm]; split <;> omega
    obtain ⟨o0, c0⟩ := hone_of hone 0 s0 rfl
    obtain ⟨o1, c1⟩ := hone_of hone 1 s1 rfl
    obtain ⟨o2, c2⟩ := hone_of hone 2 s2 rfl
    have each : ∀ i, i < len → ∃ y : Sw, (w.cell? (a.add (i * 3)) = some (.int .i64 y.e) ∧ w.cell? (a.add (i * 3 + 1)) = some (.int .i64 y.f) ∧ w.cell? (a.add (i * 3 + 2)) = some y.v) ∧ (IsC w y.v y.rs ∧ In64 y.e ∧ In64 y.f) ∧ SecD (D i) y := by
      intro i hi
      obtain ⟨cs', h1, h2⟩ := hx i (by omega)
      rw [ce] at h1
      obtain ⟨_, hlen, hcell⟩ := World.cells?_some h1
      obtain ⟨y0, y1, y2, k, hxy, _, q0, q1, q2⟩ := trod_struct3 he h2
      match cs', hlen with
      | [w0, w1, w2], _ =>
        simp [o0, o1, o2, c0, c1, c2] at q0 q1 q2
        obtain ⟨p, hp, rfl, wp⟩ := DataW.trod_int v0 q0
        obtain ⟨s, hs, rfl, ws⟩ := DataW.trod_int v1 q1
        obtain ⟨l, hl2, hd2⟩ := open_coms v2 hc honeC cc u0 u1 u2 ho hone' co k0 k1 k2 q2
        simp at hp hs
        subst hp hs
        have e0 := hcell 0 (by omega)
        have e1 := hcell 1 (by omega)
        have e2 := hcell 2 (by omega)
        rw [Go.Deep.add_add] at e0 e1 e2
        simp only [Prod.mk.injEq] at hxy
        exact ⟨⟨p, s, w2, l⟩, ⟨by simpa using e0, by simpa using e1, by simpa using e2⟩, ⟨hl2, in64 wp, in64 ws⟩, _, _, _, hxy.1, hd2⟩
    have : Inhabited Sw := ⟨⟨0, 0, .slice none 0 0, []⟩⟩
    obtain ⟨f, hf⟩ := choose_lt each
    refine ⟨(List.range len).map f, ⟨.inr ⟨a, cap, by rw [swc_len]; simp, by rw [swc_len]; simpa using hl, hm, fun j u hj => ?_⟩, fun y hy => ?_⟩, .inr ⟨(List.range len).map D, (List.range (m - len)).map fun j => D (len + j), ?_, by simp, fun i y hiy => ?_⟩⟩
    · obtain ⟨i, q, hq, hc⟩ := ccells_inv _ j u hj
      unfold swc at hq
      rw [List.map_map] at hq
      obtain ⟨hi, e⟩ := List.getElem?_eq_some_iff.1 hq
      simp at hi e
      obtain ⟨⟨k0, k1, k2⟩, _⟩ := hf i hi
      subst e
      rcases hc with ⟨rfl, rfl⟩ | ⟨rfl, rfl⟩ | ⟨rfl, rfl⟩
      · exact k0
      · exact k1
      · exact k2
    · obtain ⟨i, hi, rfl⟩ := List.mem_map.1 hy
      exact (hf i (by simpa using hi)).2.1
    · rfl
    · obtain ⟨hi, e⟩ := List.getElem?_eq_some_iff.1 hiy
      simp at hi e
      subst e
      exact ⟨D i, by simp [hi], (hf i hi).2.2⟩

theorem sized_secs {ts : List TypeId} {ds : List (DataW H)} (h : (DataW.weightsEach P ts ds).all (· ≤ reachBytes) = true) {j : Nat} {t e c o : TypeId} {s0 s1 s2 f0 f1 f2 g0 g1 g2 : Field} {r : List Sw} {es sp : List (DataW H)} (ht : ts[j]? = some t) (hd : ds[j]? = some (.slice es sp)) (hlen : es.length = r.length) (hr : ∀ (i : Nat) (y : Sw), r[i]? = some y → ∃ d, es[i]? = some d ∧ SecD d y)
    (hu : P.underlying t = some (.slice e)) (he : P.underlying e = some (.struct #[s0, s1, s2])) (hb : P.bytesOf e = 40) (h2 : P.underlying s2.type = some (.slice c)) (hc : P.underlying c = some (.struct #[f0, f1, f2])) (hbc : P.bytesOf c = 40) (h3 : P.underlying f2.type = some (.slice o)) (ho : P.underlying o = some (.struct #[g0, g1, g2])) (hbo : P.bytesOf o = 40) :
    FitSe r ∧ r.length * 40 ≤ 140737488351232 := by
  have hall := List.all_eq_true.1 h
  refine ⟨fun y hy => ?_, ?_⟩
  · obtain ⟨i, hi⟩ := List.getElem?_of_mem hy
    obtain ⟨d, hd1, x0, x1, d2, rfl, hd2⟩ := hr i y hi
    refine comsd_fit (fun n hn => ?_) hd2 h2 hc hbc h3 ho hbo
    exact of_decide_eq_true (hall n (DataW.weights_mem_each ht hd n (by
      simp only [DataW.weights, hu]
      exact List.mem_cons_of_mem _ (List.mem_append_left _ (weights_all (List.mem_of_getElem? hd1) (com_weights he hn))))))
  · have := sized_slice h ht hd hu
    rw [hb] at this
    simp only [reachBytes] at this
    omega

/-- A section by value. -/
theorem open_section {r : Reach} {b0 : Nat} {t c o : TypeId} {s0 s1 s2 f0 f1 f2 g0 g1 g2 : Field} {v : Value} {d : DataW H} {p : List MemPlace} (hs : P.underlying t = some (.struct #[s0, s1, s2])) (hone : oneCellFields P #[s0, s1, s2] = true) (hC : P.cellsOf t = 3)
    (v0 : P.underlying s0.type = some (.int .i64)) (v1 : P.underlying s1.type = some (.int .i64)) (v2 : P.underlying s2.type = some (.slice c))
    (hc : P.underlying c = some (.struct #[f0, f1, f2])) (honeC : oneCellFields P #[f0, f1, f2] = true) (cc : P.cellsOf c = 3) (bc : P.bytesOf c = 40) (u0 : P.underlying f0.type = some (.int .i64)) (u1 : P.underlying f1.type = some (.int .i64)) (u2 : P.underlying f2.type = some (.slice o))
    (ho : P.underlying o = some (.struct #[g0, g1, g2])) (hone' : oneCellFields P #[g0, g1, g2] = true) (co : P.cellsOf o = 3) (bo : P.bytesOf o = 40) (k0 : P.underlying g0.type = some .bool) (k1 : P.underlying g1.type = some .string) (k2 : P.underlying g2.type = some .string)
    (hv : Value.okWide P w r b0 t v) (h : DataW.Trod enc P w base spare held t v d p) (hw : ∀ n ∈ d.weights P t, n ≤ reachBytes) : ∃ x : Sw, v = .agg #[.int .i64 x.e, .int .i64 x.f, x.v] ∧ IsC w x.v x.rs ∧ FitC x.rs ∧ x.rs.length * 40 ≤ 140737488351232 := by
  obtain ⟨cs, rfl, hsz⟩ := okWide_struct hs hv
  obtain ⟨a0, a1, a2, rfl⟩ : ∃ c0 c1 c2, cs = #[c0, c1, c2] := by
    have hsz' := hsz.trans hC
    obtain ⟨l⟩ := cs
    match l, hsz' with
    | [c0, c1, c2], _ => exact ⟨c0, c1, c2, rfl⟩
  obtain ⟨fuel, hf⟩ := h
  obtain ⟨y0, y1, y2, k, hxy, _, q0, q1, q2⟩ := trod_struct3 hs hf
  obtain ⟨o0, c0⟩ := hone_of hone 0 s0 rfl
  obtain ⟨o1, c1⟩ := hone_of hone 1 s1 rfl
  obtain ⟨o2, c2⟩ := hone_of hone 2 s2 rfl
  simp [Value.cells, o0, o1, o2, c0, c1, c2] at q0 q1 q2
  obtain ⟨p0, e0, _, _⟩ := DataW.trod_int v0 q0
  obtain ⟨p1, e1, _, _⟩ := DataW.trod_int v1 q1
  obtain ⟨l, hl2, hd2⟩ := open_coms v2 hc honeC cc u0 u1 u2 ho hone' co k0 k1 k2 q2
  simp at e0 e1
  subst e0 e1
  simp only [Prod.mk.injEq] at hxy
  have hw2 : ∀ n ∈ y2.1.weights P s2.type, n ≤ reachBytes := fun n hn => hw n (by
    rw [hxy.1]
    exact com_weights hs hn)
  obtain ⟨g1', g2'⟩ := comsd_fit hw2 hd2 v2 hc bc u2 ho bo
  exact ⟨⟨p0, p1, a2, l⟩, rfl, hl2, g1', g2'⟩

end

end Go.Proofs.YtkpnkknolobioaaGreat
