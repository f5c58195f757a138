/- What an argument that is a page, or a slice of pages, comes in as; what the variable 'most' holds. -/
import Derived.Test.YthndeolibilnnaaDoorFrk
import Derived.Test.YthndeolibilnnaaDoorQb
import Derived.Test.YthndeolibilnnaaDoorRows
import Derived.MakeChecks
namespace Go.Proofs.YthndeolibilnnaaDoor
open Go.RowKit Go.ChangeShapes Go.WideShapes Go.Deep
set_option linter.unusedVariables false

/-- A page's cells, as a row's. -/
def pgc (x : Pm.Pg) : List Value := [.int .i64 x.e, .int .u8 x.r, .int .i64 x.a, .int .u8 x.p, .int .i64 x.f, .int .i64 x.b]
theorem pgc_len (x : Pm.Pg) : (pgc x).length = 6 := rfl

/-- A row of pages. -/
def RowP (w : World) (v : Value) (r : List Pm.Pg) : Prop := RowG pgc w v r ∧ ∀ x ∈ r, FitP x

theorem u8_of {z : Int} (h : (Lit.int .u8 z).wf = true) : 0 ≤ z ∧ z < 256 := by
  have := range_u8 (zs := [z]) (by simpa using h) 0
  simp at this
  omega

theorem fit_of {a b c d e f : Int} (h0 : (Lit.int .i64 a).wf = true) (h1 : (Lit.int .u8 b).wf = true) (h2 : (Lit.int .i64 c).wf = true) (h3 : (Lit.int .u8 d).wf = true) (h4 : (Lit.int .i64 e).wf = true) (h5 : (Lit.int .i64 f).wf = true) : FitP ⟨a, b, c, d, e, f⟩ := by
  have g0 := i64_of h0; have g1 := u8_of h1; have g2 := i64_of h2; have g3 := u8_of h3; have g4 := i64_of h4; have g5 := i64_of h5
  unfold I64 at g0 g2 g4 g5
  unfold FitP
  simp
  omega

section
variable {H : Type} {enc : TypeId × Value → H} {P : Program} {w : World} {base : Nat} {spare : Nat → Bool} {held : Bool}

theorem trod_struct6 {t : TypeId} {f0 f1 f2 f3 f4 f5 : Field} {fuel : Nat} {cs : List Value} {x : DataW H × List MemPlace} (ht : P.underlying t = some (.struct #[f0, f1, f2, f3, f4, f5])) (h : DataW.trod enc P w base spare held fuel t cs = some x) :
    ∃ y0 y1 y2 y3 y4 y5 n, DataW.trod enc P w base spare held n f0.type ((cs.drop f0.offset).take (P.cellsOf f0.type)) = some y0 ∧
      DataW.trod enc P w base spare held n f1.type ((cs.drop f1.offset).take (P.cellsOf f1.type)) = some y1 ∧ DataW.trod enc P w base spare held n f2.type ((cs.drop f2.offset).take (P.cellsOf f2.type)) = some y2 ∧
      DataW.trod enc P w base spare held n f3.type ((cs.drop f3.offset).take (P.cellsOf f3.type)) = some y3 ∧ DataW.trod enc P w base spare held n f4.type ((cs.drop f4.offset).take (P.cellsOf f4.type)) = some y4 ∧
      DataW.trod enc P w base spare held n f5.type ((cs.drop f5.offset).take (P.cellsOf f5.type)) = some y5 := by
  obtain ⟨xs, n, _, rfl, hl, hlen, hf⟩ := DataW.trod_struct ht h
  match xs, hlen with
  | [y0, y1, y2, y3, y4, y5], _ => exact ⟨y0, y1, y2, y3, y4, y5, n, by simpa using hf 0 f0 rfl, by simpa using hf 1 f1 rfl, by simpa using hf 2 f2 rfl, by simpa using hf 3 f3 rfl, by simpa using hf 4 f4 rfl, by simpa using hf 5 f5 rfl⟩

/-- A page by value. -/
theorem open_page {r : Reach} {b0 : Nat} {t : TypeId} {f0 f1 f2 f3 f4 f5 : Field} {v : Value} {d : DataW H} {p : List MemPlace} (hs : P.underlying t = some (.struct #[f0, f1, f2, f3, f4, f5])) (hone : oneCellFields P #[f0, f1, f2, f3, f4, f5] = true) (hC : P.cellsOf t = 6)
    (u0 : P.underlying f0.type = some (.int .i64)) (u1 : P.underlying f1.type = some (.int .u8)) (u2 : P.underlying f2.type = some (.int .i64)) (u3 : P.underlying f3.type = some (.int .u8)) (u4 : P.underlying f4.type = some (.int .i64)) (u5 : P.underlying f5.type = some (.int .i64))
    (hv : Value.okWide P w r b0 t v) (h : DataW.Trod enc P w base spare held t v d p) : ∃ a : Pm.Pg, v = vp a ∧ FitP a := by
  obtain ⟨cs, rfl, hsz⟩ := okWide_struct hs hv
  obtain ⟨c0, c1, c2, c3, c4, c5, rfl⟩ : ∃ c0 c1 c2 c3 c4 c5, cs = #[c0, c1, c2, c3, c4, c5] := by
    have hsz' := hsz.trans hC
    obtain ⟨l⟩ := cs
    match l, hsz' with
    | [c0, c1, c2, c3, c4, c5], _ => exact ⟨c0, c1, c2, c3, c4, c5, rfl⟩
  obtain ⟨fuel, hf⟩ := h
  obtain ⟨y0, y1, y2, y3, y4, y5, n, h0, h1, h2, h3, h4, h5⟩ := trod_struct6 hs hf
  obtain ⟨o0, k0⟩ := hone_of hone 0 f0 rfl
  obtain ⟨o1, k1⟩ := hone_of hone 1 f1 rfl
  obtain ⟨o2, k2⟩ := hone_of hone 2 f2 rfl
  obtain ⟨o3, k3⟩ := hone_of hone 3 f3 rfl
  obtain ⟨o4, k4⟩ := hone_of hone 4 f4 rfl
  obtain ⟨o5, k5⟩ := hone_of hone 5 f5 rfl
  simp [Value.cells, o0, o1, o2, o3, o4, o5, k0, k1, k2, k3, k4, k5] at h0 h1 h2 h3 h4 h5
  obtain ⟨p0, e0, _, w0⟩ := DataW.trod_int u0 h0
  obtain ⟨p1, e1, _, w1⟩ := DataW.trod_int u1 h1
  obtain ⟨p2, e2, _, w2⟩ := DataW.trod_int u2 h2
  obtain ⟨p3, e3, _, w3⟩ := DataW.trod_int u3 h3
  obtain ⟨p4, e4, _, w4⟩ := DataW.trod_int u4 h4
  obtain ⟨p5, e5, _, w5⟩ := DataW.trod_int u5 h5
  simp at e0 e1 e2 e3 e4 e5
  subst e0 e1 e2 e3 e4 e5
  exact ⟨⟨p0, p1, p2, p3, p4, p5⟩, rfl, fit_of w0 w1 w2 w3 w4 w5⟩

/-- A slice of pages. -/
theorem open_pages {t e : TypeId} {f0 f1 f2 f3 f4 f5 : Field} {fuel : Nat} {v : Value} {x : DataW H × List MemPlace} (ht : P.underlying t = some (.slice e)) (he : P.underlying e = some (.struct #[f0, f1, f2, f3, f4, f5]))
    (hone : oneCellFields P #[f0, f1, f2, f3, f4, f5] = true) (ce : P.cellsOf e = 6)
    (u0 : P.underlying f0.type = some (.int .i64)) (u1 : P.underlying f1.type = some (.int .u8)) (u2 : P.underlying f2.type = some (.int .i64)) (u3 : P.underlying f3.type = some (.int .u8)) (u4 : P.underlying f4.type = some (.int .i64)) (u5 : P.underlying f5.type = some (.int .i64))
    (h : DataW.trod enc P w base spare held fuel t [v] = some x) : ∃ r : List Pm.Pg, RowP w v r ∧ ((x.1 = .nil ∧ r = []) ∨ ∃ ds sp, x.1 = .slice ds sp ∧ ds.length = r.length) := by
  rcases open_slice ht h with ⟨hv, hx⟩ | ⟨a, len, cap, m, n, D, Pl, hv, hb, hl, hm, hmm, rfl, hx⟩
  · simp at hv
    subst hv hx
    exact ⟨[], ⟨RowG.nil _ _, fun a ha => by simp at ha⟩, .inl ⟨rfl, rfl⟩⟩
  · simp at hv
    subst hv
    have hlm : len ≤ m := by rw [hmm]; split <;> omega
    obtain ⟨o0, k0⟩ := hone_of hone 0 f0 rfl
    obtain ⟨o1, k1⟩ := hone_of hone 1 f1 rfl
    obtain ⟨o2, k2⟩ := hone_of hone 2 f2 rfl
    obtain ⟨o3, k3⟩ := hone_of hone 3 f3 rfl
    obtain ⟨o4, k4⟩ := hone_of hone 4 f4 rfl
    obtain ⟨o5, k5⟩ := hone_of hone 5 f5 rfl
    have each : ∀ i, i < len → ∃ c : Pm.Pg, (∀ m u, (pgc c)[m]? = some u → w.cell? (a.add (i * 6 + m)) = some u) ∧ FitP c := by
      intro i hi
      obtain ⟨cs', h1, h2⟩ := hx i (by omega)
      rw [ce] at h1
      obtain ⟨_, hlen, hcell⟩ := World.cells?_some h1
      obtain ⟨y0, y1, y2, y3, y4, y5, k, q0, q1, q2, q3, q4, q5⟩ := trod_struct6 he h2
      match cs', hlen with
      | [v0, v1, v2, v3, v4, v5], _ =>
        simp [o0, o1, o2, o3, o4, o5, k0, k1, k2, k3, k4, k5] at q0 q1 q2 q3 q4 q5
        obtain ⟨p0, e0, _, w0⟩ := DataW.trod_int u0 q0
        obtain ⟨p1, e1, _, w1⟩ := DataW.trod_int u1 q1
        obtain ⟨p2, e2, _, w2⟩ := DataW.trod_int u2 q2
        obtain ⟨p3, e3, _, w3⟩ := DataW.trod_int u3 q3
        obtain ⟨p4, e4, _, w4⟩ := DataW.trod_int u4 q4
        obtain ⟨p5, e5, _, w5⟩ := DataW.trod_int u5 q5
        simp at e0 e1 e2 e3 e4 e5
        subst e0 e1 e2 e3 e4 e5
        refine ⟨⟨p0, p1, p2, p3, p4, p5⟩, fun m u hu => ?_, fit_of w0 w1 w2 w3 w4 w5⟩
        have hm6 : m < 6 := (List.getElem?_eq_some_iff.1 hu).1
        have hc := hcell m (by omega)
        rw [Go.Deep.add_add] at hc
        rw [hc]
        rcases (show m = 0 ∨ m = 1 ∨ m = 2 ∨ m = 3 ∨ m = 4 ∨ m = 5 by omega) with rfl | rfl | rfl | rfl | rfl | rfl <;> simpa [pgc] using hu
    have : Inhabited Pm.Pg := ⟨Pm.no⟩
    obtain ⟨f, hf⟩ := choose_lt each
    refine ⟨(List.range len).map f, ⟨.inr ⟨a, cap, by simp, by simpa using hl, hm, fun j u hj => ?_⟩, fun c hc => ?_⟩, .inr ⟨(List.range len).map D, (List.range (m - len)).map fun j => D (len + j), rfl, by simp⟩⟩
    · obtain ⟨i, c, m', hic, rfl, hu⟩ := gcells_inv pgc_len (by decide) _ j u hj
      obtain ⟨hi, e⟩ := List.getElem?_eq_some_iff.1 hic
      simp at hi e
      subst e
      exact (hf i hi).1 m' u hu
    · obtain ⟨i, hi, rfl⟩ := List.mem_map.1 hc
      exact (hf i (by simpa using hi)).2

end

set_option maxRecDepth 100000 in
/-- What the card ties: the variable 'most' holds its six numbers. -/
theorem mst_of {W : World} (h : laidMetH Tryd.prog [("lagleash/page.most", Rows.laid_lagleash_page_most)] W) : Mst W := by
  rw [MakeChecks.laidMetH_plain _ _ _ (by kernel_rfl)] at h
  obtain ⟨ps, ⟨g, t, cs, fuel, p, q, hg, ht, hv, hd, _, _⟩, _, _⟩ := h
  obtain rfl := Option.some.inj ((show Tryd.prog.globalNamed "lagleash/page.most" = some 0 by kernel_rfl).symm.trans hg)
  obtain rfl := Option.some.inj ((show (Tryd.prog.globals[0]?).map (·.type) = some 57 by kernel_rfl).symm.trans ht)
  have c3 : Tryd.prog.cellsOf 3 = 1 := by kernel_rfl
  have c49 : Tryd.prog.cellsOf 57 = 6 := by kernel_rfl
  obtain ⟨xs, m, _, ex, hlen, hl, hel⟩ := DataW.trod_array Tryd.underlying57 hd
  rw [c49] at hlen
  have hcell := fun r => World.var?_cell hg hv r
  obtain ⟨l⟩ := cs
  match l, hlen with
  | [a0, a1, a2, a3, a4, a5], _ =>
    match xs, hl with
    | [x0, x1, x2, x3, x4, x5], _ =>
      have e3 := (DataW.agg.inj (Prod.mk.inj ex).1)
      simp only [List.map_cons, List.map_nil, List.cons.injEq, and_true] at e3
      obtain ⟨t0, t1, t2, t3, t4, t5⟩ := e3
      have k0 := hel 0 (by omega); have k1 := hel 1 (by omega); have k2 := hel 2 (by omega); have k3 := hel 3 (by omega); have k4 := hel 4 (by omega); have k5 := hel 5 (by omega)
      rw [c3] at k0 k1 k2 k3 k4 k5
      obtain ⟨z0, b0, d0, _⟩ := DataW.trod_int Tryd.underlying3 k0
      obtain ⟨z1, b1, d1, _⟩ := DataW.trod_int Tryd.underlying3 k1
      obtain ⟨z2, b2, d2, _⟩ := DataW.trod_int Tryd.underlying3 k2
      obtain ⟨z3, b3, d3, _⟩ := DataW.trod_int Tryd.underlying3 k3
      obtain ⟨z4, b4, d4, _⟩ := DataW.trod_int Tryd.underlying3 k4
      obtain ⟨z5, b5, d5, _⟩ := DataW.trod_int Tryd.underlying3 k5
      simp at b0 b1 b2 b3 b4 b5 d0 d1 d2 d3 d4 d5
      subst b0 b1 b2 b3 b4 b5 d0 d1 d2 d3 d4 d5
      simp at t0 t1 t2 t3 t4 t5
      subst t0 t1 t2 t3 t4 t5
      exact ⟨hcell 0, hcell 1, hcell 2, hcell 3, hcell 4, hcell 5⟩

end Go.Proofs.YthndeolibilnnaaDoor
