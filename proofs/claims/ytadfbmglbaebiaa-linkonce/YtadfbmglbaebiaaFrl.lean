/- What an argument that is a call of a link, or a slice of such calls, comes in as. No program. -/
import Derived.SizedLaws
import Derived.Lib.SmallJoins
import Derived.Deep.Slices
import Derived.Test.YtadfbmglbaebiaaLnl
import Derived.Test.YtadfbmglbaebiaaFrk
namespace Go.Proofs.Ytadfbmglbaebiaa
open Go.RowKit Go.ChangeShapes Go.WideShapes Go.Deep
set_option linter.unusedVariables false

section
variable {H : Type} {enc : TypeId × Value → H} {P : Program} {w : World} {base : Nat} {spare : Nat → Bool} {held : Bool}

theorem trod_struct3 {t : TypeId} {f0 f1 f2 : Field} {fuel : Nat} {cs : List Value} {x : DataW H × List MemPlace} (ht : P.underlying t = some (.struct #[f0, f1, f2])) (h : DataW.trod enc P w base spare held fuel t cs = some x) :
    ∃ y0 y1 y2 n, x = (.agg [y0.1, y1.1, y2.1], y0.2 ++ (y1.2 ++ y2.2)) ∧ cs.length = P.cellsOf t ∧ DataW.trod enc P w base spare held n f0.type ((cs.drop f0.offset).take (P.cellsOf f0.type)) = some y0 ∧
      DataW.trod enc P w base spare held n f1.type ((cs.drop f1.offset).take (P.cellsOf f1.type)) = some y1 ∧ DataW.trod enc P w base spare held n f2.type ((cs.drop f2.offset).take (P.cellsOf f2.type)) = some y2 := by
  obtain ⟨xs, n, _, rfl, hl, hlen, hf⟩ := DataW.trod_struct ht h
  match xs, hlen with
  | [y0, y1, y2], _ => exact ⟨y0, y1, y2, n, by simp, hl, by simpa using hf 0 f0 rfl, by simpa using hf 1 f1 rfl, by simpa using hf 2 f2 rfl⟩

theorem open_lacts {t e bt : TypeId} {g : TypeId} {f0 f1 f2 : Field} {fuel : Nat} {v : Value} {x : DataW H × List MemPlace} (ht : P.underlying t = some (.slice e)) (he : P.underlying e = some (.struct #[f0, f1, f2]))
    (hone : oneCellFields P #[f0, f1, f2] = true) (ce : P.cellsOf e = 3) (u0 : P.underlying f0.type = some (.int .i64)) (u1 : P.underlying f1.type = some (.int .i64)) (u4 : P.underlying f2.type = some (.slice bt)) (ub : P.underlying bt = some (.int .u8)) (cb : P.cellsOf bt = 1)
    (h : DataW.trod enc P w base spare held fuel t [v] = some x) : ∃ r : List Av, IsLA w v r ∧ ((x.1 = .nil ∧ r = []) ∨ ∃ ds sp, x.1 = .slice ds sp ∧ ds.length = r.length) := by
  rcases open_slice ht h with ⟨hv, hx⟩ | ⟨a, len, cap, m, n, D, Pl, hv, hb, hl, hm, hmm, rfl, hx⟩
  · simp at hv
    subst hv hx
    exact ⟨[], ⟨RowG.nil _ _, fun a ha => by simp at ha⟩, .inl ⟨rfl, rfl⟩⟩
  · simp at hv
    subst hv
    have hlm : len ≤ m := by rw [hmm]; split <;> omega
    obtain ⟨o0, c0⟩ := hone_of hone 0 f0 rfl
    obtain ⟨o1, c1⟩ := hone_of hone 1 f1 rfl
    obtain ⟨o2, c2⟩ := hone_of hone 2 f2 rfl
    have each : ∀ i, i < len → ∃ c : Av, (∀ m u, (lactc c)[m]? = some u → w.cell? (a.add (i * 3 + m)) = some u) ∧ LactOk w c := by
      intro i hi
      obtain ⟨cs', h1, h2⟩ := hx i (by omega)
      rw [ce] at h1
      obtain ⟨_, hlen, hcell⟩ := World.cells?_some h1
      obtain ⟨y0, y1, y2, k, hxy, _, q0, q1, q2⟩ := trod_struct3 he h2
      match cs', hlen with
      | [v0, v1, v2], _ =>
        simp [o0, o1, o2, c0, c1, c2] at q0 q1 q2
        obtain ⟨p0, h0, rfl, w0⟩ := DataW.trod_int u0 q0
        obtain ⟨p1, h1', rfl, w1⟩ := DataW.trod_int u1 q1
        obtain ⟨bs, hbs⟩ := open_byts u4 ub cb q2
        simp at h0 h1'
        subst h0 h1'
        refine ⟨⟨p0, p1, v2, bs⟩, fun m u hu => ?_, hbs, i64_of w0, i64_of w1⟩
        have hm3 : m < 3 := (List.getElem?_eq_some_iff.1 hu).1
        have hc := hcell m (by omega)
        rw [Go.Deep.add_add] at hc
        rw [hc]
        rcases (show m = 0 ∨ m = 1 ∨ m = 2 by omega) with rfl | rfl | rfl <;> simpa [lactc] using hu
    have : Inhabited Av := ⟨⟨0, 0, .slice none 0 0, []⟩⟩
    obtain ⟨f, hf⟩ := choose_lt each
    refine ⟨(List.range len).map f, ⟨.inr ⟨a, cap, by simp, by simpa using hl, hm, fun j u hj => ?_⟩, fun c hc => ?_⟩, .inr ⟨(List.range len).map D, (List.range (m - len)).map fun j => D (len + j), rfl, by simp⟩⟩
    · obtain ⟨i, c, m', hic, rfl, hu⟩ := gcells_inv lactc_len (by decide) _ j u hj
      obtain ⟨hi, e⟩ := List.getElem?_eq_some_iff.1 hic
      simp at hi e
      subst e
      exact (hf i hi).1 m' u hu
    · obtain ⟨i, hi, rfl⟩ := List.mem_map.1 hc
      exact (hf i (by simpa using hi)).2

theorem sized_lacts {ts : List TypeId} {ds : List (DataW H)} (h : (DataW.weightsEach P ts ds).all (· ≤ reachBytes) = true) {j : Nat} {t e : TypeId} {r : List Av} {es sp : List (DataW H)} (ht : ts[j]? = some t) (hd : ds[j]? = some (.slice es sp)) (hlen : es.length = r.length)
    (hu : P.underlying t = some (.slice e)) (hb : P.bytesOf e = 40) : r.length * 40 ≤ 140737488351232 := by
  have := sized_slice h ht hd hu
  rw [hb] at this
  simp only [reachBytes] at this
  omega

/-- A call by value. -/
theorem open_lact {r : Reach} {b0 : Nat} {t bt : TypeId} {f0 f1 f2 : Field} {v : Value} {d : DataW H} {p : List MemPlace} (hs : P.underlying t = some (.struct #[f0, f1, f2])) (hone : oneCellFields P #[f0, f1, f2] = true) (hC : P.cellsOf t = 3)
    (u0 : P.underlying f0.type = some (.int .i64)) (u1 : P.underlying f1.type = some (.int .i64)) (u4 : P.underlying f2.type = some (.slice bt)) (ub : P.underlying bt = some (.int .u8)) (cb : P.cellsOf bt = 1)
    (hv : Value.okWide P w r b0 t v) (h : DataW.Trod enc P w base spare held t v d p) : ∃ a : Av, v = .agg #[.int .i64 a.k, .int .i64 a.n, a.v] ∧ LactOk w a := by
  obtain ⟨cs, rfl, hsz⟩ := okWide_struct hs hv
  obtain ⟨c0, c1, c2, rfl⟩ : ∃ c0 c1 c2, cs = #[c0, c1, c2] := by
    have hsz' := hsz.trans hC
    obtain ⟨l⟩ := cs
    match l, hsz' with
    | [c0, c1, c2], _ => exact ⟨c0, c1, c2, rfl⟩
  obtain ⟨fuel, hf⟩ := h
  obtain ⟨y0, y1, y2, n, hx, _, h0, h1, h2⟩ := trod_struct3 hs hf
  obtain ⟨o0, k0⟩ := hone_of hone 0 f0 rfl
  obtain ⟨o1, k1⟩ := hone_of hone 1 f1 rfl
  obtain ⟨o2, k2⟩ := hone_of hone 2 f2 rfl
  simp [Value.cells, o0, o1, o2, k0, k1, k2] at h0 h1 h2
  obtain ⟨p0, e0, _, w0⟩ := DataW.trod_int u0 h0
  obtain ⟨p1, e1, _, w1⟩ := DataW.trod_int u1 h1
  obtain ⟨bs, hbs⟩ := open_byts u4 ub cb h2
  simp at e0 e1
  subst e0 e1
  exact ⟨⟨p0, p1, c2, bs⟩, rfl, hbs, i64_of w0, i64_of w1⟩
end

end Go.Proofs.Ytadfbmglbaebiaa
