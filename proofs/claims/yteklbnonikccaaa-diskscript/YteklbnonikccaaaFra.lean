/- What an argument that is a call ('Act'), or a slice of calls, comes in as. No program. -/
import Derived.SizedLaws
import Derived.Lib.SmallJoins
import Derived.Deep.Slices
import Derived.Test.YteklbnonikccaaaAn
namespace Go.Proofs.Yteklbnonikccaaa
open Go.RowKit Go.ChangeShapes Go.WideShapes Go.Deep
set_option linter.unusedVariables false

theorem i64_of {z : Int} (h : (Lit.int .i64 z).wf = true) : I64 z := by
  have := range_i64 (zs := [z]) (by simpa using h) 0
  simp at this
  exact ⟨by omega, by omega⟩

section
variable {H : Type} {enc : TypeId × Value → H} {P : Program} {w : World} {base : Nat} {spare : Nat → Bool} {held : Bool}

theorem trod_struct5 {t : TypeId} {f0 f1 f2 f3 f4 : Field} {fuel : Nat} {cs : List Value} {x : DataW H × List MemPlace} (ht : P.underlying t = some (.struct #[f0, f1, f2, f3, f4])) (h : DataW.trod enc P w base spare held fuel t cs = some x) :
    ∃ y0 y1 y2 y3 y4 n, x = (.agg [y0.1, y1.1, y2.1, y3.1, y4.1], y0.2 ++ (y1.2 ++ (y2.2 ++ (y3.2 ++ y4.2)))) ∧ cs.length = P.cellsOf t ∧ DataW.trod enc P w base spare held n f0.type ((cs.drop f0.offset).take (P.cellsOf f0.type)) = some y0 ∧
      DataW.trod enc P w base spare held n f1.type ((cs.drop f1.offset).take (P.cellsOf f1.type)) = some y1 ∧ DataW.trod enc P w base spare held n f2.type ((cs.drop f2.offset).take (P.cellsOf f2.type)) = some y2 ∧
      DataW.trod enc P w base spare held n f3.type ((cs.drop f3.offset).take (P.cellsOf f3.type)) = some y3 ∧ DataW.trod enc P w base spare held n f4.type ((cs.drop f4.offset).take (P.cellsOf f4.type)) = some y4 := by
  obtain ⟨xs, n, _, rfl, hl, hlen, hf⟩ := DataW.trod_struct ht h
  match xs, hlen with
  | [y0, y1, y2, y3, y4], _ => exact ⟨y0, y1, y2, y3, y4, n, by simp, hl, by simpa using hf 0 f0 rfl, by simpa using hf 1 f1 rfl, by simpa using hf 2 f2 rfl, by simpa using hf 3 f3 rfl, by simpa using hf 4 f4 rfl⟩

/-- Bytes in a cell. -/
theorem open_byts {t e : TypeId} {fuel : Nat} {v : Value} {x : DataW H × List MemPlace} (ht : P.underlying t = some (.slice e)) (he : P.underlying e = some (.int .u8)) (h1 : P.cellsOf e = 1)
    (h : DataW.trod enc P w base spare held fuel t [v] = some x) : ∃ zs : List Int, Is .u8 w v zs := by
  rcases open_ints ht he h1 h with ⟨hcs, hx⟩ | ⟨a, l, c, zs, hcs, hb, hl, hm, hz, hx, hcell, hwz⟩
  · simp at hcs
    subst hcs
    exact ⟨[], Is.nil _ _⟩
  · simp at hcs
    subst hcs
    have hzl : l ≤ zs.length := by rw [hz]; split <;> omega
    have hlen : (zs.take l).length = l := by rw [List.length_take]; omega
    refine ⟨zs.take l, fun z hz => hwz z (List.mem_of_mem_take hz), .inr ⟨a, c, by rw [hlen], by omega, hm, fun j hj => ?_⟩⟩
    rw [hlen] at hj
    rw [hcell j (by omega)]
    simp [List.getD, hj]

theorem gcells_inv {α : Type} {f : α → List Value} {k : Nat} (hk : ∀ a, (f a).length = k) (h0 : 0 < k) : ∀ (l : List α) (j : Nat) (u : Value), (gcells f l)[j]? = some u → ∃ i a m, l[i]? = some a ∧ j = i * k + m ∧ (f a)[m]? = some u
  | [], j, u, h => by simp [gcells] at h
  | a :: r, j, u, h => by
    rw [gcells] at h
    by_cases hj : j < k
    · rw [List.getElem?_append_left (by rw [hk]; exact hj)] at h
      exact ⟨0, a, j, rfl, by omega, h⟩
    · rw [List.getElem?_append_right (by rw [hk]; omega), hk] at h
      obtain ⟨i, b, m, h1, h2, h3⟩ := gcells_inv hk h0 r (j - k) u h
      exact ⟨i + 1, b, m, by simpa using h1, by rw [Nat.add_mul]; omega, h3⟩

theorem open_acts {t e bt : TypeId} {g : TypeId} {f0 f1 f2 f3 f4 : Field} {fuel : Nat} {v : Value} {x : DataW H × List MemPlace} (ht : P.underlying t = some (.slice e)) (he : P.underlying e = some (.struct #[f0, f1, f2, f3, f4]))
    (hone : oneCellFields P #[f0, f1, f2, f3, f4] = true) (ce : P.cellsOf e = 5) (u0 : P.underlying f0.type = some (.int .i64)) (u1 : P.underlying f1.type = some (.int .i64)) (u2 : P.underlying f2.type = some (.int .i64)) (u3 : P.underlying f3.type = some (.int .i64)) (u4 : P.underlying f4.type = some (.slice bt)) (ub : P.underlying bt = some (.int .u8)) (cb : P.cellsOf bt = 1)
    (h : DataW.trod enc P w base spare held fuel t [v] = some x) : ∃ r : List Aw, IsA w v r ∧ ((x.1 = .nil ∧ r = []) ∨ ∃ ds sp, x.1 = .slice ds sp ∧ ds.length = r.length) := by
  rcases open_slice ht h with ⟨hv, hx⟩ | ⟨a, len, cap, m, n, D, Pl, hv, hb, hl, hm, hmm, rfl, hx⟩
  · simp at hv
    subst hv hx
    exact ⟨[], ⟨RowG.nil _ _, fun a ha => by simp at ha⟩, .inl ⟨rfl, rfl⟩⟩
  · simp at hv
    subst hv
    have hlm : len ≤ m := by rw [hmm]; split <;> omega
    obtain ⟨o0, c0⟩ := hone_of hone 0 f0 rfl
    obtain ⟨o1, c1⟩ := hone_of hone 1 f1 rfl
    obtain ⟨o2, c2⟩ := hone_of hone 2 f2 rfl
    obtain ⟨o3, c3⟩ := hone_of hone 3 f3 rfl
    obtain ⟨o4, c4⟩ := hone_of hone 4 f4 rfl
    have each : ∀ i, i < len → ∃ c : Aw, (∀ m u, (actc c)[m]? = some u → w.cell? (a.add (i * 5 + m)) = some u) ∧ ActOk w c := by
      intro i hi
      obtain ⟨cs', h1, h2⟩ := hx i (by omega)
      rw [ce] at h1
      obtain ⟨_, hlen, hcell⟩ := World.cells?_some h1
      obtain ⟨y0, y1, y2, y3, y4, k, hxy, _, q0, q1, q2, q3, q4⟩ := trod_struct5 he h2
      match cs', hlen with
      | [v0, v1, v2, v3, v4], _ =>
        simp [o0, o1, o2, o3, o4, c0, c1, c2, c3, c4] at q0 q1 q2 q3 q4
        obtain ⟨p0, h0, rfl, w0⟩ := DataW.trod_int u0 q0
        obtain ⟨p1, h1', rfl, w1⟩ := DataW.trod_int u1 q1
        obtain ⟨p2, h2', rfl, w2⟩ := DataW.trod_int u2 q2
        obtain ⟨p3, h3', rfl, w3⟩ := DataW.trod_int u3 q3
        obtain ⟨bs, hbs⟩ := open_byts u4 ub cb q4
        simp at h0 h1' h2' h3'
        subst h0 h1' h2' h3'
        refine ⟨⟨p0, p1, p2, p3, v4, bs⟩, fun m u hu => ?_, hbs, i64_of w0, i64_of w1, i64_of w2, i64_of w3⟩
        have hm5 : m < 5 := (List.getElem?_eq_some_iff.1 hu).1
        have hc := hcell m (by omega)
        rw [Go.Deep.add_add] at hc
        rw [hc]
        rcases (show m = 0 ∨ m = 1 ∨ m = 2 ∨ m = 3 ∨ m = 4 by omega) with rfl | rfl | rfl | rfl | rfl <;> simpa [actc] using hu
    have : Inhabited Aw := ⟨⟨0, 0, 0, 0, .slice none 0 0, []⟩⟩
    obtain ⟨f, hf⟩ := choose_lt each
    refine ⟨(List.range len).map f, ⟨.inr ⟨a, cap, by simp, by simpa using hl, hm, fun j u hj => ?_⟩, fun c hc => ?_⟩, .inr ⟨(List.range len).map D, (List.range (m - len)).map fun j => D (len + j), rfl, by simp⟩⟩
    · obtain ⟨i, c, m', hic, rfl, hu⟩ := gcells_inv actc_len (by decide) _ j u hj
      obtain ⟨hi, e⟩ := List.getElem?_eq_some_iff.1 hic
      simp at hi e
      subst e
      exact (hf i hi).1 m' u hu
    · obtain ⟨i, hi, rfl⟩ := List.mem_map.1 hc
      exact (hf i (by simpa using hi)).2

theorem sized_acts {ts : List TypeId} {ds : List (DataW H)} (h : (DataW.weightsEach P ts ds).all (· ≤ reachBytes) = true) {j : Nat} {t e : TypeId} {r : List Aw} {es sp : List (DataW H)} (ht : ts[j]? = some t) (hd : ds[j]? = some (.slice es sp)) (hlen : es.length = r.length)
    (hu : P.underlying t = some (.slice e)) (hb : P.bytesOf e = 56) : r.length * 56 ≤ 140737488351232 := by
  have := sized_slice h ht hd hu
  rw [hb] at this
  simp only [reachBytes] at this
  omega

/-- A call by value. -/
theorem open_act {r : Reach} {b0 : Nat} {t bt : TypeId} {f0 f1 f2 f3 f4 : Field} {v : Value} {d : DataW H} {p : List MemPlace} (hs : P.underlying t = some (.struct #[f0, f1, f2, f3, f4])) (hone : oneCellFields P #[f0, f1, f2, f3, f4] = true) (hC : P.cellsOf t = 5)
    (u0 : P.underlying f0.type = some (.int .i64)) (u1 : P.underlying f1.type = some (.int .i64)) (u2 : P.underlying f2.type = some (.int .i64)) (u3 : P.underlying f3.type = some (.int .i64)) (u4 : P.underlying f4.type = some (.slice bt)) (ub : P.underlying bt = some (.int .u8)) (cb : P.cellsOf bt = 1)
    (hv : Value.okWide P w r b0 t v) (h : DataW.Trod enc P w base spare held t v d p) : ∃ a : Aw, v = .agg #[.int .i64 a.k, .int .i64 a.f, .int .i64 a.n, .int .i64 a.t, a.v] ∧ ActOk w a := by
  obtain ⟨cs, rfl, hsz⟩ := okWide_struct hs hv
  obtain ⟨c0, c1, c2, c3, c4, rfl⟩ : ∃ c0 c1 c2 c3 c4, cs = #[c0, c1, c2, c3, c4] := by
    have hsz' := hsz.trans hC
    obtain ⟨l⟩ := cs
    match l, hsz' with
    | [c0, c1, c2, c3, c4], _ => exact ⟨c0, c1, c2, c3, c4, rfl⟩
  obtain ⟨fuel, hf⟩ := h
  obtain ⟨y0, y1, y2, y3, y4, n, hx, _, h0, h1, h2, h3, h4⟩ := trod_struct5 hs hf
  obtain ⟨o0, k0⟩ := hone_of hone 0 f0 rfl
  obtain ⟨o1, k1⟩ := hone_of hone 1 f1 rfl
  obtain ⟨o2, k2⟩ := hone_of hone 2 f2 rfl
  obtain ⟨o3, k3⟩ := hone_of hone 3 f3 rfl
  obtain ⟨o4, k4⟩ := hone_of hone 4 f4 rfl
  simp [Value.cells, o0, o1, o2, o3, o4, k0, k1, k2, k3, k4] at h0 h1 h2 h3 h4
  obtain ⟨p0, e0, _, w0⟩ := DataW.trod_int u0 h0
  obtain ⟨p1, e1, _, w1⟩ := DataW.trod_int u1 h1
  obtain ⟨p2, e2, _, w2⟩ := DataW.trod_int u2 h2
  obtain ⟨p3, e3, _, w3⟩ := DataW.trod_int u3 h3
  obtain ⟨bs, hbs⟩ := open_byts u4 ub cb h4
  simp at e0 e1 e2 e3
  subst e0 e1 e2 e3
  exact ⟨⟨p0, p1, p2, p3, c4, bs⟩, rfl, hbs, i64_of w0, i64_of w1, i64_of w2, i64_of w3⟩
end

end Go.Proofs.Yteklbnonikccaaa
