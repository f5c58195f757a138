/- What an argument that is a slice of calls of a log comes in as. No program. -/
import Derived.Test.YtimmohpnlieefaaFrc
import Derived.Test.YtimmohpnlieefaaVv
import Derived.Test.YtimmohpnlieefaaFrk
namespace Go.Proofs.Ytimmohpnlieefaa
open Go.RowKit Go.ChangeShapes Go.WideShapes Go.Deep
set_option linter.unusedVariables false

theorem i64of {z : Int} (h : (Lit.int .i64 z).wf = true) : I64 z := by
  have := in64 h
  unfold In64 at this
  exact ⟨by omega, by omega⟩

section
variable {H : Type} {enc : TypeId × Value → H} {P : Program} {w : World} {base : Nat} {spare : Nat → Bool} {held : Bool}

theorem trod_struct4 {t : TypeId} {f0 f1 f2 f3 : Field} {fuel : Nat} {cs : List Value} {x : DataW H × List MemPlace} (ht : P.underlying t = some (.struct #[f0, f1, f2, f3])) (h : DataW.trod enc P w base spare held fuel t cs = some x) :
    ∃ y0 y1 y2 y3 n, x = (.agg [y0.1, y1.1, y2.1, y3.1], y0.2 ++ (y1.2 ++ (y2.2 ++ y3.2))) ∧ cs.length = P.cellsOf t ∧ DataW.trod enc P w base spare held n f0.type ((cs.drop f0.offset).take (P.cellsOf f0.type)) = some y0 ∧
      DataW.trod enc P w base spare held n f1.type ((cs.drop f1.offset).take (P.cellsOf f1.type)) = some y1 ∧ DataW.trod enc P w base spare held n f2.type ((cs.drop f2.offset).take (P.cellsOf f2.type)) = some y2 ∧
      DataW.trod enc P w base spare held n f3.type ((cs.drop f3.offset).take (P.cellsOf f3.type)) = some y3 := by
  obtain ⟨xs, n, _, rfl, hl, hlen, hf⟩ := DataW.trod_struct ht h
  match xs, hlen with
  | [y0, y1, y2, y3], _ => exact ⟨y0, y1, y2, y3, n, by simp, hl, by simpa using hf 0 f0 rfl, by simpa using hf 1 f1 rfl, by simpa using hf 2 f2 rfl, by simpa using hf 3 f3 rfl⟩

/-- A call of a list as a datum. -/
def ActD (d : DataW H) (a : Ac) : Prop := ∃ x0 x1 x2 d3, d = .agg [x0, x1, x2, d3] ∧ ComD d3 a.c

theorem open_qs {t e o : TypeId} {f0 f1 f2 f3 c0 c1 c2 g0 g1 g2 : Field} {fuel : Nat} {v : Value} {x : DataW H × List MemPlace} (ht : P.underlying t = some (.slice e)) (he : P.underlying e = some (.struct #[f0, f1, f2, f3]))
    (hof : f0.offset = 0 ∧ f1.offset = 1 ∧ f2.offset = 2 ∧ f3.offset = 3) (hcl : P.cellsOf f0.type = 1 ∧ P.cellsOf f1.type = 1 ∧ P.cellsOf f2.type = 1 ∧ P.cellsOf f3.type = 3) (ce : P.cellsOf e = 6) (u0 : P.underlying f0.type = some (.int .i64)) (u1 : P.underlying f1.type = some (.int .i64)) (u2 : P.underlying f2.type = some (.int .i64))
    (hc : P.underlying f3.type = some (.struct #[c0, c1, c2])) (hone : oneCellFields P #[c0, c1, c2] = true) (v0 : P.underlying c0.type = some (.int .i64)) (v1 : P.underlying c1.type = some (.int .i64)) (v2 : P.underlying c2.type = some (.slice o))
    (ho : P.underlying o = some (.struct #[g0, g1, g2])) (hone' : oneCellFields P #[g0, g1, g2] = true) (co : P.cellsOf o = 3) (k0 : P.underlying g0.type = some .bool) (k1 : P.underlying g1.type = some .string) (k2 : P.underlying g2.type = some .string)
    (h : DataW.trod enc P w base spare held fuel t [v] = some x) : ∃ r : List Ac, IsQ w v r ∧ ((x.1 = .nil ∧ r = []) ∨ ∃ ds sp, x.1 = .slice ds sp ∧ ds.length = r.length ∧ ∀ (i : Nat) (a : Ac), r[i]? = some a → ∃ d, ds[i]? = some d ∧ ActD d a) := by
  rcases open_slice ht h with ⟨hv, hx⟩ | ⟨a, len, cap, m, n, D, Pl, hv, hb, hl, hm, hmm, rfl, hx⟩
  · simp at hv
    subst hv hx
    exact ⟨[], ⟨RowG.nil _ _, fun a ha => by simp at ha⟩, .inl ⟨rfl, rfl⟩⟩
  · simp at hv
    subst hv
    have hlm : len ≤ m := by rw [hmm]; split <;> omega
    obtain ⟨p0, q0⟩ := hone_of hone 0 c0 rfl
    obtain ⟨p1, q1⟩ := hone_of hone 1 c1 rfl
    obtain ⟨p2, q2⟩ := hone_of hone 2 c2 rfl
    obtain ⟨a0, a1, a2, a3⟩ := hof
    obtain ⟨b0, b1, b2, b3⟩ := hcl
    have each : ∀ i, i < len → ∃ c : Ac, (∀ m u, (acc c)[m]? = some u → w.cell? (a.add (i * 6 + m)) = some u) ∧ AcOk w c ∧ ActD (D i) c := by
      intro i hi
      obtain ⟨cs', h1, h2⟩ := hx i (by omega)
      rw [ce] at h1
      obtain ⟨_, hlen, hcell⟩ := World.cells?_some h1
      obtain ⟨y0, y1, y2, y3, k, hxy, _, r0, r1, r2, r3⟩ := trod_struct4 he h2
      match cs', hlen with
      | [v0', v1', v2', v3', v4', v5'], _ =>
        simp [a0, a1, a2, a3, b0, b1, b2, b3] at r0 r1 r2 r3
        obtain ⟨z0, hz0, rfl, w0⟩ := DataW.trod_int u0 r0
        obtain ⟨z1, hz1, rfl, w1⟩ := DataW.trod_int u1 r1
        obtain ⟨z2, hz2, rfl, w2⟩ := DataW.trod_int u2 r2
        obtain ⟨t0, t1, t2, k', hty, _, s0, s1, s2⟩ := trod_struct3 hc r3
        simp [p0, p1, p2, q0, q1, q2] at s0 s1 s2
        obtain ⟨x3, hx3, rfl, w3⟩ := DataW.trod_int v0 s0
        obtain ⟨x4, hx4, rfl, w4⟩ := DataW.trod_int v1 s1
        obtain ⟨l, hl2, hd2⟩ := open_ops v2 ho hone' co k0 k1 k2 s2
        simp at hz0 hz1 hz2 hx3 hx4
        subst hz0 hz1 hz2 hx3 hx4
        refine ⟨⟨z0, z1, z2, ⟨x3, x4, v5', l⟩⟩, fun m u hu => ?_, ⟨hl2, ⟨i64of w0, i64of w1, i64of w2⟩, in64 w3, in64 w4⟩, ?_⟩
        · have hm6 : m < 6 := (List.getElem?_eq_some_iff.1 hu).1
          have hc' := hcell m (by omega)
          rw [Go.Deep.add_add] at hc'
          rw [hc']
          rcases (show m = 0 ∨ m = 1 ∨ m = 2 ∨ m = 3 ∨ m = 4 ∨ m = 5 by omega) with rfl | rfl | rfl | rfl | rfl | rfl <;> simpa [acc] using hu
        · simp only [Prod.mk.injEq] at hxy
          refine ⟨_, _, _, _, hxy.1, ?_⟩
          rw [hty]
          exact ⟨_, _, _, rfl, hd2⟩
    have : Inhabited Ac := ⟨⟨0, 0, 0, ⟨0, 0, .slice none 0 0, []⟩⟩⟩
    obtain ⟨f, hf⟩ := choose_lt each
    refine ⟨(List.range len).map f, ⟨.inr ⟨a, cap, by simp, by simpa using hl, hm, fun j u hj => ?_⟩, fun c hc => ?_⟩, .inr ⟨(List.range len).map D, (List.range (m - len)).map fun j => D (len + j), rfl, by simp, fun i c hic => ?_⟩⟩
    · obtain ⟨i, c, m', hic, rfl, hu⟩ := gcells_inv acc_len (by decide) _ j u hj
      obtain ⟨hi, e⟩ := List.getElem?_eq_some_iff.1 hic
      simp at hi e
      subst e
      exact (hf i hi).1 m' u hu
    · obtain ⟨i, hi, rfl⟩ := List.mem_map.1 hc
      exact (hf i (by simpa using hi)).2.1
    · obtain ⟨hi, e⟩ := List.getElem?_eq_some_iff.1 hic
      simp at hi e
      subst e
      exact ⟨D i, by simp [hi], (hf i hi).2.2⟩

theorem act_weights {t : TypeId} {f0 f1 f2 f3 : Field} {x0 x1 x2 d : DataW H} {n : Nat} (hu : P.underlying t = some (.struct #[f0, f1, f2, f3])) (hn : n ∈ d.weights P f3.type) : n ∈ (DataW.agg [x0, x1, x2, d]).weights P t := by
  simp only [DataW.weights, hu]
  simp [DataW.weightsEach, hn]

theorem sized_qs {ts : List TypeId} {ds : List (DataW H)} (h : (DataW.weightsEach P ts ds).all (· ≤ reachBytes) = true) {j : Nat} {t e o : TypeId} {f0 f1 f2 f3 c0 c1 c2 g0 g1 g2 : Field} {r : List Ac} {es sp : List (DataW H)} (ht : ts[j]? = some t) (hd : ds[j]? = some (.slice es sp)) (hlen : es.length = r.length) (hr : ∀ (i : Nat) (a : Ac), r[i]? = some a → ∃ d, es[i]? = some d ∧ ActD d a)
    (hu : P.underlying t = some (.slice e)) (he : P.underlying e = some (.struct #[f0, f1, f2, f3])) (hb : P.bytesOf e = 64) (hc : P.underlying f3.type = some (.struct #[c0, c1, c2])) (h2 : P.underlying c2.type = some (.slice o)) (ho : P.underlying o = some (.struct #[g0, g1, g2])) (hbo : P.bytesOf o = 40) :
    FitQ r ∧ r.length * 64 ≤ 140737488351232 := by
  have hall := List.all_eq_true.1 h
  refine ⟨fun a ha => ?_, ?_⟩
  · obtain ⟨i, hi⟩ := List.getElem?_of_mem ha
    obtain ⟨d, hd1, x0, x1, x2, d3, rfl, y0, y1, d2, rfl, hd2⟩ := hr i a hi
    refine ops_fit (fun n hn => ?_) hd2 h2 ho hbo
    exact of_decide_eq_true (hall n (DataW.weights_mem_each ht hd n (by
      simp only [DataW.weights, hu]
      exact List.mem_cons_of_mem _ (List.mem_append_left _ (weights_all (List.mem_of_getElem? hd1) (act_weights he (com_weights hc hn)))))))
  · have := sized_slice h ht hd hu
    rw [hb] at this
    simp only [reachBytes] at this
    omega

end

end Go.Proofs.Ytimmohpnlieefaa
