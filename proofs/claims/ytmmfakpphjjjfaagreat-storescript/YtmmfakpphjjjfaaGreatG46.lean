/- Texts of one layer, one behind the other. -/
import Derived.Test.YtmmfakpphjjjfaaGreatG44
import Derived.Test.YtmmfakpphjjjfaaGreatG6
import Derived.Test.YtmmfakpphjjjfaaGreatG42
import Derived.Test.YtmmfakpphjjjfaaGreatG45
/- What an argument that is a commit, or a slice of commits, comes in as. No program. -/
namespace Go.Proofs.YtmmfakpphjjjfaaGreat
open Go.RowKit Go.ChangeShapes Go.WideShapes Go.Deep
set_option linter.unusedVariables false

theorem in64 {z : Int} (h : (Lit.int .i64 z).wf = true) : In64 z := by
 have := range_i64 (zs := [z]) (by simpa using h) 0
 simp at this
 exact ⟨by omega, by omega⟩

theorem ccells_inv : ∀ (l : List Cw) (j : Nat) (u : Value), (ccells l)[j]? = some u → ∃ i c, l[i]? = some c ∧ ((j = i * 3 ∧ u = .int .i64 c.e) ∨ (j = i * 3 + 1 ∧ u = .int .i64 c.n) ∨ (j = i * 3 + 2 ∧ u = c.v))
 | [], j, u, h => by simp [ccells] at h
 | o :: r, 0, u, h => ⟨0, o, rfl, .inl ⟨rfl, by simpa [ccells, ccell] using h.symm⟩⟩
 | o :: r, 1, u, h => ⟨0, o, rfl, .inr (.inl ⟨rfl, by simpa [ccells, ccell] using h.symm⟩)⟩
 | o :: r, 2, u, h => ⟨0, o, rfl, .inr (.inr ⟨rfl, by simpa [ccells, ccell] using h.symm⟩)⟩
 | o :: r, j + 3, u, h => by
  have h' : (ccells r)[j]? = some u := by simpa [ccells, ccell] using h
  obtain ⟨i, q, hq, hc⟩ := ccells_inv r j u h'
  refine ⟨i + 1, q, by simpa using hq, ?_⟩
  rcases hc with ⟨rfl, hu⟩ | ⟨rfl, hu⟩ | ⟨rfl, hu⟩
  ·exact .inl ⟨by omega, hu⟩
  ·exact .inr (.inl ⟨by omega, hu⟩)
  ·exact .inr (.inr ⟨by omega, hu⟩)

section
variable {H : Type} {enc : TypeId × Value → H} {P : Program} {w : World} {base : Nat} {spare : Nat → Bool} {held : Bool}

theorem com_weights {t : TypeId} {f0 f1 f2 : Field} {x0 x1 d : DataW H} {n : Nat} (hu : P.underlying t = some (.struct #[f0, f1, f2])) (hn : n ∈ d.weights P f2.type) : n ∈ (DataW.agg [x0, x1, d]).weights P t := by
 simp only [DataW.weights, hu]
 simp [DataW.weightsEach, hn]

def ComD (d : DataW H) (c : Cw) : Prop := ∃ x0 x1 d2, d = .agg [x0, x1, d2] ∧ OpsD d2 c.l

theorem open_coms {t e o : TypeId} {f0 f1 f2 g0 g1 g2 : Field} {fuel : Nat} {v : Value} {x : DataW H × List MemPlace} (ht : P.underlying t = some (.slice e)) (he : P.underlying e = some (.struct #[f0, f1, f2]))
  (hone : oneCellFields P #[f0, f1, f2] = true) (ce : P.cellsOf e = 3) (u0 : P.underlying f0.type = some (.int .i64)) (u1 : P.underlying f1.type = some (.int .i64)) (u2 : P.underlying f2.type = some (.slice o))
  (ho : P.underlying o = some (.struct #[g0, g1, g2])) (hone' : oneCellFields P #[g0, g1, g2] = true) (co : P.cellsOf o = 3) (k0 : P.underlying g0.type = some .bool) (k1 : P.underlying g1.type = some .string) (k2 : P.underlying g2.type = some .string)
  (h : DataW.trod enc P w base spare held fuel t [v] = some x) : ∃ r : List Cw, IsC w v r ∧ ((x.1 = .nil ∧ r = []) ∨ ∃ ds sp, x.1 = .slice ds sp ∧ ds.length = r.length ∧ ∀ (i : Nat) (c : Cw), r[i]? = some c → ∃ d, ds[i]? = some d ∧ ComD d c) := by
 rcases open_slice ht h with ⟨hv, hx⟩ | ⟨a, len, cap, m, n, D, Pl, hv, hb, hl, hm, hmm, rfl, hx⟩
 ·simp at hv
  subst hv hx
  exact ⟨[], IsC.nil _, .inl ⟨rfl, rfl⟩⟩
 ·simp at hv
  subst hv
  have hlm : len ≤ m := by rw [hmm]; split <;> omega
  obtain ⟨o0, c0⟩ := hone_of hone 0 f0 rfl
  obtain ⟨o1, c1⟩ := hone_of hone 1 f1 rfl
  obtain ⟨o2, c2⟩ := hone_of hone 2 f2 rfl
  have each : ∀ i, i < len → ∃ c : Cw, (w.cell? (a.add (i * 3)) = some (.int .i64 c.e) ∧ w.cell? (a.add (i * 3 + 1)) = some (.int .i64 c.n) ∧ w.cell? (a.add (i * 3 + 2)) = some c.v) ∧ (IsO w c.v c.l ∧ In64 c.e ∧ In64 c.n) ∧ ComD (D i) c := by
   intro i hi
   obtain ⟨cs', h1, h2⟩ := hx i (by omega)
   rw [ce] at h1
   obtain ⟨_, hlen, hcell⟩ := World.cells?_some h1
   obtain ⟨y0, y1, y2, k, hxy, _, q0, q1, q2⟩ := trod_struct3 he h2
   match cs', hlen with
   | [v0, v1, v2], _ =>
    simp [o0, o1, o2, c0, c1, c2] at q0 q1 q2
    obtain ⟨p, hp, rfl, wp⟩ := DataW.trod_int u0 q0
    obtain ⟨s, hs, rfl, ws⟩ := DataW.trod_int u1 q1
    obtain ⟨l, hl2, hd2⟩ := open_ops u2 ho hone' co k0 k1 k2 q2
    simp at hp hs
    subst hp hs
    have e0 := hcell 0 (by omega)
    have e1 := hcell 1 (by omega)
    have e2 := hcell 2 (by omega)
    rw [Go.Deep.add_add] at e0 e1 e2
    simp only [Prod.mk.injEq] at hxy
    exact ⟨⟨p, s, v2, l⟩, ⟨by simpa using e0, by simpa using e1, by simpa using e2⟩, ⟨hl2, in64 wp, in64 ws⟩, _, _, _, hxy.1, hd2⟩
  have : Inhabited Cw := ⟨⟨0, 0, .slice none 0 0, []⟩⟩
  obtain ⟨f, hf⟩ := choose_lt each
  refine ⟨(List.range len).map f, ⟨.inr ⟨a, cap, by simp, by simpa using hl, hm, fun j u hj => ?_⟩, fun c hc => ?_⟩, .inr ⟨(List.range len).map D, (List.range (m - len)).map fun j => D (len + j), ?_, by simp, fun i c hic => ?_⟩⟩
  ·obtain ⟨i, o, ho, hc⟩ := ccells_inv _ j u hj
   obtain ⟨hi, e⟩ := List.getElem?_eq_some_iff.1 ho
   simp at hi e
   obtain ⟨⟨k0, k1, k2⟩, _⟩ := hf i hi
   subst e
   rcases hc with ⟨rfl, rfl⟩ | ⟨rfl, rfl⟩ | ⟨rfl, rfl⟩
   ·exact k0
   ·exact k1
   ·exact k2
  ·obtain ⟨i, hi, rfl⟩ := List.mem_map.1 hc
   exact (hf i (by simpa using hi)).2.1
  ·rfl
  ·obtain ⟨hi, e⟩ := List.getElem?_eq_some_iff.1 hic
   simp at hi e
   subst e
   exact ⟨D i, by simp [hi], (hf i hi).2.2⟩

theorem sized_coms {ts : List TypeId} {ds : List (DataW H)} (h : (DataW.weightsEach P ts ds).all (· ≤ reachBytes) = true) {j : Nat} {t e o : TypeId} {f0 f1 f2 g0 g1 g2 : Field} {r : List Cw} {es sp : List (DataW H)} (ht : ts[j]? = some t) (hd : ds[j]? = some (.slice es sp)) (hlen : es.length = r.length) (hr : ∀ (i : Nat) (c : Cw), r[i]? = some c → ∃ d, es[i]? = some d ∧ ComD d c)
  (hu : P.underlying t = some (.slice e)) (he : P.underlying e = some (.struct #[f0, f1, f2])) (hb : P.bytesOf e = 40) (h2 : P.underlying f2.type = some (.slice o)) (ho : P.underlying o = some (.struct #[g0, g1, g2])) (hbo : P.bytesOf o = 40) :
  FitC r ∧ r.length * 40 ≤ 140737488351232 := by
 have hall := List.all_eq_true.1 h
 refine ⟨fun c hc => ?_, ?_⟩
 ·obtain ⟨i, hi⟩ := List.getElem?_of_mem hc
  obtain ⟨d, hd1, x0, x1, d2, rfl, hd2⟩ := hr i c hi
  refine ops_fit (fun n hn => ?_) hd2 h2 ho hbo
  exact of_decide_eq_true (hall n (DataW.weights_mem_each ht hd n (by
   simp only [DataW.weights, hu]
   exact List.mem_cons_of_mem _ (List.mem_append_left _ (weights_all (List.mem_of_getElem? hd1) (com_weights he hn))))))
 ·have := sized_slice h ht hd hu
  rw [hb] at this
  simp only [reachBytes] at this
  omega

end

end Go.Proofs.YtmmfakpphjjjfaaGreat

/- What an argument that is a slice of calls of a store comes in as. No program. -/
namespace Go.Proofs.YtmmfakpphjjjfaaGreat
open Go.RowKit Go.ChangeShapes Go.WideShapes Go.Deep
set_option linter.unusedVariables false

theorem i64ofR {z : Int} (h : (Lit.int .i64 z).wf = true) : I64 z := by
 have := in64 h
 unfold In64 at this
 exact ⟨by omega, by omega⟩

section
variable {H : Type} {enc : TypeId × Value → H} {P : Program} {w : World} {base : Nat} {spare : Nat → Bool} {held : Bool}

def ActR (d : DataW H) (a : Bc) : Prop := ∃ x0 x1 d3, d = .agg [x0, x1, d3] ∧ ComD d3 a.c

theorem open_rs {t e o : TypeId} {f0 f1 f2 c0 c1 c2 g0 g1 g2 : Field} {fuel : Nat} {v : Value} {x : DataW H × List MemPlace} (ht : P.underlying t = some (.slice e)) (he : P.underlying e = some (.struct #[f0, f1, f2]))
  (hof : f0.offset = 0 ∧ f1.offset = 1 ∧ f2.offset = 2) (hcl : P.cellsOf f0.type = 1 ∧ P.cellsOf f1.type = 1 ∧ P.cellsOf f2.type = 3) (ce : P.cellsOf e = 5) (u0 : P.underlying f0.type = some (.int .i64)) (u1 : P.underlying f1.type = some (.int .i64))
  (hc : P.underlying f2.type = some (.struct #[c0, c1, c2])) (hone : oneCellFields P #[c0, c1, c2] = true) (v0 : P.underlying c0.type = some (.int .i64)) (v1 : P.underlying c1.type = some (.int .i64)) (v2 : P.underlying c2.type = some (.slice o))
  (ho : P.underlying o = some (.struct #[g0, g1, g2])) (hone' : oneCellFields P #[g0, g1, g2] = true) (co : P.cellsOf o = 3) (k0 : P.underlying g0.type = some .bool) (k1 : P.underlying g1.type = some .string) (k2 : P.underlying g2.type = some .string)
  (h : DataW.trod enc P w base spare held fuel t [v] = some x) : ∃ r : List Bc, IsR w v r ∧ ((x.1 = .nil ∧ r = []) ∨ ∃ ds sp, x.1 = .slice ds sp ∧ ds.length = r.length ∧ ∀ (i : Nat) (a : Bc), r[i]? = some a → ∃ d, ds[i]? = some d ∧ ActR d a) := by
 rcases open_slice ht h with ⟨hv, hx⟩ | ⟨a, len, cap, m, n, D, Pl, hv, hb, hl, hm, hmm, rfl, hx⟩
 ·simp at hv
  subst hv hx
  exact ⟨[], ⟨RowG.nil _ _, fun a ha => by simp at ha⟩, .inl ⟨rfl, rfl⟩⟩
 ·simp at hv
  subst hv
  have hlm : len ≤ m := by rw [hmm]; split <;> omega
  obtain ⟨p0, q0⟩ := hone_of hone 0 c0 rfl
  obtain ⟨p1, q1⟩ := hone_of hone 1 c1 rfl
  obtain ⟨p2, q2⟩ := hone_of hone 2 c2 rfl
  obtain ⟨a0, a1, a2⟩ := hof
  obtain ⟨b0, b1, b2⟩ := hcl
  have each : ∀ i, i < len → ∃ c : Bc, (∀ m u, (bcc c)[m]? = some u → w.cell? (a.add (i * 5 + m)) = some u) ∧ BcOk w c ∧ ActR (D i) c := by
   intro i hi
   obtain ⟨cs', h1, h2⟩ := hx i (by omega)
   rw [ce] at h1
   obtain ⟨_, hlen, hcell⟩ := World.cells?_some h1
   obtain ⟨y0, y1, y2, k, hxy, _, r0, r1, r2⟩ := trod_struct3 he h2
   match cs', hlen with
   | [v0', v1', v3', v4', v5'], _ =>
    simp [a0, a1, a2, b0, b1, b2] at r0 r1 r2
    obtain ⟨z0, hz0, rfl, w0⟩ := DataW.trod_int u0 r0
    obtain ⟨z1, hz1, rfl, w1⟩ := DataW.trod_int u1 r1
    obtain ⟨t0, t1, t2, k', hty, _, s0, s1, s2⟩ := trod_struct3 hc r2
    simp [p0, p1, p2, q0, q1, q2] at s0 s1 s2
    obtain ⟨x3, hx3, rfl, w3⟩ := DataW.trod_int v0 s0
    obtain ⟨x4, hx4, rfl, w4⟩ := DataW.trod_int v1 s1
    obtain ⟨l, hl2, hd2⟩ := open_ops v2 ho hone' co k0 k1 k2 s2
    simp at hz0 hz1 hx3 hx4
    subst hz0 hz1 hx3 hx4
    refine ⟨⟨z0, z1, ⟨x3, x4, v5', l⟩⟩, fun m u hu => ?_, ⟨hl2, ⟨i64ofR w0, i64ofR w1⟩, in64 w3, in64 w4⟩, ?_⟩
    ·have hm6 : m < 5 := (List.getElem?_eq_some_iff.1 hu).1
     have hc' := hcell m (by omega)
     rw [Go.Deep.add_add] at hc'
     rw [hc']
     rcases (show m = 0 ∨ m = 1 ∨ m = 2 ∨ m = 3 ∨ m = 4 by omega) with rfl | rfl | rfl | rfl | rfl <;> simpa [bcc] using hu
    ·simp only [Prod.mk.injEq] at hxy
     refine ⟨_, _, _, hxy.1, ?_⟩
     rw [hty]
     exact ⟨_, _, _, rfl, hd2⟩
  have : Inhabited Bc := ⟨⟨0, 0, ⟨0, 0, .slice none 0 0, []⟩⟩⟩
  obtain ⟨f, hf⟩ := choose_lt each
  refine ⟨(List.range len).map f, ⟨.inr ⟨a, cap, by simp, by simpa using hl, hm, fun j u hj => ?_⟩, fun c hc => ?_⟩, .inr ⟨(List.range len).map D, (List.range (m - len)).map fun j => D (len + j), rfl, by simp, fun i c hic => ?_⟩⟩
  ·obtain ⟨i, c, m', hic, rfl, hu⟩ := gcells_inv bcc_len (by decide) _ j u hj
   obtain ⟨hi, e⟩ := List.getElem?_eq_some_iff.1 hic
   simp at hi e
   subst e
   exact (hf i hi).1 m' u hu
  ·obtain ⟨i, hi, rfl⟩ := List.mem_map.1 hc
   exact (hf i (by simpa using hi)).2.1
  ·obtain ⟨hi, e⟩ := List.getElem?_eq_some_iff.1 hic
   simp at hi e
   subst e
   exact ⟨D i, by simp [hi], (hf i hi).2.2⟩

theorem act_weightsR {t : TypeId} {f0 f1 f2 : Field} {x0 x1 d : DataW H} {n : Nat} (hu : P.underlying t = some (.struct #[f0, f1, f2])) (hn : n ∈ d.weights P f2.type) : n ∈ (DataW.agg [x0, x1, d]).weights P t := by
 simp only [DataW.weights, hu]
 simp [DataW.weightsEach, hn]

theorem sized_rs {ts : List TypeId} {ds : List (DataW H)} (h : (DataW.weightsEach P ts ds).all (· ≤ reachBytes) = true) {j : Nat} {t e o : TypeId} {f0 f1 f2 c0 c1 c2 g0 g1 g2 : Field} {r : List Bc} {es sp : List (DataW H)} (ht : ts[j]? = some t) (hd : ds[j]? = some (.slice es sp)) (hlen : es.length = r.length) (hr : ∀ (i : Nat) (a : Bc), r[i]? = some a → ∃ d, es[i]? = some d ∧ ActR d a)
  (hu : P.underlying t = some (.slice e)) (he : P.underlying e = some (.struct #[f0, f1, f2])) (hb : P.bytesOf e = 56) (hc : P.underlying f2.type = some (.struct #[c0, c1, c2])) (h2 : P.underlying c2.type = some (.slice o)) (ho : P.underlying o = some (.struct #[g0, g1, g2])) (hbo : P.bytesOf o = 40) :
  FitR r ∧ r.length * 56 ≤ 140737488351232 := by
 have hall := List.all_eq_true.1 h
 refine ⟨fun a ha => ?_, ?_⟩
 ·obtain ⟨i, hi⟩ := List.getElem?_of_mem ha
  obtain ⟨d, hd1, x0, x1, d3, rfl, y0, y1, d2, rfl, hd2⟩ := hr i a hi
  have hmem : ∀ n, n ∈ d2.weights P c2.type → n ≤ reachBytes := fun n hn => of_decide_eq_true (hall n (DataW.weights_mem_each ht hd n (by
   simp only [DataW.weights, hu]
   exact List.mem_cons_of_mem _ (List.mem_append_left _ (weights_all (List.mem_of_getElem? hd1) (act_weightsR he (com_weights hc hn)))))))
  exact ops_fit hmem hd2 h2 ho hbo
 ·have := sized_slice h ht hd hu
  rw [hb] at this
  simp only [reachBytes] at this
  omega

end

end Go.Proofs.YtmmfakpphjjjfaaGreat
