/- Texts of one layer, one behind the other. -/
import Derived.SizedLaws
import Derived.Lib.SmallJoins
import Derived.Deep.Slices
import Derived.Test.YtdlogcdpapknaaaGreatDoorZF
import Derived.Test.YtdlogcdpapknaaaGreatDoorSxv
import Derived.Test.YtdlogcdpapknaaaGreatDoorSxd
import Derived.Test.YtdlogcdpapknaaaGreatDoorRows
import Derived.MakeChecks
import Derived.Stop.LaidErr
import Derived.OpenShut
import Derived.Lib.LaidTab
/- What an argument that is a slice of ops comes in as. No program. -/
namespace Go.Proofs.YtdlogcdpapknaaaGreatDoor
open Go.RowKit Go.ChangeShapes Go.WideShapes Go.Deep
set_option linter.unusedVariables false

/-- An op as a datum. -/
def opd {H : Type} (o : Bm.Ov) : DataW H := .agg [.lit (.bool o.p), .lit (.string o.k.data.toList), .lit (.string o.v.data.toList)]

theorem ocells_inv : ∀ (l : List Bm.Ov) (j : Nat) (u : Value), (ocells l)[j]? = some u → ∃ i o, l[i]? = some o ∧ ((j = i * 3 ∧ u = .bool o.p) ∨ (j = i * 3 + 1 ∧ u = .string o.k) ∨ (j = i * 3 + 2 ∧ u = .string o.v))
  | [], j, u, h => by simp [ocells] at h
  | o :: r, 0, u, h => ⟨0, o, rfl, .inl ⟨rfl, by simpa [ocells, ocell] using h.symm⟩⟩
  | o :: r, 1, u, h => ⟨0, o, rfl, .inr (.inl ⟨rfl, by simpa [ocells, ocell] using h.symm⟩)⟩
  | o :: r, 2, u, h => ⟨0, o, rfl, .inr (.inr ⟨rfl, by simpa [ocells, ocell] using h.symm⟩)⟩
  | o :: r, j + 3, u, h => by
    have h' : (ocells r)[j]? = some u := by simpa [ocells, ocell] using h
    obtain ⟨i, q, hq, hc⟩ := ocells_inv r j u h'
    refine ⟨i + 1, q, by simpa using hq, ?_⟩
    rcases hc with ⟨rfl, hu⟩ | ⟨rfl, hu⟩ | ⟨rfl, hu⟩
    · exact .inl ⟨by omega, hu⟩
    · exact .inr (.inl ⟨by omega, hu⟩)
    · exact .inr (.inr ⟨by omega, hu⟩)

section
variable {H : Type} {enc : TypeId × Value → H} {P : Program} {w : World} {base : Nat} {spare : Nat → Bool} {held : Bool}

theorem open_ops {t e : TypeId} {f0 f1 f2 : Field} {fuel : Nat} {v : Value} {x : DataW H × List MemPlace} (ht : P.underlying t = some (.slice e)) (he : P.underlying e = some (.struct #[f0, f1, f2]))
    (hone : oneCellFields P #[f0, f1, f2] = true) (ce : P.cellsOf e = 3) (u0 : P.underlying f0.type = some .bool) (u1 : P.underlying f1.type = some .string) (u2 : P.underlying f2.type = some .string)
    (h : DataW.trod enc P w base spare held fuel t [v] = some x) : ∃ l : List Bm.Ov, IsO w v l ∧ ((x.1 = .nil ∧ l = []) ∨ ∃ sp, x.1 = .slice (l.map opd) sp) := by
  rcases open_slice ht h with ⟨hv, hx⟩ | ⟨a, len, cap, m, n, D, Pl, hv, hb, hl, hm, hmm, rfl, hx⟩
  · simp at hv
    subst hv hx
    exact ⟨[], IsO.nil _, .inl ⟨rfl, rfl⟩⟩
  · simp at hv
    subst hv
    have hlm : len ≤ m := by rw [hmm]; split <;> omega
    obtain ⟨o0, c0⟩ := hone_of hone 0 f0 rfl
    obtain ⟨o1, c1⟩ := hone_of hone 1 f1 rfl
    obtain ⟨o2, c2⟩ := hone_of hone 2 f2 rfl
    have each : ∀ i, i < len → ∃ o : Bm.Ov, w.cell? (a.add (i * 3)) = some (.bool o.p) ∧ w.cell? (a.add (i * 3 + 1)) = some (.string o.k) ∧ w.cell? (a.add (i * 3 + 2)) = some (.string o.v) ∧ D i = opd o := by
      intro i hi
      obtain ⟨cs', h1, h2⟩ := hx i (by omega)
      rw [ce] at h1
      obtain ⟨_, hlen, hcell⟩ := World.cells?_some h1
      obtain ⟨y0, y1, y2, k, hxy, _, g0, g1, g2⟩ := trod_struct3 he h2
      match cs', hlen with
      | [v0, v1, v2], _ =>
        simp [o0, o1, o2, c0, c1, c2] at g0 g1 g2
        obtain ⟨p, hp, rfl⟩ := DataW.trod_bool u0 g0
        obtain ⟨s, hs, rfl, _⟩ := DataW.trod_string u1 g1
        obtain ⟨r, hr, rfl, _⟩ := DataW.trod_string u2 g2
        simp at hp hs hr
        subst hp hs hr
        have e0 := hcell 0 (by omega)
        have e1 := hcell 1 (by omega)
        have e2 := hcell 2 (by omega)
        rw [Go.Deep.add_add] at e0 e1 e2
        simp only [Prod.mk.injEq] at hxy
        exact ⟨⟨p, s, r⟩, by simpa using e0, by simpa using e1, by simpa using e2, hxy.1⟩
    have : Inhabited Bm.Ov := ⟨⟨false, ⟨#[]⟩, ⟨#[]⟩⟩⟩
    obtain ⟨f, hf⟩ := choose_lt each
    refine ⟨(List.range len).map f, .inr ⟨a, cap, by simp, by simpa using hl, hm, fun j u hj => ?_⟩, .inr ⟨(List.range (m - len)).map fun j => D (len + j), ?_⟩⟩
    · obtain ⟨i, o, ho, hc⟩ := ocells_inv _ j u hj
      obtain ⟨hi, e⟩ := List.getElem?_eq_some_iff.1 ho
      simp at hi e
      obtain ⟨k0, k1, k2, _⟩ := hf i hi
      subst e
      rcases hc with ⟨rfl, rfl⟩ | ⟨rfl, rfl⟩ | ⟨rfl, rfl⟩
      · exact k0
      · exact k1
      · exact k2
    · show DataW.slice _ _ = DataW.slice _ _
      congr 1
      rw [List.map_map]
      exact List.map_congr_left fun i hi => (hf i (by simpa using hi)).2.2.2

theorem weights_all {e : TypeId} {n : Nat} {d : DataW H} : ∀ {ds : List (DataW H)}, d ∈ ds → n ∈ d.weights P e → n ∈ DataW.weightsAll P e ds
  | [], h, _ => by simp at h
  | q :: r, h, hn => by
    simp only [DataW.weightsAll, List.mem_append]
    rcases List.mem_cons.1 h with rfl | h
    · exact .inl hn
    · exact .inr (weights_all h hn)

/-- A list of ops as a datum. -/
def OpsD (d : DataW H) (l : List Bm.Ov) : Prop := (d = .nil ∧ l = []) ∨ ∃ sp, d = .slice (l.map opd) sp

theorem ops_fit {t e : TypeId} {f0 f1 f2 : Field} {l : List Bm.Ov} {d : DataW H} (h : ∀ n ∈ d.weights P t, n ≤ reachBytes) (hd : OpsD d l) (hu : P.underlying t = some (.slice e)) (he : P.underlying e = some (.struct #[f0, f1, f2])) (hb : P.bytesOf e = 40) :
    FitO l ∧ l.length * 40 ≤ 140737488351232 := by
  rcases hd with ⟨_, rfl⟩ | ⟨sp, rfl⟩
  · exact ⟨fun o ho => by simp at ho, by simp⟩
  refine ⟨fun o ho => ?_, ?_⟩
  · have key : ∀ n ∈ (opd (H := H) o).weights P e, n ≤ 140737488351232 := by
      intro n hn
      exact h n (by
        simp only [DataW.weights, hu]
        exact List.mem_cons_of_mem _ (List.mem_append_left _ (weights_all (List.mem_map_of_mem ho) hn)))
    constructor
    · have := key o.k.data.toList.length (by simp [opd, DataW.weights, he, DataW.weightsEach])
      rw [Lib.size_eq]; exact this
    · have := key o.v.data.toList.length (by simp [opd, DataW.weights, he, DataW.weightsEach])
      rw [Lib.size_eq]; exact this
  · have := h ((l.map (opd (H := H))).length + sp.length |> (· * P.bytesOf e)) (by simp [DataW.weights, hu])
    rw [hb] at this
    simp only [List.length_map, reachBytes] at this
    omega

theorem sized_ops {ts : List TypeId} {ds : List (DataW H)} (h : (DataW.weightsEach P ts ds).all (· ≤ reachBytes) = true) {j : Nat} {t e : TypeId} {f0 f1 f2 : Field} {l : List Bm.Ov} {sp : List (DataW H)} (ht : ts[j]? = some t) (hd : ds[j]? = some (.slice (l.map opd) sp)) (hu : P.underlying t = some (.slice e)) (he : P.underlying e = some (.struct #[f0, f1, f2])) (hb : P.bytesOf e = 40) :
    FitO l ∧ l.length * 40 ≤ 140737488351232 := by
  have hall := List.all_eq_true.1 h
  refine ⟨fun o ho => ?_, ?_⟩
  · have key : ∀ n ∈ (opd (H := H) o).weights P e, n ≤ 140737488351232 := by
      intro n hn
      have := hall n (DataW.weights_mem_each ht hd n (by
        simp only [DataW.weights, hu]
        exact List.mem_cons_of_mem _ (List.mem_append_left _ (weights_all (List.mem_map_of_mem ho) hn))))
      have h3 : n ≤ reachBytes := of_decide_eq_true this
      exact h3
    constructor
    · have := key o.k.data.toList.length (by simp [opd, DataW.weights, he, DataW.weightsEach])
      rw [Lib.size_eq]; exact this
    · have := key o.v.data.toList.length (by simp [opd, DataW.weights, he, DataW.weightsEach])
      rw [Lib.size_eq]; exact this
  · have := sized_slice h ht hd hu
    rw [hb] at this
    simp only [List.length_map, reachBytes] at this
    omega

end

end Go.Proofs.YtdlogcdpapknaaaGreatDoor

/- What an argument that is a slice of a script's acts comes in as (layer 25). -/
namespace Go.Proofs.YtdlogcdpapknaaaGreatDoor
open Go.RowKit Go.ChangeShapes Go.WideShapes Go.Deep
set_option linter.unusedVariables false

theorem ac_inv : ∀ (l : List Aw) (j : Nat) (u : Value), (gcells aca l)[j]? = some u → ∃ i a m, l[i]? = some a ∧ j = i * 6 + m ∧ (aca a)[m]? = some u
  | [], j, u, h => by simp [gcells] at h
  | a :: r, j, u, h => by
    rw [gcells] at h
    rcases Nat.lt_or_ge j 6 with hj | hj
    · rw [List.getElem?_append_left (by rw [aca_len]; exact hj)] at h
      exact ⟨0, a, j, rfl, by omega, h⟩
    · rw [List.getElem?_append_right (by rw [aca_len]; exact hj), aca_len] at h
      obtain ⟨i, b, m, h1, h2, h3⟩ := ac_inv r (j - 6) u h
      exact ⟨i + 1, b, m, by simpa using h1, by omega, h3⟩

section
variable {H : Type} {enc : TypeId × Value → H} {P : Program} {w : World} {base : Nat} {spare : Nat → Bool} {held : Bool}

theorem trod_ac {t : TypeId} {f0 f1 f2 f3 f4 f5 : Field} {fuel : Nat} {cs : List Value} {x : DataW H × List MemPlace} (ht : P.underlying t = some (.struct #[f0, f1, f2, f3, f4, f5])) (h : DataW.trod enc P w base spare held fuel t cs = some x) :
    ∃ y0 y1 y2 y3 y4 y5 n, x.1 = .agg [y0.1, y1.1, y2.1, y3.1, y4.1, y5.1] ∧ DataW.trod enc P w base spare held n f0.type ((cs.drop f0.offset).take (P.cellsOf f0.type)) = some y0 ∧
      DataW.trod enc P w base spare held n f1.type ((cs.drop f1.offset).take (P.cellsOf f1.type)) = some y1 ∧ DataW.trod enc P w base spare held n f2.type ((cs.drop f2.offset).take (P.cellsOf f2.type)) = some y2 ∧
      DataW.trod enc P w base spare held n f3.type ((cs.drop f3.offset).take (P.cellsOf f3.type)) = some y3 ∧ DataW.trod enc P w base spare held n f4.type ((cs.drop f4.offset).take (P.cellsOf f4.type)) = some y4 ∧
      DataW.trod enc P w base spare held n f5.type ((cs.drop f5.offset).take (P.cellsOf f5.type)) = some y5 := by
  obtain ⟨xs, n, _, rfl, hl, hlen, hf⟩ := DataW.trod_struct ht h
  match xs, hlen with
  | [y0, y1, y2, y3, y4, y5], _ => exact ⟨y0, y1, y2, y3, y4, y5, n, by simp, by simpa using hf 0 f0 rfl, by simpa using hf 1 f1 rfl, by simpa using hf 2 f2 rfl, by simpa using hf 3 f3 rfl, by simpa using hf 4 f4 rfl, by simpa using hf 5 f5 rfl⟩

/-- An act of a list as a datum. -/
def ActD (d : DataW H) (x : Aw) : Prop := ∃ x0 x1 x2 x3 d5, d = .agg [x0, x1, x2, x3, .lit (.string x.a.key.data.toList), d5] ∧ OpsD d5 x.a.ops

theorem open_acts {t e o : TypeId} {f0 f1 f2 f3 f4 f5 g0 g1 g2 : Field} {fuel : Nat} {v : Value} {x : DataW H × List MemPlace} (ht : P.underlying t = some (.slice e)) (he : P.underlying e = some (.struct #[f0, f1, f2, f3, f4, f5]))
    (hone : oneCellFields P #[f0, f1, f2, f3, f4, f5] = true) (ce : P.cellsOf e = 6) (u0 : P.underlying f0.type = some (.int .i64)) (u1 : P.underlying f1.type = some (.int .i64)) (u2 : P.underlying f2.type = some (.int .i64)) (u3 : P.underlying f3.type = some (.int .i64)) (u4 : P.underlying f4.type = some .string) (u5 : P.underlying f5.type = some (.slice o))
    (ho : P.underlying o = some (.struct #[g0, g1, g2])) (hone' : oneCellFields P #[g0, g1, g2] = true) (co : P.cellsOf o = 3) (k0 : P.underlying g0.type = some .bool) (k1 : P.underlying g1.type = some .string) (k2 : P.underlying g2.type = some .string)
    (h : DataW.trod enc P w base spare held fuel t [v] = some x) : ∃ r : List Aw, IsAs w v r ∧ ((x.1 = .nil ∧ r = []) ∨ ∃ ds sp, x.1 = .slice ds sp ∧ ds.length = r.length ∧ ∀ (i : Nat) (c : Aw), r[i]? = some c → ∃ d, ds[i]? = some d ∧ ActD d c) := by
  rcases open_slice ht h with ⟨hv, hx⟩ | ⟨a, len, cap, m, n, D, Pl, hv, hb, hl, hm, hmm, rfl, hx⟩
  · simp at hv
    subst hv hx
    exact ⟨[], ⟨RowG.nil _ _, fun c hc => by simp at hc⟩, .inl ⟨rfl, rfl⟩⟩
  · simp at hv
    subst hv
    have hlm : len ≤ m := by rw [hmm]; split <;> omega
    obtain ⟨o0, c0⟩ := hone_of hone 0 f0 rfl
    obtain ⟨o1, c1⟩ := hone_of hone 1 f1 rfl
    obtain ⟨o2, c2⟩ := hone_of hone 2 f2 rfl
    obtain ⟨o3, c3⟩ := hone_of hone 3 f3 rfl
    obtain ⟨o4, c4⟩ := hone_of hone 4 f4 rfl
    obtain ⟨o5, c5⟩ := hone_of hone 5 f5 rfl
    have each : ∀ i, i < len → ∃ c : Aw, (∀ m u, (aca c)[m]? = some u → w.cell? (a.add (i * 6 + m)) = some u) ∧ IsO w c.v c.a.ops ∧ ActD (D i) c := by
      intro i hi
      obtain ⟨cs', h1, h2⟩ := hx i (by omega)
      rw [ce] at h1
      obtain ⟨_, hlen, hcell⟩ := World.cells?_some h1
      obtain ⟨y0, y1, y2, y3, y4, y5, k, hxy, q0, q1, q2, q3, q4, q5⟩ := trod_ac he h2
      match cs', hlen with
      | [v0, v1, v2, v3, v4, v5], _ =>
        simp [o0, o1, o2, o3, o4, o5, c0, c1, c2, c3, c4, c5] at q0 q1 q2 q3 q4 q5
        obtain ⟨p0, e0, rfl, _⟩ := DataW.trod_int u0 q0
        obtain ⟨p1, e1, rfl, _⟩ := DataW.trod_int u1 q1
        obtain ⟨p2, e2, rfl, _⟩ := DataW.trod_int u2 q2
        obtain ⟨p3, e3, rfl, _⟩ := DataW.trod_int u3 q3
        obtain ⟨p4, e4, rfl, _⟩ := DataW.trod_string u4 q4
        obtain ⟨l, hl2, hd2⟩ := open_ops u5 ho hone' co k0 k1 k2 q5
        simp at e0 e1 e2 e3 e4
        subst e0 e1 e2 e3 e4
        refine ⟨⟨⟨p0, p1, p2, p3, p4, l⟩, v5⟩, fun m u hu => ?_, hl2, _, _, _, _, _, hxy, hd2⟩
        have hm6 : m < 6 := (List.getElem?_eq_some_iff.1 hu).1
        have hc := hcell m (by omega)
        rw [Go.Deep.add_add] at hc
        rw [hc]
        rcases (show m = 0 ∨ m = 1 ∨ m = 2 ∨ m = 3 ∨ m = 4 ∨ m = 5 by omega) with rfl | rfl | rfl | rfl | rfl | rfl <;> simpa [aca] using hu
    have : Inhabited Aw := ⟨⟨Sct.no, .slice none 0 0⟩⟩
    obtain ⟨f, hf⟩ := choose_lt each
    refine ⟨(List.range len).map f, ⟨.inr ⟨a, cap, by simp, by simpa using hl, hm, fun j u hj => ?_⟩, fun c hc => ?_⟩, .inr ⟨(List.range len).map D, (List.range (m - len)).map fun j => D (len + j), rfl, by simp, fun i c hic => ?_⟩⟩
    · obtain ⟨i, c, m', hic, rfl, hu⟩ := ac_inv _ j u hj
      obtain ⟨hi, e⟩ := List.getElem?_eq_some_iff.1 hic
      simp at hi e
      subst e
      exact (hf i hi).1 m' u hu
    · obtain ⟨i, hi, rfl⟩ := List.mem_map.1 hc
      exact (hf i (by simpa using hi)).2.1
    · obtain ⟨hi, e⟩ := List.getElem?_eq_some_iff.1 hic
      simp at hi e
      subst e
      exact ⟨D i, by simp [hi], (hf i hi).2.2⟩

theorem sized_acts {ts : List TypeId} {ds : List (DataW H)} (h : (DataW.weightsEach P ts ds).all (· ≤ reachBytes) = true) {j : Nat} {t e o : TypeId} {f0 f1 f2 f3 f4 f5 g0 g1 g2 : Field} {r : List Aw} {es sp : List (DataW H)} (ht : ts[j]? = some t) (hd : ds[j]? = some (.slice es sp)) (hln : es.length = r.length) (hr : ∀ (i : Nat) (c : Aw), r[i]? = some c → ∃ d, es[i]? = some d ∧ ActD d c)
    (hu : P.underlying t = some (.slice e)) (he : P.underlying e = some (.struct #[f0, f1, f2, f3, f4, f5])) (hb : P.bytesOf e = 72) (h5 : P.underlying f5.type = some (.slice o)) (h4 : P.underlying f4.type = some .string) (ho : P.underlying o = some (.struct #[g0, g1, g2])) (hbo : P.bytesOf o = 40) :
    (∀ x ∈ r, FitA x) ∧ r.length * 72 ≤ 140737488351232 := by
  have hall := List.all_eq_true.1 h
  refine ⟨fun c hc => ?_, ?_⟩
  · obtain ⟨i, hi⟩ := List.getElem?_of_mem hc
    obtain ⟨d, hd1, x0, x1, x2, x3, d5, rfl, hd2⟩ := hr i c hi
    have key : ∀ n ∈ (DataW.agg [x0, x1, x2, x3, .lit (.string c.a.key.data.toList), d5]).weights P e, n ≤ reachBytes := fun n hn => of_decide_eq_true (hall n (DataW.weights_mem_each ht hd n (by
      simp only [DataW.weights, hu]
      exact List.mem_cons_of_mem _ (List.mem_append_left _ (weights_all (List.mem_of_getElem? hd1) hn)))))
    obtain ⟨f1, f2⟩ := ops_fit (fun n hn => key n (by simp only [DataW.weights, he]; simp [DataW.weightsEach, hn])) hd2 h5 ho hbo
    refine ⟨f1, by omega, ?_⟩
    have := key c.a.key.data.toList.length (by simp only [DataW.weights, he]; simp [DataW.weightsEach, DataW.weights])
    rw [Lib.size_eq]
    exact this
  · have := sized_slice h ht hd hu
    rw [hb] at this
    simp only [reachBytes] at this
    omega

end

end Go.Proofs.YtdlogcdpapknaaaGreatDoor

/- What the cards tie of the script's variables (layer 25). -/
namespace Go.Proofs.YtdlogcdpapknaaaGreatDoor
open Go.RowKit Go.ChangeShapes Go.WideShapes Go.Deep
set_option linter.unusedVariables false
set_option maxRecDepth 100000

theorem starE : "*" ++ "errors.errorString" = "*errors.errorString" := by decide
theorem rowE (u : TypeId) (h : Tryz.prog.typeName? 3 u = some "*errors.errorString") : u = 189 :=
  typeName_ptr_named (nm := "errors.errorString") (by rw [starE]; kernel_rfl) (by kernel_rfl) (by decide) u (by rw [starE]; exact h)
theorem oneE : ((List.range Tryz.prog.types.size).filter fun t => Tryz.prog.rowNamed t [101, 114, 114, 111, 114]) = [31] := by kernel_rfl
theorem rtE : (Tryz.prog.cutTypes.find? (·.1 == "internal/reflectlite.rtype")).map (·.2) = some 144 := by kernel_rfl
theorem etE : Tryz.prog.globalNamed "errors.errorType" = some 1 := by kernel_rfl
theorem tabE : (Rows.laid_internal_strconv_uint64pow10 : DataW Unit) = Lib.tabData .u64 Lib.pow10Tab := by kernel_rfl

/-- The variables that a script's statement lists. -/
def laidS : List (String × DataW Unit) := [("math/bits.deBruijn32tab", Rows.laid_math_bits_deBruijn32tab), ("math/bits.deBruijn64tab", Rows.laid_math_bits_deBruijn64tab), ("internal/strconv.uint64pow10", Rows.laid_internal_strconv_uint64pow10), ("strconv.ErrRange", Rows.laid_strconv_ErrRange), ("strconv.ErrSyntax", Rows.laid_strconv_ErrSyntax), ("lagleash/script.names", Rows.laid_lagleash_script_names)]

theorem nms_of {W : World} (h : laidMet Tryz.prog [("lagleash/script.names", Rows.laid_lagleash_script_names)] W) : Nms W := by
  obtain ⟨ps, ⟨g, t, cs, fuel, p, q, hg, ht, hv, hd, _, _⟩, _, _⟩ := h
  obtain rfl := Option.some.inj ((show Tryz.prog.globalNamed "lagleash/script.names" = some 0 by kernel_rfl).symm.trans hg)
  obtain rfl := Option.some.inj ((show (Tryz.prog.globals[0]?).map (·.type) = some 105 by kernel_rfl).symm.trans ht)
  have c1 : Tryz.prog.cellsOf 9 = 1 := by kernel_rfl
  obtain ⟨xs, m, _, ex, hlen, hl, hel⟩ := DataW.trod_array Tryz.underlying105 hd
  have hcell := fun r => World.var?_cell hg hv r
  have e3 := (DataW.agg.inj (Prod.mk.inj ex).1)
  intro k hk
  have h1 := hel k hk
  rw [c1] at h1
  have hx : xs[k]? = some (xs[k]'(by omega)) := List.getElem?_eq_getElem _
  rw [hx] at h1
  obtain ⟨s, hc, hs, _⟩ := DataW.trod_string Tryz.underlying9 h1
  have hck : cs.toList[k]? = some (.string s) := by
    have := congrArg (·[0]?) hc
    simpa [List.getElem?_take, List.getElem?_drop] using this
  rw [hcell k, ← Array.getElem?_toList, hck]
  have hm : (xs.map (·.1))[k]? = some (.lit (.string s.data.toList)) := by
    rw [List.getElem?_map, hx, hs]
    rfl
  rw [← e3] at hm
  congr 2
  apply Sct.ba_ext
  have hall : ∀ k : Nat, k < 13 → ([.lit (.string []), .lit (.string [99, 111, 109, 109, 105, 116]), .lit (.string [114, 101, 97, 100]), .lit (.string [116, 105, 99, 107]), .lit (.string [112, 114, 111, 109, 111, 116, 101]), .lit (.string [102, 108, 117, 115, 104]), .lit (.string [100, 101, 108, 105, 118, 101, 114]), .lit (.string [116, 119, 105, 99, 101]), .lit (.string [100, 114, 111, 112]), .lit (.string [102, 117, 115, 101]), .lit (.string [112, 117, 108, 108]), .lit (.string [115, 116, 97, 114, 116]), .lit (.string [114, 111, 117, 110, 100])] : List (DataW Unit))[k]? = some (.lit (.string (nmA k).data.toList)) := by
    intro k hk
    obtain rfl | rfl | rfl | rfl | rfl | rfl | rfl | rfl | rfl | rfl | rfl | rfl | rfl : k = 0 ∨ k = 1 ∨ k = 2 ∨ k = 3 ∨ k = 4 ∨ k = 5 ∨ k = 6 ∨ k = 7 ∨ k = 8 ∨ k = 9 ∨ k = 10 ∨ k = 11 ∨ k = 12 := by omega
    all_goals rfl
  rw [hall k hk] at hm
  have := Option.some.inj hm
  simpa using this.symm

/-- What the cards tie. -/
theorem vs_of {W : World} (h : laidMetH Tryz.prog [("math/bits.deBruijn32tab", Rows.laid_math_bits_deBruijn32tab), ("math/bits.deBruijn64tab", Rows.laid_math_bits_deBruijn64tab), ("internal/strconv.uint64pow10", Rows.laid_internal_strconv_uint64pow10), ("errors.errorType", Rows.laid_errors_errorType), ("strconv.ErrRange", Rows.laid_strconv_ErrRange), ("strconv.ErrSyntax", Rows.laid_strconv_ErrSyntax), ("lagleash/script.names", Rows.laid_lagleash_script_names)] W) : Vs W := by
  have h' : laidMet Tryz.prog laidS W ∧ handlesMet Tryz.prog [("errors.errorType", Rows.laid_errors_errorType)] W := h
  obtain ⟨h1, h2⟩ := h'
  unfold laidS at h1
  have ht := h1.tail.tail
  rw [tabE] at ht
  refine ⟨nms_of h1.tail.tail.tail.tail.tail, ?_, ?_, ?_, ?_⟩
  · exact Lib.tabIs_of_head (g := 5) (by kernel_rfl) (by kernel_rfl) Tryz.underlying185 Tryz.underlying116 (by kernel_rfl) (by kernel_rfl) ht
  · obtain ⟨a, s, hv, _⟩ := laid_sentinel h1.tail.tail.tail.tail (g := 3) (by kernel_rfl) (show (Tryz.prog.globals[3]?).map (·.type) = some 31 by kernel_rfl) Tryz.underlying31 rowE Tryz.underlying189 Tryz.underlying191 rfl rfl Tryz.underlying9 (by kernel_rfl) (by kernel_rfl)
    exact ⟨_, _, hv⟩
  · obtain ⟨a, s, hv, _⟩ := laid_sentinel h1.tail.tail.tail (g := 4) (by kernel_rfl) (show (Tryz.prog.globals[4]?).map (·.type) = some 31 by kernel_rfl) Tryz.underlying31 rowE Tryz.underlying189 Tryz.underlying191 rfl rfl Tryz.underlying9 (by kernel_rfl) (by kernel_rfl)
    exact ⟨_, _, hv⟩
  · obtain ⟨name, u, ty, e1, e2, e3, e4, e5⟩ := h2 _ (List.mem_singleton.2 rfl)
    have en : name = [101, 114, 114, 111, 114] := (Option.some.inj e1).symm
    subst en
    obtain rfl := Option.some.inj (rtE.symm.trans e2)
    have hm : ty ∈ (List.range Tryz.prog.types.size).filter fun t => Tryz.prog.rowNamed t [101, 114, 114, 111, 114] := List.mem_filter.2 ⟨List.mem_range.2 e3, e4⟩
    rw [oneE] at hm
    obtain rfl := List.mem_singleton.1 hm
    have hh : typeHandle Tryz.prog 31 = .pointer (some ⟨8, 31, none⟩) := by kernel_rfl
    rw [hh] at e5
    simpa using World.var?_cell etE e5 0

end Go.Proofs.YtdlogcdpapknaaaGreatDoor
