/- Texts of one layer, one behind the other. -/
import Derived.Test.YtfnaeblbodfekaaProg
import Derived.Test.YtfnaeblbodfekaaG2
import Derived.SizedLaws
import Derived.Lib.SmallJoins
import Derived.Deep.Slices
import Derived.Test.YtfnaeblbodfekaaG6
import Derived.Test.YtfnaeblbodfekaaG3
import Derived.Test.YtfnaeblbodfekaaG4
import Derived.Test.YtfnaeblbodfekaaG7
import Derived.Test.YtfnaeblbodfekaaG8
/- The contract of Pick. -/
namespace Go.Proofs.Ytfnaeblbodfekaa
open Go.RowKit
set_option linter.unusedVariables false

set_option maxHeartbeats 400000 in
theorem pick_any (x n : Int) (w : World) (hn : 0 < n) (hn2 : n < 9223372036854775808) (hx : -9223372036854775808 ≤ x) (hx2 : x < 9223372036854775808) :
    Calls Try.prog 24 #[.int .i64 x, .int .i64 n] w fun e w' => (∃ p : Nat, (p : Int) < n ∧ e = .returned (.int .i64 p)) ∧ w = w' := by
  have hnz : (n == 0) = false := by simp; omega
  have ht1 : x.tmod n < n := Int.tmod_lt_of_pos x hn
  have ht2 : -n < x.tmod n := Int.lt_tmod_of_pos x hn
  by_cases h : x.tmod n < 0
  · go_enter Try.func24, Try.ntmps24
    go_wp2
    go_ret
    exact ⟨⟨(x.tmod n + n).toNat, by omega, ret_i64 (by omega)⟩, rfl⟩
  · go_enter Try.func24, Try.ntmps24
    go_wp2
    go_ret
    exact ⟨⟨(x.tmod n).toNat, by omega, ret_i64 (by omega)⟩, rfl⟩

/-- An integer of 64 bits. -/
def I64 (z : Int) : Prop := -9223372036854775808 ≤ z ∧ z ≤ 9223372036854775807

def pk (x n : Int) : Int := if x.tmod n < 0 then x.tmod n + n else x.tmod n

theorem pk_lt (x n : Int) (hn : 0 < n) : 0 ≤ pk x n ∧ pk x n < n := by
  have ht1 : x.tmod n < n := Int.tmod_lt_of_pos x hn
  have ht2 : -n < x.tmod n := Int.lt_tmod_of_pos x hn
  unfold pk
  split <;> omega

set_option maxHeartbeats 400000 in
theorem pickx_any (x n : Int) (w : World) (hn : 0 < n) (hn2 : n < 9223372036854775808) (hx : I64 x) :
    Calls Try.prog 24 #[.int .i64 x, .int .i64 n] w fun e w' => e = .returned (.int .i64 (pk x n)) ∧ w = w' := by
  have hnz : (n == 0) = false := by simp; omega
  obtain ⟨hx1, hx2⟩ := hx
  have ht1 : x.tmod n < n := Int.tmod_lt_of_pos x hn
  have ht2 : -n < x.tmod n := Int.lt_tmod_of_pos x hn
  by_cases h : x.tmod n < 0
  · have e : pk x n = x.tmod n + n := by simp [pk, h]
    rw [e]
    clear e
    go_enter Try.func24, Try.ntmps24
    go_wp2
    go_ret
    exact ⟨ret_i64 (by omega), rfl⟩
  · have e : pk x n = x.tmod n := by simp [pk, h]
    rw [e]
    clear e
    go_enter Try.func24, Try.ntmps24
    go_wp2
    go_ret
    exact ⟨ret_i64 (by omega), rfl⟩

end Go.Proofs.Ytfnaeblbodfekaa

/- What a number, bytes, a row of an argument come in as. No program. -/
namespace Go.Proofs.Ytfnaeblbodfekaa
open Go.RowKit Go.ChangeShapes Go.WideShapes Go.Deep
set_option linter.unusedVariables false

theorem i64_of {z : Int} (h : (Lit.int .i64 z).wf = true) : I64 z := by
  have := range_i64 (zs := [z]) (by simpa using h) 0
  simp at this
  exact ⟨by omega, by omega⟩

section
variable {H : Type} {enc : TypeId × Value → H} {P : Program} {w : World} {base : Nat} {spare : Nat → Bool} {held : Bool}

/-- Bytes in a cell. -/
theorem open_byts {t e : TypeId} {fuel : Nat} {v : Value} {x : DataW H × List MemPlace} (ht : P.underlying t = some (.slice e)) (he : P.underlying e = some (.int .u8)) (h1 : P.cellsOf e = 1)
    (h : DataW.trod enc P w base spare held fuel t [v] = some x) : ∃ zs : List Int, Is .u8 w v zs := by
  rcases open_ints ht he h1 h with ⟨hcs, hx⟩ | ⟨a, l, c, zs, hcs, hb, hl, hm, hz, hx, hcell, hwz⟩
  · simp at hcs
    subst hcs
    exact ⟨[], Is.nil _ _⟩
  · simp at hcs
    subst hcs
    have hzl : l ≤ zs.length := by rw [hz]; split <;> omega
    have hlen : (zs.take l).length = l := by rw [List.length_take]; omega
    refine ⟨zs.take l, fun z hz => hwz z (List.mem_of_mem_take hz), .inr ⟨a, c, by rw [hlen], by omega, hm, fun j hj => ?_⟩⟩
    rw [hlen] at hj
    rw [hcell j (by omega)]
    simp [List.getD, hj]

theorem gcells_inv {α : Type} {f : α → List Value} {k : Nat} (hk : ∀ a, (f a).length = k) (h0 : 0 < k) : ∀ (l : List α) (j : Nat) (u : Value), (gcells f l)[j]? = some u → ∃ i a m, l[i]? = some a ∧ j = i * k + m ∧ (f a)[m]? = some u
  | [], j, u, h => by simp [gcells] at h
  | a :: r, j, u, h => by
    rw [gcells] at h
    by_cases hj : j < k
    · rw [List.getElem?_append_left (by rw [hk]; exact hj)] at h
      exact ⟨0, a, j, rfl, by omega, h⟩
    · rw [List.getElem?_append_right (by rw [hk]; omega), hk] at h
      obtain ⟨i, b, m, h1, h2, h3⟩ := gcells_inv hk h0 r (j - k) u h
      exact ⟨i + 1, b, m, by simpa using h1, by rw [Nat.add_mul]; omega, h3⟩

theorem sized_row {ts : List TypeId} {ds : List (DataW H)} (h : (DataW.weightsEach P ts ds).all (· ≤ reachBytes) = true) {j k : Nat} {t e : TypeId} {α : Type} {r : List α} {es sp : List (DataW H)} (ht : ts[j]? = some t) (hd : ds[j]? = some (.slice es sp)) (hlen : es.length = r.length)
    (hu : P.underlying t = some (.slice e)) (hb : P.bytesOf e = k) : r.length * k ≤ 140737488351232 := by
  have := sized_slice h ht hd hu
  rw [hb, Nat.add_mul, hlen] at this
  simp only [reachBytes] at this
  omega

end

end Go.Proofs.Ytfnaeblbodfekaa

/- What an argument that is a slice of ops comes in as. No program. -/
namespace Go.Proofs.Ytfnaeblbodfekaa
open Go.RowKit Go.ChangeShapes Go.WideShapes Go.Deep
set_option linter.unusedVariables false

/-- An op as a datum. -/
def opd {H : Type} (o : Bm.Ov) : DataW H := .agg [.lit (.bool o.p), .lit (.string o.k.data.toList), .lit (.string o.v.data.toList)]

theorem ocells_inv : ∀ (l : List Bm.Ov) (j : Nat) (u : Value), (ocells l)[j]? = some u → ∃ i o, l[i]? = some o ∧ ((j = i * 3 ∧ u = .bool o.p) ∨ (j = i * 3 + 1 ∧ u = .string o.k) ∨ (j = i * 3 + 2 ∧ u = .string o.v))
  | [], j, u, h => by simp [ocells] at h
  | o :: r, 0, u, h => ⟨0, o, rfl, .inl ⟨rfl, by simpa [ocells, ocell] using h.symm⟩⟩
  | o :: r, 1, u, h => ⟨0, o, rfl, .inr (.inl ⟨rfl, by simpa [ocells, ocell] using h.symm⟩)⟩
  | o :: r, 2, u, h => ⟨0, o, rfl, .inr (.inr ⟨rfl, by simpa [ocells, ocell] using h.symm⟩)⟩
  | o :: r, j + 3, u, h => by
    have h' : (ocells r)[j]? = some u := by simpa [ocells, ocell] using h
    obtain ⟨i, q, hq, hc⟩ := ocells_inv r j u h'
    refine ⟨i + 1, q, by simpa using hq, ?_⟩
    rcases hc with ⟨rfl, hu⟩ | ⟨rfl, hu⟩ | ⟨rfl, hu⟩
    · exact .inl ⟨by omega, hu⟩
    · exact .inr (.inl ⟨by omega, hu⟩)
    · exact .inr (.inr ⟨by omega, hu⟩)

section
variable {H : Type} {enc : TypeId × Value → H} {P : Program} {w : World} {base : Nat} {spare : Nat → Bool} {held : Bool}

theorem open_ops {t e : TypeId} {f0 f1 f2 : Field} {fuel : Nat} {v : Value} {x : DataW H × List MemPlace} (ht : P.underlying t = some (.slice e)) (he : P.underlying e = some (.struct #[f0, f1, f2]))
    (hone : oneCellFields P #[f0, f1, f2] = true) (ce : P.cellsOf e = 3) (u0 : P.underlying f0.type = some .bool) (u1 : P.underlying f1.type = some .string) (u2 : P.underlying f2.type = some .string)
    (h : DataW.trod enc P w base spare held fuel t [v] = some x) : ∃ l : List Bm.Ov, IsO w v l ∧ ((x.1 = .nil ∧ l = []) ∨ ∃ sp, x.1 = .slice (l.map opd) sp) := by
  rcases open_slice ht h with ⟨hv, hx⟩ | ⟨a, len, cap, m, n, D, Pl, hv, hb, hl, hm, hmm, rfl, hx⟩
  · simp at hv
    subst hv hx
    exact ⟨[], IsO.nil _, .inl ⟨rfl, rfl⟩⟩
  · simp at hv
    subst hv
    have hlm : len ≤ m := by rw [hmm]; split <;> omega
    obtain ⟨o0, c0⟩ := hone_of hone 0 f0 rfl
    obtain ⟨o1, c1⟩ := hone_of hone 1 f1 rfl
    obtain ⟨o2, c2⟩ := hone_of hone 2 f2 rfl
    have each : ∀ i, i < len → ∃ o : Bm.Ov, w.cell? (a.add (i * 3)) = some (.bool o.p) ∧ w.cell? (a.add (i * 3 + 1)) = some (.string o.k) ∧ w.cell? (a.add (i * 3 + 2)) = some (.string o.v) ∧ D i = opd o := by
      intro i hi
      obtain ⟨cs', h1, h2⟩ := hx i (by omega)
      rw [ce] at h1
      obtain ⟨_, hlen, hcell⟩ := World.cells?_some h1
      obtain ⟨y0, y1, y2, k, hxy, _, g0, g1, g2⟩ := trod_struct3 he h2
      match cs', hlen with
      | [v0, v1, v2], _ =>
        simp [o0, o1, o2, c0, c1, c2] at g0 g1 g2
        obtain ⟨p, hp, rfl⟩ := DataW.trod_bool u0 g0
        obtain ⟨s, hs, rfl, _⟩ := DataW.trod_string u1 g1
        obtain ⟨r, hr, rfl, _⟩ := DataW.trod_string u2 g2
        simp at hp hs hr
        subst hp hs hr
        have e0 := hcell 0 (by omega)
        have e1 := hcell 1 (by omega)
        have e2 := hcell 2 (by omega)
        rw [Go.Deep.add_add] at e0 e1 e2
        simp only [Prod.mk.injEq] at hxy
        exact ⟨⟨p, s, r⟩, by simpa using e0, by simpa using e1, by simpa using e2, hxy.1⟩
    have : Inhabited Bm.Ov := ⟨⟨false, ⟨#[]⟩, ⟨#[]⟩⟩⟩
    obtain ⟨f, hf⟩ := choose_lt each
    refine ⟨(List.range len).map f, .inr ⟨a, cap, by simp, by simpa using hl, hm, fun j u hj => ?_⟩, .inr ⟨(List.range (m - len)).map fun j => D (len + j), ?_⟩⟩
    · obtain ⟨i, o, ho, hc⟩ := ocells_inv _ j u hj
      obtain ⟨hi, e⟩ := List.getElem?_eq_some_iff.1 ho
      simp at hi e
      obtain ⟨k0, k1, k2, _⟩ := hf i hi
      subst e
      rcases hc with ⟨rfl, rfl⟩ | ⟨rfl, rfl⟩ | ⟨rfl, rfl⟩
      · exact k0
      · exact k1
      · exact k2
    · show DataW.slice _ _ = DataW.slice _ _
      congr 1
      rw [List.map_map]
      exact List.map_congr_left fun i hi => (hf i (by simpa using hi)).2.2.2

theorem weights_all {e : TypeId} {n : Nat} {d : DataW H} : ∀ {ds : List (DataW H)}, d ∈ ds → n ∈ d.weights P e → n ∈ DataW.weightsAll P e ds
  | [], h, _ => by simp at h
  | q :: r, h, hn => by
    simp only [DataW.weightsAll, List.mem_append]
    rcases List.mem_cons.1 h with rfl | h
    · exact .inl hn
    · exact .inr (weights_all h hn)

/-- A list of ops as a datum. -/
def OpsD (d : DataW H) (l : List Bm.Ov) : Prop := (d = .nil ∧ l = []) ∨ ∃ sp, d = .slice (l.map opd) sp

theorem ops_fit {t e : TypeId} {f0 f1 f2 : Field} {l : List Bm.Ov} {d : DataW H} (h : ∀ n ∈ d.weights P t, n ≤ reachBytes) (hd : OpsD d l) (hu : P.underlying t = some (.slice e)) (he : P.underlying e = some (.struct #[f0, f1, f2])) (hb : P.bytesOf e = 40) :
    FitO l ∧ l.length * 40 ≤ 140737488351232 := by
  rcases hd with ⟨_, rfl⟩ | ⟨sp, rfl⟩
  · exact ⟨fun o ho => by simp at ho, by simp⟩
  refine ⟨fun o ho => ?_, ?_⟩
  · have key : ∀ n ∈ (opd (H := H) o).weights P e, n ≤ 140737488351232 := by
      intro n hn
      exact h n (by
        simp only [DataW.weights, hu]
        exact List.mem_cons_of_mem _ (List.mem_append_left _ (weights_all (List.mem_map_of_mem ho) hn)))
    constructor
    · have := key o.k.data.toList.length (by simp [opd, DataW.weights, he, DataW.weightsEach])
      rw [Lib.size_eq]; exact this
    · have := key o.v.data.toList.length (by simp [opd, DataW.weights, he, DataW.weightsEach])
      rw [Lib.size_eq]; exact this
  · have := h ((l.map (opd (H := H))).length + sp.length |> (· * P.bytesOf e)) (by simp [DataW.weights, hu])
    rw [hb] at this
    simp only [List.length_map, reachBytes] at this
    omega

theorem sized_ops {ts : List TypeId} {ds : List (DataW H)} (h : (DataW.weightsEach P ts ds).all (· ≤ reachBytes) = true) {j : Nat} {t e : TypeId} {f0 f1 f2 : Field} {l : List Bm.Ov} {sp : List (DataW H)} (ht : ts[j]? = some t) (hd : ds[j]? = some (.slice (l.map opd) sp)) (hu : P.underlying t = some (.slice e)) (he : P.underlying e = some (.struct #[f0, f1, f2])) (hb : P.bytesOf e = 40) :
    FitO l ∧ l.length * 40 ≤ 140737488351232 := by
  have hall := List.all_eq_true.1 h
  refine ⟨fun o ho => ?_, ?_⟩
  · have key : ∀ n ∈ (opd (H := H) o).weights P e, n ≤ 140737488351232 := by
      intro n hn
      have := hall n (DataW.weights_mem_each ht hd n (by
        simp only [DataW.weights, hu]
        exact List.mem_cons_of_mem _ (List.mem_append_left _ (weights_all (List.mem_map_of_mem ho) hn))))
      have h3 : n ≤ reachBytes := of_decide_eq_true this
      exact h3
    constructor
    · have := key o.k.data.toList.length (by simp [opd, DataW.weights, he, DataW.weightsEach])
      rw [Lib.size_eq]; exact this
    · have := key o.v.data.toList.length (by simp [opd, DataW.weights, he, DataW.weightsEach])
      rw [Lib.size_eq]; exact this
  · have := sized_slice h ht hd hu
    rw [hb] at this
    simp only [List.length_map, reachBytes] at this
    omega

end

end Go.Proofs.Ytfnaeblbodfekaa

/- What an argument that is a commit, or a slice of commits, comes in as. No program. -/
namespace Go.Proofs.Ytfnaeblbodfekaa
open Go.RowKit Go.ChangeShapes Go.WideShapes Go.Deep
set_option linter.unusedVariables false

theorem in64 {z : Int} (h : (Lit.int .i64 z).wf = true) : In64 z := by
  have := range_i64 (zs := [z]) (by simpa using h) 0
  simp at this
  exact ⟨by omega, by omega⟩

theorem ccells_inv : ∀ (l : List Cw) (j : Nat) (u : Value), (ccells l)[j]? = some u → ∃ i c, l[i]? = some c ∧ ((j = i * 3 ∧ u = .int .i64 c.e) ∨ (j = i * 3 + 1 ∧ u = .int .i64 c.n) ∨ (j = i * 3 + 2 ∧ u = c.v))
  | [], j, u, h => by simp [ccells] at h
  | o :: r, 0, u, h => ⟨0, o, rfl, .inl ⟨rfl, by simpa [ccells, ccell] using h.symm⟩⟩
  | o :: r, 1, u, h => ⟨0, o, rfl, .inr (.inl ⟨rfl, by simpa [ccells, ccell] using h.symm⟩)⟩
  | o :: r, 2, u, h => ⟨0, o, rfl, .inr (.inr ⟨rfl, by simpa [ccells, ccell] using h.symm⟩)⟩
  | o :: r, j + 3, u, h => by
    have h' : (ccells r)[j]? = some u := by simpa [ccells, ccell] using h
    obtain ⟨i, q, hq, hc⟩ := ccells_inv r j u h'
    refine ⟨i + 1, q, by simpa using hq, ?_⟩
    rcases hc with ⟨rfl, hu⟩ | ⟨rfl, hu⟩ | ⟨rfl, hu⟩
    · exact .inl ⟨by omega, hu⟩
    · exact .inr (.inl ⟨by omega, hu⟩)
    · exact .inr (.inr ⟨by omega, hu⟩)

section
variable {H : Type} {enc : TypeId × Value → H} {P : Program} {w : World} {base : Nat} {spare : Nat → Bool} {held : Bool}

theorem com_weights {t : TypeId} {f0 f1 f2 : Field} {x0 x1 d : DataW H} {n : Nat} (hu : P.underlying t = some (.struct #[f0, f1, f2])) (hn : n ∈ d.weights P f2.type) : n ∈ (DataW.agg [x0, x1, d]).weights P t := by
  simp only [DataW.weights, hu]
  simp [DataW.weightsEach, hn]

theorem sized_com {ts : List TypeId} {ds : List (DataW H)} (h : (DataW.weightsEach P ts ds).all (· ≤ reachBytes) = true) {j : Nat} {t e : TypeId} {f0 f1 f2 g0 g1 g2 : Field} {l : List Bm.Ov} {x0 x1 d : DataW H} (ht : ts[j]? = some t) (hd : ds[j]? = some (.agg [x0, x1, d])) (hu : P.underlying t = some (.struct #[f0, f1, f2])) (hl : OpsD d l) (h2 : P.underlying f2.type = some (.slice e)) (he : P.underlying e = some (.struct #[g0, g1, g2])) (hb : P.bytesOf e = 40) :
    FitO l ∧ l.length * 40 ≤ 140737488351232 := by
  have hall := List.all_eq_true.1 h
  refine ops_fit (fun n hn => ?_) hl h2 he hb
  exact of_decide_eq_true (hall n (DataW.weights_mem_each ht hd n (com_weights hu hn)))

/-- A commit of a list as a datum. -/
def ComD (d : DataW H) (c : Cw) : Prop := ∃ x0 x1 d2, d = .agg [x0, x1, d2] ∧ OpsD d2 c.l

theorem open_coms {t e o : TypeId} {f0 f1 f2 g0 g1 g2 : Field} {fuel : Nat} {v : Value} {x : DataW H × List MemPlace} (ht : P.underlying t = some (.slice e)) (he : P.underlying e = some (.struct #[f0, f1, f2]))
    (hone : oneCellFields P #[f0, f1, f2] = true) (ce : P.cellsOf e = 3) (u0 : P.underlying f0.type = some (.int .i64)) (u1 : P.underlying f1.type = some (.int .i64)) (u2 : P.underlying f2.type = some (.slice o))
    (ho : P.underlying o = some (.struct #[g0, g1, g2])) (hone' : oneCellFields P #[g0, g1, g2] = true) (co : P.cellsOf o = 3) (k0 : P.underlying g0.type = some .bool) (k1 : P.underlying g1.type = some .string) (k2 : P.underlying g2.type = some .string)
    (h : DataW.trod enc P w base spare held fuel t [v] = some x) : ∃ r : List Cw, IsC w v r ∧ ((x.1 = .nil ∧ r = []) ∨ ∃ ds sp, x.1 = .slice ds sp ∧ ds.length = r.length ∧ ∀ (i : Nat) (c : Cw), r[i]? = some c → ∃ d, ds[i]? = some d ∧ ComD d c) := by
  rcases open_slice ht h with ⟨hv, hx⟩ | ⟨a, len, cap, m, n, D, Pl, hv, hb, hl, hm, hmm, rfl, hx⟩
  · simp at hv
    subst hv hx
    exact ⟨[], IsC.nil _, .inl ⟨rfl, rfl⟩⟩
  · simp at hv
    subst hv
    have hlm : len ≤ m := by rw [hmm]; split <;> omega
    obtain ⟨o0, c0⟩ := hone_of hone 0 f0 rfl
    obtain ⟨o1, c1⟩ := hone_of hone 1 f1 rfl
    obtain ⟨o2, c2⟩ := hone_of hone 2 f2 rfl
    have each : ∀ i, i < len → ∃ c : Cw, (w.cell? (a.add (i * 3)) = some (.int .i64 c.e) ∧ w.cell? (a.add (i * 3 + 1)) = some (.int .i64 c.n) ∧ w.cell? (a.add (i * 3 + 2)) = some c.v) ∧ (IsO w c.v c.l ∧ In64 c.e ∧ In64 c.n) ∧ ComD (D i) c := by
      intro i hi
      obtain ⟨cs', h1, h2⟩ := hx i (by omega)
      rw [ce] at h1
      obtain ⟨_, hlen, hcell⟩ := World.cells?_some h1
      obtain ⟨y0, y1, y2, k, hxy, _, q0, q1, q2⟩ := trod_struct3 he h2
      match cs', hlen with
      | [v0, v1, v2], _ =>
        simp [o0, o1, o2, c0, c1, c2] at q0 q1 q2
        obtain ⟨p, hp, rfl, wp⟩ := DataW.trod_int u0 q0
        obtain ⟨s, hs, rfl, ws⟩ := DataW.trod_int u1 q1
        obtain ⟨l, hl2, hd2⟩ := open_ops u2 ho hone' co k0 k1 k2 q2
        simp at hp hs
        subst hp hs
        have e0 := hcell 0 (by omega)
        have e1 := hcell 1 (by omega)
        have e2 := hcell 2 (by omega)
        rw [Go.Deep.add_add] at e0 e1 e2
        simp only [Prod.mk.injEq] at hxy
        exact ⟨⟨p, s, v2, l⟩, ⟨by simpa using e0, by simpa using e1, by simpa using e2⟩, ⟨hl2, in64 wp, in64 ws⟩, _, _, _, hxy.1, hd2⟩
    have : Inhabited Cw := ⟨⟨0, 0, .slice none 0 0, []⟩⟩
    obtain ⟨f, hf⟩ := choose_lt each
    refine ⟨(List.range len).map f, ⟨.inr ⟨a, cap, by simp, by simpa using hl, hm, fun j u hj => ?_⟩, fun c hc => ?_⟩, .inr ⟨(List.range len).map D, (List.range (m - len)).map fun j => D (len + j), ?_, by simp, fun i c hic => ?_⟩⟩
    · obtain ⟨i, o, ho, hc⟩ := ccells_inv _ j u hj
      obtain ⟨hi, e⟩ := List.getElem?_eq_some_iff.1 ho
      simp at hi e
      obtain ⟨⟨k0, k1, k2⟩, _⟩ := hf i hi
      subst e
      rcases hc with ⟨rfl, rfl⟩ | ⟨rfl, rfl⟩ | ⟨rfl, rfl⟩
      · exact k0
      · exact k1
      · exact k2
    · obtain ⟨i, hi, rfl⟩ := List.mem_map.1 hc
      exact (hf i (by simpa using hi)).2.1
    · rfl
    · obtain ⟨hi, e⟩ := List.getElem?_eq_some_iff.1 hic
      simp at hi e
      subst e
      exact ⟨D i, by simp [hi], (hf i hi).2.2⟩

theorem sized_coms {ts : List TypeId} {ds : List (DataW H)} (h : (DataW.weightsEach P ts ds).all (· ≤ reachBytes) = true) {j : Nat} {t e o : TypeId} {f0 f1 f2 g0 g1 g2 : Field} {r : List Cw} {es sp : List (DataW H)} (ht : ts[j]? = some t) (hd : ds[j]? = some (.slice es sp)) (hlen : es.length = r.length) (hr : ∀ (i : Nat) (c : Cw), r[i]? = some c → ∃ d, es[i]? = some d ∧ ComD d c)
    (hu : P.underlying t = some (.slice e)) (he : P.underlying e = some (.struct #[f0, f1, f2])) (hb : P.bytesOf e = 40) (h2 : P.underlying f2.type = some (.slice o)) (ho : P.underlying o = some (.struct #[g0, g1, g2])) (hbo : P.bytesOf o = 40) :
    FitC r ∧ r.length * 40 ≤ 140737488351232 := by
  have hall := List.all_eq_true.1 h
  refine ⟨fun c hc => ?_, ?_⟩
  · obtain ⟨i, hi⟩ := List.getElem?_of_mem hc
    obtain ⟨d, hd1, x0, x1, d2, rfl, hd2⟩ := hr i c hi
    refine ops_fit (fun n hn => ?_) hd2 h2 ho hbo
    exact of_decide_eq_true (hall n (DataW.weights_mem_each ht hd n (by
      simp only [DataW.weights, hu]
      exact List.mem_cons_of_mem _ (List.mem_append_left _ (weights_all (List.mem_of_getElem? hd1) (com_weights he hn))))))
  · have := sized_slice h ht hd hu
    rw [hb] at this
    simp only [reachBytes] at this
    omega

end

end Go.Proofs.Ytfnaeblbodfekaa

/- What an argument that is a slice of starts, or a slice of yes and no, comes in as. No program. -/
namespace Go.Proofs.Ytfnaeblbodfekaa
open Go.RowKit Go.ChangeShapes Go.WideShapes Go.Deep
set_option linter.unusedVariables false

def bolc (b : Bool) : List Value := [.bool b]
theorem bolc_len (b : Bool) : (bolc b).length = 1 := rfl

theorem rowB_full {w : World} {v : Value} {r : List Bool} (h : RowG bolc w v r) (hne : 0 < r.length) :
    ∃ b off cap, v = .slice (some ⟨b, off, none⟩) r.length cap ∧ r.length ≤ cap ∧ cap ≤ maxLen ∧ b < w.heap.size ∧ ∀ (i : Nat) (a : Bool), r[i]? = some a → w.cell? ⟨b, off + i, none⟩ = some (.bool a) := by
  obtain ⟨b, off, cap, h1, h2, h3, h4, h5⟩ := RowG.full bolc_len (by decide) h hne
  refine ⟨b, off, cap, h1, h2, h3, h4, fun i a ha => ?_⟩
  have := h5 i a ha 0 (.bool a) rfl
  simpa using this

section
variable {H : Type} {enc : TypeId × Value → H} {P : Program} {w : World} {base : Nat} {spare : Nat → Bool} {held : Bool}

theorem trod_struct2 {t : TypeId} {f0 f1 : Field} {fuel : Nat} {cs : List Value} {x : DataW H × List MemPlace} (ht : P.underlying t = some (.struct #[f0, f1])) (h : DataW.trod enc P w base spare held fuel t cs = some x) :
    ∃ y0 y1 n, DataW.trod enc P w base spare held n f0.type ((cs.drop f0.offset).take (P.cellsOf f0.type)) = some y0 ∧ DataW.trod enc P w base spare held n f1.type ((cs.drop f1.offset).take (P.cellsOf f1.type)) = some y1 := by
  obtain ⟨xs, n, _, rfl, hl, hlen, hf⟩ := DataW.trod_struct ht h
  match xs, hlen with
  | [y0, y1], _ => exact ⟨y0, y1, n, by simpa using hf 0 f0 rfl, by simpa using hf 1 f1 rfl⟩

theorem open_sts {t e : TypeId} {f0 f1 : Field} {fuel : Nat} {v : Value} {x : DataW H × List MemPlace} (ht : P.underlying t = some (.slice e)) (he : P.underlying e = some (.struct #[f0, f1]))
    (hone : oneCellFields P #[f0, f1] = true) (ce : P.cellsOf e = 2) (u0 : P.underlying f0.type = some (.int .i64)) (u1 : P.underlying f1.type = some (.int .i64))
    (h : DataW.trod enc P w base spare held fuel t [v] = some x) : ∃ r : List Sm.S, RowS w v r ∧ ((x.1 = .nil ∧ r = []) ∨ ∃ ds sp, x.1 = .slice ds sp ∧ ds.length = r.length) := by
  rcases open_slice ht h with ⟨hv, hx⟩ | ⟨a, len, cap, m, n, D, Pl, hv, hb, hl, hm, hmm, rfl, hx⟩
  · simp at hv
    subst hv hx
    exact ⟨[], RowG.nil _ _, .inl ⟨rfl, rfl⟩⟩
  · simp at hv
    subst hv
    have hlm : len ≤ m := by rw [hmm]; split <;> omega
    obtain ⟨o0, c0⟩ := hone_of hone 0 f0 rfl
    obtain ⟨o1, c1⟩ := hone_of hone 1 f1 rfl
    have each : ∀ i, i < len → ∃ c : Sm.S, ∀ m u, (stc c)[m]? = some u → w.cell? (a.add (i * 2 + m)) = some u := by
      intro i hi
      obtain ⟨cs', h1, h2⟩ := hx i (by omega)
      rw [ce] at h1
      obtain ⟨_, hlen, hcell⟩ := World.cells?_some h1
      obtain ⟨y0, y1, k, q0, q1⟩ := trod_struct2 he h2
      match cs', hlen with
      | [v0, v1], _ =>
        simp [o0, o1, c0, c1] at q0 q1
        obtain ⟨p0, h0, rfl, w0⟩ := DataW.trod_int u0 q0
        obtain ⟨p1, h1', rfl, w1⟩ := DataW.trod_int u1 q1
        simp at h0 h1'
        subst h0 h1'
        refine ⟨(p0, p1), fun m u hu => ?_⟩
        have hm3 : m < 2 := (List.getElem?_eq_some_iff.1 hu).1
        have hc := hcell m (by omega)
        rw [Go.Deep.add_add] at hc
        rw [hc]
        rcases (show m = 0 ∨ m = 1 by omega) with rfl | rfl <;> simpa [stc] using hu
    have : Inhabited Sm.S := ⟨(0, 0)⟩
    obtain ⟨f, hf⟩ := choose_lt each
    refine ⟨(List.range len).map f, .inr ⟨a, cap, by simp, by simpa using hl, hm, fun j u hj => ?_⟩, .inr ⟨(List.range len).map D, (List.range (m - len)).map fun j => D (len + j), rfl, by simp⟩⟩
    obtain ⟨i, c, m', hic, rfl, hu⟩ := gcells_inv stc_len (by decide) _ j u hj
    obtain ⟨hi, e⟩ := List.getElem?_eq_some_iff.1 hic
    simp at hi e
    subst e
    exact hf i hi m' u hu

theorem open_bols {t e : TypeId} {fuel : Nat} {v : Value} {x : DataW H × List MemPlace} (ht : P.underlying t = some (.slice e)) (he : P.underlying e = some .bool) (ce : P.cellsOf e = 1)
    (h : DataW.trod enc P w base spare held fuel t [v] = some x) : ∃ r : List Bool, RowG bolc w v r ∧ ((x.1 = .nil ∧ r = []) ∨ ∃ ds sp, x.1 = .slice ds sp ∧ ds.length = r.length) := by
  rcases open_slice ht h with ⟨hv, hx⟩ | ⟨a, len, cap, m, n, D, Pl, hv, hb, hl, hm, hmm, rfl, hx⟩
  · simp at hv
    subst hv hx
    exact ⟨[], RowG.nil _ _, .inl ⟨rfl, rfl⟩⟩
  · simp at hv
    subst hv
    have hlm : len ≤ m := by rw [hmm]; split <;> omega
    have each : ∀ i, i < len → ∃ c : Bool, w.cell? (a.add i) = some (.bool c) := by
      intro i hi
      obtain ⟨cs', h1, h2⟩ := hx i (by omega)
      rw [ce] at h1
      obtain ⟨_, hlen, hcell⟩ := World.cells?_some h1
      match cs', hlen with
      | [v0], _ =>
        obtain ⟨p, hp, _⟩ := DataW.trod_bool he h2
        simp at hp
        subst hp
        have e0 := hcell 0 (by omega)
        rw [Go.Deep.add_add] at e0
        exact ⟨p, by simpa using e0⟩
    obtain ⟨f, hf⟩ := choose_lt each
    refine ⟨(List.range len).map f, .inr ⟨a, cap, by simp, by simpa using hl, hm, fun j u hj => ?_⟩, .inr ⟨(List.range len).map D, (List.range (m - len)).map fun j => D (len + j), rfl, by simp⟩⟩
    obtain ⟨i, c, m', hic, rfl, hu⟩ := gcells_inv bolc_len (by decide) _ j u hj
    obtain ⟨hi, e⟩ := List.getElem?_eq_some_iff.1 hic
    simp at hi e
    subst e
    have hm0 : m' = 0 := by
      have := (List.getElem?_eq_some_iff.1 hu).1
      simp [bolc] at this
      exact this
    subst hm0
    simp [bolc] at hu
    subst hu
    simpa using hf i hi

end

end Go.Proofs.Ytfnaeblbodfekaa

/- What an argument that is a message comes in as. No program. -/
namespace Go.Proofs.Ytfnaeblbodfekaa
open Go.RowKit Go.ChangeShapes Go.WideShapes Go.Deep
set_option linter.unusedVariables false

theorem u8_of' {z : Int} (h : (Lit.int .u8 z).wf = true) : 0 ≤ z ∧ z < 256 := by
  have := range_u8 (zs := [z]) (by simpa using h) 0
  simp at this
  omega

section
variable {H : Type} {enc : TypeId × Value → H} {P : Program} {w : World} {base : Nat} {spare : Nat → Bool} {held : Bool}

theorem trod_struct8 {t : TypeId} {f0 f1 f2 f3 f4 f5 f6 f7 : Field} {fuel : Nat} {cs : List Value} {x : DataW H × List MemPlace} (ht : P.underlying t = some (.struct #[f0, f1, f2, f3, f4, f5, f6, f7])) (h : DataW.trod enc P w base spare held fuel t cs = some x) :
    ∃ y0 y1 y2 y3 y4 y5 y6 y7 n, x.1 = .agg [y0.1, y1.1, y2.1, y3.1, y4.1, y5.1, y6.1, y7.1] ∧ DataW.trod enc P w base spare held n f0.type ((cs.drop f0.offset).take (P.cellsOf f0.type)) = some y0 ∧
      DataW.trod enc P w base spare held n f1.type ((cs.drop f1.offset).take (P.cellsOf f1.type)) = some y1 ∧ DataW.trod enc P w base spare held n f2.type ((cs.drop f2.offset).take (P.cellsOf f2.type)) = some y2 ∧
      DataW.trod enc P w base spare held n f3.type ((cs.drop f3.offset).take (P.cellsOf f3.type)) = some y3 ∧ DataW.trod enc P w base spare held n f4.type ((cs.drop f4.offset).take (P.cellsOf f4.type)) = some y4 ∧
      DataW.trod enc P w base spare held n f5.type ((cs.drop f5.offset).take (P.cellsOf f5.type)) = some y5 ∧ DataW.trod enc P w base spare held n f6.type ((cs.drop f6.offset).take (P.cellsOf f6.type)) = some y6 ∧
      DataW.trod enc P w base spare held n f7.type ((cs.drop f7.offset).take (P.cellsOf f7.type)) = some y7 := by
  obtain ⟨xs, n, _, rfl, hl, hlen, hf⟩ := DataW.trod_struct ht h
  match xs, hlen with
  | [y0, y1, y2, y3, y4, y5, y6, y7], _ => exact ⟨y0, y1, y2, y3, y4, y5, y6, y7, n, rfl, by simpa using hf 0 f0 rfl, by simpa using hf 1 f1 rfl, by simpa using hf 2 f2 rfl, by simpa using hf 3 f3 rfl, by simpa using hf 4 f4 rfl, by simpa using hf 5 f5 rfl, by simpa using hf 6 f6 rfl, by simpa using hf 7 f7 rfl⟩

theorem sts_len {t e : TypeId} {d : DataW H} {r : List Sm.S} (h : ∀ n ∈ d.weights P t, n ≤ reachBytes) (hd : (d = .nil ∧ r = []) ∨ ∃ ds sp, d = .slice ds sp ∧ ds.length = r.length) (hu : P.underlying t = some (.slice e)) (hb : P.bytesOf e = 16) : r.length * 16 ≤ 140737488351232 := by
  rcases hd with ⟨_, rfl⟩ | ⟨ds, sp, rfl, hl⟩
  · simp
  · have := h ((ds.length + sp.length) * P.bytesOf e) (by simp [DataW.weights, hu])
    rw [hb] at this
    simp only [reachBytes] at this
    omega

theorem coms_fit {t e o : TypeId} {f0 f1 f2 g0 g1 g2 : Field} {d : DataW H} {r : List Cw} (h : ∀ n ∈ d.weights P t, n ≤ reachBytes) (hd : (d = .nil ∧ r = []) ∨ ∃ ds sp, d = .slice ds sp ∧ ds.length = r.length ∧ ∀ (i : Nat) (c : Cw), r[i]? = some c → ∃ d, ds[i]? = some d ∧ ComD d c)
    (hu : P.underlying t = some (.slice e)) (he : P.underlying e = some (.struct #[f0, f1, f2])) (hb : P.bytesOf e = 40) (h2 : P.underlying f2.type = some (.slice o)) (ho : P.underlying o = some (.struct #[g0, g1, g2])) (hbo : P.bytesOf o = 40) : FitC r ∧ r.length * 40 ≤ 140737488351232 := by
  rcases hd with ⟨_, rfl⟩ | ⟨es, sp, rfl, hlen, hr⟩
  · exact ⟨fun c hc => by simp at hc, by simp⟩
  refine ⟨fun c hc => ?_, ?_⟩
  · obtain ⟨i, hi⟩ := List.getElem?_of_mem hc
    obtain ⟨d, hd1, x0, x1, d2, rfl, hd2⟩ := hr i c hi
    refine ops_fit (fun n hn => ?_) hd2 h2 ho hbo
    exact h n (by
      simp only [DataW.weights, hu]
      exact List.mem_cons_of_mem _ (List.mem_append_left _ (weights_all (List.mem_of_getElem? hd1) (com_weights he hn))))
  · have := h ((es.length + sp.length) * P.bytesOf e) (by simp [DataW.weights, hu])
    rw [hb] at this
    simp only [reachBytes] at this
    omega

/-- A message by value. -/
theorem open_message {r : Reach} {b0 : Nat} {t eS eC o : TypeId} {f0 f1 f2 f3 f4 f5 f6 f7 s0 s1 g0 g1 g2 p0 p1 p2 : Field} {v : Value} {d : DataW H} {p : List MemPlace} (hs : P.underlying t = some (.struct #[f0, f1, f2, f3, f4, f5, f6, f7])) (hone : oneCellFields P #[f0, f1, f2, f3, f4, f5, f6, f7] = true) (hC : P.cellsOf t = 8)
    (u0 : P.underlying f0.type = some (.int .i64)) (u1 : P.underlying f1.type = some (.int .i64)) (u2 : P.underlying f2.type = some (.int .u8)) (u3 : P.underlying f3.type = some (.int .i64)) (u4 : P.underlying f4.type = some (.slice eS)) (u5 : P.underlying f5.type = some (.int .i64)) (u6 : P.underlying f6.type = some (.int .i64)) (u7 : P.underlying f7.type = some (.slice eC))
    (hS : P.underlying eS = some (.struct #[s0, s1])) (honeS : oneCellFields P #[s0, s1] = true) (cS : P.cellsOf eS = 2) (bS : P.bytesOf eS = 16) (us0 : P.underlying s0.type = some (.int .i64)) (us1 : P.underlying s1.type = some (.int .i64))
    (hE : P.underlying eC = some (.struct #[g0, g1, g2])) (honeC : oneCellFields P #[g0, g1, g2] = true) (cC : P.cellsOf eC = 3) (bC : P.bytesOf eC = 40) (ug0 : P.underlying g0.type = some (.int .i64)) (ug1 : P.underlying g1.type = some (.int .i64)) (ug2 : P.underlying g2.type = some (.slice o))
    (hO : P.underlying o = some (.struct #[p0, p1, p2])) (honeO : oneCellFields P #[p0, p1, p2] = true) (cO : P.cellsOf o = 3) (bO : P.bytesOf o = 40) (up0 : P.underlying p0.type = some .bool) (up1 : P.underlying p1.type = some .string) (up2 : P.underlying p2.type = some .string)
    (hv : Value.okWide P w r b0 t v) (h : DataW.Trod enc P w base spare held t v d p) (hw : ∀ n ∈ d.weights P t, n ≤ reachBytes) : ∃ m : Mw, v = mv m ∧ IsM w m ∧ FitM m := by
  obtain ⟨cs, rfl, hsz⟩ := okWide_struct hs hv
  obtain ⟨c0, c1, c2, c3, c4, c5, c6, c7, rfl⟩ : ∃ c0 c1 c2 c3 c4 c5 c6 c7, cs = #[c0, c1, c2, c3, c4, c5, c6, c7] := by
    have hsz' := hsz.trans hC
    obtain ⟨l⟩ := cs
    match l, hsz' with
    | [c0, c1, c2, c3, c4, c5, c6, c7], _ => exact ⟨c0, c1, c2, c3, c4, c5, c6, c7, rfl⟩
  obtain ⟨fuel, hf⟩ := h
  obtain ⟨y0, y1, y2, y3, y4, y5, y6, y7, n, hx, h0, h1, h2, h3, h4, h5, h6, h7⟩ := trod_struct8 hs hf
  obtain ⟨o0, k0⟩ := hone_of hone 0 f0 rfl
  obtain ⟨o1, k1⟩ := hone_of hone 1 f1 rfl
  obtain ⟨o2, k2⟩ := hone_of hone 2 f2 rfl
  obtain ⟨o3, k3⟩ := hone_of hone 3 f3 rfl
  obtain ⟨o4, k4⟩ := hone_of hone 4 f4 rfl
  obtain ⟨o5, k5⟩ := hone_of hone 5 f5 rfl
  obtain ⟨o6, k6⟩ := hone_of hone 6 f6 rfl
  obtain ⟨o7, k7⟩ := hone_of hone 7 f7 rfl
  simp [Value.cells, o0, o1, o2, o3, o4, o5, o6, o7, k0, k1, k2, k3, k4, k5, k6, k7] at h0 h1 h2 h3 h4 h5 h6 h7
  obtain ⟨q0, e0, _, w0⟩ := DataW.trod_int u0 h0
  obtain ⟨q1, e1, _, w1⟩ := DataW.trod_int u1 h1
  obtain ⟨q2, e2, _, w2⟩ := DataW.trod_int u2 h2
  obtain ⟨q3, e3, _, w3⟩ := DataW.trod_int u3 h3
  obtain ⟨ss, hss, hsd⟩ := open_sts u4 hS honeS cS us0 us1 h4
  obtain ⟨q5, e5, _, w5⟩ := DataW.trod_int u5 h5
  obtain ⟨q6, e6, _, w6⟩ := DataW.trod_int u6 h6
  obtain ⟨cc, hcc, hcd⟩ := open_coms u7 hE honeC cC ug0 ug1 ug2 hO honeO cO up0 up1 up2 h7
  simp at e0 e1 e2 e3 e5 e6
  subst e0 e1 e2 e3 e5 e6
  simp only at hx
  have hw4 : ∀ n ∈ y4.1.weights P f4.type, n ≤ reachBytes := fun n hn => hw n (by
    rw [hx]
    simp only [DataW.weights, hs]
    simp [DataW.weightsEach, hn])
  have hw7 : ∀ n ∈ y7.1.weights P f7.type, n ≤ reachBytes := fun n hn => hw n (by
    rw [hx]
    simp only [DataW.weights, hs]
    simp [DataW.weightsEach, hn])
  have l4 := sts_len hw4 hsd u4 bS
  obtain ⟨f7', l7⟩ := coms_fit hw7 hcd u7 hE bC ug2 hO bO
  have g2 := u8_of' w2
  exact ⟨⟨q0, q1, q2, q3, c4, ss, q5, q6, c7, cc⟩, rfl, ⟨hss, hcc⟩, in64 w0, in64 w1, g2.1, g2.2, in64 w3, in64 w5, in64 w6, by show ss.length ≤ _; omega, f7', by show cc.length ≤ _; omega⟩

end

end Go.Proofs.Ytfnaeblbodfekaa
