/- What an argument that is a slice of lists of bytes comes in as. No program. -/
import Derived.Test.YtlddfhfjemdgiaaFrk
import Derived.Test.YtlddfhfjemdgiaaFw
namespace Go.Proofs.Ytlddfhfjemdgiaa
open Go.RowKit Go.ChangeShapes Go.WideShapes Go.Deep
set_option linter.unusedVariables false

section
variable {H : Type} {enc : TypeId × Value → H} {P : Program} {w : World} {base : Nat} {spare : Nat → Bool} {held : Bool}

/-- A list of bytes as a datum. -/
def BytD (d : DataW H) (l : List Int) : Prop := (d = .nil ∧ l = []) ∨ ∃ es sp, d = .slice es sp ∧ es.length = l.length

theorem open_bytd {t e : TypeId} {fuel : Nat} {v : Value} {x : DataW H × List MemPlace} (ht : P.underlying t = some (.slice e)) (he : P.underlying e = some (.int .u8)) (h1 : P.cellsOf e = 1)
    (h : DataW.trod enc P w base spare held fuel t [v] = some x) : ∃ zs : List Int, Is .u8 w v zs ∧ BytD x.1 zs := by
  rcases open_ints ht he h1 h with ⟨hcs, hx⟩ | ⟨a, l, c, zs, hcs, hb, hl, hm, hz, hx, hcell, hwz⟩
  · simp at hcs
    subst hcs
    exact ⟨[], Is.nil _ _, .inl ⟨congrArg Prod.fst hx, rfl⟩⟩
  · simp at hcs
    subst hcs
    have hzl : l ≤ zs.length := by rw [hz]; split <;> omega
    have hlen : (zs.take l).length = l := by rw [List.length_take]; omega
    refine ⟨zs.take l, ⟨fun z hz => hwz z (List.mem_of_mem_take hz), .inr ⟨a, c, by rw [hlen], by omega, hm, fun j hj => ?_⟩⟩, .inr ⟨_, _, congrArg Prod.fst hx, by simp [lits]⟩⟩
    rw [hlen] at hj
    rw [hcell j (by omega)]
    simp [List.getD, hj]

theorem open_bytes {t e o : TypeId} {fuel : Nat} {v : Value} {x : DataW H × List MemPlace} (ht : P.underlying t = some (.slice e)) (he : P.underlying e = some (.slice o)) (ce : P.cellsOf e = 1) (ho : P.underlying o = some (.int .u8)) (co : P.cellsOf o = 1)
    (h : DataW.trod enc P w base spare held fuel t [v] = some x) : ∃ r : List Bw, IsBB w v r ∧ ((x.1 = .nil ∧ r = []) ∨ ∃ ds sp, x.1 = .slice ds sp ∧ ds.length = r.length ∧ ∀ (i : Nat) (c : Bw), r[i]? = some c → ∃ d, ds[i]? = some d ∧ BytD d c.l) := by
  rcases open_slice ht h with ⟨hv, hx⟩ | ⟨a, len, cap, m, n, D, Pl, hv, hb, hl, hm, hmm, rfl, hx⟩
  · simp at hv
    subst hv hx
    exact ⟨[], IsBB.nil _, .inl ⟨rfl, rfl⟩⟩
  · simp at hv
    subst hv
    have hlm : len ≤ m := by rw [hmm]; split <;> omega
    have each : ∀ i, i < len → ∃ c : Bw, w.cell? (a.add i) = some c.v ∧ Is .u8 w c.v c.l ∧ BytD (D i) c.l := by
      intro i hi
      obtain ⟨cs', h1, h2⟩ := hx i (by omega)
      rw [ce] at h1
      obtain ⟨_, hlen, hcell⟩ := World.cells?_some h1
      match cs', hlen with
      | [v0], _ =>
        obtain ⟨l, hl2, hd2⟩ := open_bytd he ho co h2
        have e0 := hcell 0 (by omega)
        rw [Go.Deep.add_add] at e0
        exact ⟨⟨v0, l⟩, by simpa using e0, hl2, hd2⟩
    have : Inhabited Bw := ⟨⟨.slice none 0 0, []⟩⟩
    obtain ⟨f, hf⟩ := choose_lt each
    refine ⟨(List.range len).map f, ⟨.inr ⟨a, cap, by simp, by simpa using hl, hm, fun j u hj => ?_⟩, fun c hc => ?_⟩, .inr ⟨(List.range len).map D, (List.range (m - len)).map fun j => D (len + j), rfl, by simp, fun i c hic => ?_⟩⟩
    · obtain ⟨i, c, m', hic, rfl, hu⟩ := gcells_inv bwc_len (by decide) _ j u hj
      obtain ⟨hi, e⟩ := List.getElem?_eq_some_iff.1 hic
      simp at hi e
      subst e
      have hm0 : m' = 0 := by
        have := (List.getElem?_eq_some_iff.1 hu).1
        simp [bwc] at this
        exact this
      subst hm0
      simp [bwc] at hu
      subst hu
      simpa using (hf i hi).1
    · obtain ⟨i, hi, rfl⟩ := List.mem_map.1 hc
      exact (hf i (by simpa using hi)).2.1
    · obtain ⟨hi, e⟩ := List.getElem?_eq_some_iff.1 hic
      simp at hi e
      subst e
      exact ⟨D i, by simp [hi], (hf i hi).2.2⟩

theorem weights_allb {e : TypeId} {n : Nat} {d : DataW H} : ∀ {ds : List (DataW H)}, d ∈ ds → n ∈ d.weights P e → n ∈ DataW.weightsAll P e ds
  | [], h, _ => by simp at h
  | q :: r, h, hn => by
    simp only [DataW.weightsAll, List.mem_append]
    rcases List.mem_cons.1 h with rfl | h
    · exact .inl hn
    · exact .inr (weights_allb h hn)

theorem sized_bytes {ts : List TypeId} {ds : List (DataW H)} (h : (DataW.weightsEach P ts ds).all (· ≤ reachBytes) = true) {j : Nat} {t e o : TypeId} {r : List Bw} {es sp : List (DataW H)} (ht : ts[j]? = some t) (hd : ds[j]? = some (.slice es sp)) (hlen : es.length = r.length) (hr : ∀ (i : Nat) (c : Bw), r[i]? = some c → ∃ d, es[i]? = some d ∧ BytD d c.l)
    (hu : P.underlying t = some (.slice e)) (he : P.underlying e = some (.slice o)) (hb : P.bytesOf e = 24) (hbo : P.bytesOf o = 1) :
    (∀ a ∈ r, a.l.length ≤ 140737488351232) ∧ r.length * 24 ≤ 140737488351232 := by
  have hall := List.all_eq_true.1 h
  refine ⟨fun c hc => ?_, ?_⟩
  · obtain ⟨i, hi⟩ := List.getElem?_of_mem hc
    obtain ⟨d, hd1, hd2⟩ := hr i c hi
    rcases hd2 with ⟨_, hd2⟩ | ⟨es', sp', rfl, hl2⟩
    · rw [hd2]; simp
    · have key : (es'.length + sp'.length) * P.bytesOf o ≤ reachBytes := of_decide_eq_true (hall _ (DataW.weights_mem_each ht hd _ (by
        simp only [DataW.weights, hu]
        refine List.mem_cons_of_mem _ (List.mem_append_left _ (weights_allb (List.mem_of_getElem? hd1) ?_))
        simp [DataW.weights, he])))
      rw [hbo] at key
      simp only [reachBytes] at key
      omega
  · have := sized_slice h ht hd hu
    rw [hb] at this
    simp only [reachBytes] at this
    omega
end

end Go.Proofs.Ytlddfhfjemdgiaa
