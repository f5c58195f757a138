/- What a number, bytes, a row of an argument come in as. No program. -/
import Derived.SizedLaws
import Derived.Lib.SmallJoins
import Derived.Deep.Slices
import Derived.Test.YthndeolibilnnaaDoorGr
import Derived.Test.YthndeolibilnnaaDoorPick
namespace Go.Proofs.YthndeolibilnnaaDoor
open Go.RowKit Go.ChangeShapes Go.WideShapes Go.Deep
set_option linter.unusedVariables false

theorem i64_of {z : Int} (h : (Lit.int .i64 z).wf = true) : I64 z := by
  have := range_i64 (zs := [z]) (by simpa using h) 0
  simp at this
  exact ⟨by omega, by omega⟩

section
variable {H : Type} {enc : TypeId × Value → H} {P : Program} {w : World} {base : Nat} {spare : Nat → Bool} {held : Bool}

/-- Bytes in a cell. -/
theorem open_byts {t e : TypeId} {fuel : Nat} {v : Value} {x : DataW H × List MemPlace} (ht : P.underlying t = some (.slice e)) (he : P.underlying e = some (.int .u8)) (h1 : P.cellsOf e = 1)
    (h : DataW.trod enc P w base spare held fuel t [v] = some x) : ∃ zs : List Int, Is .u8 w v zs := by
  rcases open_ints ht he h1 h with ⟨hcs, hx⟩ | ⟨a, l, c, zs, hcs, hb, hl, hm, hz, hx, hcell, hwz⟩
  · simp at hcs
    subst hcs
    exact ⟨[], Is.nil _ _⟩
  · simp at hcs
    subst hcs
    have hzl : l ≤ zs.length := by rw [hz]; split <;> omega
    have hlen : (zs.take l).length = l := by rw [List.length_take]; omega
    refine ⟨zs.take l, fun z hz => hwz z (List.mem_of_mem_take hz), .inr ⟨a, c, by rw [hlen], by omega, hm, fun j hj => ?_⟩⟩
    rw [hlen] at hj
    rw [hcell j (by omega)]
    simp [List.getD, hj]

theorem gcells_inv {α : Type} {f : α → List Value} {k : Nat} (hk : ∀ a, (f a).length = k) (h0 : 0 < k) : ∀ (l : List α) (j : Nat) (u : Value), (gcells f l)[j]? = some u → ∃ i a m, l[i]? = some a ∧ j = i * k + m ∧ (f a)[m]? = some u
  | [], j, u, h => by simp [gcells] at h
  | a :: r, j, u, h => by
    rw [gcells] at h
    by_cases hj : j < k
    · rw [List.getElem?_append_left (by rw [hk]; exact hj)] at h
      exact ⟨0, a, j, rfl, by omega, h⟩
    · rw [List.getElem?_append_right (by rw [hk]; omega), hk] at h
      obtain ⟨i, b, m, h1, h2, h3⟩ := gcells_inv hk h0 r (j - k) u h
      exact ⟨i + 1, b, m, by simpa using h1, by rw [Nat.add_mul]; omega, h3⟩

theorem sized_row {ts : List TypeId} {ds : List (DataW H)} (h : (DataW.weightsEach P ts ds).all (· ≤ reachBytes) = true) {j k : Nat} {t e : TypeId} {α : Type} {r : List α} {es sp : List (DataW H)} (ht : ts[j]? = some t) (hd : ds[j]? = some (.slice es sp)) (hlen : es.length = r.length)
    (hu : P.underlying t = some (.slice e)) (hb : P.bytesOf e = k) : r.length * k ≤ 140737488351232 := by
  have := sized_slice h ht hd hu
  rw [hb, Nat.add_mul, hlen] at this
  simp only [reachBytes] at this
  omega

end

end Go.Proofs.YthndeolibilnnaaDoor
