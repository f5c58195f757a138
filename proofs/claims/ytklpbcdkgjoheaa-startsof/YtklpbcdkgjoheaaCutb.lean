/- Front parts of a row of integers, of a row of ops; the length of a row of ops. No program. -/
import Derived.Test.YtklpbcdkgjoheaaCuth
import Derived.Test.YtklpbcdkgjoheaaBk
namespace Go.Proofs.Ytklpbcdkgjoheaa
open Go.RowKit
set_option linter.unusedVariables false

section
variable {P : Program} {w : World} {v : Value}

theorem ocells_take : ∀ (l : List Bm.Ov) (p : Nat), ocells (l.take p) = (ocells l).take (p * 3)
  | [], p => by simp [ocells]
  | o :: l, 0 => by simp [ocells]
  | o :: l, p + 1 => by
    rw [List.take_succ_cons, show (p + 1) * 3 = p * 3 + 3 by omega]
    simp [ocells, ocell, ocells_take l p]

/-- The front of a row of ops. -/
theorem IsO.front {ad : Addr} {n cap : Nat} {l : List Bm.Ov} (h : IsO w (.slice (some ad) n cap) l) (p : Nat) (hp : p ≤ l.length) : IsO w (.slice (some ad) p cap) (l.take p) := by
  have hl : (l.take p).length = p := by rw [List.length_take]; omega
  rcases h with ⟨hv, _⟩ | ⟨ad', cap', hv, h1, h2, hc⟩
  · simp at hv
  · simp at hv
    obtain ⟨rfl, rfl, rfl⟩ := hv
    refine .inr ⟨ad, cap, by rw [hl], by omega, h2, fun j u hj => hc j u ?_⟩
    rw [ocells_take, List.getElem?_take] at hj
    split at hj
    · exact hj
    · simp at hj

/-- 'v[:p]' of ops. -/
theorem IsO.slice_h {l : List Bm.Ov} (h : IsO w v l) {t : TypeId} (ht : P.underlying t = some (.slice (P.elem t))) (hs : ∀ wx, (sizeOf (P.elem t)).run P wx = .ok 3 wx) (p : Nat) (hp : p ≤ l.length) :
    ∃ vs, (∀ wx, (Instr.slice t v none (some (.int .i64 p)) none).run P wx = .ok vs wx) ∧ IsO w vs (l.take p) := by
  obtain ⟨ao, cap, rfl, hcap, hm⟩ := h.shape
  refine ⟨.slice ao p cap, fun wx => ?_, ?_⟩
  · rw [run_slice_h wx t ao l.length cap ht .i64 _ (by omega) (by omega), hs]
    simp only [Result.andThen, sliced]
    cases ao <;> simp [Addr.add]
  · cases ao with
    | none =>
      rcases h with ⟨hv, e⟩ | ⟨ad, cap', hv, _⟩
      · subst e
        simp at hp hv
        subst hp hv
        exact IsO.nil _
      · simp at hv
    | some ad => exact h.front p hp

/-- 'len(v)' of ops. -/
theorem IsO.len_run {l : List Bm.Ov} (h : IsO w v l) {t : TypeId} (ht : P.underlying t = some (.slice (P.elem t))) : ∀ ty wx, (Builtin.len_ #[t] ty #[v]).run P wx = .ok (goInt l.length) wx := by
  intro ty wx
  obtain ⟨ao, cap, rfl, _, _⟩ := h.shape
  simp [Builtin.len_, run_underlying ht]
end

theorem Try.elemO : Try.prog.underlying 38 = some (.slice (Try.prog.elem 38)) := by kernel_rfl
theorem Try.sizeO (wx : World) : (sizeOf (Try.prog.elem 38)).run Try.prog wx = .ok 3 wx := by kernel_rfl

end Go.Proofs.Ytklpbcdkgjoheaa
