/- frame.Read. -/
import Derived.Test.YthndeolibilnnaaDoorFb
namespace Go.Proofs.YthndeolibilnnaaDoor
open Go.RowKit
set_option linter.unusedVariables false

theorem sres_step {bs : List Int} {most : Nat} {u i g : Int} (hm : most < 18446744073709551616) (h : SRes bs most u i g) :
    (∃ x : Nat, u = x ∧ i = Vm.sz x ∧ g = 0 ∧ x ≤ most ∧ Vm.enc x <+: bs) ∨ (u = 0 ∧ i = 0 ∧ g = 5 ∧ ∀ x : Nat, x ≤ most → ¬ Vm.enc x <+: bs) := by
  rcases h with ⟨hR, h1, h2, he⟩ | ⟨hu, hi, he, x, n, f, hR, hcase⟩
  · rcases hR with ⟨x, hx, hp, h3, h4, _⟩ | ⟨_, _, _, h5⟩
    · exact .inl ⟨x, h3, h4, he, by omega, hp⟩
    · simp at h5
  · refine .inr ⟨hu, hi, he, fun y hy hp => ?_⟩
    have := Vm.res_good hR (u := y) (by omega) hp
    omega

theorem rd_bad {bs : List Int} (h : ∀ x : Nat, x ≤ 131072 → ¬ Vm.enc x <+: bs) : Fm.Rd bs [] 0 5 := .inr ⟨rfl, rfl, rfl, fun s hs hp => h _ hs (Fm.frm_pre hp).1⟩

theorem rd_short {bs : List Int} {x : Nat} (h : Vm.enc x <+: bs) (hx : bs.length - Vm.sz x < x) : Fm.Rd bs [] 0 5 := .inr ⟨rfl, rfl, rfl, fun s hs hp => by
  obtain ⟨h1, h2, _⟩ := Fm.frm_pre hp
  have := Vm.pre_one bs _ _ h h1
  subst this
  omega⟩

theorem rd_good {bs : List Int} {x : Nat} (h : Vm.enc x <+: bs) (h' : x ≤ 131072) (hx : x ≤ bs.length - Vm.sz x) : Fm.Rd bs ((bs.drop (Vm.sz x)).take x) (Vm.sz x + x) 0 := by
  obtain ⟨h1, h2⟩ := Fm.frm_of h hx
  exact .inl ⟨rfl, by omega, by rw [h1], h2⟩

end Go.Proofs.YthndeolibilnnaaDoor
