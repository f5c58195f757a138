/- The contracts of varint Size, Append, Read, Small. -/
import Derived.Test.YtgcdibglkbfjdaaGreatDoorBytes
import Derived.Test.YtgcdibglkbfjdaaGreatDoorMath
namespace Go.Proofs.YtgcdibglkbfjdaaGreatDoor
open Go.RowKit
set_option linter.unusedVariables false

theorem size_done {y : Int} {n m : Nat} (h0 : 0 ≤ y) (hs : Vm.sz y.toNat + n = m + 1) (h : (y / 128 == 0) = true) : (n : Int) = m := by
  have h := beq_iff_eq.1 h
  have := Vm.sz_lo (x := y.toNat) (by omega)
  omega

theorem size_next {y : Int} {n m : Nat} (h0 : 0 ≤ y) (hs : Vm.sz y.toNat + n = m + 1) (hm : m ≤ 10) (h : (y / 128 == 0) = false) :
    Vm.sz (y / 128).toNat + (n + 1) = m + 1 ∧ n + 1 ≤ 10 ∧ (y / 128).toNat < y.toNat := by
  have h := beq_eq_false_iff_ne.1 h
  have := Vm.sz_hi (x := y.toNat) (by omega)
  have e : (y / 128).toNat = y.toNat / 128 := by omega
  have := Vm.sz_pos (y / 128).toNat
  rw [e] at *
  omega

theorem ret3 {x n e x' n' e' : Int} (h : x = x' ∧ n = n' ∧ e = e') : Ending.returned (.tuple #[.int .u64 x', .int .i64 n', .int .i64 e']) = .returned (.tuple #[.int .u64 x, .int .i64 n, .int .i64 e]) := by
  obtain ⟨rfl, rfl, rfl⟩ := h; rfl

theorem good_ret {bs : List Int} {x n e : Int} (hR : Vm.Res bs x n e) {u k : Nat} (hu : u < 18446744073709551616) (hp : Vm.enc u <+: bs) (hs : Vm.sz u = k + 1) : x = (u : Int) ∧ n = (k : Int) + 1 ∧ e = 0 := by
  have := Vm.res_good hR hu hp
  omega

/-- What Small comes to. -/
def SRes (bs : List Int) (most u i g : Int) : Prop :=
  (Vm.Res bs u i 0 ∧ 0 ≤ most ∧ u ≤ most ∧ g = 0) ∨ (u = 0 ∧ i = 0 ∧ g = 5 ∧ ∃ x n e, Vm.Res bs x n e ∧ (e = 5 ∨ (e = 0 ∧ (most < 0 ∨ (0 ≤ most ∧ most < x)))))

theorem sres_is (bs : List Int) (most : Int) : ∃ u i g, SRes bs most u i g := by
  obtain ⟨x, n, e, hR⟩ := Vm.res_is bs
  have hb := Vm.res_bounds hR
  by_cases h : e = 0 ∧ 0 ≤ most ∧ x ≤ most
  · obtain ⟨rfl, h1, h2⟩ := h
    exact ⟨x, n, 0, .inl ⟨hR, h1, h2, rfl⟩⟩
  · exact ⟨0, 0, 5, .inr ⟨rfl, rfl, rfl, x, n, e, hR, by omega⟩⟩

end Go.Proofs.YtgcdibglkbfjdaaGreatDoor
