/- The contract of Pick. -/
import Derived.Test.YthndeolibilnnaaDoorProg
import Derived.Test.YthndeolibilnnaaDoorKit
namespace Go.Proofs.YthndeolibilnnaaDoor
open Go.RowKit
set_option linter.unusedVariables false

set_option maxHeartbeats 400000 in
theorem pick_any (x n : Int) (w : World) (hn : 0 < n) (hn2 : n < 9223372036854775808) (hx : -9223372036854775808 ≤ x) (hx2 : x < 9223372036854775808) :
    Calls Tryd.prog 29 #[.int .i64 x, .int .i64 n] w fun e w' => (∃ p : Nat, (p : Int) < n ∧ e = .returned (.int .i64 p)) ∧ w = w' := by
  have hnz : (n == 0) = false := by simp; omega
  have ht1 : x.tmod n < n := Int.tmod_lt_of_pos x hn
  have ht2 : -n < x.tmod n := Int.lt_tmod_of_pos x hn
  by_cases h : x.tmod n < 0
  · go_enter Tryd.func29, Tryd.ntmps29
    go_wp2
    go_ret
    exact ⟨⟨(x.tmod n + n).toNat, by omega, ret_i64 (by omega)⟩, rfl⟩
  · go_enter Tryd.func29, Tryd.ntmps29
    go_wp2
    go_ret
    exact ⟨⟨(x.tmod n).toNat, by omega, ret_i64 (by omega)⟩, rfl⟩

/-- An integer of 64 bits. -/
def I64 (z : Int) : Prop := -9223372036854775808 ≤ z ∧ z ≤ 9223372036854775807

def pk (x n : Int) : Int := if x.tmod n < 0 then x.tmod n + n else x.tmod n

theorem pk_lt (x n : Int) (hn : 0 < n) : 0 ≤ pk x n ∧ pk x n < n := by
  have ht1 : x.tmod n < n := Int.tmod_lt_of_pos x hn
  have ht2 : -n < x.tmod n := Int.lt_tmod_of_pos x hn
  unfold pk
  split <;> omega

set_option maxHeartbeats 400000 in
theorem pickx_any (x n : Int) (w : World) (hn : 0 < n) (hn2 : n < 9223372036854775808) (hx : I64 x) :
    Calls Tryd.prog 29 #[.int .i64 x, .int .i64 n] w fun e w' => e = .returned (.int .i64 (pk x n)) ∧ w = w' := by
  have hnz : (n == 0) = false := by simp; omega
  obtain ⟨hx1, hx2⟩ := hx
  have ht1 : x.tmod n < n := Int.tmod_lt_of_pos x hn
  have ht2 : -n < x.tmod n := Int.lt_tmod_of_pos x hn
  by_cases h : x.tmod n < 0
  · have e : pk x n = x.tmod n + n := by simp [pk, h]
    rw [e]
    clear e
    go_enter Tryd.func29, Tryd.ntmps29
    go_wp2
    go_ret
    exact ⟨ret_i64 (by omega), rfl⟩
  · have e : pk x n = x.tmod n := by simp [pk, h]
    rw [e]
    clear e
    go_enter Tryd.func29, Tryd.ntmps29
    go_wp2
    go_ret
    exact ⟨ret_i64 (by omega), rfl⟩

end Go.Proofs.YthndeolibilnnaaDoor
