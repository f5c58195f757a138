/- Bits of small numbers: 'x & 127', 'x | 128', as plain arithmetic. No program. -/
import Derived.Test.YtgcdibglkbfjdaaGreatDoorKit
import Derived.Test.YtgcdibglkbfjdaaGreatDoorMath
import Derived.Laws.Bits64b
namespace Go.Proofs.YtgcdibglkbfjdaaGreatDoor
open Go.RowKit
set_option linter.unusedVariables false

theorem bits_and_u8_nat (a b : Nat) (ha : a < 256) (hb : b < 256) : bits .and .u8 (a : Int) (b : Int) = ((a &&& b : Nat) : Int) := by
  have hx : a &&& b < 2 ^ 8 := Nat.and_lt_two_pow _ (by omega)
  have h1 : (BitVec.ofInt 8 (a : Int)).toNat = a := by
    rw [BitVec.ofInt_natCast, BitVec.toNat_ofNat]; exact Nat.mod_eq_of_lt (by omega)
  have h2 : (BitVec.ofInt 8 (b : Int)).toNat = b := by
    rw [BitVec.ofInt_natCast, BitVec.toNat_ofNat]; exact Nat.mod_eq_of_lt (by omega)
  show IntKind.u8.wrap ((BitVec.ofInt 8 (a : Int) &&& BitVec.ofInt 8 (b : Int)).toNat : Int) = _
  rw [BitVec.toNat_and, h1, h2]
  simp [IntKind.wrap, IntKind.signed, IntKind.bits]
  omega

theorem bits_or_u8_nat (a b : Nat) (ha : a < 256) (hb : b < 256) : bits .or .u8 (a : Int) (b : Int) = ((a ||| b : Nat) : Int) := by
  have hx : a ||| b < 2 ^ 8 := Nat.or_lt_two_pow (by omega) (by omega)
  have h1 : (BitVec.ofInt 8 (a : Int)).toNat = a := by
    rw [BitVec.ofInt_natCast, BitVec.toNat_ofNat]; exact Nat.mod_eq_of_lt (by omega)
  have h2 : (BitVec.ofInt 8 (b : Int)).toNat = b := by
    rw [BitVec.ofInt_natCast, BitVec.toNat_ofNat]; exact Nat.mod_eq_of_lt (by omega)
  show IntKind.u8.wrap ((BitVec.ofInt 8 (a : Int) ||| BitVec.ofInt 8 (b : Int)).toNat : Int) = _
  rw [BitVec.toNat_or, h1, h2]
  simp [IntKind.wrap, IntKind.signed, IntKind.bits]
  omega

theorem and127_nat (a : Nat) : a &&& 127 = a % 128 := Nat.and_two_pow_sub_one_eq_mod a 7
theorem or128_nat (a : Nat) (h : a < 128) : a ||| 128 = a + 128 := by
  have := Nat.two_pow_add_eq_or_of_lt (i := 7) h 1
  rw [Nat.or_comm]
  simp at this
  omega

theorem and127_u64 (y : Int) (h0 : 0 ≤ y) (h1 : y < 18446744073709551616) : bits .and .u64 y 127 = y % 128 := by
  have h := bits_and_u64_nat y.toNat 127 (by omega) (by omega)
  rw [and127_nat, Int.toNat_of_nonneg h0] at h
  refine h.trans ?_
  omega

theorem and127_u8 (y : Int) (h0 : 0 ≤ y) (h1 : y < 256) : bits .and .u8 y 127 = y % 128 := by
  have h := bits_and_u8_nat y.toNat 127 (by omega) (by omega)
  rw [and127_nat, Int.toNat_of_nonneg h0] at h
  refine h.trans ?_
  omega

theorem or128_u8 (y : Int) (h0 : 0 ≤ y) (h1 : y < 128) : bits .or .u8 y 128 = y + 128 := by
  have h := bits_or_u8_nat y.toNat 128 (by omega) (by omega)
  rw [or128_nat _ (by omega), Int.toNat_of_nonneg h0] at h
  refine h.trans ?_
  omega

theorem pow7 (n : Nat) : (2 : Nat) ^ (7 * n) = 128 ^ n := by rw [Nat.pow_mul]

/-- 'acc | c << 7n' where acc takes 7n bits alone, and all fits. -/
theorem or_shift (acc n : Nat) (c : Int) (h0 : 0 ≤ c) (ha : acc < 128 ^ n) (hf : acc + c.toNat * 128 ^ n < 18446744073709551616) : bits .or .u64 (acc : Int) (IntKind.u64.wrap (c * 2 ^ (7 * n))) = ((acc + c.toNat * 128 ^ n : Nat) : Int) := by
  have e : c * 2 ^ (7 * n) = ((c.toNat * 128 ^ n : Nat) : Int) := by
    rw [← pow7]
    push_cast
    rw [Int.toNat_of_nonneg h0]
  have e2 : IntKind.u64.wrap (c * 2 ^ (7 * n)) = ((c.toNat * 128 ^ n : Nat) : Int) := by
    rw [e, IntKind.wrap_u64]
    omega
  rw [e2, bits_or_u64_nat _ _ (by omega) (by omega), Nat.or_comm]
  have h := Nat.two_pow_add_eq_or_of_lt (i := 7 * n) (b := acc) (by rw [pow7]; exact ha) c.toNat
  rw [pow7] at h
  rw [Nat.mul_comm c.toNat, ← h, Nat.add_comm]

/-- The same where the tenth group is cut to its one bit. -/
theorem or_shift_cut (acc n : Nat) (c : Int) (h0 : 0 ≤ c) (h2 : c < 256) (hn : n ≤ 9) (ha : acc < 128 ^ n) (hf : acc + Vm.dd n c * 128 ^ n < 18446744073709551616) : bits .or .u64 (acc : Int) (IntKind.u64.wrap (c % 128 * 2 ^ (7 * n))) = ((acc + Vm.dd n c * 128 ^ n : Nat) : Int) := by
  by_cases h8 : n ≤ 8
  · have e : Vm.dd n c = (c % 128).toNat := by unfold Vm.dd; rw [if_pos h8]
    rw [e] at hf ⊢
    exact or_shift acc n (c % 128) (by omega) ha hf
  · have h9 : n = 9 := by omega
    subst h9
    have e : Vm.dd 9 c = (c % 2).toNat := by unfold Vm.dd; rw [if_neg h8]
    rw [e] at hf ⊢
    have e2 : IntKind.u64.wrap (c % 128 * 2 ^ (7 * 9)) = IntKind.u64.wrap (c % 2 * 2 ^ (7 * 9)) := by
      rw [IntKind.wrap_u64, IntKind.wrap_u64]
      omega
    rw [e2]
    exact or_shift acc 9 (c % 2) (by omega) ha hf

theorem wrap_u64_small (z : Int) (h0 : 0 ≤ z) (h1 : z < 18446744073709551616) : IntKind.u64.wrap z = z := by
  rw [IntKind.wrap_u64]
  omega

theorem wf_u8 {z : Int} (h0 : 0 ≤ z) (h1 : z < 256) : (Lit.int .u8 z).wf = true := by
  simp [Lit.wf, IntKind.min, IntKind.max, IntKind.signed, IntKind.bits]; omega

theorem wf_u64 {z : Int} (h0 : 0 ≤ z) (h1 : z < 18446744073709551616) : (Lit.int .u64 z).wf = true := by
  simp [Lit.wf, IntKind.min, IntKind.max, IntKind.signed, IntKind.bits]; omega

theorem wf_i64 {z : Int} (h0 : -9223372036854775808 ≤ z) (h1 : z < 9223372036854775808) : (Lit.int .i64 z).wf = true := by
  simp [Lit.wf, IntKind.min, IntKind.max, IntKind.signed, IntKind.bits]; omega

theorem bytes_wf {zs : List Int} (h : zs.all (fun z => decide (0 ≤ z) && decide (z < 256)) = true) : ∀ z ∈ zs, (Lit.int .u8 z).wf = true := by
  intro z hz
  have := List.all_eq_true.1 h z hz
  simp at this
  exact wf_u8 this.1 this.2

end Go.Proofs.YtgcdibglkbfjdaaGreatDoor
