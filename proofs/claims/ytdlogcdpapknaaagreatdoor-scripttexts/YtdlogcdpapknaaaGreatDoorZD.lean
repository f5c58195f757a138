/- Texts of one layer, one behind the other. -/
import Derived.Test.YtdlogcdpapknaaaGreatDoorZC
import Derived.Test.YtdlogcdpapknaaaGreatDoorZA
import Derived.Laws.Bits64b
import Derived.Test.YtdlogcdpapknaaaGreatDoorProg
import Derived.Deep.QuietTactic
import Derived.BigQuiet
import Derived.Deep.RegionWith
/- Bits of small numbers: 'x & 127', 'x | 128', as plain arithmetic. No program. -/
namespace Go.Proofs.YtdlogcdpapknaaaGreatDoor
open Go.RowKit
set_option linter.unusedVariables false

theorem bits_and_u8_nat (a b : Nat) (ha : a < 256) (hb : b < 256) : bits .and .u8 (a : Int) (b : Int) = ((a &&& b : Nat) : Int) := by
  have hx : a &&& b < 2 ^ 8 := Nat.and_lt_two_pow _ (by omega)
  have h1 : (BitVec.ofInt 8 (a : Int)).toNat = a := by
    rw [BitVec.ofInt_natCast, BitVec.toNat_ofNat]; exact Nat.mod_eq_of_lt (by omega)
  have h2 : (BitVec.ofInt 8 (b : Int)).toNat = b := by
    rw [BitVec.ofInt_natCast, BitVec.toNat_ofNat]; exact Nat.mod_eq_of_lt (by omega)
  show IntKind.u8.wrap ((BitVec.ofInt 8 (a : Int) &&& BitVec.ofInt 8 (b : Int)).toNat : Int) = _
  rw [BitVec.toNat_and, h1, h2]
  simp [IntKind.wrap, IntKind.signed, IntKind.bits]
  omega

theorem bits_or_u8_nat (a b : Nat) (ha : a < 256) (hb : b < 256) : bits .or .u8 (a : Int) (b : Int) = ((a ||| b : Nat) : Int) := by
  have hx : a ||| b < 2 ^ 8 := Nat.or_lt_two_pow (by omega) (by omega)
  have h1 : (BitVec.ofInt 8 (a : Int)).toNat = a := by
    rw [BitVec.ofInt_natCast, BitVec.toNat_ofNat]; exact Nat.mod_eq_of_lt (by omega)
  have h2 : (BitVec.ofInt 8 (b : Int)).toNat = b := by
    rw [BitVec.ofInt_natCast, BitVec.toNat_ofNat]; exact Nat.mod_eq_of_lt (by omega)
  show IntKind.u8.wrap ((BitVec.ofInt 8 (a : Int) ||| BitVec.ofInt 8 (b : Int)).toNat : Int) = _
  rw [BitVec.toNat_or, h1, h2]
  simp [IntKind.wrap, IntKind.signed, IntKind.bits]
  omega

theorem and127_nat (a : Nat) : a &&& 127 = a % 128 := Nat.and_two_pow_sub_one_eq_mod a 7
theorem or128_nat (a : Nat) (h : a < 128) : a ||| 128 = a + 128 := by
  have := Nat.two_pow_add_eq_or_of_lt (i := 7) h 1
  rw [Nat.or_comm]
  simp at this
  omega

theorem and127_u64 (y : Int) (h0 : 0 ≤ y) (h1 : y < 18446744073709551616) : bits .and .u64 y 127 = y % 128 := by
  have h := bits_and_u64_nat y.toNat 127 (by omega) (by omega)
  rw [and127_nat, Int.toNat_of_nonneg h0] at h
  refine h.trans ?_
  omega

theorem and127_u8 (y : Int) (h0 : 0 ≤ y) (h1 : y < 256) : bits .and .u8 y 127 = y % 128 := by
  have h := bits_and_u8_nat y.toNat 127 (by omega) (by omega)
  rw [and127_nat, Int.toNat_of_nonneg h0] at h
  refine h.trans ?_
  omega

theorem or128_u8 (y : Int) (h0 : 0 ≤ y) (h1 : y < 128) : bits .or .u8 y 128 = y + 128 := by
  have h := bits_or_u8_nat y.toNat 128 (by omega) (by omega)
  rw [or128_nat _ (by omega), Int.toNat_of_nonneg h0] at h
  refine h.trans ?_
  omega

theorem pow7 (n : Nat) : (2 : Nat) ^ (7 * n) = 128 ^ n := by rw [Nat.pow_mul]

/-- 'acc | c << 7n' where acc takes 7n bits alone, and all fits. -/
theorem or_shift (acc n : Nat) (c : Int) (h0 : 0 ≤ c) (ha : acc < 128 ^ n) (hf : acc + c.toNat * 128 ^ n < 18446744073709551616) : bits .or .u64 (acc : Int) (IntKind.u64.wrap (c * 2 ^ (7 * n))) = ((acc + c.toNat * 128 ^ n : Nat) : Int) := by
  have e : c * 2 ^ (7 * n) = ((c.toNat * 128 ^ n : Nat) : Int) := by
    rw [← pow7]
    push_cast
    rw [Int.toNat_of_nonneg h0]
  have e2 : IntKind.u64.wrap (c * 2 ^ (7 * n)) = ((c.toNat * 128 ^ n : Nat) : Int) := by
    rw [e, IntKind.wrap_u64]
    omega
  rw [e2, bits_or_u64_nat _ _ (by omega) (by omega), Nat.or_comm]
  have h := Nat.two_pow_add_eq_or_of_lt (i := 7 * n) (b := acc) (by rw [pow7]; exact ha) c.toNat
  rw [pow7] at h
  rw [Nat.mul_comm c.toNat, ← h, Nat.add_comm]

/-- The same where the tenth group is cut to its one bit. -/
theorem or_shift_cut (acc n : Nat) (c : Int) (h0 : 0 ≤ c) (h2 : c < 256) (hn : n ≤ 9) (ha : acc < 128 ^ n) (hf : acc + Vm.dd n c * 128 ^ n < 18446744073709551616) : bits .or .u64 (acc : Int) (IntKind.u64.wrap (c % 128 * 2 ^ (7 * n))) = ((acc + Vm.dd n c * 128 ^ n : Nat) : Int) := by
  by_cases h8 : n ≤ 8
  · have e : Vm.dd n c = (c % 128).toNat := by unfold Vm.dd; rw [if_pos h8]
    rw [e] at hf ⊢
    exact or_shift acc n (c % 128) (by omega) ha hf
  · have h9 : n = 9 := by omega
    subst h9
    have e : Vm.dd 9 c = (c % 2).toNat := by unfold Vm.dd; rw [if_neg h8]
    rw [e] at hf ⊢
    have e2 : IntKind.u64.wrap (c % 128 * 2 ^ (7 * 9)) = IntKind.u64.wrap (c % 2 * 2 ^ (7 * 9)) := by
      rw [IntKind.wrap_u64, IntKind.wrap_u64]
      omega
    rw [e2]
    exact or_shift acc 9 (c % 2) (by omega) ha hf

theorem wrap_u64_small (z : Int) (h0 : 0 ≤ z) (h1 : z < 18446744073709551616) : IntKind.u64.wrap z = z := by
  rw [IntKind.wrap_u64]
  omega

theorem wf_u8 {z : Int} (h0 : 0 ≤ z) (h1 : z < 256) : (Lit.int .u8 z).wf = true := by
  simp [Lit.wf, IntKind.min, IntKind.max, IntKind.signed, IntKind.bits]; omega

theorem wf_u64 {z : Int} (h0 : 0 ≤ z) (h1 : z < 18446744073709551616) : (Lit.int .u64 z).wf = true := by
  simp [Lit.wf, IntKind.min, IntKind.max, IntKind.signed, IntKind.bits]; omega

theorem wf_i64 {z : Int} (h0 : -9223372036854775808 ≤ z) (h1 : z < 9223372036854775808) : (Lit.int .i64 z).wf = true := by
  simp [Lit.wf, IntKind.min, IntKind.max, IntKind.signed, IntKind.bits]; omega

theorem bytes_wf {zs : List Int} (h : zs.all (fun z => decide (0 ≤ z) && decide (z < 256)) = true) : ∀ z ∈ zs, (Lit.int .u8 z).wf = true := by
  intro z hz
  have := List.all_eq_true.1 h z hz
  simp at this
  exact wf_u8 this.1 this.2

end Go.Proofs.YtdlogcdpapknaaaGreatDoor

/- The contracts of the byte functions of the laws' kit. -/
namespace Go.Proofs.YtdlogcdpapknaaaGreatDoor
open Go.RowKit
set_option linter.unusedVariables false

theorem Tryz.info5 : (Tryz.prog.info? 5).map (fun i => (i.zero, i.size, i.bytes)) = some (some (.int .u8 0), 1, 1) := by kernel_rfl



theorem lent_step (bs : List Int) (k : Nat) (h : k < 3) : (bs ++ ([201, 202, 203] : List Int).take k) ++ [201 + (k : Int)] = bs ++ ([201, 202, 203] : List Int).take (k + 1) := by
  have : k = 0 ∨ k = 1 ∨ k = 2 := by omega
  rcases this with rfl | rfl | rfl <;> simp

end Go.Proofs.YtdlogcdpapknaaaGreatDoor

/- The contracts of varint Size, Append, Read, Small. -/
namespace Go.Proofs.YtdlogcdpapknaaaGreatDoor
open Go.RowKit
set_option linter.unusedVariables false

theorem size_done {y : Int} {n m : Nat} (h0 : 0 ≤ y) (hs : Vm.sz y.toNat + n = m + 1) (h : (y / 128 == 0) = true) : (n : Int) = m := by
  have h := beq_iff_eq.1 h
  have := Vm.sz_lo (x := y.toNat) (by omega)
  omega

theorem size_next {y : Int} {n m : Nat} (h0 : 0 ≤ y) (hs : Vm.sz y.toNat + n = m + 1) (hm : m ≤ 10) (h : (y / 128 == 0) = false) :
    Vm.sz (y / 128).toNat + (n + 1) = m + 1 ∧ n + 1 ≤ 10 ∧ (y / 128).toNat < y.toNat := by
  have h := beq_eq_false_iff_ne.1 h
  have := Vm.sz_hi (x := y.toNat) (by omega)
  have e : (y / 128).toNat = y.toNat / 128 := by omega
  have := Vm.sz_pos (y / 128).toNat
  rw [e] at *
  omega

theorem ret3 {x n e x' n' e' : Int} (h : x = x' ∧ n = n' ∧ e = e') : Ending.returned (.tuple #[.int .u64 x', .int .i64 n', .int .i64 e']) = .returned (.tuple #[.int .u64 x, .int .i64 n, .int .i64 e]) := by
  obtain ⟨rfl, rfl, rfl⟩ := h; rfl

theorem good_ret {bs : List Int} {x n e : Int} (hR : Vm.Res bs x n e) {u k : Nat} (hu : u < 18446744073709551616) (hp : Vm.enc u <+: bs) (hs : Vm.sz u = k + 1) : x = (u : Int) ∧ n = (k : Int) + 1 ∧ e = 0 := by
  have := Vm.res_good hR hu hp
  omega

/-- What Small comes to. -/
def SRes (bs : List Int) (most u i g : Int) : Prop :=
  (Vm.Res bs u i 0 ∧ 0 ≤ most ∧ u ≤ most ∧ g = 0) ∨ (u = 0 ∧ i = 0 ∧ g = 5 ∧ ∃ x n e, Vm.Res bs x n e ∧ (e = 5 ∨ (e = 0 ∧ (most < 0 ∨ (0 ≤ most ∧ most < x)))))

theorem sres_is (bs : List Int) (most : Int) : ∃ u i g, SRes bs most u i g := by
  obtain ⟨x, n, e, hR⟩ := Vm.res_is bs
  have hb := Vm.res_bounds hR
  by_cases h : e = 0 ∧ 0 ≤ most ∧ x ≤ most
  · obtain ⟨rfl, h1, h2⟩ := h
    exact ⟨x, n, 0, .inl ⟨hR, h1, h2, rfl⟩⟩
  · exact ⟨0, 0, 5, .inr ⟨rfl, rfl, rfl, x, n, e, hR, by omega⟩⟩

end Go.Proofs.YtdlogcdpapknaaaGreatDoor
