/- The contracts of op's isPlain, Word. -/
import Derived.Test.YtgcdibglkbfjdaaGreatDoorBld
import Derived.Test.YtgcdibglkbfjdaaGreatDoorShelf
import Derived.Test.YtgcdibglkbfjdaaGreatDoorWordm
import Derived.Lib.Strings
namespace Go.Proofs.YtgcdibglkbfjdaaGreatDoor
open Go.RowKit
set_option linter.unusedVariables false

theorem plain_int (z : Int) (c : UInt8) (hz : z = (c.toNat : Int)) : Wm.plain c = (decide (33 ≤ z) && decide (z ≤ 126) && (z != 34) && (z != 92)) := by
  subst hz
  unfold Wm.plain
  generalize c.toNat = n
  rw [Bool.eq_iff_iff]
  simp
  omega

theorem and15_u8 (y : Int) (h0 : 0 ≤ y) (h1 : y < 256) : bits .and .u8 y 15 = y % 16 := by
  obtain ⟨n, rfl⟩ : ∃ n : Nat, y = n := ⟨y.toNat, by omega⟩
  have h := bits_and_u8_nat n 15 (by omega) (by omega)
  have e : n &&& 15 = n % 16 := Nat.and_two_pow_sub_one_eq_mod n 4
  rw [e] at h
  simpa using h

theorem hexs (n : Nat) (h : n < 16) (h' : n < (⟨#[48, 49, 50, 51, 52, 53, 54, 55, 56, 57, 97, 98, 99, 100, 101, 102]⟩ : ByteArray).size) : (⟨#[48, 49, 50, 51, 52, 53, 54, 55, 56, 57, 97, 98, 99, 100, 101, 102]⟩ : ByteArray)[n]'h' = Wm.hexd n := by
  have : n = 0 ∨ n = 1 ∨ n = 2 ∨ n = 3 ∨ n = 4 ∨ n = 5 ∨ n = 6 ∨ n = 7 ∨ n = 8 ∨ n = 9 ∨ n = 10 ∨ n = 11 ∨ n = 12 ∨ n = 13 ∨ n = 14 ∨ n = 15 := by omega
  rcases this with rfl | rfl | rfl | rfl | rfl | rfl | rfl | rfl | rfl | rfl | rfl | rfl | rfl | rfl | rfl | rfl <;> rfl

theorem ret_bool {a b : Bool} (h : a = b) : Ending.returned (.bool a) = .returned (.bool b) := by rw [h]

set_option maxHeartbeats 400000 in
theorem isplain_any (z : Int) (c : UInt8) (w : World) (hz : z = (c.toNat : Int)) :
    Calls Tryz.prog 87 #[.int .u8 z] w fun E w' => E = .returned (.bool (Wm.plain c)) ∧ w = w' := by
  rw [plain_int z c hz]
  obtain ⟨r, hr⟩ : ∃ r, (decide (33 ≤ z) && decide (z ≤ 126) && (z != 34) && (z != 92)) = r := ⟨_, rfl⟩
  rw [hr]
  have HR := hide hr
  clear hr hz
  by_cases h1 : 33 ≤ z <;> by_cases h2 : z ≤ 126 <;> by_cases h3 : z = 34 <;> by_cases h4 : z = 92
  all_goals
    try (exfalso; omega)
  all_goals
    go_enter Tryz.func87, Tryz.ntmps87
    go_wp2
    all_goals go_ret
    all_goals exact ⟨ret_bool (by rw [← HR.out, Bool.eq_iff_iff]; simp <;> omega), rfl⟩

set_option maxHeartbeats 400000 in
theorem word_any (s : ByteArray) (w : World) (hs : s.size ≤ 35184372088832) :
    Calls Tryz.prog 59 #[.string s] w fun E w' => E = .returned (.string ⟨(Wm.wd s.data.toList).toArray⟩) ∧ Below w.heap.size w w' := by
  by_cases h0 : s.data.toList = []
  · have he : s.toList.isEmpty = true := by rw [Lib.toList_data, h0]; rfl
    rw [h0, Wm.wd_nil]
    clear h0
    go_enter Tryz.func59, Tryz.ntmps59
    go_wp2
    go_ret
    exact ⟨rfl, Below.refl _ _⟩
  · have he : s.toList.isEmpty = false := by rw [Lib.toList_data]; simpa using h0
    have hl : s.data.toList.length = s.size := (Lib.size_eq s).symm
    have bld0 : Lib.IsBuilder 62 5 w.heap.size w.heap.size (Lib.byteCells (Wm.flat (s.data.toList.take 0))) (w.alloc (.cells #[.pointer none, .slice none 0 0] 62)) :=
      .inl ⟨Nat.le_refl _, .slice none 0 0, heap_alloc_new w _, World.ownsRow_nil _ _ _ _, by simp [Value.ownBlock]⟩
    have bel0 : Below w.heap.size w (w.alloc (.cells #[.pointer none, .slice none 0 0] 62)) := (Below.refl _ _).alloc (Nat.le_refl _) _
    rw [Wm.wd_full h0]
    go_enter Tryz.func59, Tryz.ntmps59
    go_wp2
    go_loopw [10] (fun ii wr => ∃ k : Nat, k ≤ s.size ∧ ii = .int .i64 k ∧ Lib.IsBuilder 62 5 w.heap.size w.heap.size (Lib.byteCells (Wm.flat (s.data.toList.take k))) wr ∧ Below w.heap.size w wr) (fun ii _ => s.size - (intOf ii).toNat)
    case atStart => exact ⟨0, by omega, rfl, bld0, bel0⟩
    case round =>
      obtain ⟨k, hk, rfl, bld, bel⟩ := hrel
      clear bld0 bel0
      have sz := bel.size
      by_cases hlt : k < s.size
      · have hlt' : (k : Int) < s.size := by omega
        obtain ⟨c, hc⟩ : ∃ c : UInt8, s[k] = c := ⟨_, rfl⟩
        have htk : s.data.toList.take (k + 1) = s.data.toList.take k ++ [c] := by
          rw [List.take_succ_eq_append_getElem (by omega), ← hc]
          rfl
        have hfl : Wm.flat (s.data.toList.take (k + 1)) = Wm.flat (s.data.toList.take k) ++ Wm.esc c := by rw [htk, Wm.flat_snoc]
        have hlen : (Wm.flat (s.data.toList.take k)).length ≤ 105553116266496 := by
          have := Wm.flat_le (s.data.toList.take k)
          rw [List.length_take] at this
          omega
        generalize Wm.flat (s.data.toList.take k) = acc at *
        have HFL := hide hfl
        clear htk hfl
        go_wp2_with fail
        refine (isplain_any _ c _ rfl).mono ?_
        rintro E w1 ⟨rfl, rfl⟩
        cases hp : Wm.plain c
        · rw [Wm.esc_other hp] at HFL
          clear hp
          go_wp2_with fail
          refine (wbyte_any w.heap.size w.heap.size acc 92 92 _ bld (by omega) sz rfl).mono ?_
          rintro E w1 ⟨rfl, bld1, bel1⟩
          have sz1 := bel1.size
          have hc256 := c.toNat_lt
          have n1 : (0 : Int) ≤ (c.toNat : Int) / 16 := by omega
          have n2 : (c.toNat : Int) / 16 < 16 := by omega
          have n3 : (0 : Int) ≤ (c.toNat : Int) % 16 := by omega
          have n4 : (c.toNat : Int) % 16 < 16 := by omega
          have e15 := and15_u8 (c.toNat : Int) (by omega) (by omega)
          go_wp2_with fail
          refine (wbyte_any w.heap.size w.heap.size (acc ++ [92]) (Wm.hexd (c.toNat / 16)) _ _ bld1 (by simp; omega) (by omega) (by rw [hexs _ (by omega)])).mono ?_
          rintro E w2 ⟨rfl, bld2, bel2⟩
          have sz2 := bel2.size
          go_wp2_with fail
          refine (wbyte_any w.heap.size w.heap.size (acc ++ [92] ++ [Wm.hexd (c.toNat / 16)]) (Wm.hexd (c.toNat % 16)) _ _ bld2 (by simp; omega) (by omega) (by rw [hexs _ (by omega)])).mono ?_
          rintro E w3 ⟨rfl, bld3, bel3⟩
          have e3 : acc ++ [92] ++ [Wm.hexd (c.toNat / 16)] ++ [Wm.hexd (c.toNat % 16)] = Wm.flat (s.data.toList.take (k + 1)) := by rw [HFL.out]; simp
          rw [e3] at bld3
          have bel4 := ((bel.trans bel1).trans bel2).trans bel3
          clear e3 bld1 bld2
          go_wp2
          go_roundw
          case rel => exact ⟨k + 1, by omega, by go_num, bld3, bel4⟩
          case measure => simp [intOf]; omega
        · rw [Wm.esc_plain hp] at HFL
          clear hp
          go_wp2_with fail
          refine (wbyte_any w.heap.size w.heap.size acc c _ _ bld (by omega) sz rfl).mono ?_
          rintro E w1 ⟨rfl, bld1, bel1⟩
          rw [← HFL.out] at bld1
          have bel2 := bel.trans bel1
          go_wp2
          go_roundw
          case rel => exact ⟨k + 1, by omega, by go_num, bld1, bel2⟩
          case measure => simp [intOf]; omega
      · have hke : k = s.size := by omega
        have e1 : s.data.toList.take k = s.data.toList := List.take_of_length_le (by omega)
        rw [e1] at bld
        go_wp2_with fail
        refine (Tryz.Builder_String_any_k w.heap.size w.heap.size _ _ (Lib.IsBuilderF.of bld) sz).mono ?_
        rintro E w1 ⟨rfl, _, bel1, _⟩
        go_wp2
        go_ret
        exact ⟨rfl, bel.trans bel1⟩

end Go.Proofs.YtgcdibglkbfjdaaGreatDoor
