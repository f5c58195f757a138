/- Texts of one layer, one behind the other. -/
import Derived.Test.YtdlogcdpapknaaaGreatDoorBld
import Derived.Test.YtdlogcdpapknaaaGreatDoorShelf
import Derived.Test.YtdlogcdpapknaaaGreatDoorZA
import Derived.Lib.Strings
import Derived.WalkMore
/- The contracts of op's isPlain, Word. -/
namespace Go.Proofs.YtdlogcdpapknaaaGreatDoor
open Go.RowKit
set_option linter.unusedVariables false

theorem plain_int (z : Int) (c : UInt8) (hz : z = (c.toNat : Int)) : Wm.plain c = (decide (33 ≤ z) && decide (z ≤ 126) && (z != 34) && (z != 92)) := by
  subst hz
  unfold Wm.plain
  generalize c.toNat = n
  rw [Bool.eq_iff_iff]
  simp
  omega

theorem and15_u8 (y : Int) (h0 : 0 ≤ y) (h1 : y < 256) : bits .and .u8 y 15 = y % 16 := by
  obtain ⟨n, rfl⟩ : ∃ n : Nat, y = n := ⟨y.toNat, by omega⟩
  have h := bits_and_u8_nat n 15 (by omega) (by omega)
  have e : n &&& 15 = n % 16 := Nat.and_two_pow_sub_one_eq_mod n 4
  rw [e] at h
  simpa using h

theorem hexs (n : Nat) (h : n < 16) (h' : n < (⟨#[48, 49, 50, 51, 52, 53, 54, 55, 56, 57, 97, 98, 99, 100, 101, 102]⟩ : ByteArray).size) : (⟨#[48, 49, 50, 51, 52, 53, 54, 55, 56, 57, 97, 98, 99, 100, 101, 102]⟩ : ByteArray)[n]'h' = Wm.hexd n := by
  have : n = 0 ∨ n = 1 ∨ n = 2 ∨ n = 3 ∨ n = 4 ∨ n = 5 ∨ n = 6 ∨ n = 7 ∨ n = 8 ∨ n = 9 ∨ n = 10 ∨ n = 11 ∨ n = 12 ∨ n = 13 ∨ n = 14 ∨ n = 15 := by omega
  rcases this with rfl | rfl | rfl | rfl | rfl | rfl | rfl | rfl | rfl | rfl | rfl | rfl | rfl | rfl | rfl | rfl <;> rfl

theorem ret_bool {a b : Bool} (h : a = b) : Ending.returned (.bool a) = .returned (.bool b) := by rw [h]

set_option maxHeartbeats 400000 in
theorem isplain_any (z : Int) (c : UInt8) (w : World) (hz : z = (c.toNat : Int)) :
    Calls Tryz.prog 87 #[.int .u8 z] w fun E w' => E = .returned (.bool (Wm.plain c)) ∧ w = w' := by
  rw [plain_int z c hz]
  obtain ⟨r, hr⟩ : ∃ r, (decide (33 ≤ z) && decide (z ≤ 126) && (z != 34) && (z != 92)) = r := ⟨_, rfl⟩
  rw [hr]
  have HR := hide hr
  clear hr hz
  by_cases h1 : 33 ≤ z <;> by_cases h2 : z ≤ 126 <;> by_cases h3 : z = 34 <;> by_cases h4 : z = 92
  all_goals
    try (exfalso; omega)
  all_goals
    go_enter Tryz.func87, Tryz.ntmps87
    go_wp2
    all_goals go_ret
    all_goals exact ⟨ret_bool (by rw [← HR.out, Bool.eq_iff_iff]; simp <;> omega), rfl⟩

set_option maxHeartbeats 400000 in
theorem word_any (s : ByteArray) (w : World) (hs : s.size ≤ 35184372088832) :
    Calls Tryz.prog 59 #[.string s] w fun E w' => E = .returned (.string ⟨(Wm.wd s.data.toList).toArray⟩) ∧ Below w.heap.size w w' := by
  by_cases h0 : s.data.toList = []
  · have he : s.toList.isEmpty = true := by rw [Lib.toList_data, h0]; rfl
    rw [h0, Wm.wd_nil]
    clear h0
    go_enter Tryz.func59, Tryz.ntmps59
    go_wp2
    go_ret
    exact ⟨rfl, Below.refl _ _⟩
  · have he : s.toList.isEmpty = false := by rw [Lib.toList_data]; simpa using h0
    have hl : s.data.toList.length = s.size := (Lib.size_eq s).symm
    have bld0 : Lib.IsBuilder 62 5 w.heap.size w.heap.size (Lib.byteCells (Wm.flat (s.data.toList.take 0))) (w.alloc (.cells #[.pointer none, .slice none 0 0] 62)) :=
      .inl ⟨Nat.le_refl _, .slice none 0 0, heap_alloc_new w _, World.ownsRow_nil _ _ _ _, by simp [Value.ownBlock]⟩
    have bel0 : Below w.heap.size w (w.alloc (.cells #[.pointer none, .slice none 0 0] 62)) := (Below.refl _ _).alloc (Nat.le_refl _) _
    rw [Wm.wd_full h0]
    go_enter Tryz.func59, Tryz.ntmps59
    go_wp2
    go_loopw [10] (fun ii wr => ∃ k : Nat, k ≤ s.size ∧ ii = .int .i64 k ∧ Lib.IsBuilder 62 5 w.heap.size w.heap.size (Lib.byteCells (Wm.flat (s.data.toList.take k))) wr ∧ Below w.heap.size w wr) (fun ii _ => s.size - (intOf ii).toNat)
    case atStart => exact ⟨0, by omega, rfl, bld0, bel0⟩
    case round =>
      obtain ⟨k, hk, rfl, bld, bel⟩ := hrel
      clear bld0 bel0
      have sz := bel.size
      by_cases hlt : k < s.size
      · have hlt' : (k : Int) < s.size := by omega
        obtain ⟨c, hc⟩ : ∃ c : UInt8, s[k] = c := ⟨_, rfl⟩
        have htk : s.data.toList.take (k + 1) = s.data.toList.take k ++ [c] := by
          rw [List.take_succ_eq_append_getElem (by omega), ← hc]
          rfl
        have hfl : Wm.flat (s.data.toList.take (k + 1)) = Wm.flat (s.data.toList.take k) ++ Wm.esc c := by rw [htk, Wm.flat_snoc]
        have hlen : (Wm.flat (s.data.toList.take k)).length ≤ 105553116266496 := by
          have := Wm.flat_le (s.data.toList.take k)
          rw [List.length_take] at this
          omega
        generalize Wm.flat (s.data.toList.take k) = acc at *
        have HFL := hide hfl
        clear htk hfl
        go_wp2_with fail
        refine (isplain_any _ c _ rfl).mono ?_
        rintro E w1 ⟨rfl, rfl⟩
        cases hp : Wm.plain c
        · rw [Wm.esc_other hp] at HFL
          clear hp
          go_wp2_with fail
          refine (wbyte_any w.heap.size w.heap.size acc 92 92 _ bld (by omega) sz rfl).mono ?_
          rintro E w1 ⟨rfl, bld1, bel1⟩
          have sz1 := bel1.size
          have hc256 := c.toNat_lt
          have n1 : (0 : Int) ≤ (c.toNat : Int) / 16 := by omega
          have n2 : (c.toNat : Int) / 16 < 16 := by omega
          have n3 : (0 : Int) ≤ (c.toNat : Int) % 16 := by omega
          have n4 : (c.toNat : Int) % 16 < 16 := by omega
          have e15 := and15_u8 (c.toNat : Int) (by omega) (by omega)
          go_wp2_with fail
          refine (wbyte_any w.heap.size w.heap.size (acc ++ [92]) (Wm.hexd (c.toNat / 16)) _ _ bld1 (by simp; omega) (by omega) (by rw [hexs _ (by omega)])).mono ?_
          rintro E w2 ⟨rfl, bld2, bel2⟩
          have sz2 := bel2.size
          go_wp2_with fail
          refine (wbyte_any w.heap.size w.heap.size (acc ++ [92] ++ [Wm.hexd (c.toNat / 16)]) (Wm.hexd (c.toNat % 16)) _ _ bld2 (by simp; omega) (by omega) (by rw [hexs _ (by omega)])).mono ?_
          rintro E w3 ⟨rfl, bld3, bel3⟩
          have e3 : acc ++ [92] ++ [Wm.hexd (c.toNat / 16)] ++ [Wm.hexd (c.toNat % 16)] = Wm.flat (s.data.toList.take (k + 1)) := by rw [HFL.out]; simp
          rw [e3] at bld3
          have bel4 := ((bel.trans bel1).trans bel2).trans bel3
          clear e3 bld1 bld2
          go_wp2
          go_roundw
          case rel => exact ⟨k + 1, by omega, by go_num, bld3, bel4⟩
          case measure => simp [intOf]; omega
        · rw [Wm.esc_plain hp] at HFL
          clear hp
          go_wp2_with fail
          refine (wbyte_any w.heap.size w.heap.size acc c _ _ bld (by omega) sz rfl).mono ?_
          rintro E w1 ⟨rfl, bld1, bel1⟩
          rw [← HFL.out] at bld1
          have bel2 := bel.trans bel1
          go_wp2
          go_roundw
          case rel => exact ⟨k + 1, by omega, by go_num, bld1, bel2⟩
          case measure => simp [intOf]; omega
      · have hke : k = s.size := by omega
        have e1 : s.data.toList.take k = s.data.toList := List.take_of_length_le (by omega)
        rw [e1] at bld
        go_wp2_with fail
        refine (Tryz.Builder_String_any_k w.heap.size w.heap.size _ _ (Lib.IsBuilderF.of bld) sz).mono ?_
        rintro E w1 ⟨rfl, _, bel1, _⟩
        go_wp2
        go_ret
        exact ⟨rfl, bel.trans bel1⟩

end Go.Proofs.YtdlogcdpapknaaaGreatDoor

/- The contracts of op's readEscape, Bytes. -/
namespace Go.Proofs.YtdlogcdpapknaaaGreatDoor
open Go.RowKit
set_option linter.unusedVariables false

/-- Where a byte stands among the digits. -/
def Idx (c : UInt8) (i : Int) : Prop := (∃ a : Nat, a < 16 ∧ i = a ∧ Wm.hexd a = c) ∨ (i = -1 ∧ ∀ a, a < 16 → Wm.hexd a ≠ c)

theorem idx_is (c : UInt8) : Idx c (Lib.indexByte [48, 49, 50, 51, 52, 53, 54, 55, 56, 57, 97, 98, 99, 100, 101, 102] c) := by
  have h := Wm.all_bytes (P := fun c => (decide (0 ≤ Lib.indexByte [48, 49, 50, 51, 52, 53, 54, 55, 56, 57, 97, 98, 99, 100, 101, 102] c) && decide (Lib.indexByte [48, 49, 50, 51, 52, 53, 54, 55, 56, 57, 97, 98, 99, 100, 101, 102] c < 16) && Wm.hexd (Lib.indexByte [48, 49, 50, 51, 52, 53, 54, 55, 56, 57, 97, 98, 99, 100, 101, 102] c).toNat == c) || (Lib.indexByte [48, 49, 50, 51, 52, 53, 54, 55, 56, 57, 97, 98, 99, 100, 101, 102] c == -1 && (List.range 16).all (fun a => Wm.hexd a != c))) (by decide +kernel) c
  generalize Lib.indexByte [48, 49, 50, 51, 52, 53, 54, 55, 56, 57, 97, 98, 99, 100, 101, 102] c = i at *
  rw [Bool.or_eq_true, Bool.and_eq_true, Bool.and_eq_true, Bool.and_eq_true] at h
  rcases h with ⟨⟨h1, h2⟩, h3⟩ | ⟨h1, h2⟩
  · have h1 := of_decide_eq_true h1
    have h2 := of_decide_eq_true h2
    exact .inl ⟨i.toNat, by omega, by omega, by simpa using h3⟩
  · refine .inr ⟨by simpa using h1, fun a ha => ?_⟩
    have := List.all_eq_true.1 h2 a (List.mem_range.2 ha)
    simpa using this

theorem idx_any (c : UInt8) (w : World) :
    Calls Tryz.prog 63 #[.string ⟨#[48, 49, 50, 51, 52, 53, 54, 55, 56, 57, 97, 98, 99, 100, 101, 102]⟩, .int .u8 c.toNat] w fun E w' => ∃ i, E = .returned (.int .i64 i) ∧ Idx c i ∧ w = w' := by
  refine (Tryz.strings_IndexByte _ _ w).mono ?_
  rintro E w1 ⟨rfl, rfl⟩
  refine ⟨_, rfl, ?_, rfl⟩
  have e : (c.toNat : Int).toNat.toUInt8 = c := by simp
  rw [e]
  exact idx_is c

/-- What readEscape answers. -/
def Esc (l : List UInt8) (z : Int) (ok : Bool) : Prop :=
  (ok = true ∧ ∃ c : UInt8, z = c.toNat ∧ Wm.plain c = false ∧ 3 ≤ l.length ∧ l[1]? = some (Wm.hexd (c.toNat / 16)) ∧ l[2]? = some (Wm.hexd (c.toNat % 16))) ∨
  (ok = false ∧ ∀ c : UInt8, Wm.plain c = false → 3 ≤ l.length → l[1]? = some (Wm.hexd (c.toNat / 16)) → l[2]? = some (Wm.hexd (c.toNat % 16)) → False)

theorem or_digits : ∀ a : Nat, a < 16 → ∀ b : Nat, b < 16 → bits .or .i64 ((a : Int) * 16) (b : Int) = ((16 * a + b : Nat) : Int) := by decide +kernel

set_option maxHeartbeats 400000 in
theorem resc_any (s : ByteArray) (w : World) (hs : s.size ≤ 140737488355328) :
    Calls Tryz.prog 100 #[.string s] w fun E w' => ∃ z ok, E = .returned (.tuple #[.int .u8 z, .bool ok]) ∧ Esc s.data.toList z ok ∧ w = w' := by
  by_cases h3 : s.size < 3
  · go_enter Tryz.func100, Tryz.ntmps100
    go_wp2
    go_ret2
    exact ⟨_, _, rfl, .inr ⟨rfl, fun c _ h => by rw [← Lib.size_eq] at h; omega⟩, rfl⟩
  · have hlt1 : 1 < s.size := by omega
    have hlt2 : 2 < s.size := by omega
    obtain ⟨c1, hc1⟩ : ∃ c : UInt8, s[1] = c := ⟨_, rfl⟩
    obtain ⟨c2, hc2⟩ : ∃ c : UInt8, s[2] = c := ⟨_, rfl⟩
    have g1 : s.data.toList[1]? = some c1 := by rw [List.getElem?_eq_getElem (by rw [← Lib.size_eq]; omega), ← hc1]; rfl
    have g2 : s.data.toList[2]? = some c2 := by rw [List.getElem?_eq_getElem (by rw [← Lib.size_eq]; omega), ← hc2]; rfl
    have G1 := hide g1
    have G2 := hide g2
    clear g1 g2
    go_enter Tryz.func100, Tryz.ntmps100
    go_wp2_with fail
    refine (idx_any c1 _).mono ?_
    rintro E w1 ⟨i, rfl, hi, rfl⟩
    go_wp2_with fail
    refine (idx_any c2 _).mono ?_
    rintro E w1 ⟨j, rfl, hj, rfl⟩
    rcases hi with ⟨a, ha, rfl, rfl⟩ | ⟨rfl, hi⟩
    · rcases hj with ⟨b, hb, rfl, rfl⟩ | ⟨rfl, hj⟩
      · have q1 : ¬ (a : Int) < 0 := by omega
        have q2 : ¬ (b : Int) < 0 := by omega
        obtain ⟨c, hc⟩ : ∃ c : UInt8, c.toNat = 16 * a + b := ⟨UInt8.ofNat (16 * a + b), by simp; omega⟩
        have eor : bits .or .i64 ((a : Int) * 16) (b : Int) = (c.toNat : Int) := by rw [hc]; exact or_digits a ha b hb
        have emod : (c.toNat : Int) % 256 = c.toNat := by have := c.toNat_lt; omega
        have HC := hide hc
        clear hc
        go_wp2_with fail
        refine (isplain_any _ c _ rfl).mono ?_
        rintro E w1 ⟨rfl, rfl⟩
        go_wp2
        go_ret2
        refine ⟨_, _, rfl, ?_, rfl⟩
        have h1 := HC.out
        have ea : c.toNat / 16 = a := by omega
        have eb : c.toNat % 16 = b := by omega
        cases hp : Wm.plain c
        · refine .inl ⟨rfl, c, rfl, hp, by rw [← Lib.size_eq]; omega, by rw [ea]; exact G1.out, by rw [eb]; exact G2.out⟩
        · refine .inr ⟨rfl, fun d hd _ h1 h2 => ?_⟩
          rw [G1.out] at h1
          rw [G2.out] at h2
          have hdl := d.toNat_lt
          have := Wm.hexd_inj ha (by omega) (Option.some.inj h1)
          have := Wm.hexd_inj hb (by omega) (Option.some.inj h2)
          have : c = d := UInt8.toNat_inj.1 (by omega)
          rw [this, hd] at hp
          simp at hp
      · go_wp2
        go_ret2
        refine ⟨_, _, rfl, .inr ⟨rfl, fun c _ _ h1 h2 => ?_⟩, rfl⟩
        rw [G2.out] at h2
        exact hj (c.toNat % 16) (by omega) (Option.some.inj h2).symm
    · have HI := hide hi
      clear hi hj
      go_wp2
      go_ret2
      refine ⟨_, _, rfl, .inr ⟨rfl, fun c _ _ h1 h2 => ?_⟩, rfl⟩
      rw [G1.out] at h1
      have := c.toNat_lt
      exact HI.out (c.toNat / 16) (by omega) (Option.some.inj h1).symm

theorem bad_at {l acc : List UInt8} {k : Nat} (ht : l.take k = Wm.flat acc) (hq : ¬ l = [34, 34]) (hk : k < l.length) (hn : ∀ c q, l.drop k ≠ Wm.esc c ++ q) : Wm.BRes l [] 5 :=
  .inr ⟨rfl, rfl, Wm.no_word (a := acc) (r := l.drop k) (by rw [← ht, List.take_append_drop]) hq (by intro h; have := congrArg List.length h; rw [List.length_drop] at this; simp at this; omega) hn⟩

theorem bad_esc {l r : List UInt8} {k : Nat} (hd : l.drop k = 92 :: r) (hE : ∀ c : UInt8, Wm.plain c = false → 3 ≤ (l.drop k).length → (l.drop k)[1]? = some (Wm.hexd (c.toNat / 16)) → (l.drop k)[2]? = some (Wm.hexd (c.toNat % 16)) → False) : ∀ c q, l.drop k ≠ Wm.esc c ++ q := by
  intro c q h
  cases hp : Wm.plain c
  · rw [Wm.esc_other hp] at h
    exact hE c hp (by rw [h]; simp) (by rw [h]; rfl) (by rw [h]; rfl)
  · rw [Wm.esc_plain hp, hd] at h
    simp only [List.cons_append, List.nil_append, List.cons.injEq] at h
    exact (Wm.plain_ne c hp).1 h.1.symm

theorem bad_plain {l r : List UInt8} {k : Nat} {c : UInt8} (hd : l.drop k = c :: r) (hp : Wm.plain c = false) (hc : ¬ c = 92) : ∀ d q, l.drop k ≠ Wm.esc d ++ q := by
  intro d q h
  cases hq : Wm.plain d
  · rw [Wm.esc_other hq, hd] at h
    simp only [List.cons_append, List.nil_append, List.cons.injEq] at h
    exact hc h.1
  · rw [Wm.esc_plain hq, hd] at h
    simp only [List.cons_append, List.nil_append, List.cons.injEq] at h
    rw [h.1, hq] at hp
    simp at hp

theorem bytes_plain {l acc r : List UInt8} {k : Nat} {c : UInt8} (ht : l.take k = Wm.flat acc) (hd : l.drop k = c :: r) (hp : Wm.plain c = true) : l.take (k + 1) = Wm.flat (acc ++ [c]) := by
  rw [List.take_add, ht, hd, Wm.flat_snoc, Wm.esc_plain hp]
  rfl

theorem bytes_esc {l acc r : List UInt8} {k : Nat} {c : UInt8} (ht : l.take k = Wm.flat acc) (hd : l.drop k = 92 :: r) (hp : Wm.plain c = false) (h3 : 3 ≤ (l.drop k).length) (g1 : (l.drop k)[1]? = some (Wm.hexd (c.toNat / 16))) (g2 : (l.drop k)[2]? = some (Wm.hexd (c.toNat % 16))) :
    l.take (k + 3) = Wm.flat (acc ++ [c]) := by
  rw [List.take_add, ht, Wm.flat_snoc, Wm.esc_other hp]
  congr 1
  generalize l.drop k = m at *
  match m, h3, hd, g1, g2 with
  | a :: b :: d :: r', _, hd, g1, g2 =>
    simp at hd g1 g2
    simp [hd.1, g1, g2]

set_option maxHeartbeats 1000000 in
theorem byts_any (s : ByteArray) (w : World) (hs : s.size ≤ 140737488351232) :
    Calls Tryz.prog 83 #[.string s] w fun E w' => ∃ (t : ByteArray) (e : Int), E = .returned (.tuple #[.string t, .int .i64 e]) ∧ Wm.BRes s.data.toList t.data.toList e ∧ Below w.heap.size w w' := by
  by_cases hq : s.data.toList = [34, 34]
  · have he : s = ⟨#[34, 34]⟩ := by
      obtain ⟨⟨l⟩⟩ := s
      simp at hq
      rw [hq]
    subst he
    go_enter Tryz.func83, Tryz.ntmps83
    go_wp2
    go_step3
    go_wp2
    rw [Exit.noGoto_ret]
    go_ret2
    exact ⟨_, _, rfl, .inl ⟨rfl, rfl⟩, Below.refl _ _⟩
  · have hl : s.data.toList.length = s.size := (Lib.size_eq s).symm
    have hqb : (s.toList == [34, 34]) = false := by rw [Lib.toList_data]; simpa using hq
    have bld0 : Lib.IsBuilder 62 5 w.heap.size w.heap.size (Lib.byteCells []) (w.alloc (.cells #[.pointer none, .slice none 0 0] 62)) :=
      .inl ⟨Nat.le_refl _, .slice none 0 0, heap_alloc_new w _, World.ownsRow_nil _ _ _ _, by simp [Value.ownBlock]⟩
    have bel0 : Below w.heap.size w (w.alloc (.cells #[.pointer none, .slice none 0 0] 62)) := (Below.refl _ _).alloc (Nat.le_refl _) _
    have HQ := hide hq
    clear hq
    go_enter Tryz.func83, Tryz.ntmps83
    go_wp2
    go_step3
    go_wp2
    go_step3
    go_wp2
    go_loopw [5] (fun ii wr => ∃ (k : Nat) (acc : List UInt8), k ≤ s.size ∧ ii = .int .i64 k ∧ s.data.toList.take k = Wm.flat acc ∧ acc.length ≤ k ∧ Lib.IsBuilder 62 5 w.heap.size w.heap.size (Lib.byteCells acc) wr ∧ Below w.heap.size w wr) (fun ii _ => s.size - (intOf ii).toNat)
    case atStart => exact ⟨0, [], by omega, rfl, by simp [Wm.flat], by simp, bld0, bel0⟩
    case round =>
      obtain ⟨k, acc, hk, rfl, htk, hal, bld, bel⟩ := hrel
      clear bld0 bel0
      have sz := bel.size
      have HT := hide htk
      clear htk
      by_cases hlt : k < s.size
      · have hlt' : (k : Int) < s.size := by omega
        obtain ⟨c, hc⟩ : ∃ c : UInt8, s[k] = c := ⟨_, rfl⟩
        have hlc : s.data.toList.drop k = c :: s.data.toList.drop (k + 1) := by
          rw [List.drop_eq_getElem_cons (by omega), ← hc]
          rfl
        have HD := hide hlc
        clear hlc
        by_cases h92 : c = 92
        · subst h92
          go_wp2_with fail
          refine (resc_any _ _ (by simp; omega)).mono ?_
          rintro E w1 ⟨z, ok, rfl, hE, rfl⟩
          have hx : (s.extract k s.size).data.toList = s.data.toList.drop k := by
            rw [Lib.extract_data]
            exact List.take_of_length_le (by rw [List.length_drop]; omega)
          rw [hx] at hE
          clear hx
          rcases hE with ⟨rfl, c, rfl, hp, h3, g1, g2⟩ | ⟨rfl, hE⟩
          · have hst := bytes_esc HT.out HD.out hp h3 g1 g2
            have HS := hide hst
            have hk3 : k + 3 ≤ s.size := by rw [List.length_drop] at h3; omega
            clear hst hp h3 g1 g2
            go_wp2_with fail
            refine (wbyte_any w.heap.size w.heap.size acc c _ _ bld (by omega) sz rfl).mono ?_
            rintro E w1 ⟨rfl, bld1, bel1⟩
            have bel2 := bel.trans bel1
            go_wp2
            go_roundw
            case rel => exact ⟨k + 3, acc ++ [c], by omega, by go_num, HS.out, by simp; omega, bld1, bel2⟩
            case measure => simp [intOf]; omega
          · have HB := hide (bad_at HT.out HQ.out (by omega) (bad_esc HD.out hE))
            clear hE
            go_wp2
            all_goals
              rw [Exit.noGoto_ret]
              go_ret2
              exact ⟨_, _, rfl, HB.out, bel⟩
        · have h92' : ((c.toNat : Int) == 92) = false := by
            have : c.toNat ≠ 92 := fun h => h92 (UInt8.toNat_inj.1 h)
            simp
            omega
          have H92 := hide h92
          clear h92
          go_wp2_with fail
          refine (isplain_any _ c _ rfl).mono ?_
          rintro E w1 ⟨rfl, rfl⟩
          cases hp : Wm.plain c
          · have HB := hide (bad_at HT.out HQ.out (by omega) (bad_plain HD.out hp H92.out))
            clear hp
            go_wp2
            all_goals
              rw [Exit.noGoto_ret]
              go_ret2
              exact ⟨_, _, rfl, HB.out, bel⟩
          · have HS := hide (bytes_plain HT.out HD.out hp)
            clear hp
            go_wp2_with fail
            refine (wbyte_any w.heap.size w.heap.size acc c _ _ bld (by omega) sz rfl).mono ?_
            rintro E w1 ⟨rfl, bld1, bel1⟩
            have bel2 := bel.trans bel1
            go_wp2
            go_roundw
            case rel => exact ⟨k + 1, acc ++ [c], by omega, by go_num, HS.out, by simp; omega, bld1, bel2⟩
            case measure => simp [intOf]; omega
      · have hke : k = s.size := by omega
        subst hke
        have ht2 := HT.out
        rw [List.take_of_length_le (by omega)] at ht2
        by_cases h00 : s.size = 0
        · have hz : ((s.size : Int) == 0) = true := by rw [h00]; rfl
          have hnil : s.data.toList = [] := List.eq_nil_of_length_eq_zero (by omega)
          have HB : Hid (Wm.BRes s.data.toList [] 5) := .inr ⟨rfl, rfl, fun t h => Wm.wd_ne t (h.trans hnil)⟩
          clear ht2 hnil
          go_wp2
          all_goals
            rw [Exit.noGoto_ret]
            go_ret2
            exact ⟨_, _, rfl, HB.out, bel⟩
        · have hz : ((s.size : Int) == 0) = false := beq_eq_false_iff_ne.2 (by omega)
          have hne : acc ≠ [] := by
            intro h
            rw [h, Wm.flat_nil] at ht2
            have : s.data.toList.length = 0 := by rw [ht2]; rfl
            omega
          have HB : Hid (Wm.BRes s.data.toList acc 0) := .inl ⟨rfl, by rw [Wm.wd_full hne]; exact ht2.symm⟩
          clear ht2 hne
          go_wp2_with fail
          refine (Tryz.Builder_String_any_k w.heap.size w.heap.size _ _ (Lib.IsBuilderF.of bld) sz).mono ?_
          rintro E w1 ⟨rfl, _, bel1, _⟩
          go_wp2
          rw [Exit.noGoto_ret]
          go_ret2
          exact ⟨⟨acc.toArray⟩, _, rfl, HB.out, bel.trans bel1⟩

end Go.Proofs.YtdlogcdpapknaaaGreatDoor
