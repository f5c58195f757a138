/- Texts of one layer, one behind the other. -/

/- Plain facts on the bytes of a number (seven bits a byte, the lowest first): no program, no walk. -/
namespace Go.Proofs.Ytfnaeblbodfekaa.Vm

/-- The bytes of a number. -/
def enc (x : Nat) : List Int := if _h : x < 128 then [(x : Int)] else ((x % 128 + 128 : Nat) : Int) :: enc (x / 128)

/-- How many bytes a number has. -/
def sz (x : Nat) : Nat := (enc x).length

theorem enc_lo {x : Nat} (h : x < 128) : enc x = [(x : Int)] := by rw [enc, dif_pos h]
theorem enc_hi {x : Nat} (h : ¬ x < 128) : enc x = ((x % 128 + 128 : Nat) : Int) :: enc (x / 128) := by rw [enc, dif_neg h]
theorem sz_lo {x : Nat} (h : x < 128) : sz x = 1 := by unfold sz; rw [enc_lo h]; rfl
theorem sz_hi {x : Nat} (h : ¬ x < 128) : sz x = sz (x / 128) + 1 := by unfold sz; rw [enc_hi h]; rfl
theorem sz_pos (x : Nat) : 1 ≤ sz x := by
  by_cases h : x < 128
  · rw [sz_lo h]; omega
  · rw [sz_hi h]; omega

theorem sz_le : ∀ (k x : Nat), x < 128 ^ (k + 1) → sz x ≤ k + 1 := by
  intro k
  induction k with
  | zero => intro x h; rw [sz_lo (by simpa using h)]; omega
  | succ k ih =>
    intro x h
    by_cases hx : x < 128
    · rw [sz_lo hx]; omega
    · rw [sz_hi hx]
      have : x / 128 < 128 ^ (k + 1) := by
        rw [Nat.div_lt_iff_lt_mul (by omega)]
        rw [Nat.pow_succ] at h
        exact h
      have := ih _ this
      omega

theorem sz_mono : ∀ (y x : Nat), x ≤ y → sz x ≤ sz y := by
  intro y
  induction y using Nat.strongRecOn with
  | ind y ih =>
    intro x h
    by_cases hy : y < 128
    · rw [sz_lo hy, sz_lo (by omega)]; omega
    · by_cases hx : x < 128
      · rw [sz_lo hx]; exact sz_pos y
      · rw [sz_hi hx, sz_hi hy]
        have := ih (y / 128) (by omega) (x / 128) (by omega)
        omega

theorem sz_le10 {x : Nat} (h : x < 18446744073709551616) : sz x ≤ 10 :=
  sz_le 9 x (Nat.lt_of_lt_of_le h (by decide))

theorem pre_cons {a b : Int} {l m : List Int} : a :: l <+: b :: m ↔ a = b ∧ l <+: m := List.cons_prefix_cons

theorem pre_nil (y : Nat) : ¬ enc y <+: [] := by
  intro h
  rw [List.prefix_nil] at h
  have := sz_pos y
  unfold sz at this
  rw [h] at this
  simp at this

theorem pre_lo {y : Nat} {c : Int} {rest : List Int} (hc : c < 128) : enc y <+: c :: rest ↔ (y : Int) = c := by
  by_cases h : y < 128
  · rw [enc_lo h, pre_cons]
    simp
  · rw [enc_hi h, pre_cons]
    constructor
    · intro h; omega
    · intro h; omega

theorem pre_hi {y : Nat} {c : Int} {rest : List Int} (hc : 128 ≤ c) (hc2 : c < 256) : enc y <+: c :: rest ↔ ∃ y', 1 ≤ y' ∧ y = (c - 128).toNat + 128 * y' ∧ enc y' <+: rest := by
  by_cases h : y < 128
  · rw [enc_lo h, pre_cons]
    constructor
    · intro h; omega
    · rintro ⟨y', h1, h2, _⟩; omega
  · rw [enc_hi h, pre_cons]
    constructor
    · rintro ⟨h1, h2⟩
      exact ⟨y / 128, by omega, by omega, h2⟩
    · rintro ⟨y', h1, h2, h3⟩
      have : y / 128 = y' := by omega
      rw [this]
      exact ⟨by omega, h3⟩

/-- Two numbers whose bytes begin one list are one. -/
theorem pre_one : ∀ (bs : List Int) (x y : Nat), enc x <+: bs → enc y <+: bs → x = y
  | [], x, _, hx, _ => absurd hx (pre_nil x)
  | c :: rest, x, y, hx, hy => by
    by_cases hx1 : x < 128
    · rw [enc_lo hx1, pre_cons] at hx
      rw [pre_lo (by omega)] at hy
      omega
    · by_cases hy1 : y < 128
      · rw [enc_lo hy1, pre_cons] at hy
        rw [pre_lo (by omega)] at hx
        omega
      · rw [enc_hi hx1, pre_cons] at hx
        rw [enc_hi hy1, pre_cons] at hy
        have := pre_one rest _ _ hx.2 hy.2
        omega

/-- Two numbers are one just where the shorter's bytes begin the other's. -/
theorem enc_cut (x y : Nat) : (x = y) ↔ (enc x).take (min (enc x).length (enc y).length) = (enc y).take (min (enc x).length (enc y).length) := by
  constructor
  · rintro rfl; rfl
  · intro h
    by_cases hl : (enc x).length ≤ (enc y).length
    · rw [Nat.min_eq_left hl, List.take_length] at h
      exact pre_one (enc y) x y (by rw [h]; exact List.take_prefix _ _) (List.prefix_refl _)
    · rw [Nat.min_eq_right (by omega), List.take_length] at h
      exact (pre_one (enc x) y x (by rw [← h]; exact List.take_prefix _ _) (List.prefix_refl _)).symm

/-- What reading a number from the front of bytes comes to: the number, its bytes' count, the error. -/
def Res (bs : List Int) (x n e : Int) : Prop :=
  (∃ u : Nat, u < 18446744073709551616 ∧ enc u <+: bs ∧ x = u ∧ n = sz u ∧ e = 0) ∨ ((∀ u : Nat, u < 18446744073709551616 → ¬ enc u <+: bs) ∧ x = 0 ∧ n = 0 ∧ e = 5)

theorem res_is (bs : List Int) : ∃ x n e, Res bs x n e := by
  by_cases h : ∃ u : Nat, u < 18446744073709551616 ∧ enc u <+: bs
  · obtain ⟨u, h1, h2⟩ := h
    exact ⟨u, sz u, 0, .inl ⟨u, h1, h2, rfl, rfl, rfl⟩⟩
  · exact ⟨0, 0, 5, .inr ⟨fun u h1 h2 => h ⟨u, h1, h2⟩, rfl, rfl, rfl⟩⟩

theorem res_bad {bs : List Int} {x n e : Int} (h : Res bs x n e) (hb : ∀ u : Nat, u < 18446744073709551616 → ¬ enc u <+: bs) : x = 0 ∧ n = 0 ∧ e = 5 := by
  rcases h with ⟨u, h1, h2, _⟩ | ⟨_, h⟩
  · exact absurd h2 (hb u h1)
  · exact h

theorem res_good {bs : List Int} {x n e : Int} (h : Res bs x n e) {u : Nat} (h1 : u < 18446744073709551616) (h2 : enc u <+: bs) : x = u ∧ n = sz u ∧ e = 0 := by
  rcases h with ⟨v, h3, h4, h⟩ | ⟨hb, _⟩
  · have := pre_one bs u v h2 h4
    subst this
    exact h
  · exact absurd h2 (hb u h1)

theorem res_bounds {bs : List Int} {x n e : Int} (h : Res bs x n e) : 0 ≤ x ∧ x < 18446744073709551616 ∧ 0 ≤ n ∧ n ≤ 10 ∧ n ≤ bs.length ∧ (e = 0 ∨ e = 5) := by
  rcases h with ⟨u, h1, h2, rfl, rfl, rfl⟩ | ⟨_, rfl, rfl, rfl⟩
  · have := sz_le10 h1
    have h3 := h2.length_le
    unfold sz at *
    omega
  · omega

/-- Behind n bytes that each go on, whose groups make acc. -/
def Inv (bs : List Int) (n acc : Nat) : Prop :=
  acc < 128 ^ n ∧ (∀ x, enc x <+: bs ↔ ∃ y, (1 ≤ y ∨ n = 0) ∧ x = acc + y * 128 ^ n ∧ enc y <+: bs.drop n) ∧ (∀ y, (1 ≤ y ∨ n = 0) → sz (acc + y * 128 ^ n) = n + sz y) ∧ ∀ y, (1 ≤ y ∨ n = 0) → enc (acc + y * 128 ^ n) = bs.take n ++ enc y

theorem inv_start (bs : List Int) : Inv bs 0 0 := by
  refine ⟨by simp, fun x => ?_, fun y _ => by simp, fun y _ => by simp⟩
  simp

theorem inv_step {bs : List Int} {n acc : Nat} {c : Int} (h : Inv bs n acc) (hn : n < bs.length) (hc : bs.getD n 0 = c) (h1 : 128 ≤ c) (h2 : c < 256) : Inv bs (n + 1) (acc + (c % 128).toNat * 128 ^ n) := by
  obtain ⟨ha, hx, hs, he⟩ := h
  have hd : bs.drop n = c :: bs.drop (n + 1) := by
    rw [List.drop_eq_getElem_cons hn]
    simp [hn] at hc
    rw [hc]
  have hp : 128 ^ (n + 1) = 128 * 128 ^ n := by rw [Nat.pow_succ, Nat.mul_comm]
  have e0 : (c - 128).toNat = (c % 128).toNat := by omega
  have hl : (c % 128).toNat ≤ 127 := by omega
  have key : ∀ y' : Nat, acc + ((c % 128).toNat + 128 * y') * 128 ^ n = acc + (c % 128).toNat * 128 ^ n + y' * 128 ^ (n + 1) := by
    intro y'
    rw [hp, Nat.add_mul, Nat.mul_comm 128 y', Nat.mul_assoc, Nat.add_assoc]
  refine ⟨?_, fun x => ?_, fun y hy => ?_, fun y hy => ?_⟩
  · rw [hp]
    have : (c % 128).toNat * 128 ^ n ≤ 127 * 128 ^ n := Nat.mul_le_mul_right _ hl
    omega
  · rw [hx x]
    constructor
    · rintro ⟨y, hy, rfl, hpre⟩
      rw [hd, pre_hi h1 h2] at hpre
      obtain ⟨y', g1, g2, g3⟩ := hpre
      refine ⟨y', .inl g1, ?_, g3⟩
      rw [g2, e0, key]
    · rintro ⟨y', hy, rfl, hpre⟩
      have g1 : 1 ≤ y' := by omega
      refine ⟨(c % 128).toNat + 128 * y', .inl (by omega), (key y').symm, ?_⟩
      rw [hd, pre_hi h1 h2]
      exact ⟨y', g1, by omega, hpre⟩
  · have g1 : 1 ≤ y := by omega
    rw [← key, hs _ (.inl (by omega)), sz_hi (by omega)]
    have : ((c % 128).toNat + 128 * y) / 128 = y := by omega
    rw [this]
    omega
  · have g1 : 1 ≤ y := by omega
    rw [← key, he _ (.inl (by omega)), enc_hi (by omega)]
    have e1 : ((c % 128).toNat + 128 * y) / 128 = y := by omega
    have e2 : ((((c % 128).toNat + 128 * y) % 128 + 128 : Nat) : Int) = c := by omega
    have e3 : bs[n] = c := by simpa [hn] using hc
    rw [e1, e2, List.take_succ_eq_append_getElem hn, e3]
    simp

/-- The bytes end ahead of the number's end. -/
theorem inv_short {bs : List Int} {n acc : Nat} (h : Inv bs n acc) (hn : bs.length ≤ n) : ∀ u : Nat, u < 18446744073709551616 → ¬ enc u <+: bs := by
  intro u _ hu
  obtain ⟨y, _, _, hp⟩ := (h.2.1 u).1 hu
  rw [List.drop_eq_nil_of_le hn] at hp
  exact pre_nil y hp

/-- A tenth byte above 1. -/
theorem inv_wide {bs : List Int} {acc : Nat} {c : Int} (h : Inv bs 9 acc) (hn : 9 < bs.length) (hc : bs.getD 9 0 = c) (h1 : 1 < c) (h2 : c < 256) : ∀ u : Nat, u < 18446744073709551616 → ¬ enc u <+: bs := by
  intro u hlt hu
  obtain ⟨y, _, rfl, hp⟩ := (h.2.1 u).1 hu
  have hd : bs.drop 9 = c :: bs.drop 10 := by
    rw [List.drop_eq_getElem_cons hn]
    simp [hn] at hc
    rw [hc]
  rw [hd] at hp
  have hy : y ≤ 1 := by
    have : (128 : Nat) ^ 9 = 9223372036854775808 := by decide
    omega
  rw [enc_lo (by omega), pre_cons] at hp
  omega

/-- A last byte that is 0, and not the first. -/
theorem inv_zero {bs : List Int} {n acc : Nat} (h : Inv bs n acc) (hn : n < bs.length) (hc : bs.getD n 0 = 0) (h1 : 1 ≤ n) : ∀ u : Nat, u < 18446744073709551616 → ¬ enc u <+: bs := by
  intro u _ hu
  obtain ⟨y, hy, rfl, hp⟩ := (h.2.1 u).1 hu
  have hd : bs.drop n = 0 :: bs.drop (n + 1) := by
    rw [List.drop_eq_getElem_cons hn]
    simp [hn] at hc
    rw [hc]
  rw [hd, pre_lo (by omega)] at hp
  omega

/-- A last byte that ends the number. -/
theorem inv_end {bs : List Int} {n acc : Nat} {c : Int} (h : Inv bs n acc) (hn : n < bs.length) (hc : bs.getD n 0 = c) (h0 : 0 ≤ c) (h1 : c < 128) (h2 : 1 ≤ c ∨ n = 0) :
    enc (acc + (c % 128).toNat * 128 ^ n) <+: bs ∧ sz (acc + (c % 128).toNat * 128 ^ n) = n + 1 := by
  have hd : bs.drop n = c :: bs.drop (n + 1) := by
    rw [List.drop_eq_getElem_cons hn]
    simp [hn] at hc
    rw [hc]
  have e : (c % 128).toNat = c.toNat := by omega
  rw [e]
  refine ⟨(h.2.1 _).2 ⟨c.toNat, by omega, rfl, ?_⟩, ?_⟩
  · rw [hd, pre_lo h1]; omega
  · rw [h.2.2.1 _ (by omega), sz_lo (by omega)]

theorem inv_fits {bs : List Int} {n acc : Nat} {c : Int} (h : Inv bs n acc) (hn : n ≤ 8) (_h0 : 0 ≤ c) : acc + (c % 128).toNat * 128 ^ n < 18446744073709551616 := by
  have hp : 128 ^ n ≤ 128 ^ 8 := Nat.pow_le_pow_right (by omega) hn
  have h8 : (128 : Nat) ^ 8 = 72057594037927936 := by decide
  have : (c % 128).toNat * 128 ^ n ≤ 127 * 128 ^ n := Nat.mul_le_mul_right _ (by omega)
  have := h.1
  omega

theorem inv_fits9 {bs : List Int} {acc : Nat} {c : Int} (h : Inv bs 9 acc) (h0 : 0 ≤ c) (h1 : c ≤ 1) : acc + (c % 128).toNat * 128 ^ 9 < 18446744073709551616 := by
  have h8 : (128 : Nat) ^ 9 = 9223372036854775808 := by decide
  have := h.1
  omega

/-- What a last group brings, once 64 bits are all: of the tenth byte one bit alone. -/
def dd (n : Nat) (c : Int) : Nat := if n ≤ 8 then (c % 128).toNat else (c % 2).toNat

theorem dd_lt (n : Nat) (c : Int) : dd n c < 128 := by unfold dd; split <;> omega

theorem dd_fits {bs : List Int} {n acc : Nat} (c : Int) (h : Inv bs n acc) (hn : n ≤ 9) : acc + dd n c * 128 ^ n < 18446744073709551616 := by
  unfold dd
  split
  · have hp : 128 ^ n ≤ 128 ^ 8 := Nat.pow_le_pow_right (by omega) (by assumption)
    have h8 : (128 : Nat) ^ 8 = 72057594037927936 := by decide
    have : (c % 128).toNat * 128 ^ n ≤ 127 * 128 ^ n := Nat.mul_le_mul_right _ (by omega)
    have := h.1
    omega
  · have : n = 9 := by omega
    subst this
    have h8 : (128 : Nat) ^ 9 = 9223372036854775808 := by decide
    have := h.1
    omega

theorem sz_small {n acc : Nat} (h : acc < 128 ^ n) (hn : 1 ≤ n) : sz acc ≤ n := by
  obtain ⟨m, rfl⟩ : ∃ m, n = m + 1 := ⟨n - 1, by omega⟩
  exact sz_le m acc h

theorem dd_own {bs : List Int} {n acc : Nat} {c : Int} (h : Inv bs n acc) (hn : n < bs.length) (h1 : 1 ≤ dd n c ∨ n = 0) :
    sz (acc + dd n c * 128 ^ n) = n + 1 ∧ (enc (acc + dd n c * 128 ^ n)).getD n 0 = dd n c := by
  have hd := dd_lt n c
  refine ⟨by rw [h.2.2.1 _ h1, sz_lo hd], ?_⟩
  rw [h.2.2.2 _ h1, enc_lo hd]
  have : (bs.take n).length = n := by simp; omega
  simp [this]

theorem dd_cases {bs : List Int} {n acc : Nat} {c : Int} (h : Inv bs n acc) (hs : sz (acc + dd n c * 128 ^ n) = n + 1) : 1 ≤ dd n c ∨ n = 0 := by
  by_cases hd : 1 ≤ dd n c
  · exact .inl hd
  · by_cases hn : n = 0
    · exact .inr hn
    · have e : dd n c = 0 := by omega
      rw [e] at hs
      have := sz_small h.1 (by omega)
      simp at hs
      omega

theorem dd_bad_len {bs : List Int} {n acc : Nat} {c : Int} (h : Inv bs n acc) (hn9 : n ≤ 9) (hn : n < bs.length) (hc : bs.getD n 0 = c) (h0 : 0 ≤ c) (h1 : c < 128) (hs : sz (acc + dd n c * 128 ^ n) ≠ n + 1) :
    ∀ u : Nat, u < 18446744073709551616 → ¬ enc u <+: bs := by
  have hd : ¬ (1 ≤ dd n c ∨ n = 0) := fun hd => hs (dd_own h hn hd).1
  by_cases h8 : n ≤ 8
  · unfold dd at hd
    rw [if_pos h8] at hd
    have : c = 0 := by omega
    subst this
    exact inv_zero h hn hc (by omega)
  · have : n = 9 := by omega
    subst this
    unfold dd at hd
    rw [if_neg h8] at hd
    by_cases hc0 : c = 0
    · subst hc0
      exact inv_zero h hn hc (by omega)
    · exact inv_wide h hn hc (by omega) (by omega)

theorem dd_bad_last {bs : List Int} {n acc : Nat} {c : Int} (h : Inv bs n acc) (hn9 : n ≤ 9) (hn : n < bs.length) (hc : bs.getD n 0 = c) (h0 : 0 ≤ c) (h1 : c < 128) (hs : sz (acc + dd n c * 128 ^ n) = n + 1)
    (hl : (enc (acc + dd n c * 128 ^ n)).getD n 0 ≠ c) : ∀ u : Nat, u < 18446744073709551616 → ¬ enc u <+: bs := by
  have hd := dd_cases h hs
  rw [(dd_own h hn hd).2] at hl
  unfold dd at hl
  by_cases h8 : n ≤ 8
  · rw [if_pos h8] at hl; omega
  · rw [if_neg h8] at hl
    have : n = 9 := by omega
    subst this
    exact inv_wide h hn hc (by omega) (by omega)

theorem dd_good {bs : List Int} {n acc : Nat} {c : Int} (h : Inv bs n acc) (hn : n < bs.length) (hc : bs.getD n 0 = c) (h0 : 0 ≤ c) (h1 : c < 128) (hs : sz (acc + dd n c * 128 ^ n) = n + 1)
    (hl : (enc (acc + dd n c * 128 ^ n)).getD n 0 = c) : enc (acc + dd n c * 128 ^ n) <+: bs := by
  have hd := dd_cases h hs
  rw [(dd_own h hn hd).2] at hl
  have e : dd n c = (c % 128).toNat := by omega
  rw [e]
  exact (inv_end h hn hc h0 h1 (by omega)).1

/-- A tenth byte that goes on: no number. -/
theorem inv_ten {bs : List Int} {acc : Nat} {c : Int} (h : Inv bs 9 acc) (hn : 9 < bs.length) (hc : bs.getD 9 0 = c) (h1 : 128 ≤ c) (h2 : c < 256) : ∀ u : Nat, u < 18446744073709551616 → ¬ enc u <+: bs :=
  inv_wide h hn hc (by omega) h2

end Go.Proofs.Ytfnaeblbodfekaa.Vm

/- Plain facts on an op's bytes (its kind, its key behind its count, its value behind its count): no program, no walk. -/
namespace Go.Proofs.Ytfnaeblbodfekaa.Om
open Vm

/-- Bytes as numbers. -/
def ints (l : List UInt8) : List Int := l.map fun c => (c.toNat : Int)

theorem ints_nil : ints [] = [] := rfl
theorem ints_len (l : List UInt8) : (ints l).length = l.length := by simp [ints]
theorem ints_append (a b : List UInt8) : ints (a ++ b) = ints a ++ ints b := by simp [ints]
theorem ints_inj : ∀ {a b : List UInt8}, ints a = ints b → a = b
  | [], [], _ => rfl
  | [], _ :: _, h => by simp [ints] at h
  | _ :: _, [], h => by simp [ints] at h
  | x :: a, y :: b, h => by
    simp only [ints, List.map_cons, List.cons.injEq] at h
    have h1 : x.toNat = y.toNat := by omega
    rw [UInt8.toNat_inj.1 h1, ints_inj (a := a) (b := b) h.2]

/-- Numbers as bytes. -/
def byts (l : List Int) : List UInt8 := l.map fun z => UInt8.ofNat z.toNat

theorem byts_ints (l : List UInt8) : byts (ints l) = l := by
  simp only [byts, ints, List.map_map]
  conv => rhs; rw [← List.map_id l]
  apply List.map_congr_left
  intro z _
  simp

theorem ints_byts {l : List Int} (h : ∀ z ∈ l, 0 ≤ z ∧ z < 256) : ints (byts l) = l := by
  simp only [byts, ints, List.map_map]
  conv => rhs; rw [← List.map_id l]
  apply List.map_congr_left
  intro z hz
  have := h z hz
  simp
  omega

theorem byts_len (l : List Int) : (byts l).length = l.length := by simp [byts]

/-- What Check answers. -/
def chk (p : Bool) (k v : List UInt8) : Int := if 1 ≤ k.length ∧ k.length ≤ 16 ∧ v.length ≤ 32 ∧ (p = true ∨ v = []) then 0 else 2

theorem chk_ok {p : Bool} {k v : List UInt8} (h : 1 ≤ k.length ∧ k.length ≤ 16 ∧ v.length ≤ 32 ∧ (p = true ∨ v = [])) : chk p k v = 0 := by unfold chk; rw [if_pos h]
theorem chk_no {p : Bool} {k v : List UInt8} (h : ¬ (1 ≤ k.length ∧ k.length ≤ 16 ∧ v.length ≤ 32 ∧ (p = true ∨ v = []))) : chk p k v = 2 := by unfold chk; rw [if_neg h]
theorem chk_ok' {p : Bool} {k v : List UInt8} (h : chk p k v = 0) : 1 ≤ k.length ∧ k.length ≤ 16 ∧ v.length ≤ 32 ∧ (p = true ∨ v = []) := by
  unfold chk at h
  split at h
  · assumption
  · simp at h
theorem chk_two (p : Bool) (k v : List UInt8) : chk p k v = 0 ∨ chk p k v = 2 := by unfold chk; split <;> simp

/-- Bytes behind their count. -/
def cnt (s : List UInt8) : List Int := enc s.length ++ ints s

/-- An op's bytes. -/
def opEnc (p : Bool) (k v : List UInt8) : List Int := (if p then 1 else 0) :: (cnt k ++ if p then cnt v else [])

theorem cnt_len (s : List UInt8) : (cnt s).length = sz s.length + s.length := by simp [cnt, ints_len, sz]

theorem cnt_le {s : List UInt8} (h : s.length ≤ 32) : (cnt s).length ≤ 33 := by
  rw [cnt_len, sz_lo (by omega)]; omega

theorem cnt_short {s : List UInt8} (h : s.length ≤ 32) : cnt s = (s.length : Int) :: ints s := by
  unfold cnt; rw [enc_lo (by omega)]; rfl

theorem opEnc_le {p : Bool} {k v : List UInt8} (h : chk p k v = 0) : (opEnc p k v).length ≤ 51 := by
  have h := chk_ok' h
  have h1 := cnt_len k
  have h2 := cnt_len v
  rw [sz_lo (by omega)] at h1 h2
  unfold opEnc
  cases p <;> simp <;> omega

/-- Two counted rows of bytes with one beginning are one. -/
theorem cnt_free {s t : List UInt8} {bs : List Int} (h : cnt s <+: bs) (k : cnt t <+: bs) : s = t := by
  have h1 : enc s.length <+: bs := (List.prefix_append _ _).trans h
  have k1 : enc t.length <+: bs := (List.prefix_append _ _).trans k
  have e := pre_one bs _ _ h1 k1
  have hl : (cnt s).length = (cnt t).length := by rw [cnt_len, cnt_len, e]
  have : cnt s = cnt t := by
    rw [List.prefix_iff_eq_take] at h k
    rw [h, k, hl]
  unfold cnt at this
  rw [e] at this
  exact ints_inj (List.append_cancel_left this)

/-- What readCounted comes to, of the bytes from its place on. -/
def CRes (bs : List Int) (most : Nat) (s : List UInt8) (n : Nat) (e : Int) : Prop :=
  (e = 0 ∧ s.length ≤ most ∧ cnt s <+: bs ∧ n = (cnt s).length) ∨ (e = 5 ∧ s = [] ∧ n = 0 ∧ ∀ t : List UInt8, t.length ≤ most → ¬ cnt t <+: bs)

/-- What Read comes to. -/
def ORes (bs : List Int) (p : Bool) (k v : List UInt8) (n e : Int) : Prop :=
  (e = 0 ∧ chk p k v = 0 ∧ opEnc p k v <+: bs ∧ n = (opEnc p k v).length) ∨ (e = 5 ∧ p = false ∧ k = [] ∧ v = [] ∧ n = 0 ∧ ∀ p k v, chk p k v = 0 → ¬ opEnc p k v <+: bs)

theorem opEnc_free {p q : Bool} {k v l u : List UInt8} {bs : List Int} (h : opEnc p k v <+: bs) (g : opEnc q l u <+: bs) (hp : chk p k v = 0) (hq : chk q l u = 0) : p = q ∧ k = l ∧ v = u := by
  cases bs with
  | nil => simp [opEnc] at h
  | cons b bs =>
    unfold opEnc at h g
    rw [List.cons_prefix_cons] at h g
    have e : p = q := by
      have := h.1.trans g.1.symm
      clear h g hp hq
      cases p <;> cases q <;> simp_all
    subst e
    have hk : k = l := cnt_free ((List.prefix_append _ _).trans h.2) ((List.prefix_append _ _).trans g.2)
    subst hk
    refine ⟨rfl, rfl, ?_⟩
    cases p
    · have h1 := (chk_ok' hp).2.2.2
      have h2 := (chk_ok' hq).2.2.2
      simp at h1 h2
      rw [h1, h2]
    · obtain ⟨r, hr⟩ := h.2
      obtain ⟨r', hr'⟩ := g.2
      simp only [if_true] at hr hr'
      rw [List.append_assoc] at hr hr'
      have := List.append_cancel_left (hr.trans hr'.symm)
      exact cnt_free (bs := cnt v ++ r) (List.prefix_append _ _) (by rw [this]; exact List.prefix_append _ _)

theorem ores_one {bs : List Int} {p q : Bool} {k v l u : List UInt8} {n m e f : Int} (h : ORes bs p k v n e) (g : ORes bs q l u m f) : p = q ∧ k = l ∧ v = u ∧ n = m ∧ e = f := by
  rcases h with ⟨rfl, h1, h2, rfl⟩ | ⟨rfl, rfl, rfl, rfl, rfl, h⟩ <;> rcases g with ⟨rfl, g1, g2, rfl⟩ | ⟨rfl, rfl, rfl, rfl, rfl, g⟩
  · obtain ⟨rfl, rfl, rfl⟩ := opEnc_free h2 g2 h1 g1
    exact ⟨rfl, rfl, rfl, rfl, rfl⟩
  · exact absurd h2 (g _ _ _ h1)
  · exact absurd g2 (h _ _ _ g1)
  · exact ⟨rfl, rfl, rfl, rfl, rfl⟩

theorem ores_good {bs : List Int} {p q : Bool} {k v l u : List UInt8} {m f : Int} (hc : chk p k v = 0) (h : opEnc p k v <+: bs) (g : ORes bs q l u m f) : q = p ∧ l = k ∧ u = v ∧ m = (opEnc p k v).length ∧ f = 0 := by
  obtain ⟨rfl, rfl, rfl, rfl, rfl⟩ := ores_one (.inl ⟨rfl, hc, h, rfl⟩ : ORes bs p k v _ 0) g
  exact ⟨rfl, rfl, rfl, rfl, rfl⟩

/-- Read: nothing to begin with. -/
theorem ores_nil : ORes [] false [] [] 0 5 := .inr ⟨rfl, rfl, rfl, rfl, rfl, fun p k v _ h => by simp [opEnc] at h⟩

/-- Read: a first byte that is no kind. -/
theorem ores_kind {b : Int} {bs : List Int} (h0 : b ≠ 0) (h1 : b ≠ 1) : ORes (b :: bs) false [] [] 0 5 := by
  refine .inr ⟨rfl, rfl, rfl, rfl, rfl, fun p k v _ h => ?_⟩
  unfold opEnc at h
  rw [List.cons_prefix_cons] at h
  have := h.1
  cases p <;> simp at this <;> omega

/-- Read: no key. -/
theorem ores_key {b : Int} {bs : List Int} {s : List UInt8} {n : Nat} {e : Int} (h : CRes bs 16 s n e) (he : e ≠ 0 ∨ s = []) : ORes (b :: bs) false [] [] 0 5 := by
  refine .inr ⟨rfl, rfl, rfl, rfl, rfl, fun p k v hc hp => ?_⟩
  have hk := chk_ok' hc
  unfold opEnc at hp
  rw [List.cons_prefix_cons] at hp
  have hkp : cnt k <+: bs := (List.prefix_append _ _).trans hp.2
  rcases h with ⟨h1, _, h2, _⟩ | ⟨_, _, _, h3⟩
  · rcases he with he | he
    · exact he h1
    · have := cnt_free h2 hkp
      rw [← this, he] at hk
      simp at hk
  · exact h3 k hk.2.1 hkp

/-- Read: a delete. -/
theorem ores_del {bs : List Int} {s : List UInt8} {n : Nat} (h : CRes bs 16 s n 0) (hs : s ≠ []) : ORes (0 :: bs) false s [] ((1 + n : Nat) : Int) 0 := by
  rcases h with ⟨_, h1, h2, h3⟩ | ⟨h, _⟩
  · have : 0 < s.length := List.length_pos_iff.2 hs
    refine .inl ⟨rfl, chk_ok ⟨by omega, h1, by simp, .inr rfl⟩, ?_, ?_⟩
    · unfold opEnc; simpa using h2
    · unfold opEnc; rw [h3]; simp; omega
  · simp at h

/-- Read: a put. -/
theorem ores_put {bs : List Int} {s t : List UInt8} {n m : Nat} (h : CRes bs 16 s n 0) (hs : s ≠ []) (g : CRes (bs.drop n) 32 t m 0) : ORes (1 :: bs) true s t ((1 + n + m : Nat) : Int) 0 := by
  rcases h with ⟨_, h1, h2, h3⟩ | ⟨h, _⟩
  · rcases g with ⟨_, g1, g2, g3⟩ | ⟨g, _⟩
    · have : 0 < s.length := List.length_pos_iff.2 hs
      refine .inl ⟨rfl, chk_ok ⟨by omega, h1, g1, .inl rfl⟩, ?_, ?_⟩
      · unfold opEnc
        obtain ⟨r, hr⟩ := h2
        rw [h3, ← hr] at g2
        simp at g2
        rw [List.cons_prefix_cons]
        refine ⟨rfl, ?_⟩
        rw [← hr]
        simpa using List.prefix_append_right_inj (cnt s) |>.2 g2
      · unfold opEnc; rw [h3, g3]; simp; omega
    · simp at g
  · simp at h

/-- Read: no value. -/
theorem ores_val {bs : List Int} {s t : List UInt8} {n m : Nat} {e : Int} (h : CRes bs 16 s n 0) (g : CRes (bs.drop n) 32 t m e) (he : e ≠ 0) : ORes (1 :: bs) false [] [] 0 5 := by
  refine .inr ⟨rfl, rfl, rfl, rfl, rfl, fun p k v hc hp => ?_⟩
  have hk := chk_ok' hc
  unfold opEnc at hp
  rw [List.cons_prefix_cons] at hp
  cases p
  · simp at hp
  · have hkp : cnt k <+: bs := (List.prefix_append _ _).trans hp.2
    rcases h with ⟨_, _, h2, h3⟩ | ⟨h, _⟩
    · have e1 := cnt_free h2 hkp
      subst e1
      obtain ⟨r, hr⟩ := h2
      rcases g with ⟨g, _⟩ | ⟨_, _, _, g⟩
      · exact he g
      · refine g v hk.2.2.1 ?_
        rw [h3, ← hr]
        have := hp.2
        rw [← hr] at this
        simp only [if_true] at this
        simpa using (List.prefix_append_right_inj (cnt s)).1 this
    · simp at h

/-- What Append answers. -/
def appd (bs : List Int) (p : Bool) (k v : List UInt8) : List Int := if chk p k v = 0 then bs ++ opEnc p k v else []

theorem appd_ok {bs : List Int} {p : Bool} {k v : List UInt8} (h : chk p k v = 0) : appd bs p k v = bs ++ opEnc p k v := by unfold appd; rw [if_pos h]
theorem appd_no {bs : List Int} {p : Bool} {k v : List UInt8} (h : chk p k v = 2) : appd bs p k v = [] := by unfold appd; rw [if_neg (by omega)]

theorem appd_le (bs : List Int) (p : Bool) (k v : List UInt8) : (appd bs p k v).length ≤ bs.length + 51 := by
  rcases chk_two p k v with h | h
  · rw [appd_ok h, List.length_append]
    have := opEnc_le h
    omega
  · rw [appd_no h]; simp

end Go.Proofs.Ytfnaeblbodfekaa.Om

/- Plain facts on a batch's bytes (how many ops; each op's kind, how much of its key it shares with the one ahead, the rest, its value): no program, no walk. -/
namespace Go.Proofs.Ytfnaeblbodfekaa.Bm
open Vm Om

/-- An op. -/
structure Ov where
  p : Bool
  k : ByteArray
  v : ByteArray

def Ov.kl (o : Ov) : List UInt8 := o.k.data.toList
def Ov.vl (o : Ov) : List UInt8 := o.v.data.toList
def Ov.c (o : Ov) : Int := chk o.p o.kl o.vl
def Ov.bit (o : Ov) : Nat := if o.p then 1 else 0

theorem ba_eq {a b : ByteArray} (h : a.data.toList = b.data.toList) : a = b := by
  obtain ⟨⟨a⟩⟩ := a
  obtain ⟨⟨b⟩⟩ := b
  simp at h
  rw [h]

theorem Ov.eq {o q : Ov} (h1 : o.p = q.p) (h2 : o.kl = q.kl) (h3 : o.vl = q.vl) : o = q := by
  obtain ⟨p, k, v⟩ := o
  obtain ⟨p', k', v'⟩ := q
  have e2 : k = k' := ba_eq h2
  have e3 : v = v' := ba_eq h3
  have e1 : p = p' := h1
  rw [e1, e2, e3]

theorem Ov.two (o : Ov) : o.c = 0 ∨ o.c = 2 := chk_two _ _ _

/-- How many first bytes two texts have in common. -/
def com : List UInt8 → List UInt8 → Nat
  | x :: a, y :: b => if x = y then com a b + 1 else 0
  | _, _ => 0

theorem com_le : ∀ (a b : List UInt8), com a b ≤ a.length ∧ com a b ≤ b.length ∧ b.take (com a b) = a.take (com a b)
  | [], b => by simp [com]
  | x :: a, [] => by simp [com]
  | x :: a, y :: b => by
    have := com_le a b
    unfold com
    split
    · rename_i h
      subst h
      simp [this.1, this.2.1, this.2.2]
    · simp

theorem com_is : ∀ (a b : List UInt8) (n : Nat), n ≤ a.length → n ≤ b.length → a.take n = b.take n → (n = a.length ∨ n = b.length ∨ a[n]? ≠ b[n]?) → com a b = n
  | [], b, n, h1, h2, h3, h4 => by simp at h1; subst h1; simp [com]
  | x :: a, [], n, h1, h2, h3, h4 => by simp at h2; subst h2; simp [com]
  | x :: a, y :: b, 0, h1, h2, h3, h4 => by
    simp at h4
    unfold com
    rw [if_neg h4]
  | x :: a, y :: b, n + 1, h1, h2, h3, h4 => by
    simp at h1 h2 h3 h4
    obtain ⟨rfl, h3⟩ := h3
    unfold com
    rw [if_pos rfl, com_is a b n h1 h2 h3 h4]

theorem com_self (a : List UInt8) : com a a = a.length := com_is a a _ (Nat.le_refl _) (Nat.le_refl _) rfl (.inl rfl)

/-- What Check answers of ops, without their count. -/
def first : List Ov → Int
  | [] => 0
  | o :: r => if o.c = 0 then first r else 2

theorem first_two : ∀ (l : List Ov), first l = 0 ∨ first l = 2
  | [] => .inl rfl
  | o :: r => by unfold first; split; exact first_two r; exact .inr rfl

theorem first_zero : ∀ {l : List Ov}, first l = 0 → ∀ o ∈ l, o.c = 0
  | [], _, o, ho => by simp at ho
  | q :: r, h, o, ho => by
    unfold first at h
    split at h
    · rcases List.mem_cons.1 ho with rfl | ho
      · assumption
      · exact first_zero h o ho
    · simp at h

theorem first_all : ∀ {l : List Ov}, (∀ o ∈ l, o.c = 0) → first l = 0
  | [], _ => rfl
  | q :: r, h => by
    unfold first
    rw [if_pos (h q (by simp)), first_all fun o ho => h o (by simp [ho])]

theorem first_bad {l : List Ov} {o : Ov} (ho : o ∈ l) (h : o.c ≠ 0) : first l = 2 := by
  rcases first_two l with h' | h'
  · exact absurd (first_zero h' o ho) h
  · exact h'

/-- What Check answers. -/
def chkL (l : List Ov) : Int := if l.length = 0 then 2 else if 8 < l.length then 3 else first l

theorem chkL_nil : chkL [] = 2 := rfl
theorem chkL_long {l : List Ov} (h : 8 < l.length) : chkL l = 3 := by unfold chkL; rw [if_neg (by omega), if_pos h]
theorem chkL_mid {l : List Ov} (h : l.length ≠ 0) (h' : ¬ 8 < l.length) : chkL l = first l := by unfold chkL; rw [if_neg h, if_neg h']
theorem chkL_zero {l : List Ov} (h : chkL l = 0) : 1 ≤ l.length ∧ l.length ≤ 8 ∧ ∀ o ∈ l, o.c = 0 := by
  unfold chkL at h
  split at h
  · simp at h
  · split at h
    · simp at h
    · exact ⟨by omega, by omega, first_zero h⟩
theorem chkL_four (l : List Ov) : chkL l = 0 ∨ chkL l = 2 ∨ chkL l = 3 := by
  unfold chkL
  split
  · simp
  · split
    · simp
    · rcases first_two l with h | h <;> simp [h]

/-- Kind, how much is shared, the rest behind its count. -/
def pre4 (kind sh : Nat) (rest : List UInt8) : List Int := enc kind ++ (enc sh ++ (enc rest.length ++ ints rest))

/-- An op's bytes behind a key. -/
def encO (ah : List UInt8) (o : Ov) : List Int := pre4 o.bit (com ah o.kl) (o.kl.drop (com ah o.kl)) ++ if o.p then cnt o.vl else []

def encL (ah : List UInt8) : List Ov → List Int
  | [] => []
  | o :: r => encO ah o ++ encL o.kl r

def encB (l : List Ov) : List Int := enc l.length ++ encL [] l

def appB (bs : List Int) (l : List Ov) : List Int := if chkL l = 0 then bs ++ encB l else []

theorem appB_ok {bs : List Int} {l : List Ov} (h : chkL l = 0) : appB bs l = bs ++ encB l := by unfold appB; rw [if_pos h]
theorem appB_no {bs : List Int} {l : List Ov} (h : chkL l ≠ 0) : appB bs l = [] := by unfold appB; rw [if_neg h]

theorem pre_app {A X bs : List Int} : A ++ X <+: bs ↔ A <+: bs ∧ X <+: bs.drop A.length := by
  constructor
  · intro h
    refine ⟨(List.prefix_append _ _).trans h, ?_⟩
    obtain ⟨r, rfl⟩ := h
    rw [List.append_assoc, List.drop_left]
    exact List.prefix_append _ _
  · rintro ⟨⟨r, rfl⟩, h⟩
    rw [List.drop_left] at h
    exact (List.prefix_append_right_inj _).2 h

theorem ints_pre {s t : List UInt8} {bs : List Int} (h : ints s <+: bs) (k : ints t <+: bs) (hl : s.length = t.length) : s = t := by
  rw [List.prefix_iff_eq_take] at h k
  apply ints_inj
  rw [h, k, ints_len, ints_len, hl]

theorem pre4_free {a b c d : Nat} {r s : List UInt8} {bs : List Int} (h : pre4 a b r <+: bs) (g : pre4 c d s <+: bs) : a = c ∧ b = d ∧ r = s := by
  unfold pre4 at h g
  rw [pre_app, pre_app, pre_app] at h g
  obtain ⟨h1, h2, h3, h4⟩ := h
  obtain ⟨g1, g2, g3, g4⟩ := g
  obtain rfl := pre_one _ _ _ h1 g1
  obtain rfl := pre_one _ _ _ h2 g2
  have e := pre_one _ _ _ h3 g3
  rw [e] at h4
  exact ⟨rfl, rfl, ints_pre h4 g4 e⟩

/-- A delete has no value. -/
def Ov.shape (o : Ov) : Prop := o.p = true ∨ o.vl = []

theorem Ov.shape_of {o : Ov} (h : o.c = 0) : o.shape := (chk_ok' h).2.2.2

theorem key_of (ah : List UInt8) (k : List UInt8) : ah.take (com ah k) ++ k.drop (com ah k) = k := by
  rw [← (com_le ah k).2.2, List.take_append_drop]

theorem bit_eq {o q : Ov} (h : o.bit = q.bit) : o.p = q.p := by
  unfold Ov.bit at h
  cases h1 : o.p <;> cases h2 : q.p <;> simp_all

theorem encO_free {ah : List UInt8} {o q : Ov} {bs : List Int} (h : encO ah o <+: bs) (g : encO ah q <+: bs) (ho : o.shape) (hq : q.shape) : o = q := by
  unfold encO at h g
  rw [pre_app] at h g
  obtain ⟨h1, h2⟩ := h
  obtain ⟨g1, g2⟩ := g
  obtain ⟨e1, e2, e3⟩ := pre4_free h1 g1
  have ek : o.kl = q.kl := by
    rw [← key_of ah o.kl, ← key_of ah q.kl, e2]
    rw [e2] at e3
    rw [e3]
  have ep := bit_eq e1
  refine Ov.eq ep ek ?_
  have el : o.kl.length = q.kl.length := by rw [ek]
  rw [e1, ek] at h2
  cases hp : o.p
  · have := ho
    have := hq
    unfold Ov.shape at *
    rw [← ep] at *
    simp_all
  · rw [hp] at h2
    rw [← ep, hp] at g2
    simp only [if_true] at h2 g2
    exact cnt_free h2 g2

theorem encL_free : ∀ (ah : List UInt8) (l m : List Ov) (bs : List Int), l.length = m.length → (∀ o ∈ l, o.shape) → (∀ o ∈ m, o.shape) → encL ah l <+: bs → encL ah m <+: bs → l = m
  | _, [], [], _, _, _, _, _, _ => rfl
  | _, [], _ :: _, _, h, _, _, _, _ => by simp at h
  | _, _ :: _, [], _, h, _, _, _, _ => by simp at h
  | ah, o :: l, q :: m, bs, hl, h1, h2, h, g => by
    unfold encL at h g
    rw [pre_app] at h g
    obtain rfl := encO_free h.1 g.1 (h1 o (by simp)) (h2 q (by simp))
    rw [encL_free o.kl l m _ (by simpa using hl) (fun x hx => h1 x (by simp [hx])) (fun x hx => h2 x (by simp [hx])) h.2 g.2]

theorem encB_free {l m : List Ov} {bs : List Int} (h : encB l <+: bs) (g : encB m <+: bs) (hl : ∀ o ∈ l, o.shape) (hm : ∀ o ∈ m, o.shape) : l = m := by
  unfold encB at h g
  rw [pre_app] at h g
  have e := pre_one _ _ _ h.1 g.1
  rw [e] at h
  exact encL_free [] l m _ e hl hm h.2 g.2

/-- The last key. -/
def lst (ah : List UInt8) : List Ov → List UInt8
  | [] => ah
  | o :: r => lst o.kl r

theorem lst_snoc : ∀ (ah : List UInt8) (l : List Ov) (o : Ov), lst ah (l ++ [o]) = o.kl
  | _, [], _ => rfl
  | _, q :: l, o => lst_snoc q.kl l o

theorem encL_snoc : ∀ (ah : List UInt8) (l : List Ov) (o : Ov), encL ah (l ++ [o]) = encL ah l ++ encO (lst ah l) o
  | _, [], _ => by simp [encL, lst]
  | ah, q :: l, o => by
    show encO ah q ++ encL q.kl (l ++ [o]) = encO ah q ++ encL q.kl l ++ encO (lst q.kl l) o
    rw [encL_snoc q.kl l o, List.append_assoc]

theorem encL_app : ∀ (ah : List UInt8) (l m : List Ov), encL ah (l ++ m) = encL ah l ++ encL (lst ah l) m
  | _, [], _ => rfl
  | ah, q :: l, m => by
    show encO ah q ++ encL q.kl (l ++ m) = encO ah q ++ encL q.kl l ++ encL (lst q.kl l) m
    rw [encL_app q.kl l m, List.append_assoc]

/-- What Read comes to. -/
def BRes (bs : List Int) (l : List Ov) (n e : Int) : Prop :=
  (e = 0 ∧ chkL l = 0 ∧ encB l <+: bs ∧ n = (encB l).length) ∨ (e = 5 ∧ l = [] ∧ n = 0 ∧ ∀ m, chkL m = 0 → ¬ encB m <+: bs)

theorem shapes {l : List Ov} (h : chkL l = 0) : ∀ o ∈ l, o.shape := fun o ho => Ov.shape_of ((chkL_zero h).2.2 o ho)

theorem bres_one {bs : List Int} {l m : List Ov} {n i e f : Int} (h : BRes bs l n e) (g : BRes bs m i f) : l = m ∧ n = i ∧ e = f := by
  rcases h with ⟨rfl, h1, h2, rfl⟩ | ⟨rfl, rfl, rfl, h⟩ <;> rcases g with ⟨rfl, g1, g2, rfl⟩ | ⟨rfl, rfl, rfl, g⟩
  · obtain rfl := encB_free h2 g2 (shapes h1) (shapes g1)
    exact ⟨rfl, rfl, rfl⟩
  · exact absurd h2 (g _ h1)
  · exact absurd g2 (h _ g1)
  · exact ⟨rfl, rfl, rfl⟩

theorem bres_good {bs : List Int} {l m : List Ov} {i f : Int} (hc : chkL l = 0) (h : encB l <+: bs) (g : BRes bs m i f) : m = l ∧ i = (encB l).length ∧ f = 0 := by
  obtain ⟨rfl, rfl, rfl⟩ := bres_one (.inl ⟨rfl, hc, h, rfl⟩ : BRes bs l _ 0) g
  exact ⟨rfl, rfl, rfl⟩

theorem bres_e {bs : List Int} {l : List Ov} {n e : Int} (h : BRes bs l n e) : e = 0 ∨ e = 5 := by
  rcases h with ⟨h, _⟩ | ⟨h, _⟩
  · exact .inl h
  · exact .inr h

/-- What a reader's number does. -/
def SS (bs : List Int) (most a : Nat) (bad : Bool) (u a' : Nat) (bad' : Bool) : Prop :=
  (bad = true ∧ bad' = true ∧ u = 0 ∧ a' = a) ∨ (bad = false ∧ bad' = true ∧ u = 0 ∧ a' = a ∧ ∀ x : Nat, x ≤ most → ¬ enc x <+: bs.drop a) ∨ (bad = false ∧ bad' = false ∧ u ≤ most ∧ enc u <+: bs.drop a ∧ a' = a + sz u)

/-- What a reader's bytes do. -/
def BS (bs : List Int) (n a : Nat) (bad : Bool) (zs : List Int) (a' : Nat) (bad' : Bool) : Prop :=
  ((bad = true ∨ bs.length - a < n) ∧ bad' = true ∧ zs = [] ∧ a' = a) ∨ (bad = false ∧ n ≤ bs.length - a ∧ bad' = false ∧ zs = (bs.drop a).take n ∧ a' = a + n)

theorem ss_le {bs : List Int} {most a u a' : Nat} {bad bad' : Bool} (h : SS bs most a bad u a' bad') : u ≤ most := by
  rcases h with ⟨_, _, h, _⟩ | ⟨_, _, h, _⟩ | ⟨_, _, h, _⟩ <;> omega

theorem bs_le {bs zs : List Int} {n a a' : Nat} {bad bad' : Bool} (h : BS bs n a bad zs a' bad') : zs.length ≤ n := by
  rcases h with ⟨_, _, h, _⟩ | ⟨_, _, _, h, _⟩
  · simp [h]
  · rw [h, List.length_take]; omega

theorem ss_bad {bs : List Int} {most a u a' : Nat} {bad bad' : Bool} (h : SS bs most a bad u a' bad') (hb : bad = true) : bad' = true := by
  rcases h with ⟨_, h, _⟩ | ⟨_, h, _⟩ | ⟨h, _⟩
  · exact h
  · exact h
  · rw [hb] at h; simp at h

theorem bs_bad {bs zs : List Int} {n a a' : Nat} {bad bad' : Bool} (h : BS bs n a bad zs a' bad') (hb : bad = true) : bad' = true := by
  rcases h with ⟨_, h, _⟩ | ⟨h, _⟩
  · exact h
  · rw [hb] at h; simp at h

/-- No op that may be stands there. -/
def No (bs : List Int) (a : Nat) (ah : List UInt8) : Prop := ∀ q : Ov, q.c = 0 → ¬ encO ah q <+: bs.drop a

theorem encO_parts {ah : List UInt8} {q : Ov} {bs : List Int} {a : Nat} (h : encO ah q <+: bs.drop a) :
    enc q.bit <+: bs.drop a ∧ enc (com ah q.kl) <+: bs.drop (a + sz q.bit) ∧ enc (q.kl.length - com ah q.kl) <+: bs.drop (a + sz q.bit + sz (com ah q.kl)) ∧
    ints (q.kl.drop (com ah q.kl)) <+: bs.drop (a + sz q.bit + sz (com ah q.kl) + sz (q.kl.length - com ah q.kl)) := by
  unfold encO pre4 at h
  rw [pre_app, pre_app, pre_app, pre_app] at h
  obtain ⟨⟨h1, h2, h3, h4⟩, _⟩ := h
  simp only [List.drop_drop, List.length_drop] at h2 h3 h4
  exact ⟨h1, h2, h3, h4⟩

/-- What the four steps of a key come to. -/
def PS (bs : List Int) (a : Nat) (bad : Bool) (ah : List UInt8) (kind sh n : Nat) (zs : List Int) (a4 : Nat) (bad4 : Bool) : Prop :=
  (bad4 = false ∧ bad = false ∧ kind ≤ 1 ∧ sh ≤ ah.length ∧ zs.length = n ∧ pre4 kind sh (byts zs) <+: bs.drop a ∧ a4 = a + (pre4 kind sh (byts zs)).length) ∨ (bad4 = true ∧ (bad = false → No bs a ah))

theorem bit_le (q : Ov) : q.bit ≤ 1 := by unfold Ov.bit; split <;> omega

theorem pstep {bs : List Int} (hb : ∀ z ∈ bs, 0 ≤ z ∧ z < 256) {a a1 a2 a3 a4 kind sh n M : Nat} {bad bad1 bad2 bad3 bad4 : Bool} {ah : List UInt8} {zs : List Int}
    (h1 : SS bs 1 a bad kind a1 bad1) (h2 : SS bs ah.length a1 bad1 sh a2 bad2) (h3 : SS bs M a2 bad2 n a3 bad3) (h4 : BS bs n a3 bad3 zs a4 bad4) (hM : M = 16 ∨ M = 16 - sh) : PS bs a bad ah kind sh n zs a4 bad4 := by
  rcases h1 with ⟨b1, c1, _⟩ | ⟨b1, c1, _, _, h1⟩ | ⟨b1, c1, u1, p1, e1⟩
  · exact .inr ⟨bs_bad h4 (ss_bad h3 (ss_bad h2 c1)), fun h => by rw [b1] at h; simp at h⟩
  · refine .inr ⟨bs_bad h4 (ss_bad h3 (ss_bad h2 c1)), fun _ q _ hp => h1 q.bit (bit_le q) (encO_parts hp).1⟩
  · rcases h2 with ⟨b2, c2, _⟩ | ⟨b2, c2, _, _, h2⟩ | ⟨b2, c2, u2, p2, e2⟩
    · rw [c1] at b2; simp at b2
    · refine .inr ⟨bs_bad h4 (ss_bad h3 c2), fun _ q _ hp => ?_⟩
      obtain ⟨g1, g2, _⟩ := encO_parts hp
      have := pre_one _ _ _ p1 g1
      rw [← this, ← e1] at g2
      exact h2 _ (com_le ah q.kl).1 g2
    · rcases h3 with ⟨b3, c3, _⟩ | ⟨b3, c3, _, _, h3⟩ | ⟨b3, c3, u3, p3, e3⟩
      · rw [c2] at b3; simp at b3
      · refine .inr ⟨bs_bad h4 c3, fun _ q hq hp => ?_⟩
        obtain ⟨g1, g2, g3, _⟩ := encO_parts hp
        have w1 := pre_one _ _ _ p1 g1
        rw [← w1, ← e1] at g2 g3
        have w2 := pre_one _ _ _ p2 g2
        rw [← w2, ← e2] at g3
        have := (chk_ok' hq).2.1
        exact h3 _ (by omega) g3
      · rcases h4 with ⟨b4, c4, _⟩ | ⟨b4, c4, d4, e4, f4⟩
        · refine .inr ⟨c4, fun _ q hq hp => ?_⟩
          obtain ⟨g1, g2, g3, g4⟩ := encO_parts hp
          have w1 := pre_one _ _ _ p1 g1
          rw [← w1, ← e1] at g2 g3 g4
          have w2 := pre_one _ _ _ p2 g2
          rw [← w2, ← e2] at g3 g4
          have w3 := pre_one _ _ _ p3 g3
          rw [← w3, ← e3] at g4
          have hl := g4.length_le
          rw [ints_len, List.length_drop, List.length_drop] at hl
          rcases b4 with b4 | b4
          · rw [c3] at b4; simp at b4
          · omega
        · have hl : zs.length = n := by rw [e4, List.length_take, List.length_drop]; omega
          have hbz : ints (byts zs) = zs := ints_byts fun z hz => hb z (by rw [e4] at hz; exact List.mem_of_mem_drop (List.mem_of_mem_take hz))
          refine .inl ⟨d4, b1, u1, u2, hl, ?_, ?_⟩
          · unfold pre4
            rw [pre_app, pre_app, pre_app, hbz, byts_len, hl]
            simp only [List.drop_drop]
            refine ⟨p1, ?_, ?_, ?_⟩
            · rw [e1] at p2; exact p2
            · rw [e2, e1] at p3; exact p3
            · rw [e3, e2, e1] at e4
              rw [e4]
              exact List.take_prefix _ _
          · unfold pre4
            simp only [List.length_append, ints_len, byts_len, hl]
            unfold sz at e1 e2 e3
            omega

/-- What an op of a reader comes to. -/
def OS (bs : List Int) (a : Nat) (bad : Bool) (ah : List UInt8) (o : Ov) (a' : Nat) (bad' : Bool) : Prop :=
  (bad = false ∧ bad' = false ∧ encO ah o <+: bs.drop a ∧ a' = a + (encO ah o).length ∧ o.shape) ∨ (bad' = true ∧ (bad = false → No bs a ah))

theorem os_bad {bs : List Int} {a a' : Nat} {bad bad' : Bool} {ah : List UInt8} {o : Ov} (h : bad' = true) (k : bad = false → No bs a ah) : OS bs a bad ah o a' bad' := .inr ⟨h, k⟩

theorem rest_of {sh : Nat} {ah rest : List UInt8} (h : sh ≤ ah.length) : (ah.take sh ++ rest).drop sh = rest := by
  have : (ah.take sh).length = sh := by rw [List.length_take]; omega
  rw [List.drop_append_of_le_length (by omega), List.drop_of_length_le (by omega), List.nil_append]

theorem os_com {bs : List Int} {a a4 kind sh n : Nat} {bad : Bool} {ah : List UInt8} {zs : List Int} (h : PS bs a bad ah kind sh n zs a4 false) (hc : com ah (ah.take sh ++ byts zs) ≠ sh) : No bs a ah := by
  rcases h with ⟨_, _, _, _, _, h, _⟩ | ⟨h, _⟩
  · intro q hq hp
    unfold encO at hp
    rw [pre_app] at hp
    obtain ⟨_, e2, e3⟩ := pre4_free h hp.1
    apply hc
    rw [e3, e2, key_of]
  · simp at h

theorem os_del {bs : List Int} {a a4 sh n : Nat} {bad : Bool} {ah : List UInt8} {zs : List Int} {o : Ov} (h : PS bs a bad ah 0 sh n zs a4 false) (hp : o.p = false) (hk : o.kl = ah.take sh ++ byts zs) (hv : o.vl = []) (hc : com ah o.kl = sh) : OS bs a bad ah o a4 false := by
  rcases h with ⟨_, h1, _, h2, h3, h4, h5⟩ | ⟨h, _⟩
  · have e : encO ah o = pre4 0 sh (byts zs) := by
      unfold encO Ov.bit
      rw [hp, hc, hk, rest_of h2]
      simp
    exact .inl ⟨h1, rfl, by rw [e]; exact h4, by rw [e]; exact h5, .inr hv⟩
  · simp at h

theorem os_put {bs : List Int} (hb : ∀ z ∈ bs, 0 ≤ z ∧ z < 256) {a a4 a5 a6 sh n m : Nat} {bad bad5 bad6 : Bool} {ah : List UInt8} {zs ys : List Int} {o : Ov} (h : PS bs a bad ah 1 sh n zs a4 false) (hp : o.p = true) (hk : o.kl = ah.take sh ++ byts zs) (hv : o.vl = byts ys) (hc : com ah o.kl = sh)
    (g1 : SS bs 32 a4 false m a5 bad5) (g2 : BS bs m a5 bad5 ys a6 bad6) : OS bs a bad ah o a6 bad6 := by
  rcases h with ⟨_, h1, _, h2, h3, h4, h5⟩ | ⟨h, _⟩
  · have e : encO ah o = pre4 1 sh (byts zs) ++ cnt (byts ys) := by
      unfold encO Ov.bit
      rw [hp, hc, hk, rest_of h2, hv]
      simp
    have none : (∀ t : List UInt8, t.length ≤ 32 → ¬ cnt t <+: bs.drop a4) → No bs a ah := by
      intro hn q hq hpq
      have hpq0 := hpq
      unfold encO at hpq
      rw [pre_app] at hpq
      obtain ⟨e1, e2, e3⟩ := pre4_free h4 hpq.1
      have hpp : q.p = true := by
        unfold Ov.bit at e1
        cases hh : q.p
        · rw [hh] at e1; simp at e1
        · rfl
      have hq2 := hpq.2
      rw [hpp, List.drop_drop, ← e1, ← e3, ← e2] at hq2
      rw [if_pos rfl, ← h5] at hq2
      exact hn q.vl (chk_ok' hq).2.2.1 hq2
    rcases g1 with ⟨b1, _⟩ | ⟨b1, c1, _, _, g1⟩ | ⟨b1, c1, u1, p1, e1⟩
    · simp at b1
    · refine .inr ⟨bs_bad g2 c1, fun _ => none fun t ht hp => ?_⟩
      unfold cnt at hp
      rw [pre_app] at hp
      exact g1 _ ht hp.1
    · rcases g2 with ⟨b2, c2, _⟩ | ⟨b2, c2, d2, e2, f2⟩
      · refine .inr ⟨c2, fun _ => none fun t ht hp => ?_⟩
        unfold cnt at hp
        rw [pre_app, List.drop_drop] at hp
        have w := pre_one _ _ _ p1 hp.1
        have hl := hp.2.length_le
        rw [ints_len, List.length_drop] at hl
        rcases b2 with b2 | b2
        · rw [c1] at b2; simp at b2
        · unfold sz at e1
          rw [w] at e1 b2
          omega
      · have hl : ys.length = m := by rw [e2, List.length_take, List.length_drop]; omega
        have hby : ints (byts ys) = ys := ints_byts fun z hz => hb z (by rw [e2] at hz; exact List.mem_of_mem_drop (List.mem_of_mem_take hz))
        refine .inl ⟨h1, d2, ?_, ?_, .inl hp⟩
        · rw [e, pre_app, List.drop_drop, ← h5]
          refine ⟨h4, ?_⟩
          unfold cnt
          rw [pre_app, List.drop_drop, byts_len, hl, hby]
          refine ⟨p1, ?_⟩
          unfold sz at e1
          rw [← e1, e2]
          exact List.take_prefix _ _
        · rw [e, List.length_append, ← Nat.add_assoc, ← h5, f2, e1, cnt_len, byts_len, hl]
          omega
  · simp at h

/-- What the program's reader does of a key. -/
def KS (bs : List Int) (a1 : Nat) (bad1 : Bool) (ah key : List UInt8) (a' : Nat) (bad' : Bool) : Prop :=
  ∃ sh n zs a2 bad2 a3 bad3 bad4, SS bs ah.length a1 bad1 sh a2 bad2 ∧ SS bs (16 - sh) a2 bad2 n a3 bad3 ∧ BS bs n a3 bad3 zs a' bad4 ∧ key = ah.take sh ++ byts zs ∧ bad' = (bad4 || decide (com ah key ≠ sh))

theorem ks_bad {bs : List Int} {a1 a' : Nat} {bad1 bad' : Bool} {ah key : List UInt8} (h : KS bs a1 bad1 ah key a' bad') (hb : bad1 = true) : bad' = true := by
  obtain ⟨sh, n, zs, a2, bad2, a3, bad3, bad4, h2, h3, h4, _, e⟩ := h
  rw [e, bs_bad h4 (ss_bad h3 (ss_bad h2 hb))]
  rfl

/-- What the key's steps come to. -/
theorem ks_os {bs : List Int} (hb : ∀ z ∈ bs, 0 ≤ z ∧ z < 256) {a a1 a' kind : Nat} {bad bad1 bad' : Bool} {ah key : List UInt8} (h1 : SS bs 1 a bad kind a1 bad1) (h : KS bs a1 bad1 ah key a' bad') :
    (bad' = true ∧ (bad = false → No bs a ah)) ∨ (bad' = false ∧ ∃ sh n zs, PS bs a bad ah kind sh n zs a' false ∧ key = ah.take sh ++ byts zs ∧ com ah key = sh) := by
  obtain ⟨sh, n, zs, a2, bad2, a3, bad3, bad4, h2, h3, h4, hk, e⟩ := h
  have hp := pstep hb h1 h2 h3 h4 (.inr rfl)
  cases bad4
  · by_cases hc : com ah key = sh
    · exact .inr ⟨by rw [e]; simpa using hc, sh, n, zs, hp, hk, hc⟩
    · refine .inl ⟨by rw [e]; simpa using hc, fun _ => os_com hp (by rw [← hk]; exact hc)⟩
  · rcases hp with ⟨h, _⟩ | ⟨_, h⟩
    · simp at h
    · exact .inl ⟨by rw [e]; rfl, h⟩

theorem ks_del {bs : List Int} (hb : ∀ z ∈ bs, 0 ≤ z ∧ z < 256) {a a1 a' : Nat} {bad bad1 bad' : Bool} {ah key : List UInt8} {o : Ov} (h1 : SS bs 1 a bad 0 a1 bad1) (h : KS bs a1 bad1 ah key a' bad') (hp : o.p = false) (hk : o.kl = key) (hv : o.vl = []) : OS bs a bad ah o a' bad' := by
  rcases ks_os hb h1 h with ⟨g1, g2⟩ | ⟨g1, sh, n, zs, g2, g3, g4⟩
  · exact .inr ⟨g1, g2⟩
  · rw [g1]
    exact os_del g2 hp (hk.trans g3) hv (by rw [hk]; exact g4)

theorem ks_put {bs : List Int} (hb : ∀ z ∈ bs, 0 ≤ z ∧ z < 256) {a a1 a4 a5 a6 m : Nat} {bad bad1 bad4 bad5 bad6 : Bool} {ah key : List UInt8} {ys : List Int} {o : Ov} (h1 : SS bs 1 a bad 1 a1 bad1) (h : KS bs a1 bad1 ah key a4 bad4) (hp : o.p = true) (hk : o.kl = key) (hv : o.vl = byts ys)
    (g1 : SS bs 32 a4 bad4 m a5 bad5) (g2 : BS bs m a5 bad5 ys a6 bad6) : OS bs a bad ah o a6 bad6 := by
  rcases ks_os hb h1 h with ⟨k1, k2⟩ | ⟨k1, sh, n, zs, k2, k3, k4⟩
  · exact .inr ⟨bs_bad g2 (ss_bad g1 k1), k2⟩
  · rw [k1] at g1
    exact os_put hb k2 hp (hk.trans k3) hv (by rw [hk]; exact k4) g1 g2

theorem ks_len {bs : List Int} {a1 a' : Nat} {bad1 bad' : Bool} {ah key : List UInt8} (h : KS bs a1 bad1 ah key a' bad') (hah : ah.length ≤ 16) : key.length ≤ 16 := by
  obtain ⟨sh, n, zs, a2, bad2, a3, bad3, bad4, h2, h3, h4, hk, _⟩ := h
  have e1 := ss_le h2
  have e2 := ss_le h3
  have e3 := bs_le h4
  rw [hk, List.length_append, byts_len, List.length_take]
  omega

/-- No batch that may be stands there. -/
def NB (bs : List Int) : Prop := ∀ m : List Ov, chkL m = 0 → ¬ encB m <+: bs

/-- What a reader has come to, so many ops being told. -/
def LS (bs : List Int) (c : Nat) (l : List Ov) (a : Nat) (bad : Bool) (ah : List UInt8) : Prop :=
  (bad = false ∧ c ≤ 8 ∧ enc c <+: bs ∧ encL [] l <+: bs.drop (sz c) ∧ a = sz c + (encL [] l).length ∧ ah = lst [] l ∧ ∀ o ∈ l, o.shape) ∨ (bad = true ∧ NB bs)

theorem ls_start {bs : List Int} {c a : Nat} {bad : Bool} (h : SS bs 8 0 false c a bad) : LS bs c [] a bad [] := by
  rcases h with ⟨h, _⟩ | ⟨_, h1, _, _, h⟩ | ⟨_, h1, h2, h3, h4⟩
  · simp at h
  · refine .inr ⟨h1, fun m hm hp => ?_⟩
    unfold encB at hp
    rw [pre_app] at hp
    exact h _ (chkL_zero hm).2.1 (by simpa using hp.1)
  · refine .inl ⟨h1, h2, by simpa using h3, by simp [encL], by simp [encL, h4], rfl, by simp⟩

theorem ls_step {bs : List Int} {c a a' : Nat} {bad bad' : Bool} {l : List Ov} {ah : List UInt8} {o : Ov} (h : LS bs c l a bad ah) (hl : l.length < c) (g : OS bs a bad ah o a' bad') : LS bs c (l ++ [o]) a' bad' o.kl := by
  rcases h with ⟨rfl, h1, h2, h3, h4, h5, h6⟩ | ⟨rfl, h⟩
  · rcases g with ⟨_, g1, g2, g3, g4⟩ | ⟨g1, g2⟩
    · refine .inl ⟨g1, h1, h2, ?_, ?_, (lst_snoc _ _ _).symm, ?_⟩
      · rw [encL_snoc, pre_app, List.drop_drop, ← h4, ← h5]
        exact ⟨h3, g2⟩
      · rw [encL_snoc, List.length_append, ← h5, g3, h4, Nat.add_assoc]
      · intro x hx
        rcases List.mem_append.1 hx with hx | hx
        · exact h6 x hx
        · rw [List.mem_singleton.1 hx]; exact g4
    · refine .inr ⟨g1, fun m hm hp => ?_⟩
      unfold encB at hp
      rw [pre_app] at hp
      have e := pre_one _ _ _ h2 hp.1
      have hp2 := hp.2
      have hlm : l.length < m.length := by omega
      have hsplit : m = m.take l.length ++ m[l.length] :: m.drop (l.length + 1) := by
        rw [List.getElem_cons_drop, List.take_append_drop]
      rw [hsplit, encL_app, pre_app] at hp2
      have hmem : ∀ x ∈ m.take l.length, x.shape := fun x hx => shapes hm x (List.mem_of_mem_take hx)
      have hsz : (enc m.length).length = sz c := by rw [← e]; rfl
      rw [← hsplit, hsz] at hp2
      have e2 := encL_free [] l (m.take l.length) _ (by rw [List.length_take]; omega) h6 hmem h3 hp2.1
      have hp3 := hp2.2
      rw [← e2, List.drop_drop, ← h4, ← h5] at hp3
      show False
      unfold encL at hp3
      rw [pre_app] at hp3
      exact g2 rfl _ ((chkL_zero hm).2.2 _ (List.getElem_mem _)) hp3.1
  · rcases g with ⟨g, _⟩ | ⟨g1, _⟩
    · simp at g
    · exact .inr ⟨g1, h⟩

theorem ls_end {bs : List Int} {c a : Nat} {l : List Ov} {ah : List UInt8} (h : LS bs c l a false ah) (hl : l.length = c) (hc : chkL l = 0) : BRes bs l a 0 := by
  rcases h with ⟨_, h1, h2, h3, h4, _⟩ | ⟨h, _⟩
  · have e : encB l = enc c ++ encL [] l := by unfold encB; rw [hl]
    refine .inl ⟨rfl, hc, ?_, ?_⟩
    · rw [e, pre_app]; exact ⟨h2, h3⟩
    · rw [e, List.length_append, h4]; rfl
  · simp at h

theorem ls_bad {bs : List Int} {c a : Nat} {l : List Ov} {ah : List UInt8} {bad : Bool} (h : LS bs c l a bad ah) (hl : bad = false → l.length = c) (hc : bad = true ∨ chkL l ≠ 0) : BRes bs [] 0 5 := by
  refine .inr ⟨rfl, rfl, rfl, ?_⟩
  rcases h with ⟨hb, h1, h2, h3, h4, _, h6⟩ | ⟨_, h⟩
  · rcases hc with hc | hc
    · rw [hc] at hb; simp at hb
    · intro m hm hp
      have e : encB l <+: bs := by
        unfold encB
        rw [hl hb, pre_app]
        exact ⟨h2, h3⟩
      have := encB_free e hp h6 (shapes hm)
      rw [this] at hc
      exact hc hm
  · exact h

/-- No first part of a batch's bytes is a batch. -/
theorem bres_cut {l m : List Ov} {n e : Int} {j : Nat} (hc : chkL l = 0) (hj : j < (encB l).length) (h : BRes ((encB l).take j) m n e) : e = 5 ∧ m = [] ∧ n = 0 := by
  rcases h with ⟨_, h1, h2, _⟩ | ⟨h1, h2, h3, _⟩
  · have := encB_free (h2.trans (List.take_prefix _ _)) (List.prefix_refl (encB l)) (shapes h1) (shapes hc)
    have hl := h2.length_le
    rw [this, List.length_take] at hl
    omega
  · exact ⟨h1, h2, h3⟩

/-- The ops' bytes, one behind the other. -/
def sum : List Ov → Nat
  | [] => 0
  | o :: r => (opEnc o.p o.kl o.vl).length + sum r

theorem encO_le (ah : List UInt8) {o : Ov} (h : o.c = 0) : (encO ah o).length ≤ (opEnc o.p o.kl o.vl).length + 1 := by
  have hh := chk_ok' h
  have hc := com_le ah o.kl
  have hb := bit_le o
  unfold encO pre4 opEnc
  have e1 : (enc o.bit).length = 1 := by have := sz_lo (x := o.bit) (by omega); exact this
  have e2 : (enc (com ah o.kl)).length = 1 := by have := sz_lo (x := com ah o.kl) (by omega); exact this
  have e3 : (enc (o.kl.length - com ah o.kl)).length = 1 := by have := sz_lo (x := o.kl.length - com ah o.kl) (by omega); exact this
  have e4 := cnt_len o.kl
  rw [sz_lo (by omega)] at e4
  simp only [List.length_append, List.length_cons, List.length_drop, e1, e2, e3, e4, ints_len]
  split <;> simp <;> omega

theorem encL_le : ∀ (ah : List UInt8) (l : List Ov), (∀ o ∈ l, o.c = 0) → (encL ah l).length ≤ sum l + l.length
  | _, [], _ => by simp [encL, sum]
  | ah, o :: l, h => by
    have h1 := encO_le ah (h o (by simp))
    have h2 := encL_le o.kl l fun x hx => h x (by simp [hx])
    simp only [encL, sum, List.length_append, List.length_cons]
    omega

theorem encB_le {l : List Ov} (h : chkL l = 0) : (encB l).length ≤ 9 + sum l := by
  obtain ⟨h1, h2, h3⟩ := chkL_zero h
  have := encL_le [] l h3
  have e : (enc l.length).length = 1 := by have := sz_lo (x := l.length) (by omega); exact this
  unfold encB
  rw [List.length_append, e]
  omega

theorem sum_le : ∀ {l : List Ov}, (∀ o ∈ l, o.c = 0) → sum l ≤ 51 * l.length
  | [], _ => by simp [sum]
  | o :: l, h => by
    have h1 := opEnc_le (h o (by simp))
    have h2 := sum_le (l := l) fun x hx => h x (by simp [hx])
    simp only [sum, List.length_cons]
    unfold Ov.kl Ov.vl at *
    omega

theorem encB_small {l : List Ov} (h : chkL l = 0) : (encB l).length ≤ 420 := by
  have := encB_le h
  obtain ⟨h1, h2, h3⟩ := chkL_zero h
  have := sum_le h3
  omega

theorem encB_pos (l : List Ov) : 1 ≤ (encB l).length := by
  unfold encB
  have := sz_pos l.length
  unfold sz at this
  rw [List.length_append]
  omega

theorem sum_snoc : ∀ (l : List Ov) (o : Ov), sum (l ++ [o]) = sum l + (opEnc o.p o.kl o.vl).length
  | [], o => by simp [sum]
  | q :: l, o => by simp only [List.cons_append, sum, sum_snoc l o]; omega

/-- Whether two ops are one. -/
def eqO (o q : Ov) : Bool := (o.p == q.p) && (decide (o.kl = q.kl) && decide (o.vl = q.vl))

theorem eqO_iff {o q : Ov} : eqO o q = true ↔ o = q := by
  unfold eqO
  constructor
  · intro h
    simp at h
    exact Ov.eq h.1 h.2.1 h.2.2
  · rintro rfl
    simp

def sameL : List Ov → List Ov → Bool
  | [], [] => true
  | o :: l, q :: m => eqO o q && sameL l m
  | _, _ => false

theorem sameL_iff : ∀ {l m : List Ov}, sameL l m = true ↔ l = m
  | [], [] => by simp [sameL]
  | [], _ :: _ => by simp [sameL]
  | _ :: _, [] => by simp [sameL]
  | o :: l, q :: m => by simp [sameL, eqO_iff, sameL_iff (l := l) (m := m)]

theorem sameL_self (l : List Ov) : sameL l l = true := sameL_iff.2 rfl
theorem sameL_no {l m : List Ov} (h : l ≠ m) : sameL l m = false := by
  cases hs : sameL l m
  · rfl
  · exact absurd (sameL_iff.1 hs) h

end Go.Proofs.Ytfnaeblbodfekaa.Bm

/- Commits, by mathematics: what Check, Encode, Decode and Follows come to. No program. -/
namespace Go.Proofs.Ytfnaeblbodfekaa.Cm
open Vm Om Bm
set_option linter.unusedVariables false

/-- A commit. -/
structure Cv where
  e : Int
  n : Int
  l : List Ov

def chk (e n : Int) (l : List Ov) : Int := if 1 ≤ e ∧ e ≤ 1048576 ∧ 1 ≤ n ∧ n ≤ 1048576 then chkL l else 2

theorem chk_in {e n : Int} {l : List Ov} (h : 1 ≤ e ∧ e ≤ 1048576 ∧ 1 ≤ n ∧ n ≤ 1048576) : chk e n l = chkL l := by unfold chk; rw [if_pos h]
theorem chk_out {e n : Int} {l : List Ov} (h : ¬ (1 ≤ e ∧ e ≤ 1048576 ∧ 1 ≤ n ∧ n ≤ 1048576)) : chk e n l = 2 := by unfold chk; rw [if_neg h]

theorem chk_zero {e n : Int} {l : List Ov} (h : chk e n l = 0) : 1 ≤ e ∧ e ≤ 1048576 ∧ 1 ≤ n ∧ n ≤ 1048576 ∧ chkL l = 0 := by
  by_cases hb : 1 ≤ e ∧ e ≤ 1048576 ∧ 1 ≤ n ∧ n ≤ 1048576
  · rw [chk_in hb] at h
    exact ⟨hb.1, hb.2.1, hb.2.2.1, hb.2.2.2, h⟩
  · rw [chk_out hb] at h
    simp at h

theorem chk_three (e n : Int) (l : List Ov) : chk e n l = 0 ∨ chk e n l = 2 ∨ chk e n l = 3 := by
  unfold chk
  split
  · exact chkL_four l
  · exact .inr (.inl rfl)

/-- Its bytes. -/
def encC (e n : Int) (l : List Ov) : List Int := enc e.toNat ++ (enc n.toNat ++ encB l)
def out (e n : Int) (l : List Ov) : List Int := if chk e n l = 0 then encC e n l else []

theorem out_ok {e n : Int} {l : List Ov} (h : chk e n l = 0) : out e n l = encC e n l := by unfold out; rw [if_pos h]
theorem out_no {e n : Int} {l : List Ov} (h : chk e n l ≠ 0) : out e n l = [] := by unfold out; rw [if_neg h]

theorem enc_small {x : Int} (h : x ≤ 1048576) : (enc x.toNat).length ≤ 3 := sz_le 2 x.toNat (by omega)

theorem encC_small {e n : Int} {l : List Ov} (h : chk e n l = 0) : (encC e n l).length ≤ 430 := by
  obtain ⟨_, h1, _, h2, h3⟩ := chk_zero h
  have := enc_small h1
  have := enc_small h2
  have := encB_small h3
  unfold encC
  simp only [List.length_append]
  omega

theorem out_small (e n : Int) (l : List Ov) : (out e n l).length ≤ 430 := by
  by_cases h : chk e n l = 0
  · rw [out_ok h]; exact encC_small h
  · rw [out_no h]; simp

theorem encC_one {e n e' n' : Int} {l l' : List Ov} (h : chk e n l = 0) (h' : chk e' n' l' = 0) (he : encC e n l = encC e' n' l') : e = e' ∧ n = n' ∧ l = l' := by
  obtain ⟨h1, h2, h3, h4, h5⟩ := chk_zero h
  obtain ⟨g1, g2, g3, g4, g5⟩ := chk_zero h'
  unfold encC at he
  have p1 := pre_one (enc e.toNat ++ (enc n.toNat ++ encB l)) e.toNat e'.toNat (List.prefix_append _ _) (by rw [he]; exact List.prefix_append _ _)
  have e1 : e = e' := by omega
  subst e1
  have he2 := List.append_cancel_left he
  have p2 := pre_one (enc n.toNat ++ encB l) n.toNat n'.toNat (List.prefix_append _ _) (by rw [he2]; exact List.prefix_append _ _)
  have e2 : n = n' := by omega
  subst e2
  have he3 := List.append_cancel_left he2
  exact ⟨rfl, rfl, encB_free (List.prefix_refl _) (by rw [he3]; exact List.prefix_refl _) (shapes h5) (shapes g5)⟩

/-- What Decode comes to: the commit, the error. -/
def CRes (bs : List Int) (e n : Int) (l : List Ov) (g : Int) : Prop :=
  (g = 0 ∧ chk e n l = 0 ∧ encC e n l = bs) ∨ (g = 5 ∧ e = 0 ∧ n = 0 ∧ l = [] ∧ ∀ e' n' l', chk e' n' l' = 0 → encC e' n' l' ≠ bs)

theorem cres_one {bs : List Int} {e n e' n' g g' : Int} {l l' : List Ov} (h : CRes bs e n l g) (k : CRes bs e' n' l' g') : e = e' ∧ n = n' ∧ l = l' ∧ g = g' := by
  rcases h with ⟨rfl, h1, h2⟩ | ⟨rfl, rfl, rfl, rfl, h⟩ <;> rcases k with ⟨rfl, k1, k2⟩ | ⟨rfl, rfl, rfl, rfl, k⟩
  · obtain ⟨rfl, rfl, rfl⟩ := encC_one h1 k1 (h2.trans k2.symm)
    exact ⟨rfl, rfl, rfl, rfl⟩
  · exact absurd h2 (k _ _ _ h1)
  · exact absurd k2 (h _ _ _ k1)
  · exact ⟨rfl, rfl, rfl, rfl⟩

theorem cres_good {bs : List Int} {e n e' n' g' : Int} {l l' : List Ov} (hc : chk e n l = 0) (h : encC e n l = bs) (k : CRes bs e' n' l' g') : e' = e ∧ n' = n ∧ l' = l ∧ g' = 0 := by
  obtain ⟨rfl, rfl, rfl, rfl⟩ := cres_one (.inl ⟨rfl, hc, h⟩ : CRes bs e n l 0) k
  exact ⟨rfl, rfl, rfl, rfl⟩

theorem cres_no {bs : List Int} {e n g : Int} {l : List Ov} (h : ∀ e' n' l', chk e' n' l' = 0 → encC e' n' l' ≠ bs) (k : CRes bs e n l g) : e = 0 ∧ n = 0 ∧ l = [] ∧ g = 5 := by
  obtain ⟨rfl, rfl, rfl, rfl⟩ := cres_one (.inr ⟨rfl, rfl, rfl, rfl, h⟩ : CRes bs 0 0 [] 5) k
  exact ⟨rfl, rfl, rfl, rfl⟩

theorem cres_e {bs : List Int} {e n g : Int} {l : List Ov} (h : CRes bs e n l g) : g = 0 ∨ g = 5 := by
  rcases h with ⟨h, _⟩ | ⟨h, _⟩
  · exact .inl h
  · exact .inr h

theorem cres_bounds {bs : List Int} {e n g : Int} {l : List Ov} (h : CRes bs e n l g) : 0 ≤ e ∧ e ≤ 1048576 ∧ 0 ≤ n ∧ n ≤ 1048576 := by
  rcases h with ⟨_, h, _⟩ | ⟨_, rfl, rfl, _⟩
  · obtain ⟨h1, h2, h3, h4, _⟩ := chk_zero h
    omega
  · omega

/-- Bytes that no small number begins. -/
def NoNum (bs : List Int) : Prop := ∀ x : Nat, x ≤ 1048576 → ¬ enc x <+: bs

theorem no_epoch {bs : List Int} (h : NoNum bs) : ∀ e n l, chk e n l = 0 → encC e n l ≠ bs := by
  intro e n l hc he
  obtain ⟨h1, h2, _⟩ := chk_zero hc
  exact h e.toNat (by omega) (by rw [← he]; exact List.prefix_append _ _)

theorem enc_drop {x : Nat} {bs : List Int} (h : enc x <+: bs) : bs = enc x ++ bs.drop (sz x) := by
  obtain ⟨t, rfl⟩ := h
  simp [sz]

theorem no_number {bs : List Int} {x : Nat} (hx : enc x <+: bs) (h : NoNum (bs.drop (sz x))) : ∀ e n l, chk e n l = 0 → encC e n l ≠ bs := by
  intro e n l hc he
  obtain ⟨h1, h2, h3, h4, _⟩ := chk_zero hc
  have p : enc e.toNat <+: bs := by rw [← he]; exact List.prefix_append _ _
  obtain rfl := pre_one _ _ _ hx p
  refine h n.toNat (by omega) ?_
  rw [← he]
  simp [encC, sz]

/-- What follows the two numbers. -/
theorem both_drop {bs : List Int} {x y : Nat} (hx : enc x <+: bs) (hy : enc y <+: bs.drop (sz x)) : bs = enc x ++ (enc y ++ bs.drop (sz x + sz y)) := by
  have h1 := enc_drop hx
  have h2 := enc_drop hy
  rw [List.drop_drop] at h2
  rw [← h2]
  exact h1

theorem enc_pre {bs : List Int} {x y : Nat} {e n : Int} {l : List Ov} (hx : enc x <+: bs) (hy : enc y <+: bs.drop (sz x)) (hc : chk e n l = 0) (he : encC e n l = bs) : e = x ∧ n = y ∧ encB l = bs.drop (sz x + sz y) := by
  obtain ⟨h1, h2, h3, h4, h5⟩ := chk_zero hc
  have p : enc e.toNat <+: bs := by rw [← he]; exact List.prefix_append _ _
  have e1 := pre_one _ _ _ hx p
  have q : enc n.toNat <+: bs.drop (sz x) := by rw [← he, e1]; simp [encC, sz]
  have e2 := pre_one _ _ _ hy q
  refine ⟨by omega, by omega, ?_⟩
  have hb := both_drop hx hy
  rw [← he] at hb
  unfold encC at hb
  rw [e1, e2] at hb
  have := List.append_cancel_left (List.append_cancel_left hb)
  rw [this, ← he, e1, e2, encC]

/-- The batch behind the two numbers is none. -/
theorem no_batch {bs : List Int} {x y : Nat} (hx : enc x <+: bs) (hy : enc y <+: bs.drop (sz x)) (h : ∀ m, chkL m = 0 → ¬ encB m <+: bs.drop (sz x + sz y)) : ∀ e n l, chk e n l = 0 → encC e n l ≠ bs := by
  intro e n l hc he
  obtain ⟨_, _, h3⟩ := enc_pre hx hy hc he
  exact h l (chk_zero hc).2.2.2.2 (by rw [h3]; exact List.prefix_refl _)

/-- There is one, but the commit that it makes may not be, or bytes are left. -/
theorem no_left {bs : List Int} {x y : Nat} {m : List Ov} (hx : enc x <+: bs) (hy : enc y <+: bs.drop (sz x)) (hm : chkL m = 0) (hp : encB m <+: bs.drop (sz x + sz y)) (h : sz x + sz y + (encB m).length ≠ bs.length ∨ chk x y m ≠ 0) : ∀ e n l, chk e n l = 0 → encC e n l ≠ bs := by
  intro e n l hc he
  obtain ⟨rfl, rfl, h3⟩ := enc_pre hx hy hc he
  obtain rfl := encB_free hp (show encB l <+: _ by rw [h3]; exact List.prefix_refl _) (shapes hm) (shapes (chk_zero hc).2.2.2.2)
  rcases h with h | h
  · apply h
    have := congrArg List.length he
    simp only [encC, List.length_append, Int.toNat_natCast] at this
    unfold sz
    omega
  · exact h hc

theorem is_commit {bs : List Int} {x y : Nat} {m : List Ov} (hx : enc x <+: bs) (hy : enc y <+: bs.drop (sz x)) (hp : encB m <+: bs.drop (sz x + sz y)) (hl : sz x + sz y + (encB m).length = bs.length) : encC x y m = bs := by
  have h1 := both_drop hx hy
  have h2 : encB m = bs.drop (sz x + sz y) := by
    obtain ⟨t, ht⟩ := hp
    have := congrArg List.length ht
    simp only [List.length_append, List.length_drop] at this
    have : t = [] := List.eq_nil_of_length_eq_zero (by omega)
    subst this
    simpa using ht
  unfold encC
  rw [Int.toNat_natCast, Int.toNat_natCast, h2]
  exact h1.symm

/-- What Follows comes to: the error, the place. -/
def fol (ep nu : Int) (i : Nat) : List Cv → Int × Int
  | [] => (0, 0)
  | c :: r => if chk c.e c.n c.l ≠ 0 then (chk c.e c.n c.l, i) else if c.n - 1 ≠ nu ∨ c.e < ep then (15, i) else fol c.e c.n (i + 1) r

theorem fol_nil (ep nu : Int) (i : Nat) : fol ep nu i [] = (0, 0) := rfl
theorem fol_bad {ep nu : Int} {i : Nat} {c : Cv} {r : List Cv} (h : chk c.e c.n c.l ≠ 0) : fol ep nu i (c :: r) = (chk c.e c.n c.l, (i : Int)) := by simp [fol, h]
theorem fol_off {ep nu : Int} {i : Nat} {c : Cv} {r : List Cv} (h : chk c.e c.n c.l = 0) (h' : c.n - 1 ≠ nu ∨ c.e < ep) : fol ep nu i (c :: r) = (15, (i : Int)) := by rw [fol, if_neg (by simp [h]), if_pos h']
theorem fol_on {ep nu : Int} {i : Nat} {c : Cv} {r : List Cv} (h : chk c.e c.n c.l = 0) (h' : ¬ (c.n - 1 ≠ nu ∨ c.e < ep)) : fol ep nu i (c :: r) = fol c.e c.n (i + 1) r := by rw [fol, if_neg (by simp [h]), if_neg h']

/-- One fault: what is wrong with c. -/
def flt (at' : Int) (ep nu : Int) (c : Cv) : Int × Int := if chk c.e c.n c.l ≠ 0 then (chk c.e c.n c.l, at') else if c.n - 1 ≠ nu ∨ c.e < ep then (15, at') else (0, 0)

theorem flt_bad {a ep nu : Int} {c : Cv} (h : chk c.e c.n c.l ≠ 0) : flt a ep nu c = (chk c.e c.n c.l, a) := by simp [flt, h]
theorem flt_off {a ep nu : Int} {c : Cv} (h : chk c.e c.n c.l = 0) (h' : c.n - 1 ≠ nu ∨ c.e < ep) : flt a ep nu c = (15, a) := by rw [flt, if_neg (by simp [h]), if_pos h']
theorem flt_on {a ep nu : Int} {c : Cv} (h : chk c.e c.n c.l = 0) (h' : ¬ (c.n - 1 ≠ nu ∨ c.e < ep)) : flt a ep nu c = (0, 0) := by rw [flt, if_neg (by simp [h]), if_neg h']

theorem flt_zero {a ep nu : Int} {c : Cv} (h : (flt a ep nu c).1 = 0) : chk c.e c.n c.l = 0 ∧ ¬ (c.n - 1 ≠ nu ∨ c.e < ep) ∧ (flt a ep nu c).2 = 0 := by
  by_cases h1 : chk c.e c.n c.l = 0
  · by_cases h2 : c.n - 1 ≠ nu ∨ c.e < ep
    · rw [flt_off h1 h2] at h
      simp at h
    · refine ⟨h1, h2, ?_⟩
      rw [flt_on h1 h2]
  · rw [flt_bad h1] at h
    exact absurd h h1

theorem fol_stop {ep nu : Int} {i : Nat} {c : Cv} {r : List Cv} (h : (flt i ep nu c).1 ≠ 0) : fol ep nu i (c :: r) = flt i ep nu c := by
  by_cases h1 : chk c.e c.n c.l = 0
  · by_cases h2 : c.n - 1 ≠ nu ∨ c.e < ep
    · rw [flt_off h1 h2, fol_off h1 h2]
    · rw [flt_on h1 h2] at h
      simp at h
  · rw [flt_bad h1, fol_bad h1]

theorem fol_next {ep nu : Int} {i : Nat} {c : Cv} {r : List Cv} (h : (flt i ep nu c).1 = 0) : fol ep nu i (c :: r) = fol c.e c.n (i + 1) r := by
  obtain ⟨h1, h2, _⟩ := flt_zero h
  exact fol_on h1 h2

/-- All of them follow. -/
def Good (ep nu : Int) : List Cv → Prop
  | [] => True
  | c :: r => chk c.e c.n c.l = 0 ∧ c.n - 1 = nu ∧ ep ≤ c.e ∧ Good c.e c.n r

theorem fol_good : ∀ (l : List Cv) (ep nu : Int) (i : Nat), (fol ep nu i l).1 = 0 ↔ Good ep nu l
  | [], _, _, _ => by simp [fol, Good]
  | c :: r, ep, nu, i => by
    by_cases h1 : chk c.e c.n c.l = 0
    · by_cases h2 : c.n - 1 ≠ nu ∨ c.e < ep
      · rw [fol_off h1 h2]
        simp only [Good]
        constructor
        · intro h; simp at h
        · intro h; omega
      · rw [fol_on h1 h2, fol_good r]
        simp only [Good]
        constructor
        · intro h; exact ⟨h1, by omega, by omega, h⟩
        · intro h; exact h.2.2.2
    · rw [fol_bad h1]
      simp only [Good]
      constructor
      · intro h; exact absurd h h1
      · intro h; exact absurd h.1 h1

theorem fol_at : ∀ (l : List Cv) (ep nu : Int) (i : Nat), (fol ep nu i l).1 = 0 → (fol ep nu i l).2 = 0
  | [], _, _, _, _ => rfl
  | c :: r, ep, nu, i, h => by
    by_cases h1 : chk c.e c.n c.l = 0
    · by_cases h2 : c.n - 1 ≠ nu ∨ c.e < ep
      · rw [fol_off h1 h2] at h
        simp at h
      · rw [fol_on h1 h2] at h ⊢
        exact fol_at r _ _ _ h
    · rw [fol_bad h1] at h
      exact absurd h h1

theorem fol_bounds : ∀ (l : List Cv) (ep nu : Int) (i : Nat), 0 ≤ (fol ep nu i l).2 ∧ (fol ep nu i l).2 ≤ i + l.length ∧ ((fol ep nu i l).1 = 0 ∨ (fol ep nu i l).1 = 2 ∨ (fol ep nu i l).1 = 3 ∨ (fol ep nu i l).1 = 15)
  | [], _, _, _ => by simp [fol]
  | c :: r, ep, nu, i => by
    by_cases h1 : chk c.e c.n c.l = 0
    · by_cases h2 : c.n - 1 ≠ nu ∨ c.e < ep
      · rw [fol_off h1 h2]
        simp
        omega
      · rw [fol_on h1 h2]
        have := fol_bounds r c.e c.n (i + 1)
        simp only [List.length_cons]
        omega
    · rw [fol_bad h1]
      have := chk_three c.e c.n c.l
      simp only [List.length_cons]
      omega

/-- The end behind a list. -/
def lastE (ep : Int) : List Cv → Int
  | [] => ep
  | c :: r => lastE c.e r
def lastN (nu : Int) : List Cv → Int
  | [] => nu
  | c :: r => lastN c.n r

theorem good_app : ∀ (l m : List Cv) (ep nu : Int), Good ep nu (l ++ m) ↔ Good ep nu l ∧ Good (lastE ep l) (lastN nu l) m
  | [], m, _, _ => by simp [Good, lastE, lastN]
  | c :: r, m, ep, nu => by
    simp only [List.cons_append, Good, lastE, lastN, good_app r m]
    constructor
    · rintro ⟨h1, h2, h3, h4, h5⟩; exact ⟨⟨h1, h2, h3, h4⟩, h5⟩
    · rintro ⟨⟨h1, h2, h3, h4⟩, h5⟩; exact ⟨h1, h2, h3, h4, h5⟩

theorem last_snoc : ∀ (l : List Cv) (c : Cv) (ep nu : Int), lastE ep (l ++ [c]) = c.e ∧ lastN nu (l ++ [c]) = c.n
  | [], _, _, _ => ⟨rfl, rfl⟩
  | d :: r, c, ep, nu => by simpa [lastE, lastN] using last_snoc r c d.e d.n

theorem good_take {l : List Cv} {ep nu : Int} (h : Good ep nu l) (k : Nat) : Good ep nu (l.take k) := by
  rw [← List.take_append_drop k l, good_app] at h
  exact h.1

/-- What stands at a place of a list that follows. -/
theorem good_at : ∀ (l : List Cv) (ep nu : Int) (k : Nat) (c : Cv), Good ep nu l → l[k]? = some c → chk c.e c.n c.l = 0 ∧ c.n - 1 - k = nu ∧ lastE ep (l.take k) ≤ c.e ∧ lastN nu (l.take k) = nu + k
  | [], _, _, _, _, _, h => by simp at h
  | d :: r, ep, nu, 0, c, hg, h => by
    simp at h
    subst h
    obtain ⟨h1, h2, h3, _⟩ := hg
    exact ⟨h1, by omega, by simpa [lastE] using h3, by simp [lastN]⟩
  | d :: r, ep, nu, k + 1, c, hg, h => by
    obtain ⟨h1, h2, h3, h4⟩ := hg
    obtain ⟨g1, g2, g3, g4⟩ := good_at r d.e d.n k c h4 (by simpa using h)
    refine ⟨g1, by omega, by simpa [lastE] using g3, ?_⟩
    simp only [List.take_succ_cons, lastN]
    rw [g4]
    omega

theorem fol_app_good : ∀ (l m : List Cv) (ep nu : Int) (i : Nat), Good ep nu l → fol ep nu i (l ++ m) = fol (lastE ep l) (lastN nu l) (i + l.length) m
  | [], m, _, _, _, _ => by simp [lastE, lastN]
  | c :: r, m, ep, nu, i, h => by
    obtain ⟨h1, h2, h3, h4⟩ := h
    rw [List.cons_append, fol_on h1 (by omega), fol_app_good r m _ _ _ h4, List.length_cons, lastE, lastN, show i + 1 + r.length = i + (r.length + 1) by omega]

/-- A list that follows, one of its midst left out. -/
theorem fol_gap {l : List Cv} {ep nu : Int} (h : Good ep nu l) (k : Nat) (hk : k + 1 < l.length) : fol ep nu 0 (l.take k ++ l.drop (k + 1)) = (15, (k : Int)) := by
  rw [fol_app_good _ _ _ _ _ (good_take h k)]
  have e1 : l.drop (k + 1) = l[k + 1] :: l.drop (k + 2) := by rw [List.drop_eq_getElem_cons hk]
  obtain ⟨g1, g2, _, _⟩ := good_at l ep nu (k + 1) l[k + 1] h (by rw [List.getElem?_eq_getElem])
  obtain ⟨k1, k2, _, k4⟩ := good_at l ep nu k l[k] h (by rw [List.getElem?_eq_getElem])
  rw [e1, fol_off g1 (.inl (by omega)), List.length_take]
  congr 1
  omega

end Go.Proofs.Ytfnaeblbodfekaa.Cm

/- Starts, by mathematics: where epochs begin, which epoch a number has, where two logs part. No program. -/
namespace Go.Proofs.Ytfnaeblbodfekaa.Sm
set_option linter.unusedVariables false

/-- A start: an epoch, its first number. -/
abbrev S := Int × Int

/-- They rise from (e, f) on, within their bounds. -/
def Up (en : Int) : Int → Int → List S → Prop
  | _, _, [] => True
  | e, f, s :: r => e < s.1 ∧ s.1 ≤ 1048576 ∧ f < s.2 ∧ s.2 ≤ en ∧ Up en s.1 s.2 r

def upb (en : Int) : Int → Int → List S → Bool
  | _, _, [] => true
  | e, f, s :: r => (decide (e < s.1) && decide (s.1 ≤ 1048576)) && ((decide (f < s.2) && decide (s.2 ≤ en)) && upb en s.1 s.2 r)

theorem upb_iff (en : Int) : ∀ (e f : Int) (l : List S), upb en e f l = true ↔ Up en e f l
  | _, _, [] => ⟨fun _ => trivial, fun _ => rfl⟩
  | e, f, s :: r => by
    unfold upb Up
    rw [Bool.and_eq_true, Bool.and_eq_true, Bool.and_eq_true, Bool.and_eq_true, upb_iff en s.1 s.2 r, decide_eq_true_iff, decide_eq_true_iff, decide_eq_true_iff, decide_eq_true_iff]
    constructor
    · rintro ⟨⟨h1, h2⟩, ⟨h3, h4⟩, h5⟩
      exact ⟨h1, h2, h3, h4, h5⟩
    · rintro ⟨h1, h2, h3, h4, h5⟩
      exact ⟨⟨h1, h2⟩, ⟨h3, h4⟩, h5⟩

def Ok (l : List S) (en : Int) : Prop := 0 ≤ en ∧ en ≤ 1048576 ∧ (l.length = 0 ↔ en = 0) ∧ Up en 0 0 l ∧ ((l.map Prod.snd).headD 1 = 1)

def okb (l : List S) (en : Int) : Bool := (decide (0 ≤ en) && decide (en ≤ 1048576)) && (decide (l.length = 0 ↔ en = 0) && (upb en 0 0 l && decide ((l.map Prod.snd).headD 1 = 1)))

theorem okb_iff {l : List S} {en : Int} : okb l en = true ↔ Ok l en := by
  unfold okb Ok
  rw [Bool.and_eq_true, Bool.and_eq_true, Bool.and_eq_true, Bool.and_eq_true, upb_iff, decide_eq_true_iff, decide_eq_true_iff, decide_eq_true_iff, decide_eq_true_iff]
  constructor
  · rintro ⟨⟨h1, h2⟩, h3, h4, h5⟩
    exact ⟨h1, h2, h3, h4, h5⟩
  · rintro ⟨h1, h2, h3, h4, h5⟩
    exact ⟨⟨h1, h2⟩, h3, h4, h5⟩

def chk (l : List S) (en : Int) : Int := if okb l en = true then 0 else 5

theorem chk_ok {l : List S} {en : Int} (h : Ok l en) : chk l en = 0 := if_pos (okb_iff.2 h)
theorem chk_no {l : List S} {en : Int} (h : ¬ Ok l en) : chk l en = 5 := if_neg fun k => h (okb_iff.1 k)
theorem chk_zero {l : List S} {en : Int} : chk l en = 0 ↔ Ok l en := by
  constructor
  · intro h
    by_cases k : Ok l en
    · exact k
    · rw [chk_no k] at h; simp at h
  · exact chk_ok

/-- The epoch of a number. -/
def epo (n : Int) : Int → List S → Int
  | e, [] => e
  | e, s :: r => if s.2 ≤ n then epo n s.1 r else e

/-- Those that have begun by n. -/
def beg (n : Int) : List S → List S
  | [] => []
  | s :: r => if s.2 ≤ n then s :: beg n r else []

def lst (l : List S) : Int := ((l.map Prod.fst).getLast?).getD 0

theorem lst_nil : lst [] = 0 := rfl
theorem lst_snoc (l : List S) (s : S) : lst (l ++ [s]) = s.1 := by simp [lst]
theorem lst_at {l : List S} {s : S} (h : l[l.length - 1]? = some s) : lst l = s.1 := by
  unfold lst
  rw [List.getLast?_eq_getElem?, List.length_map, List.getElem?_map, h]
  rfl

/-- Places of a rising row. -/
theorem up_at : ∀ (l : List S) (en e f : Int), Up en e f l → ∀ (i : Nat) (s : S), l[i]? = some s → e < s.1 ∧ s.1 ≤ 1048576 ∧ f < s.2 ∧ s.2 ≤ en
  | [], _, _, _, _, _, _, h => by simp at h
  | t :: r, en, e, f, h, 0, s, hs => by
    simp at hs
    subst hs
    exact ⟨h.1, h.2.1, h.2.2.1, h.2.2.2.1⟩
  | t :: r, en, e, f, h, i + 1, s, hs => by
    have := up_at r en t.1 t.2 h.2.2.2.2 i s (by simpa using hs)
    have := h.1
    have := h.2.2.1
    omega

theorem up_lt : ∀ (l : List S) (en e f : Int), Up en e f l → ∀ (i j : Nat) (s t : S), i < j → l[i]? = some s → l[j]? = some t → s.1 < t.1 ∧ s.2 < t.2
  | [], _, _, _, _, _, _, _, _, _, h, _ => by simp at h
  | a :: r, en, e, f, h, 0, j, s, t, hij, hs, ht => by
    simp at hs
    subst hs
    obtain ⟨j, rfl⟩ : ∃ k, j = k + 1 := ⟨j - 1, by omega⟩
    have := up_at r en a.1 a.2 h.2.2.2.2 j t (by simpa using ht)
    omega
  | a :: r, en, e, f, h, i + 1, j, s, t, hij, hs, ht => by
    obtain ⟨j, rfl⟩ : ∃ k, j = k + 1 := ⟨j - 1, by omega⟩
    exact up_lt r en a.1 a.2 h.2.2.2.2 i j s t (by omega) (by simpa using hs) (by simpa using ht)

theorem up_drop {l : List S} {k : Nat} {s : S} {en e f : Int} (h : l[k]? = some s) : Up en e f (l.drop k) ↔ e < s.1 ∧ s.1 ≤ 1048576 ∧ f < s.2 ∧ s.2 ≤ en ∧ Up en s.1 s.2 (l.drop (k + 1)) := by
  have hk := (List.getElem?_eq_some_iff.1 h).1
  rw [List.drop_eq_getElem_cons hk, (List.getElem?_eq_some_iff.1 h).2]
  rfl

/-- The front that has begun. -/
theorem beg_take : ∀ (n : Int) (l : List S), beg n l = l.take (beg n l).length
  | _, [] => by simp [beg]
  | n, s :: r => by
    unfold beg
    split
    · rw [List.length_cons, List.take_succ_cons, ← beg_take n r]
    · simp

theorem beg_le (n : Int) (l : List S) : (beg n l).length ≤ l.length := by
  have := congrArg List.length (beg_take n l)
  rw [List.length_take] at this
  omega

theorem beg_in : ∀ (n : Int) (l : List S) (i : Nat) (s : S), i < (beg n l).length → l[i]? = some s → s.2 ≤ n
  | _, [], _, _, h, _ => by simp [beg] at h
  | n, t :: r, i, s, h, hs => by
    unfold beg at h
    split at h
    · rename_i ht
      cases i with
      | zero => simp at hs; subst hs; exact ht
      | succ i => exact beg_in n r i s (by simpa using h) (by simpa using hs)
    · simp at h

theorem beg_out : ∀ (n : Int) (l : List S) (s : S), l[(beg n l).length]? = some s → n < s.2
  | _, [], _, h => by simp [beg] at h
  | n, t :: r, s, h => by
    unfold beg at h
    split at h
    · rename_i ht
      exact beg_out n r s (by simpa using h)
    · rename_i ht
      simp at h
      subst h
      omega

/-- How many have begun, of a rising row. -/
theorem beg_len {l : List S} {en e f n : Int} (h : Up en e f l) {k : Nat} (hk : k ≤ l.length) (h1 : ∀ (i : Nat) (s : S), i < k → l[i]? = some s → s.2 ≤ n) (h2 : ∀ s : S, l[k]? = some s → n < s.2) : (beg n l).length = k := by
  have hb := beg_le n l
  rcases Nat.lt_trichotomy (beg n l).length k with h3 | h3 | h3
  · have hs : l[(beg n l).length]? = some l[(beg n l).length] := List.getElem?_eq_getElem (by omega)
    have := beg_out n l _ hs
    have := h1 _ _ h3 hs
    omega
  · exact h3
  · have hs : l[k]? = some l[k] := List.getElem?_eq_getElem (by omega)
    have := beg_in n l k _ h3 hs
    have := h2 _ hs
    omega

theorem epo_beg : ∀ (n e : Int) (l : List S), epo n e l = ((beg n l).map Prod.fst).getLast?.getD e
  | _, _, [] => rfl
  | n, e, s :: r => by
    unfold epo beg
    split
    · rw [epo_beg n s.1 r, List.map_cons, List.getLast?_cons]
      rfl
    · rfl

theorem epo_lst (n : Int) (l : List S) : epo n 0 l = lst (beg n l) := epo_beg n 0 l

/-- The epoch by its place. -/
theorem epo_at {l : List S} {en e f n : Int} (h : Up en e f l) {k : Nat} {s : S} (hs : l[k]? = some s) (h1 : s.2 ≤ n) (h2 : ∀ t : S, l[k + 1]? = some t → n < t.2) : epo n 0 l = s.1 := by
  have hk := (List.getElem?_eq_some_iff.1 hs).1
  have hl : (beg n l).length = k + 1 := by
    refine beg_len h (by omega) (fun i t hi ht => ?_) h2
    rcases Nat.lt_or_ge i k with g | g
    · have := (up_lt l en e f h i k t s g ht hs).2
      omega
    · obtain rfl : i = k := by omega
      rw [hs] at ht
      simp at ht
      subst ht
      exact h1
  rw [epo_lst, beg_take, hl]
  refine lst_at ?_
  rw [List.length_take, show min (k + 1) l.length - 1 = k by omega, List.getElem?_take, if_pos (by omega)]
  exact hs

theorem epo_zero {l : List S} {n : Int} (h : ∀ s : S, l[0]? = some s → n < s.2) : epo n 0 l = 0 := by
  cases l with
  | nil => rfl
  | cons s r =>
    have := h s (by simp)
    unfold epo
    rw [if_neg (by omega)]

theorem ok_head {l : List S} {en : Int} (h : Ok l en) : ∀ s : S, l[0]? = some s → s.2 = 1 := by
  intro s hs
  cases l with
  | nil => simp at hs
  | cons t r =>
    simp at hs
    subst hs
    exact h.2.2.2.2

theorem ok_zero {l : List S} {en : Int} (h : Ok l en) : epo 0 0 l = 0 := epo_zero fun s hs => by rw [ok_head h s hs]; omega

/-- At the end all have begun. -/
theorem beg_end {l : List S} {en e f n : Int} (h : Up en e f l) (hn : en ≤ n) : beg n l = l := by
  have : (beg n l).length = l.length := beg_len h (Nat.le_refl _) (fun i s _ hs => by have := up_at l en e f h i s hs; omega) (fun s hs => by simp at hs)
  rw [beg_take, this, List.take_length]

theorem epo_end {l : List S} {en : Int} (h : Ok l en) : epo en 0 l = lst l := by rw [epo_lst, beg_end h.2.2.2.1 (Int.le_refl _)]

theorem epo_le {l : List S} {en e f n : Int} (h : Up en e f l) {k : Nat} (hl : ∀ s : S, l[k + 1]? = some s → n < s.2) {t : S} (ht : l[k]? = some t) (he : 0 ≤ e) : epo n 0 l ≤ t.1 := by
  rw [epo_lst]
  have hk : (beg n l).length ≤ k + 1 := by
    rcases Nat.lt_or_ge (k + 1) (beg n l).length with g | g
    · have := beg_le n l
      have hs : l[k + 1]? = some l[k + 1] := List.getElem?_eq_getElem (by omega)
      have := beg_in n l (k + 1) _ g hs
      have := hl _ hs
      omega
    · exact g
  rw [beg_take]
  generalize hq : (beg n l).length = q at hk
  have hkl := (List.getElem?_eq_some_iff.1 ht).1
  cases q with
  | zero =>
    have := up_at l en e f h k t ht
    simp [lst_nil]
    omega
  | succ q =>
    have hs : l[q]? = some l[q] := List.getElem?_eq_getElem (by omega)
    rw [lst_at (s := l[q]) (by rw [List.length_take, show min (q + 1) l.length - 1 = q by omega, List.getElem?_take, if_pos (by omega)]; exact hs)]
    rcases Nat.lt_or_ge q k with g | g
    · have := (up_lt l en e f h q k _ t g hs ht).1
      omega
    · obtain rfl : q = k := by omega
      rw [hs] at ht
      simp at ht
      rw [ht]
      exact Int.le_refl _

/-- The fork: the greatest number with one epoch. -/
def Fk (a : List S) (ae : Int) (b : List S) (be n : Int) : Prop :=
  0 ≤ n ∧ n ≤ ae ∧ n ≤ be ∧ epo n 0 a = epo n 0 b ∧ ∀ m, n < m → m ≤ ae → m ≤ be → epo m 0 a ≠ epo m 0 b

theorem fk_one {a b : List S} {ae be n m : Int} (h : Fk a ae b be n) (k : Fk a ae b be m) : n = m := by
  obtain ⟨h1, h2, h3, h4, h5⟩ := h
  obtain ⟨k1, k2, k3, k4, k5⟩ := k
  rcases Int.lt_trichotomy n m with g | g | g
  · exact absurd k4 (h5 m g k2 k3)
  · exact g
  · exact absurd h4 (k5 n g h2 h3)

theorem fk_swap {a b : List S} {ae be n : Int} (h : Fk a ae b be n) : Fk b be a ae n :=
  ⟨h.1, h.2.2.1, h.2.1, h.2.2.2.1.symm, fun m h1 h2 h3 e => h.2.2.2.2 m h1 h3 h2 e.symm⟩

/-- Going back from both ends: p starts are left of a, with the last number x; q of b, with y. -/
structure Bk (a : List S) (ae : Int) (b : List S) (be : Int) (p : Nat) (x : Int) (q : Nat) (y : Int) : Prop where
  pa : p ≤ a.length
  qb : q ≤ b.length
  xa : (p = a.length ∧ x = ae) ∨ ∃ s : S, a[p]? = some s ∧ x = s.2 - 1
  yb : (q = b.length ∧ y = be) ∨ ∃ s : S, b[q]? = some s ∧ y = s.2 - 1
  no : ∀ m, m ≤ ae → m ≤ be → (x < m ∨ y < m) → epo m 0 a ≠ epo m 0 b

theorem bk_start (a b : List S) (ae be : Int) : Bk a ae b be a.length ae b.length be :=
  ⟨Nat.le_refl _, Nat.le_refl _, .inl ⟨rfl, rfl⟩, .inl ⟨rfl, rfl⟩, fun m h1 h2 h3 => by omega⟩

theorem Bk.swap {a b : List S} {ae be x y : Int} {p q : Nat} (h : Bk a ae b be p x q y) : Bk b be a ae q y p x :=
  ⟨h.qb, h.pa, h.yb, h.xa, fun m h1 h2 h3 e => h.no m h2 h1 h3.symm e.symm⟩

theorem Bk.bound {a b : List S} {ae be x y : Int} {p q : Nat} (h : Bk a ae b be p x q y) (ha : Ok a ae) : 0 ≤ x ∧ x ≤ ae ∧ (p = 0 → x = 0) ∧ (∀ s : S, a[p]? = some s → x < s.2) := by
  rcases h.xa with ⟨rfl, rfl⟩ | ⟨s, hs, rfl⟩
  · exact ⟨ha.1, Int.le_refl _, fun h0 => ha.2.2.1.1 h0, fun s hs => by simp at hs⟩
  · have := up_at a ae 0 0 ha.2.2.2.1 p s hs
    refine ⟨by omega, by omega, fun h0 => ?_, fun t ht => ?_⟩
    · subst h0
      have := ok_head ha s hs
      omega
    · rw [hs] at ht
      simp at ht
      subst ht
      omega

/-- One of a's is dropped. -/
theorem Bk.drop {a b : List S} {ae be x y : Int} {p q : Nat} (h : Bk a ae b be (p + 1) x (q + 1) y) (ha : Ok a ae) (hb : Ok b be) {s t : S} (hs : a[p]? = some s) (ht : b[q]? = some t) (hd : t.1 < s.1 ∨ x < s.2 ∨ y < s.2) : Bk a ae b be p (s.2 - 1) (q + 1) y := by
  have hp := h.pa
  refine ⟨by omega, h.qb, .inr ⟨s, hs, rfl⟩, h.yb, fun m h1 h2 h3 => ?_⟩
  by_cases hm : x < m ∨ y < m
  · exact h.no m h1 h2 hm
  · have h4 : s.2 ≤ m := by omega
    rcases hd with hd | hd | hd
    · have e1 := epo_at ha.2.2.2.1 hs h4 (fun t' ht' => by have := (h.bound ha).2.2.2 t' ht'; omega)
      have e2 := epo_le hb.2.2.2.1 (n := m) (k := q) (fun s' hs' => by have := (h.swap.bound hb).2.2.2 s' hs'; omega) ht (Int.le_refl 0)
      omega
    · omega
    · omega

/-- The epochs that are left are one: the fork is there. -/
theorem Bk.found {a b : List S} {ae be x y : Int} {p q : Nat} (h : Bk a ae b be (p + 1) x (q + 1) y) (ha : Ok a ae) (hb : Ok b be) {s t : S} (hs : a[p]? = some s) (ht : b[q]? = some t) (h1 : ¬ t.1 < s.1) (h2 : ¬ s.1 < t.1) (h3 : s.2 ≤ min x y) (h4 : t.2 ≤ min x y) : Fk a ae b be (min x y) := by
  obtain ⟨x0, x1, _, x2⟩ := h.bound ha
  obtain ⟨y0, y1, _, y2⟩ := h.swap.bound hb
  refine ⟨by omega, by omega, by omega, ?_, fun m g1 g2 g3 => h.no m g2 g3 (by omega)⟩
  rw [epo_at ha.2.2.2.1 hs h3 (fun t' ht' => by have := x2 t' ht'; omega), epo_at hb.2.2.2.1 ht h4 (fun t' ht' => by have := y2 t' ht'; omega)]
  omega

/-- Nothing is left of one. -/
theorem Bk.none {a b : List S} {ae be x y : Int} {p q : Nat} (h : Bk a ae b be p x q y) (ha : Ok a ae) (hb : Ok b be) (h0 : p = 0 ∨ q = 0) : Fk a ae b be (min x y) := by
  obtain ⟨x0, x1, x3, x2⟩ := h.bound ha
  obtain ⟨y0, y1, y3, y2⟩ := h.swap.bound hb
  have h1 : min x y = 0 := by
    rcases h0 with h0 | h0
    · have := x3 h0; omega
    · have := y3 h0; omega
  refine ⟨by omega, by omega, by omega, ?_, fun m g1 g2 g3 => h.no m g2 g3 (by omega)⟩
  rw [h1, ok_zero ha, ok_zero hb]

/-- The numbers at which alone a fork can be. -/
def cand (l : List S) : List Int := l.map fun s => s.2 - 1

theorem cand_one : ∀ (l : List S) (en e f m d : Int), Up en e f l → m ≤ en → ∃ c, (c = en ∨ c ∈ cand l) ∧ m ≤ c ∧ c ≤ en ∧ ∀ x, m ≤ x → x ≤ c → epo x d l = epo m d l
  | [], en, e, f, m, d, _, hm => ⟨en, .inl rfl, hm, Int.le_refl _, fun x _ _ => rfl⟩
  | s :: r, en, e, f, m, d, h, hm => by
    by_cases hs : s.2 ≤ m
    · obtain ⟨c, h1, h2, h3, h4⟩ := cand_one r en s.1 s.2 m s.1 h.2.2.2.2 hm
      refine ⟨c, h1.imp id (fun h => List.mem_cons_of_mem _ h), h2, h3, fun x g1 g2 => ?_⟩
      unfold epo
      rw [if_pos (by omega), if_pos hs]
      exact h4 x g1 g2
    · refine ⟨s.2 - 1, .inr (List.mem_cons_self ..), by omega, by have := h.2.2.2.1; omega, fun x g1 g2 => ?_⟩
      unfold epo
      rw [if_neg (by omega), if_neg hs]

/-- The document's way: the best of the candidates. -/
def Best (a : List S) (ae : Int) (b : List S) (be : Int) (l : List Int) (n : Int) : Prop :=
  0 ≤ n ∧ (n = 0 ∨ (n ≤ ae ∧ n ≤ be ∧ epo n 0 a = epo n 0 b)) ∧ ∀ c ∈ l, c ≤ ae → c ≤ be → epo c 0 a = epo c 0 b → c ≤ n

theorem best_start (a b : List S) (ae be : Int) : Best a ae b be [] 0 := ⟨Int.le_refl _, .inl rfl, fun c h => by simp at h⟩

theorem best_yes {a b : List S} {ae be n c : Int} {l : List Int} (h : Best a ae b be l n) (h1 : n < c) (h2 : c ≤ ae) (h3 : c ≤ be) (h4 : epo c 0 a = epo c 0 b) : Best a ae b be (l ++ [c]) c := by
  obtain ⟨g1, g2, g3⟩ := h
  refine ⟨by omega, .inr ⟨h2, h3, h4⟩, fun d hd k1 k2 k3 => ?_⟩
  rcases List.mem_append.1 hd with hd | hd
  · have := g3 d hd k1 k2 k3
    omega
  · rw [List.mem_singleton.1 hd]
    exact Int.le_refl _

theorem best_no {a b : List S} {ae be n c : Int} {l : List Int} (h : Best a ae b be l n) (h1 : ¬ (n < c ∧ c ≤ ae ∧ c ≤ be ∧ epo c 0 a = epo c 0 b)) : Best a ae b be (l ++ [c]) n := by
  obtain ⟨g1, g2, g3⟩ := h
  refine ⟨g1, g2, fun d hd k1 k2 k3 => ?_⟩
  rcases List.mem_append.1 hd with hd | hd
  · exact g3 d hd k1 k2 k3
  · rw [List.mem_singleton.1 hd] at k1 k2 k3 ⊢
    by_cases g : n < c
    · exact absurd ⟨g, k1, k2, k3⟩ h1
    · omega

theorem best_fk {a b : List S} {ae be n : Int} (ha : Ok a ae) (hb : Ok b be) (h : Best a ae b be ([ae, be] ++ cand a ++ cand b) n) : Fk a ae b be n := by
  obtain ⟨g1, g2, g3⟩ := h
  have a0 := ha.1
  have b0 := hb.1
  have hz : n ≤ ae ∧ n ≤ be ∧ epo n 0 a = epo n 0 b := by
    rcases g2 with rfl | g2
    · exact ⟨a0, b0, by rw [ok_zero ha, ok_zero hb]⟩
    · exact g2
  refine ⟨g1, hz.1, hz.2.1, hz.2.2, fun m h1 h2 h3 he => ?_⟩
  obtain ⟨c, c1, c2, c3, c4⟩ := cand_one a ae 0 0 m 0 ha.2.2.2.1 h2
  obtain ⟨d, d1, d2, d3, d4⟩ := cand_one b be 0 0 m 0 hb.2.2.2.1 h3
  rcases Int.le_total c d with g | g
  · have := g3 c (by rcases c1 with rfl | c1 <;> simp [*]) c3 (by omega) (by rw [c4 c c2 (Int.le_refl _), d4 c c2 g]; exact he)
    omega
  · have := g3 d (by rcases d1 with rfl | d1 <;> simp [*]) (by omega) d3 (by rw [c4 d d2 g, d4 d d2 (Int.le_refl _)]; exact he)
    omega

/-- The starts of a log behind the epoch ep. -/
def told (ep : Int) : List Cm.Cv → List S
  | [] => []
  | c :: r => if c.e = ep then told c.e r else (c.e, c.n) :: told c.e r

theorem told_app : ∀ (l m : List Cm.Cv) (ep : Int), told ep (l ++ m) = told ep l ++ told (Cm.lastE ep l) m
  | [], m, _ => rfl
  | c :: r, m, ep => by
    have h := told_app r m c.e
    simp only [List.cons_append, told, Cm.lastE]
    split
    · exact h
    · rw [h]; rfl

theorem told_snoc (l : List Cm.Cv) (c : Cm.Cv) (ep : Int) : told ep (l ++ [c]) = if c.e = Cm.lastE ep l then told ep l else told ep l ++ [(c.e, c.n)] := by
  rw [told_app]
  simp only [told]
  split <;> simp

/-- The last epoch of the starts is the log's. -/
theorem told_last : ∀ (l : List Cm.Cv) (ep : Int), (((told ep l).map Prod.fst).getLast?).getD ep = Cm.lastE ep l
  | [], _ => rfl
  | c :: r, ep => by
    unfold told
    split
    · rename_i h
      rw [← h]
      exact told_last r c.e
    · rw [List.map_cons, List.getLast?_cons]
      exact told_last r c.e

theorem lst_told (l : List Cm.Cv) : lst (told 0 l) = Cm.lastE 0 l := told_last l 0

/-- Of a log that follows, they rise. -/
theorem told_up : ∀ (l : List Cm.Cv) (ep nu en : Int), Cm.Good ep nu l → nu + l.length ≤ en → Up en ep nu (told ep l)
  | [], _, _, _, _, _ => trivial
  | c :: r, ep, nu, en, h, hl => by
    obtain ⟨h1, h2, h3, h4⟩ := h
    obtain ⟨b1, b2, b3, b4, _⟩ := Cm.chk_zero h1
    have hl' : c.n + r.length ≤ en := by simp at hl; omega
    have := told_up r c.e c.n en h4 hl'
    unfold told
    split
    · rename_i he
      rw [← he]
      generalize told c.e r = u at this
      cases u with
      | nil => trivial
      | cons s u =>
        obtain ⟨g1, g2, g3, g4, g5⟩ := this
        exact ⟨g1, g2, by omega, g4, g5⟩
    · exact ⟨by omega, b2, by omega, by simp at hl; omega, this⟩

theorem good_n : ∀ (l : List Cm.Cv) (ep nu : Int), Cm.Good ep nu l → Cm.lastN nu l = nu + l.length
  | [], _, _, _ => by simp [Cm.lastN]
  | c :: r, ep, nu, h => by
    obtain ⟨h1, h2, h3, h4⟩ := h
    unfold Cm.lastN
    rw [good_n r c.e c.n h4]
    simp
    omega

theorem good_len {l : List Cm.Cv} (h : Cm.Good 0 0 l) : (l.length : Int) ≤ 1048576 := by
  cases hl : l.length with
  | zero => simp
  | succ k =>
    have hc : l[k]? = some l[k] := List.getElem?_eq_getElem (by omega)
    obtain ⟨g1, g2, _⟩ := Cm.good_at l 0 0 k _ h hc
    have := Cm.chk_zero g1
    simp
    omega

theorem told_ok {l : List Cm.Cv} (h : Cm.Good 0 0 l) : Ok (told 0 l) l.length := by
  refine ⟨by omega, good_len h, ?_, told_up l 0 0 l.length h (by omega), ?_⟩
  · cases l with
    | nil => simp [told]
    | cons c r =>
      obtain ⟨h1, h2, h3, h4⟩ := h
      have := Cm.chk_zero h1
      unfold told
      rw [if_neg (by omega)]
      simp
      omega
  · cases l with
    | nil => rfl
    | cons c r =>
      obtain ⟨h1, h2, h3, h4⟩ := h
      have := Cm.chk_zero h1
      unfold told
      rw [if_neg (by omega)]
      simp
      omega

/-- Of a log that follows, those that have begun by n are those of its first n. -/
theorem told_beg : ∀ (l : List Cm.Cv) (ep nu : Int) (k : Nat), Cm.Good ep nu l → beg (nu + k) (told ep l) = told ep (l.take k)
  | [], _, _, _, _ => by simp [told, beg]
  | c :: r, ep, nu, 0, h => by
    have hu := told_up (c :: r) ep nu (nu + (c :: r).length) h (Int.le_refl _)
    rw [List.take_zero]
    generalize told ep (c :: r) = u at hu
    cases u with
    | nil => rfl
    | cons s u =>
      unfold beg
      rw [if_neg (by have := hu.2.2.1; simp; omega)]
      rfl
  | c :: r, ep, nu, k + 1, h => by
    obtain ⟨h1, h2, h3, h4⟩ := h
    have := told_beg r c.e c.n k h4
    rw [show c.n + (k : Int) = nu + ((k + 1 : Nat) : Int) by push_cast; omega] at this
    rw [List.take_succ_cons]
    unfold told
    split
    · exact this
    · rw [beg, if_pos (by simp; omega), this]

theorem told_at {l : List Cm.Cv} (h : Cm.Good 0 0 l) {k : Nat} {c : Cm.Cv} (hc : l[k]? = some c) : epo ((k : Int) + 1) 0 (told 0 l) = c.e := by
  have hk := (List.getElem?_eq_some_iff.1 hc).1
  have := told_beg l 0 0 (k + 1) h
  rw [show (0 : Int) + ((k + 1 : Nat) : Int) = (k : Int) + 1 by push_cast; omega] at this
  rw [epo_lst, this, lst_told, List.take_add_one, hc]
  exact (Cm.last_snoc _ c 0 0).1

/-- Two logs with a common front part that go on with epochs that never meet fork where it ends. -/
theorem fork_told {l m : List Cm.Cv} (hl : Cm.Good 0 0 l) (hm : Cm.Good 0 0 m) {k : Nat} (h1 : k ≤ l.length) (h2 : k ≤ m.length) (hf : l.take k = m.take k) (hn : ∀ (i : Nat) (c d : Cm.Cv), k ≤ i → l[i]? = some c → m[i]? = some d → c.e ≠ d.e) : Fk (told 0 l) l.length (told 0 m) m.length k := by
  refine ⟨by omega, by omega, by omega, ?_, fun x g1 g2 g3 => ?_⟩
  · cases k with
    | zero => rw [show ((0 : Nat) : Int) = 0 from rfl, ok_zero (told_ok hl), ok_zero (told_ok hm)]
    | succ k =>
      have e1 : l[k]? = some l[k] := List.getElem?_eq_getElem (by omega)
      have e2 : m[k]? = some m[k] := List.getElem?_eq_getElem (by omega)
      rw [show ((k + 1 : Nat) : Int) = (k : Int) + 1 by push_cast; rfl, told_at hl e1, told_at hm e2]
      have := congrArg (fun u => u[k]?) hf
      simp only [List.getElem?_take] at this
      rw [if_pos (by omega), if_pos (by omega), e1, e2] at this
      simp at this
      rw [this]
  · obtain ⟨i, rfl⟩ : ∃ i : Nat, x = (i : Int) + 1 := ⟨(x - 1).toNat, by omega⟩
    have e1 : l[i]? = some l[i] := List.getElem?_eq_getElem (by omega)
    have e2 : m[i]? = some m[i] := List.getElem?_eq_getElem (by omega)
    rw [told_at hl e1, told_at hm e2]
    exact hn i _ _ (by omega) e1 e2

/-- What a commit behind makes of the starts. -/
def grw (l : List S) (e n : Int) : List S := if e = lst l then l else l ++ [(e, n)]

theorem told_grw (l : List Cm.Cv) (c : Cm.Cv) : told 0 (l ++ [c]) = grw (told 0 l) c.e c.n := by
  unfold grw
  rw [told_snoc, lst_told]

theorem grw_len (l : List S) (e n : Int) : (grw l e n).length ≤ l.length + 1 := by
  unfold grw
  split <;> simp

end Go.Proofs.Ytfnaeblbodfekaa.Sm

/- Frames as lists of numbers: what a frame is, what Read answers, what Scan answers. No program. -/
namespace Go.Proofs.Ytfnaeblbodfekaa
set_option linter.unusedVariables false
namespace Fm

/-- A record's frame. -/
def frm (r : List Int) : List Int := Vm.enc r.length ++ r

theorem frm_len (r : List Int) : (frm r).length = Vm.sz r.length + r.length := by unfold frm Vm.sz; rw [List.length_append]
theorem frm_pos (r : List Int) : 1 ≤ (frm r).length := by have := Vm.sz_pos r.length; rw [frm_len]; omega

theorem sz3 {n : Nat} (h : n ≤ 131072) : Vm.sz n ≤ 3 := Vm.sz_le 2 n (by omega)

theorem frm_one {r s bs : List Int} (h : frm r <+: bs) (h' : frm s <+: bs) : r = s := by
  obtain ⟨t, ht⟩ := h
  obtain ⟨u, hu⟩ := h'
  unfold frm at ht hu
  have hl : r.length = s.length := Vm.pre_one bs _ _ ⟨r ++ t, by rw [← List.append_assoc]; exact ht⟩ ⟨s ++ u, by rw [← List.append_assoc]; exact hu⟩
  rw [← hu, hl, List.append_assoc, List.append_assoc] at ht
  have := List.append_cancel_left ht
  exact (List.append_inj this hl).1

/-- What Read answers: the record, the frame's length, the error. -/
def Rd (bs r : List Int) (n : Nat) (e : Int) : Prop :=
  (e = 0 ∧ r.length ≤ 131072 ∧ n = Vm.sz r.length + r.length ∧ frm r <+: bs) ∨ (e = 5 ∧ r = [] ∧ n = 0 ∧ ∀ s : List Int, s.length ≤ 131072 → ¬ frm s <+: bs)

theorem rd_one {bs r s : List Int} {n m : Nat} {e f : Int} (h : Rd bs r n e) (h' : Rd bs s m f) : r = s ∧ n = m ∧ e = f := by
  rcases h with ⟨rfl, h1, h2, h3⟩ | ⟨rfl, rfl, rfl, h3⟩ <;> rcases h' with ⟨rfl, g1, g2, g3⟩ | ⟨rfl, rfl, rfl, g3⟩
  · have := frm_one h3 g3
    subst this
    exact ⟨rfl, by omega, rfl⟩
  · exact absurd h3 (g3 _ h1)
  · exact absurd g3 (h3 _ g1)
  · exact ⟨rfl, rfl, rfl⟩

theorem rd_is (bs : List Int) : ∃ r n e, Rd bs r n e := by
  by_cases h : ∃ s : List Int, s.length ≤ 131072 ∧ frm s <+: bs
  · obtain ⟨s, h1, h2⟩ := h
    exact ⟨s, _, 0, .inl ⟨rfl, h1, rfl, h2⟩⟩
  · exact ⟨[], 0, 5, .inr ⟨rfl, rfl, rfl, fun s h1 h2 => h ⟨s, h1, h2⟩⟩⟩

/-- The count's bytes stand ahead, and then enough. -/
theorem frm_of {bs : List Int} {x : Nat} (h : Vm.enc x <+: bs) (hx : x ≤ bs.length - Vm.sz x) : ((bs.drop (Vm.sz x)).take x).length = x ∧ frm ((bs.drop (Vm.sz x)).take x) <+: bs := by
  have hl : ((bs.drop (Vm.sz x)).take x).length = x := by rw [List.length_take, List.length_drop]; omega
  refine ⟨hl, ?_⟩
  obtain ⟨t, ht⟩ := h
  have hd : bs.drop (Vm.sz x) = t := by rw [← ht]; exact List.drop_left
  unfold frm
  rw [hl]
  rw [hd] at *
  exact ⟨t.drop x, by rw [List.append_assoc, List.take_append_drop]; exact ht⟩

theorem frm_pre {bs r : List Int} (h : frm r <+: bs) : Vm.enc r.length <+: bs ∧ r.length ≤ bs.length - Vm.sz r.length ∧ Vm.sz r.length + r.length ≤ bs.length := by
  have hl := h.length_le
  rw [frm_len] at hl
  refine ⟨(List.prefix_append _ _).trans h, by omega, hl⟩

/-- Frames one behind the other. -/
def cat : List (List Int) → List Int
  | [] => []
  | r :: l => frm r ++ cat l

theorem cat_app : ∀ (l m : List (List Int)), cat (l ++ m) = cat l ++ cat m
  | [], m => rfl
  | r :: l, m => by simp [cat, cat_app l m]

theorem cat_one (r : List Int) : cat [r] = frm r := by simp [cat]

theorem cat_len : ∀ l : List (List Int), l.length ≤ (cat l).length
  | [] => Nat.zero_le _
  | r :: l => by
    have := cat_len l
    have := frm_pos r
    simp [cat]
    omega

/-- What Scan answers: whole frames one behind the other, and none behind them. -/
def Sc (bs : List Int) (l : List (List Int)) : Prop :=
  (∀ r ∈ l, r.length ≤ 131072) ∧ cat l <+: bs ∧ ∀ s : List Int, s.length ≤ 131072 → ¬ frm s <+: bs.drop (cat l).length

theorem drop_pre {a b c : List Int} (h : a ++ b <+: c) : b <+: c.drop a.length := by
  obtain ⟨t, ht⟩ := h
  rw [← ht, List.append_assoc, List.drop_left]
  exact List.prefix_append _ _

theorem pre_drop {a b c : List Int} (h : a <+: c) (h' : b <+: c.drop a.length) : a ++ b <+: c := by
  obtain ⟨t, rfl⟩ := h
  rw [List.drop_left] at h'
  obtain ⟨u, rfl⟩ := h'
  exact ⟨u, by rw [List.append_assoc]⟩

theorem sc_tail {bs r : List Int} {l : List (List Int)} (h : Sc bs (r :: l)) : r.length ≤ 131072 ∧ frm r <+: bs ∧ Sc (bs.drop (frm r).length) l := by
  obtain ⟨h1, h2, h3⟩ := h
  refine ⟨h1 r (by simp), (List.prefix_append _ _).trans h2, fun s hs => h1 s (by simp [hs]), drop_pre h2, fun s hs => ?_⟩
  rw [List.drop_drop, ← List.length_append]
  exact h3 s hs

theorem sc_one : ∀ {l m : List (List Int)} {bs : List Int}, Sc bs l → Sc bs m → l = m
  | [], [], _, _, _ => rfl
  | [], r :: m, bs, h, h' => by
    obtain ⟨h1, h2, _⟩ := sc_tail h'
    exact absurd h2 (by simpa [cat] using h.2.2 r h1)
  | r :: l, [], bs, h, h' => by
    obtain ⟨h1, h2, _⟩ := sc_tail h
    exact absurd h2 (by simpa [cat] using h'.2.2 r h1)
  | r :: l, s :: m, bs, h, h' => by
    obtain ⟨_, h2, h3⟩ := sc_tail h
    obtain ⟨_, g2, g3⟩ := sc_tail h'
    have e := frm_one h2 g2
    subst e
    rw [sc_one h3 g3]

theorem sc_is (bs : List Int) : ∃ l, Sc bs l := by
  suffices h : ∀ n (bs : List Int), bs.length ≤ n → ∃ l, Sc bs l from h _ bs (Nat.le_refl _)
  intro n
  induction n with
  | zero =>
    intro bs hb
    refine ⟨[], by simp, by simp [cat], fun s _ h => ?_⟩
    have h1 := h.length_le
    have h2 := frm_pos s
    rw [List.length_drop] at h1
    omega
  | succ n ih =>
    intro bs hb
    by_cases h : ∃ s : List Int, s.length ≤ 131072 ∧ frm s <+: bs
    · obtain ⟨s, h1, h2⟩ := h
      have hp := frm_pos s
      obtain ⟨l, g1, g2, g3⟩ := ih (bs.drop (frm s).length) (by rw [List.length_drop]; omega)
      refine ⟨s :: l, ?_, pre_drop h2 g2, fun t ht => ?_⟩
      · intro r hr
        rcases List.mem_cons.1 hr with rfl | hr
        · exact h1
        · exact g1 r hr
      · have := g3 t ht
        rw [List.drop_drop, ← List.length_append] at this
        exact this
    · exact ⟨[], by simp, by simp [cat], fun s h1 h2 => h ⟨s, h1, by simpa [cat] using h2⟩⟩

/-- One frame more. -/
theorem sc_next {bs r : List Int} {l : List (List Int)} (h : cat l <+: bs) (h' : frm r <+: bs.drop (cat l).length) : cat (l ++ [r]) <+: bs ∧ (cat (l ++ [r])).length = (cat l).length + (Vm.sz r.length + r.length) := by
  rw [cat_app, cat_one]
  exact ⟨pre_drop h h', by rw [List.length_append, frm_len]⟩

/-- Where the frames begin. -/
def plc (a : Nat) : List (List Int) → List Nat
  | [] => []
  | r :: l => a :: plc (a + (Vm.sz r.length + r.length)) l

theorem plc_len : ∀ (l : List (List Int)) (a : Nat), (plc a l).length = l.length
  | [], _ => rfl
  | r :: l, a => by simp [plc, plc_len l]

theorem plc_at : ∀ (l : List (List Int)) (a k : Nat), k < l.length → (plc a l)[k]? = some (a + (cat (l.take k)).length)
  | [], _, _, h => by simp at h
  | r :: l, a, 0, _ => by simp [plc, cat]
  | r :: l, a, k + 1, h => by
    simp only [plc, List.getElem?_cons_succ, List.take_succ_cons, cat, List.length_append]
    rw [plc_at l _ k (by simpa using h), frm_len]
    congr 1
    omega

theorem plc_snoc : ∀ (l : List (List Int)) (r : List Int) (a : Nat), plc a (l ++ [r]) = plc a l ++ [a + (cat l).length]
  | [], r, a => by simp [plc, cat]
  | s :: l, r, a => by
    simp only [List.cons_append, plc, plc_snoc l, cat, List.length_append, frm_len]
    rw [Nat.add_assoc a]

theorem cat_take_le (l : List (List Int)) (k : Nat) : (cat (l.take k)).length ≤ (cat l).length := by
  have : cat l = cat (l.take k) ++ cat (l.drop k) := by rw [← cat_app, List.take_append_drop]
  rw [this, List.length_append]
  omega

/-- A first part of frames: those that lie in it whole are what Scan answers. -/
theorem sc_cut : ∀ {l : List (List Int)} {k n : Nat}, (∀ r ∈ l, r.length ≤ 131072) → n ≤ l.length → (cat (l.take n)).length ≤ k → (n < l.length → k < (cat (l.take (n + 1))).length) → k ≤ (cat l).length → Sc ((cat l).take k) (l.take n) := by
  intro l k n hw hn hk hk' hkl
  have e1 : cat l = cat (l.take n) ++ cat (l.drop n) := by rw [← cat_app, List.take_append_drop]
  have e2 : (cat l).take k = cat (l.take n) ++ (cat (l.drop n)).take (k - (cat (l.take n)).length) := by
    rw [e1, List.take_append]
    rw [List.take_of_length_le hk]
  refine ⟨fun r hr => hw r (List.mem_of_mem_take hr), by rw [e2]; exact List.prefix_append _ _, fun s hs h => ?_⟩
  rw [e2, List.drop_left] at h
  by_cases hlt : n < l.length
  · have hd : l.drop n = l[n] :: l.drop (n + 1) := List.drop_eq_getElem_cons hlt
    have h2 := h.trans (List.take_prefix _ _)
    rw [hd, cat] at h2
    have e3 : s = l[n] := frm_one h2 (List.prefix_append _ _)
    have h3 := h.length_le
    rw [List.length_take] at h3
    have h4 := hk' hlt
    rw [List.take_succ_eq_append_getElem hlt, cat_app, cat_one, List.length_append, ← e3] at h4
    omega
  · have hd : l.drop n = [] := List.drop_eq_nil_of_le (by omega)
    rw [hd, cat, List.take_nil] at h
    have h1 := h.length_le
    have h2 := frm_pos s
    rw [List.length_nil] at h1
    omega

theorem sc_all {l : List (List Int)} (hw : ∀ r ∈ l, r.length ≤ 131072) : Sc (cat l) l := by
  refine ⟨hw, List.prefix_refl _, fun s hs h => ?_⟩
  rw [List.drop_length] at h
  have h1 := h.length_le
  have h2 := frm_pos s
  rw [List.length_nil] at h1
  omega

end Fm
end Go.Proofs.Ytfnaeblbodfekaa

/- Pages as numbers: which may be, their bytes, what Decode answers, what Last answers. No program. -/
namespace Go.Proofs.Ytfnaeblbodfekaa
set_option linter.unusedVariables false
namespace Pm

/-- A page: epoch, role, acked, phase, fork, base. -/
structure Pg where
  e : Int
  r : Int
  a : Int
  p : Int
  f : Int
  b : Int

theorem Pg.eq {x y : Pg} (h1 : x.e = y.e) (h2 : x.r = y.r) (h3 : x.a = y.a) (h4 : x.p = y.p) (h5 : x.f = y.f) (h6 : x.b = y.b) : x = y := by
  cases x; cases y; simp at *; exact ⟨h1, h2, h3, h4, h5, h6⟩

/-- Nothing in it. -/
def no : Pg := ⟨0, 0, 0, 0, 0, 0⟩

/-- The numbers lie where a page's may. -/
abbrev Bnd (x : Pg) : Prop := 1 ≤ x.e ∧ x.e ≤ 1048576 ∧ 0 ≤ x.a ∧ x.a ≤ 1048576 ∧ 0 ≤ x.f ∧ x.f ≤ 1048576 ∧ 0 ≤ x.b ∧ x.b ≤ 1073741824

/-- Role and phase go together, and what such a page does not have is 0. -/
abbrev Own (x : Pg) : Prop :=
  (x.r = 1 ∧ x.p = 0 ∧ x.f = 0 ∧ x.b = 0) ∨ (x.r = 2 ∧ x.a = 0 ∧ x.p = 0 ∧ x.f = 0 ∧ x.b = 0) ∨ (x.r = 3 ∧ x.a = 0 ∧ x.p = 1 ∧ x.f = 0 ∧ x.b = 0) ∨ (x.r = 3 ∧ x.a = 0 ∧ 2 ≤ x.p ∧ x.p ≤ 4)

/-- A page that may be. -/
abbrev Ok (x : Pg) : Prop := Bnd x ∧ Own x

/-- Check. -/
def chk (x : Pg) : Int := if Ok x then 0 else 2

theorem chk_ok {x : Pg} (h : Ok x) : chk x = 0 := if_pos h
theorem chk_no {x : Pg} (h : ¬ Ok x) : chk x = 2 := if_neg h
theorem chk_iff {x : Pg} : chk x = 0 ↔ Ok x := by
  by_cases h : Ok x
  · exact ⟨fun _ => h, fun _ => chk_ok h⟩
  · exact ⟨fun k => by rw [chk_no h] at k; exact absurd k (by decide), fun k => absurd k h⟩

/-- Each number of a page that may be. -/
theorem ok_nums {x : Pg} (h : Ok x) : 1 ≤ x.e ∧ x.e ≤ 1048576 ∧ 1 ≤ x.r ∧ x.r ≤ 3 ∧ 0 ≤ x.a ∧ x.a ≤ 1048576 ∧ 0 ≤ x.p ∧ x.p ≤ 4 ∧ 0 ≤ x.f ∧ x.f ≤ 1048576 ∧ 0 ≤ x.b ∧ x.b ≤ 1073741824 := by
  obtain ⟨⟨h1, h2, h3, h4, h5, h6, h7, h8⟩, h9⟩ := h
  unfold Own at h9
  omega

theorem not_no : ¬ Ok no := fun h => by have := (ok_nums h).1; simp [no] at this

/-- The numbers, in the order of their bytes. -/
def nums (x : Pg) : List Int := [x.e, x.r, x.a, x.p, x.f, x.b]

/-- Numbers' bytes, one behind the other. -/
def encs : List Int → List Int
  | [] => []
  | z :: l => Vm.enc z.toNat ++ encs l

theorem encs_app : ∀ l m : List Int, encs (l ++ m) = encs l ++ encs m
  | [], m => rfl
  | z :: l, m => by simp [encs, encs_app l m]

/-- A page's bytes. -/
def enc (x : Pg) : List Int := encs (nums x)

theorem encs_pre : ∀ {l m : List Int} {bs : List Int}, l.length = m.length → (∀ z ∈ l, 0 ≤ z) → (∀ z ∈ m, 0 ≤ z) → encs l <+: bs → encs m <+: bs → l = m
  | [], [], _, _, _, _, _, _ => rfl
  | [], _ :: _, _, h, _, _, _, _ => by simp at h
  | _ :: _, [], _, h, _, _, _, _ => by simp at h
  | x :: l, y :: m, bs, h, hx, hy, h1, h2 => by
    have e := Vm.pre_one bs _ _ ((List.prefix_append _ _).trans h1) ((List.prefix_append _ _).trans h2)
    have ex : x = y := by
      have := hx x (by simp)
      have := hy y (by simp)
      omega
    subst ex
    have := encs_pre (by simpa using h) (fun z hz => hx z (by simp [hz])) (fun z hz => hy z (by simp [hz])) (Fm.drop_pre h1) (Fm.drop_pre h2)
    rw [this]

theorem nums_pos {x : Pg} (h : Ok x) : ∀ z ∈ nums x, 0 ≤ z := by
  have := ok_nums h
  intro z hz
  simp [nums] at hz
  omega

theorem nums_one {x y : Pg} (h : nums x = nums y) : x = y := by
  unfold nums at h
  simp at h
  exact Pg.eq h.1 h.2.1 h.2.2.1 h.2.2.2.1 h.2.2.2.2.1 h.2.2.2.2.2

/-- Two pages whose bytes begin one list are one. -/
theorem enc_pre {x y : Pg} {bs : List Int} (h : Ok x) (h' : Ok y) (h1 : enc x <+: bs) (h2 : enc y <+: bs) : x = y :=
  nums_one (encs_pre rfl (nums_pos h) (nums_pos h') h1 h2)

theorem encs_len : ∀ {l : List Int}, (∀ z ∈ l, z < 18446744073709551616) → (encs l).length ≤ 10 * l.length ∧ l.length ≤ (encs l).length
  | [], _ => by simp [encs]
  | z :: l, h => by
    have h1 := encs_len (l := l) (fun y hy => h y (by simp [hy]))
    have h2 := h z (by simp)
    have h3 := Vm.sz_le10 (x := z.toNat) (by omega)
    have h4 := Vm.sz_pos z.toNat
    unfold Vm.sz at h3 h4
    simp [encs]
    omega

theorem enc_len {x : Pg} (h : Ok x) : (enc x).length ≤ 60 := by
  have := ok_nums h
  have := (encs_len (l := nums x) (fun z hz => by simp [nums] at hz; omega)).1
  exact this

/-- Two pages are one just where the shorter's bytes begin the other's. -/
theorem enc_cut {x y : Pg} (h : Ok x) (h' : Ok y) : (x = y) ↔ (enc x).take (min (enc x).length (enc y).length) = (enc y).take (min (enc x).length (enc y).length) := by
  constructor
  · rintro rfl; rfl
  · intro g
    by_cases hl : (enc x).length ≤ (enc y).length
    · rw [Nat.min_eq_left hl, List.take_length] at g
      exact enc_pre h h' (bs := enc y) (by rw [g]; exact List.take_prefix _ _) (List.prefix_refl _)
    · rw [Nat.min_eq_right (by omega), List.take_length] at g
      exact enc_pre h h' (bs := enc x) (List.prefix_refl _) (by rw [← g]; exact List.take_prefix _ _)

/-- What Decode answers. -/
def Dc (bs : List Int) (x : Pg) (e : Int) : Prop :=
  (e = 0 ∧ Ok x ∧ bs = enc x) ∨ (e = 5 ∧ x = no ∧ ∀ y, Ok y → bs ≠ enc y)

theorem dc_one {bs : List Int} {x y : Pg} {e f : Int} (h : Dc bs x e) (h' : Dc bs y f) : x = y ∧ e = f := by
  rcases h with ⟨rfl, h1, h2⟩ | ⟨rfl, rfl, h2⟩ <;> rcases h' with ⟨rfl, g1, g2⟩ | ⟨rfl, rfl, g2⟩
  · exact ⟨enc_pre h1 g1 (bs := bs) (by rw [h2]; exact List.prefix_refl _) (by rw [g2]; exact List.prefix_refl _), rfl⟩
  · exact absurd h2 (g2 x h1)
  · exact absurd g2 (h2 y g1)
  · exact ⟨rfl, rfl⟩

theorem dc_enc {x : Pg} (h : Ok x) : Dc (enc x) x 0 := .inl ⟨rfl, h, rfl⟩

/-- Numbers that stand one behind the other at the front: none of them above its own greatest. -/
def Run (bs : List Int) (l : List Int) : Prop := encs l <+: bs

/-- Behind some numbers: the next is none that a page has. -/
theorem dc_stop {bs l : List Int} {k : Nat} {m : Nat} (hk : k < 6) (hl : l.length = k) (hp : ∀ z ∈ l, 0 ≤ z) (h : encs l <+: bs) (hm : ∀ x : Pg, Ok x → (nums x).getD k 0 ≤ m)
    (hn : ∀ u : Nat, u ≤ m → ¬ Vm.enc u <+: bs.drop (encs l).length) : Dc bs no 5 := by
  refine .inr ⟨rfl, rfl, fun y hy e => ?_⟩
  have hlen : (nums y).length = 6 := rfl
  have es : nums y = (nums y).take k ++ ((nums y).getD k 0 :: (nums y).drop (k + 1)) := by
    have h1 : k < (nums y).length := by omega
    rw [List.getD_eq_getElem?_getD, List.getElem?_eq_getElem h1, Option.getD_some, ← List.drop_eq_getElem_cons h1, List.take_append_drop]
  have hpy := nums_pos hy
  have h1 : encs ((nums y).take k) <+: bs := by
    rw [e]
    unfold enc
    have : nums y = (nums y).take k ++ (nums y).drop k := (List.take_append_drop _ _).symm
    conv => rhs; rw [this, encs_app]
    exact List.prefix_append _ _
  have h2 : l = (nums y).take k := encs_pre (by rw [List.length_take]; omega) hp (fun z hz => hpy z (List.mem_of_mem_take hz)) h h1
  have h3 := hm y hy
  have h4 : 0 ≤ (nums y).getD k 0 := by
    have h1 : k < (nums y).length := by omega
    rw [List.getD_eq_getElem?_getD, List.getElem?_eq_getElem h1, Option.getD_some]
    exact hpy _ (List.getElem_mem h1)
  refine hn ((nums y).getD k 0).toNat (by omega) ?_
  have h5 : bs = encs l ++ (Vm.enc ((nums y).getD k 0).toNat ++ encs ((nums y).drop (k + 1))) := by
    rw [e]
    unfold enc
    conv => lhs; rw [es, encs_app, ← h2]
    rfl
  rw [h5, List.drop_left]
  exact List.prefix_append _ _

/-- All six stand there: a page where it may be and nothing is behind. -/
theorem dc_six {bs : List Int} {x : Pg} (hp : ∀ z ∈ nums x, 0 ≤ z) (h : enc x <+: bs) : (Ok x → (enc x).length = bs.length → Dc bs x 0) ∧ ((¬ Ok x ∨ (enc x).length ≠ bs.length) → Dc bs no 5) := by
  refine ⟨fun h1 h2 => .inl ⟨rfl, h1, (h.eq_of_length h2).symm⟩, fun h1 => .inr ⟨rfl, rfl, fun y hy e => ?_⟩⟩
  have : nums x = nums y := encs_pre rfl hp (nums_pos hy) (bs := bs) h (by rw [e]; exact List.prefix_refl _)
  have := nums_one this
  subst this
  rcases h1 with h1 | h1
  · exact h1 hy
  · exact h1 (by rw [e])

/-- What Last answers, z being the first page. -/
def Ls (bs : List Int) (z x : Pg) (n : Nat) : Prop :=
  ∃ l : List Pg, (∀ y ∈ l, Ok y) ∧ Fm.cat (l.map enc) <+: bs ∧ n = (Fm.cat (l.map enc)).length ∧ x = l.getLast?.getD z ∧ ∀ y, Ok y → ¬ Fm.frm (enc y) <+: bs.drop n

theorem ls_list : ∀ {l m : List Pg} {bs : List Int}, (∀ y ∈ l, Ok y) → (∀ y ∈ m, Ok y) → Fm.cat (l.map enc) <+: bs → Fm.cat (m.map enc) <+: bs →
    (∀ y, Ok y → ¬ Fm.frm (enc y) <+: bs.drop (Fm.cat (l.map enc)).length) → (∀ y, Ok y → ¬ Fm.frm (enc y) <+: bs.drop (Fm.cat (m.map enc)).length) → l = m
  | [], [], _, _, _, _, _, _, _ => rfl
  | [], y :: m, bs, h1, h2, h3, h4, h5, h6 => by
    have := h5 y (h2 y (by simp))
    simp [Fm.cat] at this
    exact absurd ((List.prefix_append _ _).trans h4) this
  | x :: l, [], bs, h1, h2, h3, h4, h5, h6 => by
    have := h6 x (h1 x (by simp))
    simp [Fm.cat] at this
    exact absurd ((List.prefix_append _ _).trans h3) this
  | x :: l, y :: m, bs, h1, h2, h3, h4, h5, h6 => by
    have e := Fm.frm_one ((List.prefix_append _ _).trans h3) ((List.prefix_append _ _).trans h4)
    have ox := h1 x (by simp)
    have oy := h2 y (by simp)
    have ex : x = y := enc_pre ox oy (bs := enc y) (by rw [e]; exact List.prefix_refl _) (List.prefix_refl _)
    subst ex
    have := ls_list (l := l) (m := m) (bs := bs.drop (Fm.frm (enc x)).length) (fun z hz => h1 z (by simp [hz])) (fun z hz => h2 z (by simp [hz])) (Fm.drop_pre h3) (Fm.drop_pre h4)
      (fun z hz => by have := h5 z hz; simp only [List.map_cons, Fm.cat, List.length_append] at this; rw [List.drop_drop]; exact this)
      (fun z hz => by have := h6 z hz; simp only [List.map_cons, Fm.cat, List.length_append] at this; rw [List.drop_drop]; exact this)
    rw [this]

theorem ls_one {bs : List Int} {z x y : Pg} {n m : Nat} (h : Ls bs z x n) (h' : Ls bs z y m) : x = y ∧ n = m := by
  obtain ⟨l, h1, h2, h3, h4, h5⟩ := h
  obtain ⟨k, g1, g2, g3, g4, g5⟩ := h'
  have : l = k := ls_list h1 g1 h2 g2 (by rw [← h3]; exact h5) (by rw [← g3]; exact g5)
  subst this
  exact ⟨h4.trans g4.symm, h3.trans g3.symm⟩

/-- Going on: pages so far, the last of them, where their frames end. -/
def Go (bs : List Int) (z x : Pg) (n : Nat) : Prop :=
  ∃ l : List Pg, (∀ y ∈ l, Ok y) ∧ Fm.cat (l.map enc) <+: bs ∧ n = (Fm.cat (l.map enc)).length ∧ x = l.getLast?.getD z

theorem go_start (bs : List Int) (z : Pg) : Go bs z z 0 := ⟨[], by simp, by simp [Fm.cat], by simp [Fm.cat], rfl⟩

theorem go_le {bs : List Int} {z x : Pg} {n : Nat} (h : Go bs z x n) : n ≤ bs.length := by
  obtain ⟨l, h1, h2, h3, h4⟩ := h
  rw [h3]
  exact h2.length_le

theorem go_next {bs r : List Int} {z x y : Pg} {n m : Nat} (h : Go bs z x n) (hr : Fm.Rd (bs.drop n) r m 0) (hd : Dc r y 0) : Go bs z y (n + m) ∧ 1 ≤ m := by
  obtain ⟨l, h1, h2, h3, h4⟩ := h
  rcases hr with ⟨_, g1, g2, g3⟩ | ⟨h0, _⟩
  · rcases hd with ⟨_, k1, k2⟩ | ⟨h0, _⟩
    · subst h3 k2
      obtain ⟨e1, e2⟩ := Fm.sc_next h2 g3
      refine ⟨⟨l ++ [y], ?_, by simpa using e1, by rw [List.map_append, List.map_cons, List.map_nil, e2, g2], by simp⟩, ?_⟩
      · intro q hq
        rcases List.mem_append.1 hq with hq | hq
        · exact h1 q hq
        · simp at hq; subst hq; exact k1
      · have := Vm.sz_pos (enc y).length
        omega
    · cases h0
  · cases h0

theorem go_stop {bs r : List Int} {z x : Pg} {n m : Nat} (h : Go bs z x n) (hr : Fm.Rd (bs.drop n) r m 5) : Ls bs z x n := by
  obtain ⟨l, h1, h2, h3, h4⟩ := h
  refine ⟨l, h1, h2, h3, h4, fun y hy => ?_⟩
  rcases hr with ⟨h0, _⟩ | ⟨_, _, _, h5⟩
  · cases h0
  · exact h5 _ (by have := enc_len hy; omega)

theorem go_else {bs r : List Int} {z x y : Pg} {n m : Nat} (h : Go bs z x n) (hr : Fm.Rd (bs.drop n) r m 0) (hd : Dc r y 5) : Ls bs z x n := by
  obtain ⟨l, h1, h2, h3, h4⟩ := h
  refine ⟨l, h1, h2, h3, h4, fun q hq hp => ?_⟩
  rcases hr with ⟨_, _, _, g3⟩ | ⟨h0, _⟩
  · rcases hd with ⟨h0, _⟩ | ⟨_, _, k2⟩
    · cases h0
    · exact k2 q hq (Fm.frm_one g3 hp)
  · cases h0

/-- A first part of pages' frames: those that lie in it whole. -/
theorem ls_cut {l : List Pg} {z : Pg} {k n : Nat} (hw : ∀ y ∈ l, Ok y) (hn : n ≤ l.length) (hk : (Fm.cat ((l.take n).map enc)).length ≤ k) (hk' : n < l.length → k < (Fm.cat ((l.take (n + 1)).map enc)).length) (hkl : k ≤ (Fm.cat (l.map enc)).length) :
    Ls ((Fm.cat (l.map enc)).take k) z ((l.take n).getLast?.getD z) (Fm.cat ((l.take n).map enc)).length := by
  have := Fm.sc_cut (l := l.map enc) (k := k) (n := n) (by
    intro r hr
    obtain ⟨y, hy, rfl⟩ := List.mem_map.1 hr
    have := enc_len (hw y hy)
    omega) (by simpa using hn) (by rw [← List.map_take]; exact hk) (by intro h; rw [← List.map_take]; exact hk' (by simpa using h)) hkl
  obtain ⟨_, h2, h3⟩ := this
  rw [← List.map_take] at h2 h3
  exact ⟨l.take n, fun y hy => hw y (List.mem_of_mem_take hy), h2, rfl, rfl, fun y hy => h3 _ (by have := enc_len hy; omega)⟩

end Pm
end Go.Proofs.Ytfnaeblbodfekaa

/- Messages, by mathematics: which may be, their bytes, what Decode answers. No program. -/
namespace Go.Proofs.Ytfnaeblbodfekaa.Mm
set_option linter.unusedVariables false

/-- A message: kind, epoch, role, end, starts, from, prev, commits. -/
structure Msg where
  k : Int
  e : Int
  r : Int
  n : Int
  ss : List Sm.S
  f : Int
  p : Int
  cs : List Cm.Cv

/-- Nothing in it. -/
def no : Msg := ⟨0, 0, 0, 0, [], 0, 0, []⟩

def Hel (m : Msg) : Prop := 1 ≤ m.r ∧ m.r ≤ 3 ∧ Sm.Ok m.ss m.n ∧ Sm.lst m.ss ≤ m.e ∧ m.f = 0 ∧ m.p = 0 ∧ m.cs = []
def Shp (m : Msg) : Prop := 1 ≤ m.f ∧ m.f ≤ 1048576 ∧ 0 ≤ m.p ∧ m.p ≤ m.e ∧ (m.p = 0 ↔ m.f = 1) ∧ m.cs.length ≤ 4 ∧ (∀ c ∈ m.cs, c.e ≤ m.e) ∧ Cm.Good m.p (m.f - 1) m.cs ∧ m.r = 0 ∧ m.n = 0 ∧ m.ss = []
def Ack (m : Msg) : Prop := 0 ≤ m.n ∧ m.n ≤ 1048576 ∧ m.r = 0 ∧ m.ss = [] ∧ m.f = 0 ∧ m.p = 0 ∧ m.cs = []

/-- A message that may be. -/
def Ok (m : Msg) : Prop := 1 ≤ m.e ∧ m.e ≤ 1048576 ∧ ((m.k = 1 ∧ Hel m) ∨ (m.k = 2 ∧ Shp m) ∨ (m.k = 3 ∧ Ack m))

/-- What Check answers. -/
def Ck (m : Msg) (c : Int) : Prop := (c = 0 ∧ Ok m) ∨ (c = 2 ∧ ¬ Ok m)

theorem ck_one {m : Msg} {c d : Int} (h : Ck m c) (h' : Ck m d) : c = d := by
  rcases h with ⟨rfl, h⟩ | ⟨rfl, h⟩ <;> rcases h' with ⟨rfl, g⟩ | ⟨rfl, g⟩
  · rfl
  · exact absurd h g
  · exact absurd g h
  · rfl

theorem not_no : ¬ Ok no := fun h => by have := h.1; simp [no] at this

/-- Starts as numbers. -/
def fl : List Sm.S → List Int
  | [] => []
  | s :: l => s.1 :: s.2 :: fl l

theorem fl_len : ∀ l : List Sm.S, (fl l).length = 2 * l.length
  | [] => rfl
  | s :: l => by simp [fl, fl_len l]; omega

theorem fl_app : ∀ l m : List Sm.S, fl (l ++ m) = fl l ++ fl m
  | [], m => rfl
  | s :: l, m => by simp [fl, fl_app l m]

theorem fl_one : ∀ {l m : List Sm.S}, fl l = fl m → l = m
  | [], [], _ => rfl
  | [], _ :: _, h => by simp [fl] at h
  | _ :: _, [], h => by simp [fl] at h
  | (a, b) :: l, (c, d) :: m, h => by
    simp [fl] at h
    obtain ⟨rfl, rfl, h⟩ := h
    rw [fl_one h]

/-- The numbers ahead of a message's commits. -/
def hd (m : Msg) : List Int :=
  if m.k = 1 then [m.k, m.e, m.r, m.n, (m.ss.length : Int)] ++ fl m.ss else if m.k = 2 then [m.k, m.e, m.f, m.p, (m.cs.length : Int)] else [m.k, m.e, m.n]

theorem hd_1 {m : Msg} (h : m.k = 1) : hd m = [m.k, m.e, m.r, m.n, (m.ss.length : Int)] ++ fl m.ss := by unfold hd; rw [if_pos h]
theorem hd_2 {m : Msg} (h : m.k = 2) : hd m = [m.k, m.e, m.f, m.p, (m.cs.length : Int)] := by unfold hd; rw [if_neg (by omega), if_pos h]
theorem hd_3 {m : Msg} (h : m.k = 3) : hd m = [m.k, m.e, m.n] := by unfold hd; rw [if_neg (by omega), if_neg (by omega)]

/-- A commit's bytes. -/
def cb (c : Cm.Cv) : List Int := Cm.encC c.e c.n c.l

/-- A message's bytes. -/
def enc (m : Msg) : List Int := Pm.encs (hd m) ++ Fm.cat (m.cs.map cb)

theorem encs_nil {l : List Int} (h : Pm.encs l <+: []) : l = [] := by
  cases l with
  | nil => rfl
  | cons x l => exact absurd ((List.prefix_append _ _).trans h) (Vm.pre_nil _)

/-- Numbers whose bytes begin other numbers' bytes begin these. -/
theorem encs_pfx : ∀ {l L : List Int}, (∀ z ∈ l, 0 ≤ z) → (∀ z ∈ L, 0 ≤ z) → Pm.encs l <+: Pm.encs L → l <+: L
  | [], L, _, _, _ => List.nil_prefix
  | x :: l, [], _, _, h => by have := encs_nil h; cases this
  | x :: l, y :: L, hx, hy, h => by
    have h2 : Vm.enc x.toNat <+: Pm.encs (y :: L) := (List.prefix_append _ _).trans h
    have e := Vm.pre_one _ _ _ h2 (List.prefix_append _ _)
    have ex : x = y := by
      have := hx x (by simp)
      have := hy y (by simp)
      omega
    subst ex
    have h3 : Pm.encs l <+: Pm.encs L := by
      have := Fm.drop_pre (a := Vm.enc x.toNat) (b := Pm.encs l) h
      simpa [Pm.encs] using this
    have := encs_pfx (fun z hz => hx z (by simp [hz])) (fun z hz => hy z (by simp [hz])) h3
    exact (List.cons_prefix_cons).2 ⟨rfl, this⟩

theorem encs_both {l L bs : List Int} (hl : ∀ z ∈ l, 0 ≤ z) (hL : ∀ z ∈ L, 0 ≤ z) (h : Pm.encs l <+: bs) (h' : Pm.encs L <+: bs) : l <+: L ∨ L <+: l := by
  rcases List.prefix_or_prefix_of_prefix h h' with g | g
  · exact .inl (encs_pfx hl hL g)
  · exact .inr (encs_pfx hL hl g)

/-- A start's numbers lie within their bounds. -/
theorem up_bounds : ∀ (l : List Sm.S) (en e f : Int), 0 ≤ e → 0 ≤ f → en ≤ 1048576 → Sm.Up en e f l → ∀ z ∈ fl l, 0 ≤ z ∧ z ≤ 1048576
  | [], _, _, _, _, _, _, _, z, hz => by simp [fl] at hz
  | (a, b) :: l, en, e, f, he, hf, hen, ⟨h1, h2, h3, h4, h5⟩, z, hz => by
    simp [fl] at hz
    simp at h1 h2 h3 h4
    rcases hz with rfl | rfl | hz
    · omega
    · omega
    · exact up_bounds l en a b (by omega) (by omega) hen h5 z hz

theorem up_len : ∀ (l : List Sm.S) (en e f : Int), 0 ≤ f → Sm.Up en e f l → (l.length : Int) ≤ max 0 (en - f)
  | [], _, _, _, _, _ => by simp; omega
  | (a, b) :: l, en, e, f, hf, ⟨h1, h2, h3, h4, h5⟩ => by
    have := up_len l en a b (by simp at h3; omega) h5
    simp at h3 h4 ⊢
    omega

/-- What the numbers of a message that may be are. -/
theorem hd_ok {m : Msg} (h : Ok m) : (∀ z ∈ hd m, 0 ≤ z ∧ z ≤ 1048576) ∧ 3 ≤ (hd m).length ∧ (hd m).getD 0 0 = m.k ∧ (hd m).getD 1 0 = m.e ∧ 1 ≤ m.k ∧ m.k ≤ 3 ∧
    (m.k = 1 → 5 ≤ (hd m).length ∧ (hd m).getD 2 0 = m.r ∧ m.r ≤ 3 ∧ (hd m).getD 3 0 = m.n ∧ (hd m).getD 4 0 = (m.ss.length : Int) ∧ (hd m).length = 5 + 2 * m.ss.length) ∧
    (m.k = 2 → (hd m).length = 5 ∧ (hd m).getD 2 0 = m.f ∧ (hd m).getD 3 0 = m.p ∧ (hd m).getD 4 0 = (m.cs.length : Int) ∧ m.cs.length ≤ 4) ∧
    (m.k = 3 → (hd m).length = 3 ∧ (hd m).getD 2 0 = m.n) := by
  obtain ⟨e1, e2, hk⟩ := h
  rcases hk with ⟨k1, h1, h2, ⟨o1, o2, o3, o4, o5⟩, h4, h5, h6, h7⟩ | ⟨k2, h1, h2, h3, h4, h5, h6, h7, h8, h9, h10, h11⟩ | ⟨k3, h1, h2, h3, h4, h5, h6, h7⟩
  · rw [hd_1 k1]
    have hln := up_len m.ss m.n 0 0 (by omega) o4
    refine ⟨fun z hz => ?_, by simp, by simp, by simp, by omega, by omega, fun _ => ⟨by simp, by simp, h2, by simp, by simp, by simp [fl_len]; omega⟩, fun h => by omega, fun h => by omega⟩
    rcases List.mem_append.1 hz with hz | hz
    · simp at hz
      rcases hz with rfl | rfl | rfl | rfl | rfl <;> omega
    · exact up_bounds m.ss m.n 0 0 (by omega) (by omega) o2 o4 z hz
  · rw [hd_2 k2]
    refine ⟨fun z hz => ?_, by simp, by simp, by simp, by omega, by omega, fun h => by omega, fun _ => ⟨by simp, by simp, by simp, by simp, h6⟩, fun h => by omega⟩
    simp at hz
    rcases hz with rfl | rfl | rfl | rfl | rfl <;> omega
  · rw [hd_3 k3]
    refine ⟨fun z hz => ?_, by simp, by simp, by simp, by omega, by omega, fun h => by omega, fun h => by omega, fun _ => ⟨by simp, by simp⟩⟩
    simp at hz
    rcases hz with rfl | rfl | rfl <;> omega

theorem hd_pos {m : Msg} (h : Ok m) : ∀ z ∈ hd m, 0 ≤ z := fun z hz => ((hd_ok h).1 z hz).1

theorem pfx_at {l L : List Int} (h : l <+: L) {i : Nat} (hi : i < l.length) : L.getD i 0 = l.getD i 0 := by
  obtain ⟨t, rfl⟩ := h
  simp [List.getD_eq_getElem?_getD, List.getElem?_append_left hi]

/-- No message's numbers begin another's. -/
theorem hd_free {m m' : Msg} (h : Ok m) (h' : Ok m') (hp : hd m <+: hd m') : hd m = hd m' := by
  obtain ⟨_, a1, a2, a3, a4, a5, a6, a7, a8⟩ := hd_ok h
  obtain ⟨_, b1, b2, b3, b4, b5, b6, b7, b8⟩ := hd_ok h'
  have e0 := pfx_at hp (i := 0) (by omega)
  rw [a2, b2] at e0
  refine hp.eq_of_length ?_
  have : m.k = 1 ∨ m.k = 2 ∨ m.k = 3 := by omega
  rcases this with k | k | k
  · have a := a6 k
    have b := b6 (by omega)
    have e4 := pfx_at hp (i := 4) (by omega)
    rw [a.2.2.2.2.1, b.2.2.2.2.1] at e4
    omega
  · have a := a7 k
    have b := b7 (by omega)
    omega
  · have a := a8 k
    have b := b8 (by omega)
    omega

theorem cat_one' : ∀ {l m : List (List Int)} {bs : List Int}, l.length = m.length → Fm.cat l <+: bs → Fm.cat m <+: bs → l = m
  | [], [], _, _, _, _ => rfl
  | [], _ :: _, _, h, _, _ => by simp at h
  | _ :: _, [], _, h, _, _ => by simp at h
  | x :: l, y :: m, bs, h, h1, h2 => by
    have e := Fm.frm_one ((List.prefix_append _ _).trans h1) ((List.prefix_append _ _).trans h2)
    subst e
    rw [cat_one' (by simpa using h) (Fm.drop_pre h1) (Fm.drop_pre h2)]

theorem good_chk : ∀ {l : List Cm.Cv} {ep nu : Int}, Cm.Good ep nu l → ∀ c ∈ l, Cm.chk c.e c.n c.l = 0
  | [], _, _, _, c, hc => by simp at hc
  | d :: l, _, _, ⟨h1, _, _, h4⟩, c, hc => by
    rcases List.mem_cons.1 hc with rfl | hc
    · exact h1
    · exact good_chk h4 c hc

theorem cb_one : ∀ {l m : List Cm.Cv}, (∀ c ∈ l, Cm.chk c.e c.n c.l = 0) → (∀ c ∈ m, Cm.chk c.e c.n c.l = 0) → l.map cb = m.map cb → l = m
  | [], [], _, _, _ => rfl
  | [], _ :: _, _, _, h => by simp at h
  | _ :: _, [], _, _, h => by simp at h
  | c :: l, d :: m, h1, h2, h => by
    simp at h
    obtain ⟨e1, e2, e3⟩ := Cm.encC_one (h1 c (by simp)) (h2 d (by simp)) h.1
    have : c = d := by cases c; cases d; simp at e1 e2 e3; simp [e1, e2, e3]
    subst this
    rw [cb_one (fun x hx => h1 x (by simp [hx])) (fun x hx => h2 x (by simp [hx])) h.2]

theorem ok_cs {m : Msg} (h : Ok m) : ∀ c ∈ m.cs, Cm.chk c.e c.n c.l = 0 := by
  rcases h.2.2 with ⟨_, _, _, _, _, _, _, h7⟩ | ⟨_, _, _, _, _, _, _, _, h8, _⟩ | ⟨_, _, _, _, _, _, _, h7⟩
  · rw [h7]; simp
  · exact good_chk h8
  · rw [h7]; simp

/-- Two messages whose bytes begin one list are one. -/
theorem enc_pre {m m' : Msg} {bs : List Int} (h : Ok m) (h' : Ok m') (h1 : enc m <+: bs) (h2 : enc m' <+: bs) : m = m' := by
  have g1 : Pm.encs (hd m) <+: bs := (List.prefix_append _ _).trans h1
  have g2 : Pm.encs (hd m') <+: bs := (List.prefix_append _ _).trans h2
  have e : hd m = hd m' := by
    rcases encs_both (hd_pos h) (hd_pos h') g1 g2 with g | g
    · exact hd_free h h' g
    · exact (hd_free h' h g).symm
  have hcl : m.cs.length = m'.cs.length → m.cs = m'.cs := fun hl => by
    have c1 := Fm.drop_pre h1
    have c2 := Fm.drop_pre h2
    rw [← e] at c2
    exact cb_one (ok_cs h) (ok_cs h') (cat_one' (by simpa using hl) c1 c2)
  obtain ⟨_, _, a2, a3, a4, a5, a6, a7, a8⟩ := hd_ok h
  obtain ⟨_, _, b2, b3, b4, b5, b6, b7, b8⟩ := hd_ok h'
  rw [e] at a2 a3
  have ek : m.k = m'.k := a2.symm.trans b2
  have ee : m.e = m'.e := a3.symm.trans b3
  rcases h.2.2 with ⟨k, hh⟩ | ⟨k, hh⟩ | ⟨k, hh⟩
  · rcases h'.2.2 with ⟨k', gg⟩ | ⟨k', gg⟩ | ⟨k', gg⟩
    · have e2 := e
      rw [hd_1 k, hd_1 k'] at e2
      simp at e2
      have ess := fl_one e2.2.2.2.2.2
      obtain ⟨_, _, _, _, f1, p1, c1⟩ := hh
      obtain ⟨_, _, _, _, f2, p2, c2⟩ := gg
      cases m; cases m'
      simp at *
      exact ⟨ek, ee, e2.2.2.1, e2.2.2.2.1, ess, by omega, by omega, by rw [c1, c2]⟩
    · omega
    · omega
  · rcases h'.2.2 with ⟨k', gg⟩ | ⟨k', gg⟩ | ⟨k', gg⟩
    · omega
    · have e2 := e
      rw [hd_2 k, hd_2 k'] at e2
      simp at e2
      have ecs := hcl (by omega)
      obtain ⟨_, _, _, _, _, _, _, _, r1, n1, s1⟩ := hh
      obtain ⟨_, _, _, _, _, _, _, _, r2, n2, s2⟩ := gg
      cases m; cases m'
      simp at *
      exact ⟨ek, ee, by omega, by omega, by rw [s1, s2], e2.2.2.1, e2.2.2.2.1, ecs⟩
    · omega
  · rcases h'.2.2 with ⟨k', gg⟩ | ⟨k', gg⟩ | ⟨k', gg⟩
    · omega
    · omega
    · have e2 := e
      rw [hd_3 k, hd_3 k'] at e2
      simp at e2
      obtain ⟨_, _, r1, s1, f1, p1, c1⟩ := hh
      obtain ⟨_, _, r2, s2, f2, p2, c2⟩ := gg
      cases m; cases m'
      simp at *
      exact ⟨ek, ee, by omega, e2.2.2, by rw [s1, s2], by omega, by omega, by rw [c1, c2]⟩

/-- What Decode answers. -/
def Dc (bs : List Int) (m : Msg) (g : Int) : Prop :=
  (g = 0 ∧ Ok m ∧ bs = enc m) ∨ (g = 5 ∧ m = no ∧ ∀ m', Ok m' → bs ≠ enc m')

theorem dc_one {bs : List Int} {m m' : Msg} {g g' : Int} (h : Dc bs m g) (h' : Dc bs m' g') : m = m' ∧ g = g' := by
  rcases h with ⟨rfl, h1, h2⟩ | ⟨rfl, rfl, h2⟩ <;> rcases h' with ⟨rfl, g1, g2⟩ | ⟨rfl, rfl, g2⟩
  · exact ⟨enc_pre h1 g1 (bs := bs) (by rw [h2]; exact List.prefix_refl _) (by rw [g2]; exact List.prefix_refl _), rfl⟩
  · exact absurd h2 (g2 m h1)
  · exact absurd g2 (h2 m' g1)
  · exact ⟨rfl, rfl⟩

theorem dc_enc {m : Msg} (h : Ok m) : Dc (enc m) m 0 := .inl ⟨rfl, h, rfl⟩

/-- A message's bytes that are cut are none's. -/
theorem dc_cut {m : Msg} {k : Nat} (h : Ok m) (hk : k < (enc m).length) : Dc ((enc m).take k) no 5 := by
  refine .inr ⟨rfl, rfl, fun m' h' e => ?_⟩
  have := enc_pre h' h (bs := enc m) (by rw [← e]; exact List.take_prefix _ _) (List.prefix_refl _)
  subst this
  have := congrArg List.length e
  rw [List.length_take] at this
  omega

/-- Nor with bytes behind them. -/
theorem dc_more {m : Msg} {t : List Int} (h : Ok m) (ht : t ≠ []) : Dc (enc m ++ t) no 5 := by
  refine .inr ⟨rfl, rfl, fun m' h' e => ?_⟩
  have := enc_pre h h' (bs := enc m') (by rw [← e]; exact List.prefix_append _ _) (List.prefix_refl _)
  subst this
  have := congrArg List.length e
  rw [List.length_append] at this
  exact ht (List.eq_nil_of_length_eq_zero (by omega))

/-- Behind some numbers: the next is none that a message has there. -/
theorem dc_stop {bs l : List Int} {mx : Nat} (hp : ∀ z ∈ l, 0 ≤ z) (h : Pm.encs l <+: bs) (hn : ∀ u : Nat, u ≤ mx → ¬ Vm.enc u <+: bs.drop (Pm.encs l).length)
    (hq : ∀ m, Ok m → (l <+: hd m ∨ hd m <+: l) → l.length < (hd m).length ∧ (hd m).getD l.length 0 ≤ mx) : Dc bs no 5 := by
  refine .inr ⟨rfl, rfl, fun m hm e => ?_⟩
  have h2 : Pm.encs (hd m) <+: bs := by rw [e]; exact List.prefix_append _ _
  have hc := encs_both hp (hd_pos hm) h h2
  obtain ⟨q1, q2⟩ := hq m hm hc
  have hl : l <+: hd m := by
    rcases hc with hc | hc
    · exact hc
    · have := hc.length_le; omega
  obtain ⟨t, ht⟩ := hl
  cases t with
  | nil => rw [List.append_nil] at ht; rw [ht] at q1; omega
  | cons x t =>
    have hx : (hd m).getD l.length 0 = x := by rw [← ht]; simp [List.getD_eq_getElem?_getD]
    rw [hx] at q2
    have hx0 : 0 ≤ x := hd_pos hm x (by rw [← ht]; simp)
    refine hn x.toNat (by omega) ?_
    have e2 : bs = Pm.encs l ++ (Vm.enc x.toNat ++ (Pm.encs t ++ Fm.cat (m.cs.map cb))) := by
      rw [e]
      unfold enc
      rw [← ht, Pm.encs_app]
      simp [Pm.encs]
    rw [e2, List.drop_left]
    exact List.prefix_append _ _

end Go.Proofs.Ytfnaeblbodfekaa.Mm

/- The mathematics of ships: hellos, ships and acks of a log. No program. -/
namespace Go.Proofs.Ytfnaeblbodfekaa
set_option linter.unusedVariables false
namespace Shp
open Cm (Cv Good fol lastE lastN)
open Mm (Msg)

/-- Why a log is refused. -/
def lck (e : Int) (l : List Cv) : Int := if e < 1 ∨ 1048576 < e then 2 else if (fol 0 0 0 l).1 = 0 then (if e < lastE 0 l then 15 else 0) else (fol 0 0 0 l).1

theorem lck_arg {e : Int} {l : List Cv} (h : e < 1 ∨ 1048576 < e) : lck e l = 2 := by unfold lck; rw [if_pos h]
theorem lck_fol {e : Int} {l : List Cv} (h : ¬ (e < 1 ∨ 1048576 < e)) (h' : (fol 0 0 0 l).1 ≠ 0) : lck e l = (fol 0 0 0 l).1 := by unfold lck; rw [if_neg h, if_neg h']
theorem lck_ord {e : Int} {l : List Cv} (h : ¬ (e < 1 ∨ 1048576 < e)) (h' : (fol 0 0 0 l).1 = 0) (h2 : e < lastE 0 l) : lck e l = 15 := by unfold lck; rw [if_neg h, if_pos h', if_pos h2]
theorem lck_ok {e : Int} {l : List Cv} (h : ¬ (e < 1 ∨ 1048576 < e)) (h' : (fol 0 0 0 l).1 = 0) (h2 : ¬ e < lastE 0 l) : lck e l = 0 := by unfold lck; rw [if_neg h, if_pos h', if_neg h2]

theorem lck_zero {e : Int} {l : List Cv} (h : lck e l = 0) : 1 ≤ e ∧ e ≤ 1048576 ∧ Good 0 0 l ∧ lastE 0 l ≤ e := by
  unfold lck at h
  split at h
  · simp at h
  · rename_i h1
    split at h
    · rename_i h2
      split at h
      · simp at h
      · exact ⟨by omega, by omega, (Cm.fol_good l 0 0 0).1 h2, by omega⟩
    · rename_i h2
      exact absurd h h2

/-- Hello. -/
def helE (e r : Int) (l : List Cv) : Int := if lck e l = 0 then (if r < 1 ∨ 3 < r then 2 else 0) else lck e l
def hel (e r : Int) (l : List Cv) : Msg := if helE e r l = 0 then ⟨1, e, r, l.length, Sm.told 0 l, 0, 0, []⟩ else Mm.no

/-- Next. -/
def nxtE (e : Int) (l : List Cv) (k : Int) : Int := if lck e l = 0 then (if k < 0 ∨ (l.length : Int) < k ∨ k = 1048576 then 2 else 0) else lck e l
def nxt (e : Int) (l : List Cv) (k : Int) : Msg := if nxtE e l k = 0 then ⟨2, e, 0, 0, [], k + 1, lastE 0 (l.take k.toNat), (l.drop k.toNat).take 4⟩ else Mm.no

/-- Ack. -/
def ackE (e n : Int) : Int := if e < 1 ∨ 1048576 < e ∨ n < 0 ∨ 1048576 < n then 2 else 0
def ack (e n : Int) : Msg := if ackE e n = 0 then ⟨3, e, 0, n, [], 0, 0, []⟩ else Mm.no

theorem helE_no {e r : Int} {l : List Cv} (h : lck e l ≠ 0) : helE e r l = lck e l ∧ hel e r l = Mm.no := by
  have : helE e r l = lck e l := by unfold helE; rw [if_neg h]
  exact ⟨this, by unfold hel; rw [if_neg (by rw [this]; exact h)]⟩
theorem helE_arg {e r : Int} {l : List Cv} (h : lck e l = 0) (hr : r < 1 ∨ 3 < r) : helE e r l = 2 ∧ hel e r l = Mm.no := by
  have : helE e r l = 2 := by unfold helE; rw [if_pos h, if_pos hr]
  exact ⟨this, by unfold hel; rw [if_neg (by rw [this]; decide)]⟩
theorem helE_ok {e r : Int} {l : List Cv} (h : lck e l = 0) (hr : ¬ (r < 1 ∨ 3 < r)) : helE e r l = 0 ∧ hel e r l = ⟨1, e, r, l.length, Sm.told 0 l, 0, 0, []⟩ := by
  have : helE e r l = 0 := by unfold helE; rw [if_pos h, if_neg hr]
  exact ⟨this, by unfold hel; rw [if_pos this]⟩

theorem nxtE_no {e k : Int} {l : List Cv} (h : lck e l ≠ 0) : nxtE e l k = lck e l ∧ nxt e l k = Mm.no := by
  have : nxtE e l k = lck e l := by unfold nxtE; rw [if_neg h]
  exact ⟨this, by unfold nxt; rw [if_neg (by rw [this]; exact h)]⟩
theorem nxtE_arg {e k : Int} {l : List Cv} (h : lck e l = 0) (hr : k < 0 ∨ (l.length : Int) < k ∨ k = 1048576) : nxtE e l k = 2 ∧ nxt e l k = Mm.no := by
  have : nxtE e l k = 2 := by unfold nxtE; rw [if_pos h, if_pos hr]
  exact ⟨this, by unfold nxt; rw [if_neg (by rw [this]; decide)]⟩
theorem nxtE_ok {e k : Int} {l : List Cv} (h : lck e l = 0) (hr : ¬ (k < 0 ∨ (l.length : Int) < k ∨ k = 1048576)) : nxtE e l k = 0 ∧ nxt e l k = ⟨2, e, 0, 0, [], k + 1, lastE 0 (l.take k.toNat), (l.drop k.toNat).take 4⟩ := by
  have : nxtE e l k = 0 := by unfold nxtE; rw [if_pos h, if_neg hr]
  exact ⟨this, by unfold nxt; rw [if_pos this]⟩

theorem ackE_no {e n : Int} (h : e < 1 ∨ 1048576 < e ∨ n < 0 ∨ 1048576 < n) : ackE e n = 2 ∧ ack e n = Mm.no := by
  have : ackE e n = 2 := by unfold ackE; rw [if_pos h]
  exact ⟨this, by unfold ack; rw [if_neg (by rw [this]; decide)]⟩
theorem ackE_ok {e n : Int} (h : ¬ (e < 1 ∨ 1048576 < e ∨ n < 0 ∨ 1048576 < n)) : ackE e n = 0 ∧ ack e n = ⟨3, e, 0, n, [], 0, 0, []⟩ := by
  have : ackE e n = 0 := by unfold ackE; rw [if_neg h]
  exact ⟨this, by unfold ack; rw [if_pos this]⟩

/-- Epochs never fall. -/
theorem good_le : ∀ (l : List Cv) (ep nu : Int), Good ep nu l → ep ≤ lastE ep l ∧ ∀ c ∈ l, c.e ≤ lastE ep l
  | [], ep, nu, _ => ⟨Int.le_refl _, fun c hc => by simp at hc⟩
  | d :: r, ep, nu, h => by
    obtain ⟨_, _, h3, h4⟩ := h
    obtain ⟨k1, k2⟩ := good_le r d.e d.n h4
    refine ⟨by simp only [lastE]; omega, fun c hc => ?_⟩
    simp only [lastE]
    rcases List.mem_cons.1 hc with rfl | hc
    · exact k1
    · exact k2 c hc

theorem lastN_good : ∀ (l : List Cv) (ep nu : Int), Good ep nu l → lastN nu l = nu + l.length
  | [], _, nu, _ => by simp [lastN]
  | d :: r, ep, nu, h => by
    obtain ⟨_, h2, _, h4⟩ := h
    have := lastN_good r d.e d.n h4
    simp only [lastN, List.length_cons]
    rw [this]
    omega

theorem lastE_app : ∀ (l m : List Cv) (ep : Int), lastE ep (l ++ m) = lastE (lastE ep l) m
  | [], m, _ => rfl
  | d :: r, m, ep => by simpa [lastE] using lastE_app r m d.e

/-- What a hello is, it may be. -/
theorem hel_ok {e r : Int} {l : List Cv} (h : helE e r l = 0) : Mm.Ok (hel e r l) := by
  by_cases h0 : lck e l = 0
  · by_cases hr : r < 1 ∨ 3 < r
    · rw [(helE_arg h0 hr).1] at h; simp at h
    · rw [(helE_ok h0 hr).2]
      obtain ⟨h1, h2, h3, h4⟩ := lck_zero h0
      refine ⟨h1, h2, .inl ⟨rfl, by show 1 ≤ r; omega, by show r ≤ 3; omega, Sm.told_ok h3, ?_, rfl, rfl, rfl⟩⟩
      show Sm.lst (Sm.told 0 l) ≤ e
      rw [Sm.lst_told]
      exact h4
  · rw [(helE_no h0).1] at h; exact absurd h h0

/-- What stands behind a number of a log follows. -/
theorem good_drop {l : List Cv} (h : Good 0 0 l) (k : Nat) (hk : k ≤ l.length) : Good (lastE 0 (l.take k)) k (l.drop k) := by
  have h1 := h
  rw [← List.take_append_drop k l, Cm.good_app] at h1
  have := lastN_good _ _ _ h1.1
  rw [List.length_take, Nat.min_eq_left hk] at this
  rw [this] at h1
  simpa using h1.2

theorem prv_pos {l : List Cv} (h : Good 0 0 l) (k : Nat) (hk : k ≤ l.length) (h0 : 0 < k) : 1 ≤ lastE 0 (l.take k) := by
  obtain ⟨j, rfl⟩ : ∃ j, k = j + 1 := ⟨k - 1, by omega⟩
  have hj : j < l.length := by omega
  rw [List.take_succ_eq_append_getElem hj, (Cm.last_snoc _ _ _ 0).1]
  have := (Cm.good_at l 0 0 j l[j] h (List.getElem?_eq_getElem hj)).1
  have := Cm.chk_zero this
  omega

theorem prv_is {l : List Cv} {k : Nat} {c : Cv} (hc : l[k]? = some c) : lastE 0 (l.take (k + 1)) = c.e := by
  obtain ⟨hk, e⟩ := List.getElem?_eq_some_iff.1 hc
  rw [List.take_succ_eq_append_getElem hk, e, (Cm.last_snoc _ _ _ 0).1]

/-- What a ship is, it may be. -/
theorem nxt_ok {e k : Int} {l : List Cv} (h : nxtE e l k = 0) : Mm.Ok (nxt e l k) := by
  by_cases h0 : lck e l = 0
  · by_cases hr : k < 0 ∨ (l.length : Int) < k ∨ k = 1048576
    · rw [(nxtE_arg h0 hr).1] at h; simp at h
    · rw [(nxtE_ok h0 hr).2]
      obtain ⟨h1, h2, h3, h4⟩ := lck_zero h0
      obtain ⟨n, rfl⟩ : ∃ n : Nat, k = (n : Int) := ⟨k.toNat, by omega⟩
      rw [Int.toNat_natCast]
      have hn : n ≤ l.length := by omega
      have hl := Sm.good_len h3
      have hd := good_drop h3 n hn
      have hle := good_le l 0 0 h3
      have hp : lastE 0 (l.take n) ≤ e := by
        have ha := h3
        rw [← List.take_append_drop n l, Cm.good_app] at ha
        have := (good_le _ _ _ ha.2).1
        have e2 : lastE (lastE 0 (l.take n)) (l.drop n) = lastE 0 l := by
          rw [← lastE_app, List.take_append_drop]
        omega
      have hp0 : 0 ≤ lastE 0 (l.take n) := (good_le _ _ _ (Cm.good_take h3 n)).1
      have hz : lastE 0 (l.take n) = 0 ↔ (n : Int) + 1 = 1 := by
        constructor
        · intro hh
          rcases Nat.eq_zero_or_pos n with h | h
          · subst h; rfl
          · have := prv_pos h3 n hn h; omega
        · intro hh
          have : n = 0 := by omega
          subst this
          rfl
      refine ⟨h1, h2, .inr (.inl ⟨rfl, by show 1 ≤ (n : Int) + 1; omega, by show (n : Int) + 1 ≤ 1048576; omega, hp0, hp, hz, ?_, fun c hc => ?_, ?_, rfl, rfl, rfl⟩)⟩
      · show ((l.drop n).take 4).length ≤ 4
        rw [List.length_take]; omega
      · have := hle.2 c (List.mem_of_mem_drop (List.mem_of_mem_take hc))
        show c.e ≤ e
        omega
      · show Good (lastE 0 (l.take n)) ((n : Int) + 1 - 1) ((l.drop n).take 4)
        rw [show (n : Int) + 1 - 1 = (n : Int) by omega]
        exact Cm.good_take hd 4
  · rw [(nxtE_no h0).1] at h; exact absurd h h0

end Shp
end Go.Proofs.Ytfnaeblbodfekaa

/- The mathematics of taking ships. No program. -/
namespace Go.Proofs.Ytfnaeblbodfekaa
set_option linter.unusedVariables false
namespace Tak
open Cm (Cv Good fol lastE lastN)
open Mm (Msg)

/-- The epoch of a number of a log; 0 of 0. -/
def atE (l : List Cv) (n : Int) : Int := lastE 0 (l.take n.toNat)

theorem atE_zero (l : List Cv) : atE l 0 = 0 := rfl
theorem atE_is {l : List Cv} {k : Nat} {c : Cv} (hc : l[k]? = some c) : atE l ((k : Int) + 1) = c.e := by
  unfold atE
  rw [show ((k : Int) + 1).toNat = k + 1 by omega]
  exact Shp.prv_is hc

/-- Does a commit of a ship say what the log says? -/
def okc (l : List Cv) (c : Cv) : Bool := decide ((l.length : Int) < c.n) || decide (atE l c.n = c.e)

/-- Does a ship fit? -/
def fits (l : List Cv) (m : Msg) : Bool := decide (atE l (m.f - 1) = m.p) && m.cs.all (okc l)

/-- Why nothing is taken; c: what Check says of the message. -/
def tkE (c e : Int) (l : List Cv) (m : Msg) : Int :=
  if (fol 0 0 0 l).1 = 0 then
    (if c = 0 ∧ m.k = 2 then (if m.e < e then 12 else if e < m.e then 2 else if (l.length : Int) + 1 < m.f then 13 else if fits l m = true then 0 else 14) else 2)
  else (fol 0 0 0 l).1

/-- What is new. -/
def nw (l : List Cv) (cs : List Cv) : List Cv := cs.filter fun c => decide ((l.length : Int) < c.n)
def tk (c e : Int) (l : List Cv) (m : Msg) : List Cv := if tkE c e l m = 0 then nw l m.cs else []

theorem tkE_fol {c e : Int} {l : List Cv} {m : Msg} (h : (fol 0 0 0 l).1 ≠ 0) : tkE c e l m = (fol 0 0 0 l).1 := by unfold tkE; rw [if_neg h]
theorem tkE_arg {c e : Int} {l : List Cv} {m : Msg} (h : (fol 0 0 0 l).1 = 0) (h1 : ¬ (c = 0 ∧ m.k = 2)) : tkE c e l m = 2 := by unfold tkE; rw [if_pos h, if_neg h1]
theorem tkE_old {c e : Int} {l : List Cv} {m : Msg} (h : (fol 0 0 0 l).1 = 0) (h1 : c = 0 ∧ m.k = 2) (h2 : m.e < e) : tkE c e l m = 12 := by unfold tkE; rw [if_pos h, if_pos h1, if_pos h2]
theorem tkE_new {c e : Int} {l : List Cv} {m : Msg} (h : (fol 0 0 0 l).1 = 0) (h1 : c = 0 ∧ m.k = 2) (h2 : ¬ m.e < e) (h3 : e < m.e) : tkE c e l m = 2 := by unfold tkE; rw [if_pos h, if_pos h1, if_neg h2, if_pos h3]
theorem tkE_gap {c e : Int} {l : List Cv} {m : Msg} (h : (fol 0 0 0 l).1 = 0) (h1 : c = 0 ∧ m.k = 2) (h2 : ¬ m.e < e) (h3 : ¬ e < m.e) (h4 : (l.length : Int) + 1 < m.f) : tkE c e l m = 13 := by unfold tkE; rw [if_pos h, if_pos h1, if_neg h2, if_neg h3, if_pos h4]
theorem tkE_fork {c e : Int} {l : List Cv} {m : Msg} (h : (fol 0 0 0 l).1 = 0) (h1 : c = 0 ∧ m.k = 2) (h2 : ¬ m.e < e) (h3 : ¬ e < m.e) (h4 : ¬ (l.length : Int) + 1 < m.f) (h5 : fits l m = false) : tkE c e l m = 14 := by unfold tkE; rw [if_pos h, if_pos h1, if_neg h2, if_neg h3, if_neg h4, if_neg (by rw [h5]; decide)]
theorem tkE_ok {c e : Int} {l : List Cv} {m : Msg} (h : (fol 0 0 0 l).1 = 0) (h1 : c = 0 ∧ m.k = 2) (h2 : ¬ m.e < e) (h3 : ¬ e < m.e) (h4 : ¬ (l.length : Int) + 1 < m.f) (h5 : fits l m = true) : tkE c e l m = 0 := by unfold tkE; rw [if_pos h, if_pos h1, if_neg h2, if_neg h3, if_neg h4, if_pos h5]

theorem tkE_zero {c e : Int} {l : List Cv} {m : Msg} (h : tkE c e l m = 0) : Good 0 0 l ∧ c = 0 ∧ m.k = 2 ∧ m.e = e ∧ m.f ≤ (l.length : Int) + 1 ∧ fits l m = true := by
  by_cases h0 : (fol 0 0 0 l).1 = 0
  · by_cases h1 : c = 0 ∧ m.k = 2
    · by_cases h2 : m.e < e
      · rw [tkE_old h0 h1 h2] at h; simp at h
      · by_cases h3 : e < m.e
        · rw [tkE_new h0 h1 h2 h3] at h; simp at h
        · by_cases h4 : (l.length : Int) + 1 < m.f
          · rw [tkE_gap h0 h1 h2 h3 h4] at h; simp at h
          · cases h5 : fits l m with
            | true => exact ⟨(Cm.fol_good l 0 0 0).1 h0, h1.1, h1.2, by omega, by omega, rfl⟩
            | false => rw [tkE_fork h0 h1 h2 h3 h4 h5] at h; simp at h
    · rw [tkE_arg h0 h1] at h; simp at h
  · rw [tkE_fol h0] at h; exact absurd h h0

theorem tk_no {c e : Int} {l : List Cv} {m : Msg} (h : tkE c e l m ≠ 0) : tk c e l m = [] := by unfold tk; rw [if_neg h]
theorem tk_is {c e : Int} {l : List Cv} {m : Msg} (h : tkE c e l m = 0) : tk c e l m = nw l m.cs := by unfold tk; rw [if_pos h]

theorem nw_snoc (l : List Cv) (cs : List Cv) (c : Cv) : nw l (cs ++ [c]) = if (l.length : Int) < c.n then nw l cs ++ [c] else nw l cs := by
  unfold nw
  rw [List.filter_append]
  by_cases h : (l.length : Int) < c.n
  · rw [if_pos h]; simp [h]
  · rw [if_neg h]; simp [h]

/-- The first n commits say what the log says. -/
theorem fits_no {l : List Cv} {m : Msg} {c : Cv} (hc : c ∈ m.cs) (h : okc l c = false) : fits l m = false := by
  unfold fits
  rw [Bool.and_eq_false_iff]
  right
  rw [List.all_eq_false]
  exact ⟨c, hc, by rw [h]; decide⟩
theorem fits_prev {l : List Cv} {m : Msg} (h : atE l (m.f - 1) ≠ m.p) : fits l m = false := by
  unfold fits
  rw [decide_eq_false h, Bool.false_and]
theorem fits_yes {l : List Cv} {m : Msg} (h : atE l (m.f - 1) = m.p) (h' : ∀ c ∈ m.cs, okc l c = true) : fits l m = true := by
  unfold fits
  rw [decide_eq_true h, Bool.true_and, List.all_eq_true]
  exact h'
theorem fits_is {l : List Cv} {m : Msg} (h : fits l m = true) : atE l (m.f - 1) = m.p ∧ ∀ c ∈ m.cs, (l.length : Int) < c.n ∨ atE l c.n = c.e := by
  unfold fits at h
  rw [Bool.and_eq_true, decide_eq_true_iff, List.all_eq_true] at h
  refine ⟨h.1, fun c hc => ?_⟩
  have := h.2 c hc
  unfold okc at this
  rw [Bool.or_eq_true, decide_eq_true_iff, decide_eq_true_iff] at this
  exact this

/-- Known; c: what Check says of the message. -/
def knE (c e : Int) (m : Msg) : Int := if c = 0 then (if m.e < e then 12 else if e < m.e then 2 else 0) else 2
def knB (m : Msg) : Bool := decide (m.k = 3) || (decide (m.k = 1) && decide (m.r = 2))
def knV (c e k : Int) (m : Msg) : Int := if knE c e m = 0 then (if knB m = true then max k m.n else max k 0) else 0
def knF (c e : Int) (m : Msg) : Bool := decide (knE c e m = 0) && knB m

end Tak
end Go.Proofs.Ytfnaeblbodfekaa

/- What is taken fits. No program. -/
namespace Go.Proofs.Ytfnaeblbodfekaa
set_option linter.unusedVariables false
namespace Tak
open Cm (Cv Good fol lastE lastN)
open Mm (Msg)

/-- Numbers one behind the other. -/
def Num (f : Int) (cs : List Cv) : Prop := ∀ (i : Nat) (c : Cv), cs[i]? = some c → c.n = f + i

theorem num_tail {f : Int} {c : Cv} {r : List Cv} (h : Num f (c :: r)) : c.n = f ∧ Num (f + 1) r := by
  refine ⟨?_, fun i d hd => ?_⟩
  · have := h 0 c rfl; omega
  · have := h (i + 1) d (by simpa using hd)
    omega

/-- What is new is the rear. -/
theorem nw_drop (l : List Cv) : ∀ (cs : List Cv) (f : Int), Num f cs → nw l cs = cs.drop ((l.length : Int) + 1 - f).toNat
  | [], f, _ => by simp [nw]
  | c :: r, f, h => by
    obtain ⟨h1, h2⟩ := num_tail h
    have ih := nw_drop l r (f + 1) h2
    unfold nw at ih ⊢
    by_cases hc : (l.length : Int) < c.n
    · rw [List.filter_cons, if_pos (by simpa using hc), ih]
      rw [show ((l.length : Int) + 1 - f).toNat = 0 by omega, show ((l.length : Int) + 1 - (f + 1)).toNat = 0 by omega]
      rfl
    · rw [List.filter_cons, if_neg (by simpa using hc), ih]
      rw [show ((l.length : Int) + 1 - f).toNat = ((l.length : Int) + 1 - (f + 1)).toNat + 1 by omega]
      rfl

theorem ship_num {m : Msg} (h : Mm.Ok m) (hk : m.k = 2) : 1 ≤ m.f ∧ Num m.f m.cs ∧ m.cs.length ≤ 4 ∧ Good m.p (m.f - 1) m.cs := by
  rcases h.2.2 with ⟨k, g⟩ | ⟨k, g⟩ | ⟨k, g⟩
  · omega
  · obtain ⟨h1, h2, _, _, _, h6, _, h8, _⟩ := g
    refine ⟨h1, fun i c hc => ?_, h6, h8⟩
    have := (Cm.good_at _ _ _ i c h8 hc).2.1
    omega
  · omega

theorem atE_app {l m : List Cv} {n : Int} (h0 : 0 ≤ n) (h : n ≤ l.length) : atE (l ++ m) n = atE l n := by
  unfold atE
  rw [List.take_append_of_le_length (by omega)]

theorem atE_len (l : List Cv) : atE l l.length = lastE 0 l := by
  unfold atE
  rw [Int.toNat_natCast, List.take_length]

theorem atE_get {l : List Cv} {n : Nat} {c : Cv} (h : l[n]? = some c) : atE l ((n + 1 : Nat) : Int) = c.e := by
  have := atE_is h
  rw [show ((n + 1 : Nat) : Int) = (n : Int) + 1 by omega]
  exact this

/-- Where the overlapping ends, the ship and the log say the same. -/
theorem last_same {l : List Cv} {m : Msg} (hok : Mm.Ok m) (hk : m.k = 2) (hf : m.f ≤ (l.length : Int) + 1) (hfit : fits l m = true) {d : Nat} (hd : (d : Int) = (l.length : Int) + 1 - m.f) (hdl : d ≤ m.cs.length) : lastE m.p (m.cs.take d) = lastE 0 l := by
  obtain ⟨h1, h2⟩ := fits_is hfit
  obtain ⟨hf1, hnum, _, _⟩ := ship_num hok hk
  rcases Nat.eq_zero_or_pos d with h0 | h0
  · subst h0
    rw [List.take_zero]
    show m.p = _
    rw [← h1, show m.f - 1 = (l.length : Int) by omega, atE_len]
  · obtain ⟨j, rfl⟩ : ∃ j, d = j + 1 := ⟨d - 1, by omega⟩
    have hj : j < m.cs.length := by omega
    rw [List.take_succ_eq_append_getElem hj, (Cm.last_snoc _ _ _ 0).1]
    have hn := hnum j m.cs[j] (List.getElem?_eq_getElem hj)
    rcases h2 m.cs[j] (List.getElem_mem hj) with h | h
    · omega
    · rw [← h, hn, show m.f + (j : Int) = (l.length : Int) by omega, atE_len]

/-- All that is there behind a ship. -/
def aft (l : List Cv) (m : Msg) : List Cv := l ++ nw l m.cs

theorem aft_good {e : Int} {l : List Cv} {m : Msg} (hok : Mm.Ok m) (h : tkE 0 e l m = 0) : Good 0 0 (aft l m) := by
  obtain ⟨hg, _, hk, _, hf, hfit⟩ := tkE_zero h
  obtain ⟨hf1, hnum, _, hgs⟩ := ship_num hok hk
  unfold aft
  rw [nw_drop l m.cs m.f hnum]
  obtain ⟨d, hd⟩ : ∃ d : Nat, ((l.length : Int) + 1 - m.f).toNat = d := ⟨_, rfl⟩
  rw [hd, Cm.good_app]
  refine ⟨hg, ?_⟩
  by_cases hdl : d ≤ m.cs.length
  · have hd' : (d : Int) = (l.length : Int) + 1 - m.f := by omega
    have hs := hgs
    rw [← List.take_append_drop d m.cs, Cm.good_app] at hs
    have hl := Shp.lastN_good _ _ _ hs.1
    rw [List.length_take, Nat.min_eq_left hdl] at hl
    have := hs.2
    rw [last_same hok hk hf hfit hd' hdl, hl] at this
    rw [Shp.lastN_good _ _ _ hg, show (0 : Int) + (l.length : Int) = m.f - 1 + (d : Int) by omega]
    exact this
  · rw [List.drop_of_length_le (by omega)]
    trivial

theorem aft_len {e : Int} {l : List Cv} {m : Msg} (hok : Mm.Ok m) (h : tkE 0 e l m = 0) : ((aft l m).length : Int) = max (l.length : Int) (m.f - 1 + m.cs.length) ∧ (nw l m.cs).length ≤ 4 := by
  obtain ⟨hg, _, hk, _, hf, hfit⟩ := tkE_zero h
  obtain ⟨hf1, hnum, h4, hgs⟩ := ship_num hok hk
  unfold aft
  rw [nw_drop l m.cs m.f hnum, List.length_append, List.length_drop]
  omega

theorem aft_at {e : Int} {l : List Cv} {m : Msg} (hok : Mm.Ok m) (h : tkE 0 e l m = 0) {i : Nat} {c : Cv} (hc : m.cs[i]? = some c) :
    ∃ n : Nat, c.n = (n : Int) + 1 ∧ n < (aft l m).length ∧ ∃ d, (aft l m)[n]? = some d ∧ d.e = c.e ∧ ((l.length : Int) < c.n → d = c) := by
  obtain ⟨hg, _, hk, _, hf, hfit⟩ := tkE_zero h
  obtain ⟨hf1, hnum, h4, hgs⟩ := ship_num hok hk
  have hn := hnum i c hc
  have hi := (List.getElem?_eq_some_iff.1 hc).1
  have hlen := (aft_len hok h).1
  refine ⟨(c.n - 1).toNat, by omega, by omega, ?_⟩
  by_cases hl : (l.length : Int) < c.n
  · have hx : (aft l m)[(c.n - 1).toNat]? = some c := by
      unfold aft
      rw [nw_drop l m.cs m.f hnum, List.getElem?_append_right (by omega), List.getElem?_drop, show ((l.length : Int) + 1 - m.f).toNat + ((c.n - 1).toNat - l.length) = i by omega]
      exact hc
    exact ⟨c, hx, rfl, fun _ => rfl⟩
  · have hnl : (c.n - 1).toNat < l.length := by omega
    refine ⟨l[(c.n - 1).toNat], ?_, ?_, fun hh => absurd hh hl⟩
    · unfold aft
      rw [List.getElem?_append_left hnl, List.getElem?_eq_getElem hnl]
    · rcases (fits_is hfit).2 c (List.mem_of_getElem? hc) with h' | h'
      · exact absurd h' hl
      · have := atE_get (l := l) (List.getElem?_eq_getElem hnl)
        rw [show (((c.n - 1).toNat + 1 : Nat) : Int) = c.n by omega] at this
        rw [← this]
        exact h'

/-- Taken twice it adds nothing. -/
theorem aft_twice {e : Int} {l : List Cv} {m : Msg} (hok : Mm.Ok m) (h : tkE 0 e l m = 0) : tkE 0 e (aft l m) m = 0 ∧ tk 0 e (aft l m) m = [] := by
  obtain ⟨hg, _, hk, hme, hf, hfit⟩ := tkE_zero h
  obtain ⟨hf1, hnum, h4, hgs⟩ := ship_num hok hk
  have hlen := (aft_len hok h).1
  have hle : ∀ c ∈ m.cs, c.n ≤ (aft l m).length ∧ atE (aft l m) c.n = c.e := fun c hc => by
    obtain ⟨i, hi⟩ := List.getElem?_of_mem hc
    obtain ⟨n, h1, h2, d, h3, h5, _⟩ := aft_at hok h hi
    refine ⟨by omega, ?_⟩
    have := atE_get h3
    rw [show ((n + 1 : Nat) : Int) = c.n by omega] at this
    rw [this, h5]
  have hfits : fits (aft l m) m = true := by
    refine fits_yes ?_ fun c hc => ?_
    · unfold aft
      rw [atE_app (by omega) (by omega)]
      exact (fits_is hfit).1
    · unfold okc
      rw [decide_eq_true (hle c hc).2, Bool.or_true]
  have hz := tkE_ok (c := 0) (e := e) ((Cm.fol_good _ 0 0 0).2 (aft_good hok h)) ⟨rfl, hk⟩ (by omega) (by omega) (show ¬ ((aft l m).length : Int) + 1 < m.f by omega) hfits
  refine ⟨hz, ?_⟩
  rw [tk_is hz]
  unfold nw
  rw [List.filter_eq_nil_iff]
  intro c hc
  have := (hle c hc).1
  simp
  omega

end Tak
end Go.Proofs.Ytfnaeblbodfekaa
