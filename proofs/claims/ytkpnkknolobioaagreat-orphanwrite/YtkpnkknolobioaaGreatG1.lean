/- Texts of one layer, one behind the other. -/

/- Plain facts on the bytes of a number (seven bits a byte, the lowest first): no program, no walk. -/
namespace Go.Proofs.YtkpnkknolobioaaGreat.Vm

/-- The bytes of a number. -/
def enc (x : Nat) : List Int := if _h : x < 128 then [(x : Int)] else ((x % 128 + 128 : Nat) : Int) :: enc (x / 128)

/-- How many bytes a number has. -/
def sz (x : Nat) : Nat := (enc x).length

theorem enc_lo {x : Nat} (h : x < 128) : enc x = [(x : Int)] := by rw [enc, dif_pos h]
theorem enc_hi {x : Nat} (h : ¬ x < 128) : enc x = ((x % 128 + 128 : Nat) : Int) :: enc (x / 128) := by rw [enc, dif_neg h]
theorem sz_lo {x : Nat} (h : x < 128) : sz x = 1 := by unfold sz; rw [enc_lo h]; rfl
theorem sz_hi {x : Nat} (h : ¬ x < 128) : sz x = sz (x / 128) + 1 := by unfold sz; rw [enc_hi h]; rfl
theorem sz_pos (x : Nat) : 1 ≤ sz x := by
  by_cases h : x < 128
  · rw [sz_lo h]; omega
  · rw [sz_hi h]; omega

theorem sz_le : ∀ (k x : Nat), x < 128 ^ (k + 1) → sz x ≤ k + 1 := by
  intro k
  induction k with
  | zero => intro x h; rw [sz_lo (by simpa using h)]; omega
  | succ k ih =>
    intro x h
    by_cases hx : x < 128
    · rw [sz_lo hx]; omega
    · rw [sz_hi hx]
      have : x / 128 < 128 ^ (k + 1) := by
        rw [Nat.div_lt_iff_lt_mul (by omega)]
        rw [Nat.pow_succ] at h
        exact h
      have := ih _ this
      omega

theorem sz_mono : ∀ (y x : Nat), x ≤ y → sz x ≤ sz y := by
  intro y
  induction y using Nat.strongRecOn with
  | ind y ih =>
    intro x h
    by_cases hy : y < 128
    · rw [sz_lo hy, sz_lo (by omega)]; omega
    · by_cases hx : x < 128
      · rw [sz_lo hx]; exact sz_pos y
      · rw [sz_hi hx, sz_hi hy]
        have := ih (y / 128) (by omega) (x / 128) (by omega)
        omega

theorem sz_le10 {x : Nat} (h : x < 18446744073709551616) : sz x ≤ 10 :=
  sz_le 9 x (Nat.lt_of_lt_of_le h (by decide))

theorem pre_cons {a b : Int} {l m : List Int} : a :: l <+: b :: m ↔ a = b ∧ l <+: m := List.cons_prefix_cons

theorem pre_nil (y : Nat) : ¬ enc y <+: [] := by
  intro h
  rw [List.prefix_nil] at h
  have := sz_pos y
  unfold sz at this
  rw [h] at this
  simp at this

theorem pre_lo {y : Nat} {c : Int} {rest : List Int} (hc : c < 128) : enc y <+: c :: rest ↔ (y : Int) = c := by
  by_cases h : y < 128
  · rw [enc_lo h, pre_cons]
    simp
  · rw [enc_hi h, pre_cons]
    constructor
    · intro h; omega
    · intro h; omega

theorem pre_hi {y : Nat} {c : Int} {rest : List Int} (hc : 128 ≤ c) (hc2 : c < 256) : enc y <+: c :: rest ↔ ∃ y', 1 ≤ y' ∧ y = (c - 128).toNat + 128 * y' ∧ enc y' <+: rest := by
  by_cases h : y < 128
  · rw [enc_lo h, pre_cons]
    constructor
    · intro h; omega
    · rintro ⟨y', h1, h2, _⟩; omega
  · rw [enc_hi h, pre_cons]
    constructor
    · rintro ⟨h1, h2⟩
      exact ⟨y / 128, by omega, by omega, h2⟩
    · rintro ⟨y', h1, h2, h3⟩
      have : y / 128 = y' := by omega
      rw [this]
      exact ⟨by omega, h3⟩

/-- Two numbers whose bytes begin one list are one. -/
theorem pre_one : ∀ (bs : List Int) (x y : Nat), enc x <+: bs → enc y <+: bs → x = y
  | [], x, _, hx, _ => absurd hx (pre_nil x)
  | c :: rest, x, y, hx, hy => by
    by_cases hx1 : x < 128
    · rw [enc_lo hx1, pre_cons] at hx
      rw [pre_lo (by omega)] at hy
      omega
    · by_cases hy1 : y < 128
      · rw [enc_lo hy1, pre_cons] at hy
        rw [pre_lo (by omega)] at hx
        omega
      · rw [enc_hi hx1, pre_cons] at hx
        rw [enc_hi hy1, pre_cons] at hy
        have := pre_one rest _ _ hx.2 hy.2
        omega

/-- Two numbers are one just where the shorter's bytes begin the other's. -/
theorem enc_cut (x y : Nat) : (x = y) ↔ (enc x).take (min (enc x).length (enc y).length) = (enc y).take (min (enc x).length (enc y).length) := by
  constructor
  · rintro rfl; rfl
  · intro h
    by_cases hl : (enc x).length ≤ (enc y).length
    · rw [Nat.min_eq_left hl, List.take_length] at h
      exact pre_one (enc y) x y (by rw [h]; exact List.take_prefix _ _) (List.prefix_refl _)
    · rw [Nat.min_eq_right (by omega), List.take_length] at h
      exact (pre_one (enc x) y x (by rw [← h]; exact List.take_prefix _ _) (List.prefix_refl _)).symm

/-- What reading a number from the front of bytes comes to: the number, its bytes' count, the error. -/
def Res (bs : List Int) (x n e : Int) : Prop :=
  (∃ u : Nat, u < 18446744073709551616 ∧ enc u <+: bs ∧ x = u ∧ n = sz u ∧ e = 0) ∨ ((∀ u : Nat, u < 18446744073709551616 → ¬ enc u <+: bs) ∧ x = 0 ∧ n = 0 ∧ e = 5)

theorem res_is (bs : List Int) : ∃ x n e, Res bs x n e := by
  by_cases h : ∃ u : Nat, u < 18446744073709551616 ∧ enc u <+: bs
  · obtain ⟨u, h1, h2⟩ := h
    exact ⟨u, sz u, 0, .inl ⟨u, h1, h2, rfl, rfl, rfl⟩⟩
  · exact ⟨0, 0, 5, .inr ⟨fun u h1 h2 => h ⟨u, h1, h2⟩, rfl, rfl, rfl⟩⟩

theorem res_bad {bs : List Int} {x n e : Int} (h : Res bs x n e) (hb : ∀ u : Nat, u < 18446744073709551616 → ¬ enc u <+: bs) : x = 0 ∧ n = 0 ∧ e = 5 := by
  rcases h with ⟨u, h1, h2, _⟩ | ⟨_, h⟩
  · exact absurd h2 (hb u h1)
  · exact h

theorem res_good {bs : List Int} {x n e : Int} (h : Res bs x n e) {u : Nat} (h1 : u < 18446744073709551616) (h2 : enc u <+: bs) : x = u ∧ n = sz u ∧ e = 0 := by
  rcases h with ⟨v, h3, h4, h⟩ | ⟨hb, _⟩
  · have := pre_one bs u v h2 h4
    subst this
    exact h
  · exact absurd h2 (hb u h1)

theorem res_bounds {bs : List Int} {x n e : Int} (h : Res bs x n e) : 0 ≤ x ∧ x < 18446744073709551616 ∧ 0 ≤ n ∧ n ≤ 10 ∧ n ≤ bs.length ∧ (e = 0 ∨ e = 5) := by
  rcases h with ⟨u, h1, h2, rfl, rfl, rfl⟩ | ⟨_, rfl, rfl, rfl⟩
  · have := sz_le10 h1
    have h3 := h2.length_le
    unfold sz at *
    omega
  · omega

/-- Behind n bytes that each go on, whose groups make acc. -/
def Inv (bs : List Int) (n acc : Nat) : Prop :=
  acc < 128 ^ n ∧ (∀ x, enc x <+: bs ↔ ∃ y, (1 ≤ y ∨ n = 0) ∧ x = acc + y * 128 ^ n ∧ enc y <+: bs.drop n) ∧ (∀ y, (1 ≤ y ∨ n = 0) → sz (acc + y * 128 ^ n) = n + sz y) ∧ ∀ y, (1 ≤ y ∨ n = 0) → enc (acc + y * 128 ^ n) = bs.take n ++ enc y

theorem inv_start (bs : List Int) : Inv bs 0 0 := by
  refine ⟨by simp, fun x => ?_, fun y _ => by simp, fun y _ => by simp⟩
  simp

theorem inv_step {bs : List Int} {n acc : Nat} {c : Int} (h : Inv bs n acc) (hn : n < bs.length) (hc : bs.getD n 0 = c) (h1 : 128 ≤ c) (h2 : c < 256) : Inv bs (n + 1) (acc + (c % 128).toNat * 128 ^ n) := by
  obtain ⟨ha, hx, hs, he⟩ := h
  have hd : bs.drop n = c :: bs.drop (n + 1) := by
    rw [List.drop_eq_getElem_cons hn]
    simp [hn] at hc
    rw [hc]
  have hp : 128 ^ (n + 1) = 128 * 128 ^ n := by rw [Nat.pow_succ, Nat.mul_comm]
  have e0 : (c - 128).toNat = (c % 128).toNat := by omega
  have hl : (c % 128).toNat ≤ 127 := by omega
  have key : ∀ y' : Nat, acc + ((c % 128).toNat + 128 * y') * 128 ^ n = acc + (c % 128).toNat * 128 ^ n + y' * 128 ^ (n + 1) := by
    intro y'
    rw [hp, Nat.add_mul, Nat.mul_comm 128 y', Nat.mul_assoc, Nat.add_assoc]
  refine ⟨?_, fun x => ?_, fun y hy => ?_, fun y hy => ?_⟩
  · rw [hp]
    have : (c % 128).toNat * 128 ^ n ≤ 127 * 128 ^ n := Nat.mul_le_mul_right _ hl
    omega
  · rw [hx x]
    constructor
    · rintro ⟨y, hy, rfl, hpre⟩
      rw [hd, pre_hi h1 h2] at hpre
      obtain ⟨y', g1, g2, g3⟩ := hpre
      refine ⟨y', .inl g1, ?_, g3⟩
      rw [g2, e0, key]
    · rintro ⟨y', hy, rfl, hpre⟩
      have g1 : 1 ≤ y' := by omega
      refine ⟨(c % 128).toNat + 128 * y', .inl (by omega), (key y').symm, ?_⟩
      rw [hd, pre_hi h1 h2]
      exact ⟨y', g1, by omega, hpre⟩
  · have g1 : 1 ≤ y := by omega
    rw [← key, hs _ (.inl (by omega)), sz_hi (by omega)]
    have : ((c % 128).toNat + 128 * y) / 128 = y := by omega
    rw [this]
    omega
  · have g1 : 1 ≤ y := by omega
    rw [← key, he _ (.inl (by omega)), enc_hi (by omega)]
    have e1 : ((c % 128).toNat + 128 * y) / 128 = y := by omega
    have e2 : ((((c % 128).toNat + 128 * y) % 128 + 128 : Nat) : Int) = c := by omega
    have e3 : bs[n] = c := by simpa [hn] using hc
    rw [e1, e2, List.take_succ_eq_append_getElem hn, e3]
    simp

/-- The bytes end ahead of the number's end. -/
theorem inv_short {bs : List Int} {n acc : Nat} (h : Inv bs n acc) (hn : bs.length ≤ n) : ∀ u : Nat, u < 18446744073709551616 → ¬ enc u <+: bs := by
  intro u _ hu
  obtain ⟨y, _, _, hp⟩ := (h.2.1 u).1 hu
  rw [List.drop_eq_nil_of_le hn] at hp
  exact pre_nil y hp

/-- A tenth byte above 1. -/
theorem inv_wide {bs : List Int} {acc : Nat} {c : Int} (h : Inv bs 9 acc) (hn : 9 < bs.length) (hc : bs.getD 9 0 = c) (h1 : 1 < c) (h2 : c < 256) : ∀ u : Nat, u < 18446744073709551616 → ¬ enc u <+: bs := by
  intro u hlt hu
  obtain ⟨y, _, rfl, hp⟩ := (h.2.1 u).1 hu
  have hd : bs.drop 9 = c :: bs.drop 10 := by
    rw [List.drop_eq_getElem_cons hn]
    simp [hn] at hc
    rw [hc]
  rw [hd] at hp
  have hy : y ≤ 1 := by
    have : (128 : Nat) ^ 9 = 9223372036854775808 := by decide
    omega
  rw [enc_lo (by omega), pre_cons] at hp
  omega

/-- A last byte that is 0, and not the first. -/
theorem inv_zero {bs : List Int} {n acc : Nat} (h : Inv bs n acc) (hn : n < bs.length) (hc : bs.getD n 0 = 0) (h1 : 1 ≤ n) : ∀ u : Nat, u < 18446744073709551616 → ¬ enc u <+: bs := by
  intro u _ hu
  obtain ⟨y, hy, rfl, hp⟩ := (h.2.1 u).1 hu
  have hd : bs.drop n = 0 :: bs.drop (n + 1) := by
    rw [List.drop_eq_getElem_cons hn]
    simp [hn] at hc
    rw [hc]
  rw [hd, pre_lo (by omega)] at hp
  omega

/-- A last byte that ends the number. -/
theorem inv_end {bs : List Int} {n acc : Nat} {c : Int} (h : Inv bs n acc) (hn : n < bs.length) (hc : bs.getD n 0 = c) (h0 : 0 ≤ c) (h1 : c < 128) (h2 : 1 ≤ c ∨ n = 0) :
    enc (acc + (c % 128).toNat * 128 ^ n) <+: bs ∧ sz (acc + (c % 128).toNat * 128 ^ n) = n + 1 := by
  have hd : bs.drop n = c :: bs.drop (n + 1) := by
    rw [List.drop_eq_getElem_cons hn]
    simp [hn] at hc
    rw [hc]
  have e : (c % 128).toNat = c.toNat := by omega
  rw [e]
  refine ⟨(h.2.1 _).2 ⟨c.toNat, by omega, rfl, ?_⟩, ?_⟩
  · rw [hd, pre_lo h1]; omega
  · rw [h.2.2.1 _ (by omega), sz_lo (by omega)]

theorem inv_fits {bs : List Int} {n acc : Nat} {c : Int} (h : Inv bs n acc) (hn : n ≤ 8) (_h0 : 0 ≤ c) : acc + (c % 128).toNat * 128 ^ n < 18446744073709551616 := by
  have hp : 128 ^ n ≤ 128 ^ 8 := Nat.pow_le_pow_right (by omega) hn
  have h8 : (128 : Nat) ^ 8 = 72057594037927936 := by decide
  have : (c % 128).toNat * 128 ^ n ≤ 127 * 128 ^ n := Nat.mul_le_mul_right _ (by omega)
  have := h.1
  omega

theorem inv_fits9 {bs : List Int} {acc : Nat} {c : Int} (h : Inv bs 9 acc) (h0 : 0 ≤ c) (h1 : c ≤ 1) : acc + (c % 128).toNat * 128 ^ 9 < 18446744073709551616 := by
  have h8 : (128 : Nat) ^ 9 = 9223372036854775808 := by decide
  have := h.1
  omega

/-- What a last group brings, once 64 bits are all: of the tenth byte one bit alone. -/
def dd (n : Nat) (c : Int) : Nat := if n ≤ 8 then (c % 128).toNat else (c % 2).toNat

theorem dd_lt (n : Nat) (c : Int) : dd n c < 128 := by unfold dd; split <;> omega

theorem dd_fits {bs : List Int} {n acc : Nat} (c : Int) (h : Inv bs n acc) (hn : n ≤ 9) : acc + dd n c * 128 ^ n < 18446744073709551616 := by
  unfold dd
  split
  · have hp : 128 ^ n ≤ 128 ^ 8 := Nat.pow_le_pow_right (by omega) (by assumption)
    have h8 : (128 : Nat) ^ 8 = 72057594037927936 := by decide
    have : (c % 128).toNat * 128 ^ n ≤ 127 * 128 ^ n := Nat.mul_le_mul_right _ (by omega)
    have := h.1
    omega
  · have : n = 9 := by omega
    subst this
    have h8 : (128 : Nat) ^ 9 = 9223372036854775808 := by decide
    have := h.1
    omega

theorem sz_small {n acc : Nat} (h : acc < 128 ^ n) (hn : 1 ≤ n) : sz acc ≤ n := by
  obtain ⟨m, rfl⟩ : ∃ m, n = m + 1 := ⟨n - 1, by omega⟩
  exact sz_le m acc h

theorem dd_own {bs : List Int} {n acc : Nat} {c : Int} (h : Inv bs n acc) (hn : n < bs.length) (h1 : 1 ≤ dd n c ∨ n = 0) :
    sz (acc + dd n c * 128 ^ n) = n + 1 ∧ (enc (acc + dd n c * 128 ^ n)).getD n 0 = dd n c := by
  have hd := dd_lt n c
  refine ⟨by rw [h.2.2.1 _ h1, sz_lo hd], ?_⟩
  rw [h.2.2.2 _ h1, enc_lo hd]
  have : (bs.take n).length = n := by simp; omega
  simp [this]

theorem dd_cases {bs : List Int} {n acc : Nat} {c : Int} (h : Inv bs n acc) (hs : sz (acc + dd n c * 128 ^ n) = n + 1) : 1 ≤ dd n c ∨ n = 0 := by
  by_cases hd : 1 ≤ dd n c
  · exact .inl hd
  · by_cases hn : n = 0
    · exact .inr hn
    · have e : dd n c = 0 := by omega
      rw [e] at hs
      have := sz_small h.1 (by omega)
      simp at hs
      omega

theorem dd_bad_len {bs : List Int} {n acc : Nat} {c : Int} (h : Inv bs n acc) (hn9 : n ≤ 9) (hn : n < bs.length) (hc : bs.getD n 0 = c) (h0 : 0 ≤ c) (h1 : c < 128) (hs : sz (acc + dd n c * 128 ^ n) ≠ n + 1) :
    ∀ u : Nat, u < 18446744073709551616 → ¬ enc u <+: bs := by
  have hd : ¬ (1 ≤ dd n c ∨ n = 0) := fun hd => hs (dd_own h hn hd).1
  by_cases h8 : n ≤ 8
  · unfold dd at hd
    rw [if_pos h8] at hd
    have : c = 0 := by omega
    subst this
    exact inv_zero h hn hc (by omega)
  · have : n = 9 := by omega
    subst this
    unfold dd at hd
    rw [if_neg h8] at hd
    by_cases hc0 : c = 0
    · subst hc0
      exact inv_zero h hn hc (by omega)
    · exact inv_wide h hn hc (by omega) (by omega)

theorem dd_bad_last {bs : List Int} {n acc : Nat} {c : Int} (h : Inv bs n acc) (hn9 : n ≤ 9) (hn : n < bs.length) (hc : bs.getD n 0 = c) (h0 : 0 ≤ c) (h1 : c < 128) (hs : sz (acc + dd n c * 128 ^ n) = n + 1)
    (hl : (enc (acc + dd n c * 128 ^ n)).getD n 0 ≠ c) : ∀ u : Nat, u < 18446744073709551616 → ¬ enc u <+: bs := by
  have hd := dd_cases h hs
  rw [(dd_own h hn hd).2] at hl
  unfold dd at hl
  by_cases h8 : n ≤ 8
  · rw [if_pos h8] at hl; omega
  · rw [if_neg h8] at hl
    have : n = 9 := by omega
    subst this
    exact inv_wide h hn hc (by omega) (by omega)

theorem dd_good {bs : List Int} {n acc : Nat} {c : Int} (h : Inv bs n acc) (hn : n < bs.length) (hc : bs.getD n 0 = c) (h0 : 0 ≤ c) (h1 : c < 128) (hs : sz (acc + dd n c * 128 ^ n) = n + 1)
    (hl : (enc (acc + dd n c * 128 ^ n)).getD n 0 = c) : enc (acc + dd n c * 128 ^ n) <+: bs := by
  have hd := dd_cases h hs
  rw [(dd_own h hn hd).2] at hl
  have e : dd n c = (c % 128).toNat := by omega
  rw [e]
  exact (inv_end h hn hc h0 h1 (by omega)).1

/-- A tenth byte that goes on: no number. -/
theorem inv_ten {bs : List Int} {acc : Nat} {c : Int} (h : Inv bs 9 acc) (hn : 9 < bs.length) (hc : bs.getD 9 0 = c) (h1 : 128 ≤ c) (h2 : c < 256) : ∀ u : Nat, u < 18446744073709551616 → ¬ enc u <+: bs :=
  inv_wide h hn hc (by omega) h2

end Go.Proofs.YtkpnkknolobioaaGreat.Vm

/- Plain facts on an op's bytes (its kind, its key behind its count, its value behind its count): no program, no walk. -/
namespace Go.Proofs.YtkpnkknolobioaaGreat.Om
open Vm

/-- Bytes as numbers. -/
def ints (l : List UInt8) : List Int := l.map fun c => (c.toNat : Int)

theorem ints_nil : ints [] = [] := rfl
theorem ints_len (l : List UInt8) : (ints l).length = l.length := by simp [ints]
theorem ints_append (a b : List UInt8) : ints (a ++ b) = ints a ++ ints b := by simp [ints]
theorem ints_inj : ∀ {a b : List UInt8}, ints a = ints b → a = b
  | [], [], _ => rfl
  | [], _ :: _, h => by simp [ints] at h
  | _ :: _, [], h => by simp [ints] at h
  | x :: a, y :: b, h => by
    simp only [ints, List.map_cons, List.cons.injEq] at h
    have h1 : x.toNat = y.toNat := by omega
    rw [UInt8.toNat_inj.1 h1, ints_inj (a := a) (b := b) h.2]

/-- Numbers as bytes. -/
def byts (l : List Int) : List UInt8 := l.map fun z => UInt8.ofNat z.toNat

theorem byts_ints (l : List UInt8) : byts (ints l) = l := by
  simp only [byts, ints, List.map_map]
  conv => rhs; rw [← List.map_id l]
  apply List.map_congr_left
  intro z _
  simp

theorem ints_byts {l : List Int} (h : ∀ z ∈ l, 0 ≤ z ∧ z < 256) : ints (byts l) = l := by
  simp only [byts, ints, List.map_map]
  conv => rhs; rw [← List.map_id l]
  apply List.map_congr_left
  intro z hz
  have := h z hz
  simp
  omega

theorem byts_len (l : List Int) : (byts l).length = l.length := by simp [byts]

/-- What Check answers. -/
def chk (p : Bool) (k v : List UInt8) : Int := if 1 ≤ k.length ∧ k.length ≤ 16 ∧ v.length ≤ 32 ∧ (p = true ∨ v = []) then 0 else 2

theorem chk_ok {p : Bool} {k v : List UInt8} (h : 1 ≤ k.length ∧ k.length ≤ 16 ∧ v.length ≤ 32 ∧ (p = true ∨ v = [])) : chk p k v = 0 := by unfold chk; rw [if_pos h]
theorem chk_no {p : Bool} {k v : List UInt8} (h : ¬ (1 ≤ k.length ∧ k.length ≤ 16 ∧ v.length ≤ 32 ∧ (p = true ∨ v = []))) : chk p k v = 2 := by unfold chk; rw [if_neg h]
theorem chk_ok' {p : Bool} {k v : List UInt8} (h : chk p k v = 0) : 1 ≤ k.length ∧ k.length ≤ 16 ∧ v.length ≤ 32 ∧ (p = true ∨ v = []) := by
  unfold chk at h
  split at h
  · assumption
  · simp at h
theorem chk_two (p : Bool) (k v : List UInt8) : chk p k v = 0 ∨ chk p k v = 2 := by unfold chk; split <;> simp

/-- Bytes behind their count. -/
def cnt (s : List UInt8) : List Int := enc s.length ++ ints s

/-- An op's bytes. -/
def opEnc (p : Bool) (k v : List UInt8) : List Int := (if p then 1 else 0) :: (cnt k ++ if p then cnt v else [])

theorem cnt_len (s : List UInt8) : (cnt s).length = sz s.length + s.length := by simp [cnt, ints_len, sz]

theorem cnt_le {s : List UInt8} (h : s.length ≤ 32) : (cnt s).length ≤ 33 := by
  rw [cnt_len, sz_lo (by omega)]; omega

theorem cnt_short {s : List UInt8} (h : s.length ≤ 32) : cnt s = (s.length : Int) :: ints s := by
  unfold cnt; rw [enc_lo (by omega)]; rfl

theorem opEnc_le {p : Bool} {k v : List UInt8} (h : chk p k v = 0) : (opEnc p k v).length ≤ 51 := by
  have h := chk_ok' h
  have h1 := cnt_len k
  have h2 := cnt_len v
  rw [sz_lo (by omega)] at h1 h2
  unfold opEnc
  cases p <;> simp <;> omega

/-- Two counted rows of bytes with one beginning are one. -/
theorem cnt_free {s t : List UInt8} {bs : List Int} (h : cnt s <+: bs) (k : cnt t <+: bs) : s = t := by
  have h1 : enc s.length <+: bs := (List.prefix_append _ _).trans h
  have k1 : enc t.length <+: bs := (List.prefix_append _ _).trans k
  have e := pre_one bs _ _ h1 k1
  have hl : (cnt s).length = (cnt t).length := by rw [cnt_len, cnt_len, e]
  have : cnt s = cnt t := by
    rw [List.prefix_iff_eq_take] at h k
    rw [h, k, hl]
  unfold cnt at this
  rw [e] at this
  exact ints_inj (List.append_cancel_left this)

/-- What readCounted comes to, of the bytes from its place on. -/
def CRes (bs : List Int) (most : Nat) (s : List UInt8) (n : Nat) (e : Int) : Prop :=
  (e = 0 ∧ s.length ≤ most ∧ cnt s <+: bs ∧ n = (cnt s).length) ∨ (e = 5 ∧ s = [] ∧ n = 0 ∧ ∀ t : List UInt8, t.length ≤ most → ¬ cnt t <+: bs)

/-- What Read comes to. -/
def ORes (bs : List Int) (p : Bool) (k v : List UInt8) (n e : Int) : Prop :=
  (e = 0 ∧ chk p k v = 0 ∧ opEnc p k v <+: bs ∧ n = (opEnc p k v).length) ∨ (e = 5 ∧ p = false ∧ k = [] ∧ v = [] ∧ n = 0 ∧ ∀ p k v, chk p k v = 0 → ¬ opEnc p k v <+: bs)

theorem opEnc_free {p q : Bool} {k v l u : List UInt8} {bs : List Int} (h : opEnc p k v <+: bs) (g : opEnc q l u <+: bs) (hp : chk p k v = 0) (hq : chk q l u = 0) : p = q ∧ k = l ∧ v = u := by
  cases bs with
  | nil => simp [opEnc] at h
  | cons b bs =>
    unfold opEnc at h g
    rw [List.cons_prefix_cons] at h g
    have e : p = q := by
      have := h.1.trans g.1.symm
      clear h g hp hq
      cases p <;> cases q <;> simp_all
    subst e
    have hk : k = l := cnt_free ((List.prefix_append _ _).trans h.2) ((List.prefix_append _ _).trans g.2)
    subst hk
    refine ⟨rfl, rfl, ?_⟩
    cases p
    · have h1 := (chk_ok' hp).2.2.2
      have h2 := (chk_ok' hq).2.2.2
      simp at h1 h2
      rw [h1, h2]
    · obtain ⟨r, hr⟩ := h.2
      obtain ⟨r', hr'⟩ := g.2
      simp only [if_true] at hr hr'
      rw [List.append_assoc] at hr hr'
      have := List.append_cancel_left (hr.trans hr'.symm)
      exact cnt_free (bs := cnt v ++ r) (List.prefix_append _ _) (by rw [this]; exact List.prefix_append _ _)

theorem ores_one {bs : List Int} {p q : Bool} {k v l u : List UInt8} {n m e f : Int} (h : ORes bs p k v n e) (g : ORes bs q l u m f) : p = q ∧ k = l ∧ v = u ∧ n = m ∧ e = f := by
  rcases h with ⟨rfl, h1, h2, rfl⟩ | ⟨rfl, rfl, rfl, rfl, rfl, h⟩ <;> rcases g with ⟨rfl, g1, g2, rfl⟩ | ⟨rfl, rfl, rfl, rfl, rfl, g⟩
  · obtain ⟨rfl, rfl, rfl⟩ := opEnc_free h2 g2 h1 g1
    exact ⟨rfl, rfl, rfl, rfl, rfl⟩
  · exact absurd h2 (g _ _ _ h1)
  · exact absurd g2 (h _ _ _ g1)
  · exact ⟨rfl, rfl, rfl, rfl, rfl⟩

theorem ores_good {bs : List Int} {p q : Bool} {k v l u : List UInt8} {m f : Int} (hc : chk p k v = 0) (h : opEnc p k v <+: bs) (g : ORes bs q l u m f) : q = p ∧ l = k ∧ u = v ∧ m = (opEnc p k v).length ∧ f = 0 := by
  obtain ⟨rfl, rfl, rfl, rfl, rfl⟩ := ores_one (.inl ⟨rfl, hc, h, rfl⟩ : ORes bs p k v _ 0) g
  exact ⟨rfl, rfl, rfl, rfl, rfl⟩

/-- Read: nothing to begin with. -/
theorem ores_nil : ORes [] false [] [] 0 5 := .inr ⟨rfl, rfl, rfl, rfl, rfl, fun p k v _ h => by simp [opEnc] at h⟩

/-- Read: a first byte that is no kind. -/
theorem ores_kind {b : Int} {bs : List Int} (h0 : b ≠ 0) (h1 : b ≠ 1) : ORes (b :: bs) false [] [] 0 5 := by
  refine .inr ⟨rfl, rfl, rfl, rfl, rfl, fun p k v _ h => ?_⟩
  unfold opEnc at h
  rw [List.cons_prefix_cons] at h
  have := h.1
  cases p <;> simp at this <;> omega

/-- Read: no key. -/
theorem ores_key {b : Int} {bs : List Int} {s : List UInt8} {n : Nat} {e : Int} (h : CRes bs 16 s n e) (he : e ≠ 0 ∨ s = []) : ORes (b :: bs) false [] [] 0 5 := by
  refine .inr ⟨rfl, rfl, rfl, rfl, rfl, fun p k v hc hp => ?_⟩
  have hk := chk_ok' hc
  unfold opEnc at hp
  rw [List.cons_prefix_cons] at hp
  have hkp : cnt k <+: bs := (List.prefix_append _ _).trans hp.2
  rcases h with ⟨h1, _, h2, _⟩ | ⟨_, _, _, h3⟩
  · rcases he with he | he
    · exact he h1
    · have := cnt_free h2 hkp
      rw [← this, he] at hk
      simp at hk
  · exact h3 k hk.2.1 hkp

/-- Read: a delete. -/
theorem ores_del {bs : List Int} {s : List UInt8} {n : Nat} (h : CRes bs 16 s n 0) (hs : s ≠ []) : ORes (0 :: bs) false s [] ((1 + n : Nat) : Int) 0 := by
  rcases h with ⟨_, h1, h2, h3⟩ | ⟨h, _⟩
  · have : 0 < s.length := List.length_pos_iff.2 hs
    refine .inl ⟨rfl, chk_ok ⟨by omega, h1, by simp, .inr rfl⟩, ?_, ?_⟩
    · unfold opEnc; simpa using h2
    · unfold opEnc; rw [h3]; simp; omega
  · simp at h

/-- Read: a put. -/
theorem ores_put {bs : List Int} {s t : List UInt8} {n m : Nat} (h : CRes bs 16 s n 0) (hs : s ≠ []) (g : CRes (bs.drop n) 32 t m 0) : ORes (1 :: bs) true s t ((1 + n + m : Nat) : Int) 0 := by
  rcases h with ⟨_, h1, h2, h3⟩ | ⟨h, _⟩
  · rcases g with ⟨_, g1, g2, g3⟩ | ⟨g, _⟩
    · have : 0 < s.length := List.length_pos_iff.2 hs
      refine .inl ⟨rfl, chk_ok ⟨by omega, h1, g1, .inl rfl⟩, ?_, ?_⟩
      · unfold opEnc
        obtain ⟨r, hr⟩ := h2
        rw [h3, ← hr] at g2
        simp at g2
        rw [List.cons_prefix_cons]
        refine ⟨rfl, ?_⟩
        rw [← hr]
        simpa using List.prefix_append_right_inj (cnt s) |>.2 g2
      · unfold opEnc; rw [h3, g3]; simp; omega
    · simp at g
  · simp at h

/-- Read: no value. -/
theorem ores_val {bs : List Int} {s t : List UInt8} {n m : Nat} {e : Int} (h : CRes bs 16 s n 0) (g : CRes (bs.drop n) 32 t m e) (he : e ≠ 0) : ORes (1 :: bs) false [] [] 0 5 := by
  refine .inr ⟨rfl, rfl, rfl, rfl, rfl, fun p k v hc hp => ?_⟩
  have hk := chk_ok' hc
  unfold opEnc at hp
  rw [List.cons_prefix_cons] at hp
  cases p
  · simp at hp
  · have hkp : cnt k <+: bs := (List.prefix_append _ _).trans hp.2
    rcases h with ⟨_, _, h2, h3⟩ | ⟨h, _⟩
    · have e1 := cnt_free h2 hkp
      subst e1
      obtain ⟨r, hr⟩ := h2
      rcases g with ⟨g, _⟩ | ⟨_, _, _, g⟩
      · exact he g
      · refine g v hk.2.2.1 ?_
        rw [h3, ← hr]
        have := hp.2
        rw [← hr] at this
        simp only [if_true] at this
        simpa using (List.prefix_append_right_inj (cnt s)).1 this
    · simp at h

/-- What Append answers. -/
def appd (bs : List Int) (p : Bool) (k v : List UInt8) : List Int := if chk p k v = 0 then bs ++ opEnc p k v else []

theorem appd_ok {bs : List Int} {p : Bool} {k v : List UInt8} (h : chk p k v = 0) : appd bs p k v = bs ++ opEnc p k v := by unfold appd; rw [if_pos h]
theorem appd_no {bs : List Int} {p : Bool} {k v : List UInt8} (h : chk p k v = 2) : appd bs p k v = [] := by unfold appd; rw [if_neg (by omega)]

theorem appd_le (bs : List Int) (p : Bool) (k v : List UInt8) : (appd bs p k v).length ≤ bs.length + 51 := by
  rcases chk_two p k v with h | h
  · rw [appd_ok h, List.length_append]
    have := opEnc_le h
    omega
  · rw [appd_no h]; simp

end Go.Proofs.YtkpnkknolobioaaGreat.Om

/- Plain facts on a batch's bytes (how many ops; each op's kind, how much of its key it shares with the one ahead, the rest, its value): no program, no walk. -/
namespace Go.Proofs.YtkpnkknolobioaaGreat.Bm
open Vm Om

/-- An op. -/
structure Ov where
  p : Bool
  k : ByteArray
  v : ByteArray

def Ov.kl (o : Ov) : List UInt8 := o.k.data.toList
def Ov.vl (o : Ov) : List UInt8 := o.v.data.toList
def Ov.c (o : Ov) : Int := chk o.p o.kl o.vl
def Ov.bit (o : Ov) : Nat := if o.p then 1 else 0

theorem ba_eq {a b : ByteArray} (h : a.data.toList = b.data.toList) : a = b := by
  obtain ⟨⟨a⟩⟩ := a
  obtain ⟨⟨b⟩⟩ := b
  simp at h
  rw [h]

theorem Ov.eq {o q : Ov} (h1 : o.p = q.p) (h2 : o.kl = q.kl) (h3 : o.vl = q.vl) : o = q := by
  obtain ⟨p, k, v⟩ := o
  obtain ⟨p', k', v'⟩ := q
  have e2 : k = k' := ba_eq h2
  have e3 : v = v' := ba_eq h3
  have e1 : p = p' := h1
  rw [e1, e2, e3]

theorem Ov.two (o : Ov) : o.c = 0 ∨ o.c = 2 := chk_two _ _ _

/-- How many first bytes two texts have in common. -/
def com : List UInt8 → List UInt8 → Nat
  | x :: a, y :: b => if x = y then com a b + 1 else 0
  | _, _ => 0

theorem com_le : ∀ (a b : List UInt8), com a b ≤ a.length ∧ com a b ≤ b.length ∧ b.take (com a b) = a.take (com a b)
  | [], b => by simp [com]
  | x :: a, [] => by simp [com]
  | x :: a, y :: b => by
    have := com_le a b
    unfold com
    split
    · rename_i h
      subst h
      simp [this.1, this.2.1, this.2.2]
    · simp

theorem com_is : ∀ (a b : List UInt8) (n : Nat), n ≤ a.length → n ≤ b.length → a.take n = b.take n → (n = a.length ∨ n = b.length ∨ a[n]? ≠ b[n]?) → com a b = n
  | [], b, n, h1, h2, h3, h4 => by simp at h1; subst h1; simp [com]
  | x :: a, [], n, h1, h2, h3, h4 => by simp at h2; subst h2; simp [com]
  | x :: a, y :: b, 0, h1, h2, h3, h4 => by
    simp at h4
    unfold com
    rw [if_neg h4]
  | x :: a, y :: b, n + 1, h1, h2, h3, h4 => by
    simp at h1 h2 h3 h4
    obtain ⟨rfl, h3⟩ := h3
    unfold com
    rw [if_pos rfl, com_is a b n h1 h2 h3 h4]

theorem com_self (a : List UInt8) : com a a = a.length := com_is a a _ (Nat.le_refl _) (Nat.le_refl _) rfl (.inl rfl)

/-- What Check answers of ops, without their count. -/
def first : List Ov → Int
  | [] => 0
  | o :: r => if o.c = 0 then first r else 2

theorem first_two : ∀ (l : List Ov), first l = 0 ∨ first l = 2
  | [] => .inl rfl
  | o :: r => by unfold first; split; exact first_two r; exact .inr rfl

theorem first_zero : ∀ {l : List Ov}, first l = 0 → ∀ o ∈ l, o.c = 0
  | [], _, o, ho => by simp at ho
  | q :: r, h, o, ho => by
    unfold first at h
    split at h
    · rcases List.mem_cons.1 ho with rfl | ho
      · assumption
      · exact first_zero h o ho
    · simp at h

theorem first_all : ∀ {l : List Ov}, (∀ o ∈ l, o.c = 0) → first l = 0
  | [], _ => rfl
  | q :: r, h => by
    unfold first
    rw [if_pos (h q (by simp)), first_all fun o ho => h o (by simp [ho])]

theorem first_bad {l : List Ov} {o : Ov} (ho : o ∈ l) (h : o.c ≠ 0) : first l = 2 := by
  rcases first_two l with h' | h'
  · exact absurd (first_zero h' o ho) h
  · exact h'

/-- What Check answers. -/
def chkL (l : List Ov) : Int := if l.length = 0 then 2 else if 8 < l.length then 3 else first l

theorem chkL_nil : chkL [] = 2 := rfl
theorem chkL_long {l : List Ov} (h : 8 < l.length) : chkL l = 3 := by unfold chkL; rw [if_neg (by omega), if_pos h]
theorem chkL_mid {l : List Ov} (h : l.length ≠ 0) (h' : ¬ 8 < l.length) : chkL l = first l := by unfold chkL; rw [if_neg h, if_neg h']
theorem chkL_zero {l : List Ov} (h : chkL l = 0) : 1 ≤ l.length ∧ l.length ≤ 8 ∧ ∀ o ∈ l, o.c = 0 := by
  unfold chkL at h
  split at h
  · simp at h
  · split at h
    · simp at h
    · exact ⟨by omega, by omega, first_zero h⟩
theorem chkL_four (l : List Ov) : chkL l = 0 ∨ chkL l = 2 ∨ chkL l = 3 := by
  unfold chkL
  split
  · simp
  · split
    · simp
    · rcases first_two l with h | h <;> simp [h]

/-- Kind, how much is shared, the rest behind its count. -/
def pre4 (kind sh : Nat) (rest : List UInt8) : List Int := enc kind ++ (enc sh ++ (enc rest.length ++ ints rest))

/-- An op's bytes behind a key. -/
def encO (ah : List UInt8) (o : Ov) : List Int := pre4 o.bit (com ah o.kl) (o.kl.drop (com ah o.kl)) ++ if o.p then cnt o.vl else []

def encL (ah : List UInt8) : List Ov → List Int
  | [] => []
  | o :: r => encO ah o ++ encL o.kl r

def encB (l : List Ov) : List Int := enc l.length ++ encL [] l

def appB (bs : List Int) (l : List Ov) : List Int := if chkL l = 0 then bs ++ encB l else []

theorem appB_ok {bs : List Int} {l : List Ov} (h : chkL l = 0) : appB bs l = bs ++ encB l := by unfold appB; rw [if_pos h]
theorem appB_no {bs : List Int} {l : List Ov} (h : chkL l ≠ 0) : appB bs l = [] := by unfold appB; rw [if_neg h]

theorem pre_app {A X bs : List Int} : A ++ X <+: bs ↔ A <+: bs ∧ X <+: bs.drop A.length := by
  constructor
  · intro h
    refine ⟨(List.prefix_append _ _).trans h, ?_⟩
    obtain ⟨r, rfl⟩ := h
    rw [List.append_assoc, List.drop_left]
    exact List.prefix_append _ _
  · rintro ⟨⟨r, rfl⟩, h⟩
    rw [List.drop_left] at h
    exact (List.prefix_append_right_inj _).2 h

theorem ints_pre {s t : List UInt8} {bs : List Int} (h : ints s <+: bs) (k : ints t <+: bs) (hl : s.length = t.length) : s = t := by
  rw [List.prefix_iff_eq_take] at h k
  apply ints_inj
  rw [h, k, ints_len, ints_len, hl]

theorem pre4_free {a b c d : Nat} {r s : List UInt8} {bs : List Int} (h : pre4 a b r <+: bs) (g : pre4 c d s <+: bs) : a = c ∧ b = d ∧ r = s := by
  unfold pre4 at h g
  rw [pre_app, pre_app, pre_app] at h g
  obtain ⟨h1, h2, h3, h4⟩ := h
  obtain ⟨g1, g2, g3, g4⟩ := g
  obtain rfl := pre_one _ _ _ h1 g1
  obtain rfl := pre_one _ _ _ h2 g2
  have e := pre_one _ _ _ h3 g3
  rw [e] at h4
  exact ⟨rfl, rfl, ints_pre h4 g4 e⟩

/-- A delete has no value. -/
def Ov.shape (o : Ov) : Prop := o.p = true ∨ o.vl = []

theorem Ov.shape_of {o : Ov} (h : o.c = 0) : o.shape := (chk_ok' h).2.2.2

theorem key_of (ah : List UInt8) (k : List UInt8) : ah.take (com ah k) ++ k.drop (com ah k) = k := by
  rw [← (com_le ah k).2.2, List.take_append_drop]

theorem bit_eq {o q : Ov} (h : o.bit = q.bit) : o.p = q.p := by
  unfold Ov.bit at h
  cases h1 : o.p <;> cases h2 : q.p <;> simp_all

theorem encO_free {ah : List UInt8} {o q : Ov} {bs : List Int} (h : encO ah o <+: bs) (g : encO ah q <+: bs) (ho : o.shape) (hq : q.shape) : o = q := by
  unfold encO at h g
  rw [pre_app] at h g
  obtain ⟨h1, h2⟩ := h
  obtain ⟨g1, g2⟩ := g
  obtain ⟨e1, e2, e3⟩ := pre4_free h1 g1
  have ek : o.kl = q.kl := by
    rw [← key_of ah o.kl, ← key_of ah q.kl, e2]
    rw [e2] at e3
    rw [e3]
  have ep := bit_eq e1
  refine Ov.eq ep ek ?_
  have el : o.kl.length = q.kl.length := by rw [ek]
  rw [e1, ek] at h2
  cases hp : o.p
  · have := ho
    have := hq
    unfold Ov.shape at *
    rw [← ep] at *
    simp_all
  · rw [hp] at h2
    rw [← ep, hp] at g2
    simp only [if_true] at h2 g2
    exact cnt_free h2 g2

theorem encL_free : ∀ (ah : List UInt8) (l m : List Ov) (bs : List Int), l.length = m.length → (∀ o ∈ l, o.shape) → (∀ o ∈ m, o.shape) → encL ah l <+: bs → encL ah m <+: bs → l = m
  | _, [], [], _, _, _, _, _, _ => rfl
  | _, [], _ :: _, _, h, _, _, _, _ => by simp at h
  | _, _ :: _, [], _, h, _, _, _, _ => by simp at h
  | ah, o :: l, q :: m, bs, hl, h1, h2, h, g => by
    unfold encL at h g
    rw [pre_app] at h g
    obtain rfl := encO_free h.1 g.1 (h1 o (by simp)) (h2 q (by simp))
    rw [encL_free o.kl l m _ (by simpa using hl) (fun x hx => h1 x (by simp [hx])) (fun x hx => h2 x (by simp [hx])) h.2 g.2]

theorem encB_free {l m : List Ov} {bs : List Int} (h : encB l <+: bs) (g : encB m <+: bs) (hl : ∀ o ∈ l, o.shape) (hm : ∀ o ∈ m, o.shape) : l = m := by
  unfold encB at h g
  rw [pre_app] at h g
  have e := pre_one _ _ _ h.1 g.1
  rw [e] at h
  exact encL_free [] l m _ e hl hm h.2 g.2

/-- The last key. -/
def lst (ah : List UInt8) : List Ov → List UInt8
  | [] => ah
  | o :: r => lst o.kl r

theorem lst_snoc : ∀ (ah : List UInt8) (l : List Ov) (o : Ov), lst ah (l ++ [o]) = o.kl
  | _, [], _ => rfl
  | _, q :: l, o => lst_snoc q.kl l o

theorem encL_snoc : ∀ (ah : List UInt8) (l : List Ov) (o : Ov), encL ah (l ++ [o]) = encL ah l ++ encO (lst ah l) o
  | _, [], _ => by simp [encL, lst]
  | ah, q :: l, o => by
    show encO ah q ++ encL q.kl (l ++ [o]) = encO ah q ++ encL q.kl l ++ encO (lst q.kl l) o
    rw [encL_snoc q.kl l o, List.append_assoc]

theorem encL_app : ∀ (ah : List UInt8) (l m : List Ov), encL ah (l ++ m) = encL ah l ++ encL (lst ah l) m
  | _, [], _ => rfl
  | ah, q :: l, m => by
    show encO ah q ++ encL q.kl (l ++ m) = encO ah q ++ encL q.kl l ++ encL (lst q.kl l) m
    rw [encL_app q.kl l m, List.append_assoc]

/-- What Read comes to. -/
def BRes (bs : List Int) (l : List Ov) (n e : Int) : Prop :=
  (e = 0 ∧ chkL l = 0 ∧ encB l <+: bs ∧ n = (encB l).length) ∨ (e = 5 ∧ l = [] ∧ n = 0 ∧ ∀ m, chkL m = 0 → ¬ encB m <+: bs)

theorem shapes {l : List Ov} (h : chkL l = 0) : ∀ o ∈ l, o.shape := fun o ho => Ov.shape_of ((chkL_zero h).2.2 o ho)

theorem bres_one {bs : List Int} {l m : List Ov} {n i e f : Int} (h : BRes bs l n e) (g : BRes bs m i f) : l = m ∧ n = i ∧ e = f := by
  rcases h with ⟨rfl, h1, h2, rfl⟩ | ⟨rfl, rfl, rfl, h⟩ <;> rcases g with ⟨rfl, g1, g2, rfl⟩ | ⟨rfl, rfl, rfl, g⟩
  · obtain rfl := encB_free h2 g2 (shapes h1) (shapes g1)
    exact ⟨rfl, rfl, rfl⟩
  · exact absurd h2 (g _ h1)
  · exact absurd g2 (h _ g1)
  · exact ⟨rfl, rfl, rfl⟩

theorem bres_good {bs : List Int} {l m : List Ov} {i f : Int} (hc : chkL l = 0) (h : encB l <+: bs) (g : BRes bs m i f) : m = l ∧ i = (encB l).length ∧ f = 0 := by
  obtain ⟨rfl, rfl, rfl⟩ := bres_one (.inl ⟨rfl, hc, h, rfl⟩ : BRes bs l _ 0) g
  exact ⟨rfl, rfl, rfl⟩

theorem bres_e {bs : List Int} {l : List Ov} {n e : Int} (h : BRes bs l n e) : e = 0 ∨ e = 5 := by
  rcases h with ⟨h, _⟩ | ⟨h, _⟩
  · exact .inl h
  · exact .inr h

/-- What a reader's number does. -/
def SS (bs : List Int) (most a : Nat) (bad : Bool) (u a' : Nat) (bad' : Bool) : Prop :=
  (bad = true ∧ bad' = true ∧ u = 0 ∧ a' = a) ∨ (bad = false ∧ bad' = true ∧ u = 0 ∧ a' = a ∧ ∀ x : Nat, x ≤ most → ¬ enc x <+: bs.drop a) ∨ (bad = false ∧ bad' = false ∧ u ≤ most ∧ enc u <+: bs.drop a ∧ a' = a + sz u)

/-- What a reader's bytes do. -/
def BS (bs : List Int) (n a : Nat) (bad : Bool) (zs : List Int) (a' : Nat) (bad' : Bool) : Prop :=
  ((bad = true ∨ bs.length - a < n) ∧ bad' = true ∧ zs = [] ∧ a' = a) ∨ (bad = false ∧ n ≤ bs.length - a ∧ bad' = false ∧ zs = (bs.drop a).take n ∧ a' = a + n)

theorem ss_le {bs : List Int} {most a u a' : Nat} {bad bad' : Bool} (h : SS bs most a bad u a' bad') : u ≤ most := by
  rcases h with ⟨_, _, h, _⟩ | ⟨_, _, h, _⟩ | ⟨_, _, h, _⟩ <;> omega

theorem bs_le {bs zs : List Int} {n a a' : Nat} {bad bad' : Bool} (h : BS bs n a bad zs a' bad') : zs.length ≤ n := by
  rcases h with ⟨_, _, h, _⟩ | ⟨_, _, _, h, _⟩
  · simp [h]
  · rw [h, List.length_take]; omega

theorem ss_bad {bs : List Int} {most a u a' : Nat} {bad bad' : Bool} (h : SS bs most a bad u a' bad') (hb : bad = true) : bad' = true := by
  rcases h with ⟨_, h, _⟩ | ⟨_, h, _⟩ | ⟨h, _⟩
  · exact h
  · exact h
  · rw [hb] at h; simp at h

theorem bs_bad {bs zs : List Int} {n a a' : Nat} {bad bad' : Bool} (h : BS bs n a bad zs a' bad') (hb : bad = true) : bad' = true := by
  rcases h with ⟨_, h, _⟩ | ⟨h, _⟩
  · exact h
  · rw [hb] at h; simp at h

/-- No op that may be stands there. -/
def No (bs : List Int) (a : Nat) (ah : List UInt8) : Prop := ∀ q : Ov, q.c = 0 → ¬ encO ah q <+: bs.drop a

theorem encO_parts {ah : List UInt8} {q : Ov} {bs : List Int} {a : Nat} (h : encO ah q <+: bs.drop a) :
    enc q.bit <+: bs.drop a ∧ enc (com ah q.kl) <+: bs.drop (a + sz q.bit) ∧ enc (q.kl.length - com ah q.kl) <+: bs.drop (a + sz q.bit + sz (com ah q.kl)) ∧
    ints (q.kl.drop (com ah q.kl)) <+: bs.drop (a + sz q.bit + sz (com ah q.kl) + sz (q.kl.length - com ah q.kl)) := by
  unfold encO pre4 at h
  rw [pre_app, pre_app, pre_app, pre_app] at h
  obtain ⟨⟨h1, h2, h3, h4⟩, _⟩ := h
  simp only [List.drop_drop, List.length_drop] at h2 h3 h4
  exact ⟨h1, h2, h3, h4⟩

/-- What the four steps of a key come to. -/
def PS (bs : List Int) (a : Nat) (bad : Bool) (ah : List UInt8) (kind sh n : Nat) (zs : List Int) (a4 : Nat) (bad4 : Bool) : Prop :=
  (bad4 = false ∧ bad = false ∧ kind ≤ 1 ∧ sh ≤ ah.length ∧ zs.length = n ∧ pre4 kind sh (byts zs) <+: bs.drop a ∧ a4 = a + (pre4 kind sh (byts zs)).length) ∨ (bad4 = true ∧ (bad = false → No bs a ah))

theorem bit_le (q : Ov) : q.bit ≤ 1 := by unfold Ov.bit; split <;> omega

theorem pstep {bs : List Int} (hb : ∀ z ∈ bs, 0 ≤ z ∧ z < 256) {a a1 a2 a3 a4 kind sh n M : Nat} {bad bad1 bad2 bad3 bad4 : Bool} {ah : List UInt8} {zs : List Int}
    (h1 : SS bs 1 a bad kind a1 bad1) (h2 : SS bs ah.length a1 bad1 sh a2 bad2) (h3 : SS bs M a2 bad2 n a3 bad3) (h4 : BS bs n a3 bad3 zs a4 bad4) (hM : M = 16 ∨ M = 16 - sh) : PS bs a bad ah kind sh n zs a4 bad4 := by
  rcases h1 with ⟨b1, c1, _⟩ | ⟨b1, c1, _, _, h1⟩ | ⟨b1, c1, u1, p1, e1⟩
  · exact .inr ⟨bs_bad h4 (ss_bad h3 (ss_bad h2 c1)), fun h => by rw [b1] at h; simp at h⟩
  · refine .inr ⟨bs_bad h4 (ss_bad h3 (ss_bad h2 c1)), fun _ q _ hp => h1 q.bit (bit_le q) (encO_parts hp).1⟩
  · rcases h2 with ⟨b2, c2, _⟩ | ⟨b2, c2, _, _, h2⟩ | ⟨b2, c2, u2, p2, e2⟩
    · rw [c1] at b2; simp at b2
    · refine .inr ⟨bs_bad h4 (ss_bad h3 c2), fun _ q _ hp => ?_⟩
      obtain ⟨g1, g2, _⟩ := encO_parts hp
      have := pre_one _ _ _ p1 g1
      rw [← this, ← e1] at g2
      exact h2 _ (com_le ah q.kl).1 g2
    · rcases h3 with ⟨b3, c3, _⟩ | ⟨b3, c3, _, _, h3⟩ | ⟨b3, c3, u3, p3, e3⟩
      · rw [c2] at b3; simp at b3
      · refine .inr ⟨bs_bad h4 c3, fun _ q hq hp => ?_⟩
        obtain ⟨g1, g2, g3, _⟩ := encO_parts hp
        have w1 := pre_one _ _ _ p1 g1
        rw [← w1, ← e1] at g2 g3
        have w2 := pre_one _ _ _ p2 g2
        rw [← w2, ← e2] at g3
        have := (chk_ok' hq).2.1
        exact h3 _ (by omega) g3
      · rcases h4 with ⟨b4, c4, _⟩ | ⟨b4, c4, d4, e4, f4⟩
        · refine .inr ⟨c4, fun _ q hq hp => ?_⟩
          obtain ⟨g1, g2, g3, g4⟩ := encO_parts hp
          have w1 := pre_one _ _ _ p1 g1
          rw [← w1, ← e1] at g2 g3 g4
          have w2 := pre_one _ _ _ p2 g2
          rw [← w2, ← e2] at g3 g4
          have w3 := pre_one _ _ _ p3 g3
          rw [← w3, ← e3] at g4
          have hl := g4.length_le
          rw [ints_len, List.length_drop, List.length_drop] at hl
          rcases b4 with b4 | b4
          · rw [c3] at b4; simp at b4
          · omega
        · have hl : zs.length = n := by rw [e4, List.length_take, List.length_drop]; omega
          have hbz : ints (byts zs) = zs := ints_byts fun z hz => hb z (by rw [e4] at hz; exact List.mem_of_mem_drop (List.mem_of_mem_take hz))
          refine .inl ⟨d4, b1, u1, u2, hl, ?_, ?_⟩
          · unfold pre4
            rw [pre_app, pre_app, pre_app, hbz, byts_len, hl]
            simp only [List.drop_drop]
            refine ⟨p1, ?_, ?_, ?_⟩
            · rw [e1] at p2; exact p2
            · rw [e2, e1] at p3; exact p3
            · rw [e3, e2, e1] at e4
              rw [e4]
              exact List.take_prefix _ _
          · unfold pre4
            simp only [List.length_append, ints_len, byts_len, hl]
            unfold sz at e1 e2 e3
            omega

/-- What an op of a reader comes to. -/
def OS (bs : List Int) (a : Nat) (bad : Bool) (ah : List UInt8) (o : Ov) (a' : Nat) (bad' : Bool) : Prop :=
  (bad = false ∧ bad' = false ∧ encO ah o <+: bs.drop a ∧ a' = a + (encO ah o).length ∧ o.shape) ∨ (bad' = true ∧ (bad = false → No bs a ah))

theorem os_bad {bs : List Int} {a a' : Nat} {bad bad' : Bool} {ah : List UInt8} {o : Ov} (h : bad' = true) (k : bad = false → No bs a ah) : OS bs a bad ah o a' bad' := .inr ⟨h, k⟩

theorem rest_of {sh : Nat} {ah rest : List UInt8} (h : sh ≤ ah.length) : (ah.take sh ++ rest).drop sh = rest := by
  have : (ah.take sh).length = sh := by rw [List.length_take]; omega
  rw [List.drop_append_of_le_length (by omega), List.drop_of_length_le (by omega), List.nil_append]

theorem os_com {bs : List Int} {a a4 kind sh n : Nat} {bad : Bool} {ah : List UInt8} {zs : List Int} (h : PS bs a bad ah kind sh n zs a4 false) (hc : com ah (ah.take sh ++ byts zs) ≠ sh) : No bs a ah := by
  rcases h with ⟨_, _, _, _, _, h, _⟩ | ⟨h, _⟩
  · intro q hq hp
    unfold encO at hp
    rw [pre_app] at hp
    obtain ⟨_, e2, e3⟩ := pre4_free h hp.1
    apply hc
    rw [e3, e2, key_of]
  · simp at h

theorem os_del {bs : List Int} {a a4 sh n : Nat} {bad : Bool} {ah : List UInt8} {zs : List Int} {o : Ov} (h : PS bs a bad ah 0 sh n zs a4 false) (hp : o.p = false) (hk : o.kl = ah.take sh ++ byts zs) (hv : o.vl = []) (hc : com ah o.kl = sh) : OS bs a bad ah o a4 false := by
  rcases h with ⟨_, h1, _, h2, h3, h4, h5⟩ | ⟨h, _⟩
  · have e : encO ah o = pre4 0 sh (byts zs) := by
      unfold encO Ov.bit
      rw [hp, hc, hk, rest_of h2]
      simp
    exact .inl ⟨h1, rfl, by rw [e]; exact h4, by rw [e]; exact h5, .inr hv⟩
  · simp at h

theorem os_put {bs : List Int} (hb : ∀ z ∈ bs, 0 ≤ z ∧ z < 256) {a a4 a5 a6 sh n m : Nat} {bad bad5 bad6 : Bool} {ah : List UInt8} {zs ys : List Int} {o : Ov} (h : PS bs a bad ah 1 sh n zs a4 false) (hp : o.p = true) (hk : o.kl = ah.take sh ++ byts zs) (hv : o.vl = byts ys) (hc : com ah o.kl = sh)
    (g1 : SS bs 32 a4 false m a5 bad5) (g2 : BS bs m a5 bad5 ys a6 bad6) : OS bs a bad ah o a6 bad6 := by
  rcases h with ⟨_, h1, _, h2, h3, h4, h5⟩ | ⟨h, _⟩
  · have e : encO ah o = pre4 1 sh (byts zs) ++ cnt (byts ys) := by
      unfold encO Ov.bit
      rw [hp, hc, hk, rest_of h2, hv]
      simp
    have none : (∀ t : List UInt8, t.length ≤ 32 → ¬ cnt t <+: bs.drop a4) → No bs a ah := by
      intro hn q hq hpq
      have hpq0 := hpq
      unfold encO at hpq
      rw [pre_app] at hpq
      obtain ⟨e1, e2, e3⟩ := pre4_free h4 hpq.1
      have hpp : q.p = true := by
        unfold Ov.bit at e1
        cases hh : q.p
        · rw [hh] at e1; simp at e1
        · rfl
      have hq2 := hpq.2
      rw [hpp, List.drop_drop, ← e1, ← e3, ← e2] at hq2
      rw [if_pos rfl, ← h5] at hq2
      exact hn q.vl (chk_ok' hq).2.2.1 hq2
    rcases g1 with ⟨b1, _⟩ | ⟨b1, c1, _, _, g1⟩ | ⟨b1, c1, u1, p1, e1⟩
    · simp at b1
    · refine .inr ⟨bs_bad g2 c1, fun _ => none fun t ht hp => ?_⟩
      unfold cnt at hp
      rw [pre_app] at hp
      exact g1 _ ht hp.1
    · rcases g2 with ⟨b2, c2, _⟩ | ⟨b2, c2, d2, e2, f2⟩
      · refine .inr ⟨c2, fun _ => none fun t ht hp => ?_⟩
        unfold cnt at hp
        rw [pre_app, List.drop_drop] at hp
        have w := pre_one _ _ _ p1 hp.1
        have hl := hp.2.length_le
        rw [ints_len, List.length_drop] at hl
        rcases b2 with b2 | b2
        · rw [c1] at b2; simp at b2
        · unfold sz at e1
          rw [w] at e1 b2
          omega
      · have hl : ys.length = m := by rw [e2, List.length_take, List.length_drop]; omega
        have hby : ints (byts ys) = ys := ints_byts fun z hz => hb z (by rw [e2] at hz; exact List.mem_of_mem_drop (List.mem_of_mem_take hz))
        refine .inl ⟨h1, d2, ?_, ?_, .inl hp⟩
        · rw [e, pre_app, List.drop_drop, ← h5]
          refine ⟨h4, ?_⟩
          unfold cnt
          rw [pre_app, List.drop_drop, byts_len, hl, hby]
          refine ⟨p1, ?_⟩
          unfold sz at e1
          rw [← e1, e2]
          exact List.take_prefix _ _
        · rw [e, List.length_append, ← Nat.add_assoc, ← h5, f2, e1, cnt_len, byts_len, hl]
          omega
  · simp at h

/-- What the program's reader does of a key. -/
def KS (bs : List Int) (a1 : Nat) (bad1 : Bool) (ah key : List UInt8) (a' : Nat) (bad' : Bool) : Prop :=
  ∃ sh n zs a2 bad2 a3 bad3 bad4, SS bs ah.length a1 bad1 sh a2 bad2 ∧ SS bs (16 - sh) a2 bad2 n a3 bad3 ∧ BS bs n a3 bad3 zs a' bad4 ∧ key = ah.take sh ++ byts zs ∧ bad' = (bad4 || decide (com ah key ≠ sh))

theorem ks_bad {bs : List Int} {a1 a' : Nat} {bad1 bad' : Bool} {ah key : List UInt8} (h : KS bs a1 bad1 ah key a' bad') (hb : bad1 = true) : bad' = true := by
  obtain ⟨sh, n, zs, a2, bad2, a3, bad3, bad4, h2, h3, h4, _, e⟩ := h
  rw [e, bs_bad h4 (ss_bad h3 (ss_bad h2 hb))]
  rfl

/-- What the key's steps come to. -/
theorem ks_os {bs : List Int} (hb : ∀ z ∈ bs, 0 ≤ z ∧ z < 256) {a a1 a' kind : Nat} {bad bad1 bad' : Bool} {ah key : List UInt8} (h1 : SS bs 1 a bad kind a1 bad1) (h : KS bs a1 bad1 ah key a' bad') :
    (bad' = true ∧ (bad = false → No bs a ah)) ∨ (bad' = false ∧ ∃ sh n zs, PS bs a bad ah kind sh n zs a' false ∧ key = ah.take sh ++ byts zs ∧ com ah key = sh) := by
  obtain ⟨sh, n, zs, a2, bad2, a3, bad3, bad4, h2, h3, h4, hk, e⟩ := h
  have hp := pstep hb h1 h2 h3 h4 (.inr rfl)
  cases bad4
  · by_cases hc : com ah key = sh
    · exact .inr ⟨by rw [e]; simpa using hc, sh, n, zs, hp, hk, hc⟩
    · refine .inl ⟨by rw [e]; simpa using hc, fun _ => os_com hp (by rw [← hk]; exact hc)⟩
  · rcases hp with ⟨h, _⟩ | ⟨_, h⟩
    · simp at h
    · exact .inl ⟨by rw [e]; rfl, h⟩

theorem ks_del {bs : List Int} (hb : ∀ z ∈ bs, 0 ≤ z ∧ z < 256) {a a1 a' : Nat} {bad bad1 bad' : Bool} {ah key : List UInt8} {o : Ov} (h1 : SS bs 1 a bad 0 a1 bad1) (h : KS bs a1 bad1 ah key a' bad') (hp : o.p = false) (hk : o.kl = key) (hv : o.vl = []) : OS bs a bad ah o a' bad' := by
  rcases ks_os hb h1 h with ⟨g1, g2⟩ | ⟨g1, sh, n, zs, g2, g3, g4⟩
  · exact .inr ⟨g1, g2⟩
  · rw [g1]
    exact os_del g2 hp (hk.trans g3) hv (by rw [hk]; exact g4)

theorem ks_put {bs : List Int} (hb : ∀ z ∈ bs, 0 ≤ z ∧ z < 256) {a a1 a4 a5 a6 m : Nat} {bad bad1 bad4 bad5 bad6 : Bool} {ah key : List UInt8} {ys : List Int} {o : Ov} (h1 : SS bs 1 a bad 1 a1 bad1) (h : KS bs a1 bad1 ah key a4 bad4) (hp : o.p = true) (hk : o.kl = key) (hv : o.vl = byts ys)
    (g1 : SS bs 32 a4 bad4 m a5 bad5) (g2 : BS bs m a5 bad5 ys a6 bad6) : OS bs a bad ah o a6 bad6 := by
  rcases ks_os hb h1 h with ⟨k1, k2⟩ | ⟨k1, sh, n, zs, k2, k3, k4⟩
  · exact .inr ⟨bs_bad g2 (ss_bad g1 k1), k2⟩
  · rw [k1] at g1
    exact os_put hb k2 hp (hk.trans k3) hv (by rw [hk]; exact k4) g1 g2

theorem ks_len {bs : List Int} {a1 a' : Nat} {bad1 bad' : Bool} {ah key : List UInt8} (h : KS bs a1 bad1 ah key a' bad') (hah : ah.length ≤ 16) : key.length ≤ 16 := by
  obtain ⟨sh, n, zs, a2, bad2, a3, bad3, bad4, h2, h3, h4, hk, _⟩ := h
  have e1 := ss_le h2
  have e2 := ss_le h3
  have e3 := bs_le h4
  rw [hk, List.length_append, byts_len, List.length_take]
  omega

/-- No batch that may be stands there. -/
def NB (bs : List Int) : Prop := ∀ m : List Ov, chkL m = 0 → ¬ encB m <+: bs

/-- What a reader has come to, so many ops being told. -/
def LS (bs : List Int) (c : Nat) (l : List Ov) (a : Nat) (bad : Bool) (ah : List UInt8) : Prop :=
  (bad = false ∧ c ≤ 8 ∧ enc c <+: bs ∧ encL [] l <+: bs.drop (sz c) ∧ a = sz c + (encL [] l).length ∧ ah = lst [] l ∧ ∀ o ∈ l, o.shape) ∨ (bad = true ∧ NB bs)

theorem ls_start {bs : List Int} {c a : Nat} {bad : Bool} (h : SS bs 8 0 false c a bad) : LS bs c [] a bad [] := by
  rcases h with ⟨h, _⟩ | ⟨_, h1, _, _, h⟩ | ⟨_, h1, h2, h3, h4⟩
  · simp at h
  · refine .inr ⟨h1, fun m hm hp => ?_⟩
    unfold encB at hp
    rw [pre_app] at hp
    exact h _ (chkL_zero hm).2.1 (by simpa using hp.1)
  · refine .inl ⟨h1, h2, by simpa using h3, by simp [encL], by simp [encL, h4], rfl, by simp⟩

theorem ls_step {bs : List Int} {c a a' : Nat} {bad bad' : Bool} {l : List Ov} {ah : List UInt8} {o : Ov} (h : LS bs c l a bad ah) (hl : l.length < c) (g : OS bs a bad ah o a' bad') : LS bs c (l ++ [o]) a' bad' o.kl := by
  rcases h with ⟨rfl, h1, h2, h3, h4, h5, h6⟩ | ⟨rfl, h⟩
  · rcases g with ⟨_, g1, g2, g3, g4⟩ | ⟨g1, g2⟩
    · refine .inl ⟨g1, h1, h2, ?_, ?_, (lst_snoc _ _ _).symm, ?_⟩
      · rw [encL_snoc, pre_app, List.drop_drop, ← h4, ← h5]
        exact ⟨h3, g2⟩
      · rw [encL_snoc, List.length_append, ← h5, g3, h4, Nat.add_assoc]
      · intro x hx
        rcases List.mem_append.1 hx with hx | hx
        · exact h6 x hx
        · rw [List.mem_singleton.1 hx]; exact g4
    · refine .inr ⟨g1, fun m hm hp => ?_⟩
      unfold encB at hp
      rw [pre_app] at hp
      have e := pre_one _ _ _ h2 hp.1
      have hp2 := hp.2
      have hlm : l.length < m.length := by omega
      have hsplit : m = m.take l.length ++ m[l.length] :: m.drop (l.length + 1) := by
        rw [List.getElem_cons_drop, List.take_append_drop]
      rw [hsplit, encL_app, pre_app] at hp2
      have hmem : ∀ x ∈ m.take l.length, x.shape := fun x hx => shapes hm x (List.mem_of_mem_take hx)
      have hsz : (enc m.length).length = sz c := by rw [← e]; rfl
      rw [← hsplit, hsz] at hp2
      have e2 := encL_free [] l (m.take l.length) _ (by rw [List.length_take]; omega) h6 hmem h3 hp2.1
      have hp3 := hp2.2
      rw [← e2, List.drop_drop, ← h4, ← h5] at hp3
      show False
      unfold encL at hp3
      rw [pre_app] at hp3
      exact g2 rfl _ ((chkL_zero hm).2.2 _ (List.getElem_mem _)) hp3.1
  · rcases g with ⟨g, _⟩ | ⟨g1, _⟩
    · simp at g
    · exact .inr ⟨g1, h⟩

theorem ls_end {bs : List Int} {c a : Nat} {l : List Ov} {ah : List UInt8} (h : LS bs c l a false ah) (hl : l.length = c) (hc : chkL l = 0) : BRes bs l a 0 := by
  rcases h with ⟨_, h1, h2, h3, h4, _⟩ | ⟨h, _⟩
  · have e : encB l = enc c ++ encL [] l := by unfold encB; rw [hl]
    refine .inl ⟨rfl, hc, ?_, ?_⟩
    · rw [e, pre_app]; exact ⟨h2, h3⟩
    · rw [e, List.length_append, h4]; rfl
  · simp at h

theorem ls_bad {bs : List Int} {c a : Nat} {l : List Ov} {ah : List UInt8} {bad : Bool} (h : LS bs c l a bad ah) (hl : bad = false → l.length = c) (hc : bad = true ∨ chkL l ≠ 0) : BRes bs [] 0 5 := by
  refine .inr ⟨rfl, rfl, rfl, ?_⟩
  rcases h with ⟨hb, h1, h2, h3, h4, _, h6⟩ | ⟨_, h⟩
  · rcases hc with hc | hc
    · rw [hc] at hb; simp at hb
    · intro m hm hp
      have e : encB l <+: bs := by
        unfold encB
        rw [hl hb, pre_app]
        exact ⟨h2, h3⟩
      have := encB_free e hp h6 (shapes hm)
      rw [this] at hc
      exact hc hm
  · exact h

/-- No first part of a batch's bytes is a batch. -/
theorem bres_cut {l m : List Ov} {n e : Int} {j : Nat} (hc : chkL l = 0) (hj : j < (encB l).length) (h : BRes ((encB l).take j) m n e) : e = 5 ∧ m = [] ∧ n = 0 := by
  rcases h with ⟨_, h1, h2, _⟩ | ⟨h1, h2, h3, _⟩
  · have := encB_free (h2.trans (List.take_prefix _ _)) (List.prefix_refl (encB l)) (shapes h1) (shapes hc)
    have hl := h2.length_le
    rw [this, List.length_take] at hl
    omega
  · exact ⟨h1, h2, h3⟩

/-- The ops' bytes, one behind the other. -/
def sum : List Ov → Nat
  | [] => 0
  | o :: r => (opEnc o.p o.kl o.vl).length + sum r

theorem encO_le (ah : List UInt8) {o : Ov} (h : o.c = 0) : (encO ah o).length ≤ (opEnc o.p o.kl o.vl).length + 1 := by
  have hh := chk_ok' h
  have hc := com_le ah o.kl
  have hb := bit_le o
  unfold encO pre4 opEnc
  have e1 : (enc o.bit).length = 1 := by have := sz_lo (x := o.bit) (by omega); exact this
  have e2 : (enc (com ah o.kl)).length = 1 := by have := sz_lo (x := com ah o.kl) (by omega); exact this
  have e3 : (enc (o.kl.length - com ah o.kl)).length = 1 := by have := sz_lo (x := o.kl.length - com ah o.kl) (by omega); exact this
  have e4 := cnt_len o.kl
  rw [sz_lo (by omega)] at e4
  simp only [List.length_append, List.length_cons, List.length_drop, e1, e2, e3, e4, ints_len]
  split <;> simp <;> omega

theorem encL_le : ∀ (ah : List UInt8) (l : List Ov), (∀ o ∈ l, o.c = 0) → (encL ah l).length ≤ sum l + l.length
  | _, [], _ => by simp [encL, sum]
  | ah, o :: l, h => by
    have h1 := encO_le ah (h o (by simp))
    have h2 := encL_le o.kl l fun x hx => h x (by simp [hx])
    simp only [encL, sum, List.length_append, List.length_cons]
    omega

theorem encB_le {l : List Ov} (h : chkL l = 0) : (encB l).length ≤ 9 + sum l := by
  obtain ⟨h1, h2, h3⟩ := chkL_zero h
  have := encL_le [] l h3
  have e : (enc l.length).length = 1 := by have := sz_lo (x := l.length) (by omega); exact this
  unfold encB
  rw [List.length_append, e]
  omega

theorem sum_le : ∀ {l : List Ov}, (∀ o ∈ l, o.c = 0) → sum l ≤ 51 * l.length
  | [], _ => by simp [sum]
  | o :: l, h => by
    have h1 := opEnc_le (h o (by simp))
    have h2 := sum_le (l := l) fun x hx => h x (by simp [hx])
    simp only [sum, List.length_cons]
    unfold Ov.kl Ov.vl at *
    omega

theorem encB_small {l : List Ov} (h : chkL l = 0) : (encB l).length ≤ 420 := by
  have := encB_le h
  obtain ⟨h1, h2, h3⟩ := chkL_zero h
  have := sum_le h3
  omega

theorem encB_pos (l : List Ov) : 1 ≤ (encB l).length := by
  unfold encB
  have := sz_pos l.length
  unfold sz at this
  rw [List.length_append]
  omega

theorem sum_snoc : ∀ (l : List Ov) (o : Ov), sum (l ++ [o]) = sum l + (opEnc o.p o.kl o.vl).length
  | [], o => by simp [sum]
  | q :: l, o => by simp only [List.cons_append, sum, sum_snoc l o]; omega

/-- Whether two ops are one. -/
def eqO (o q : Ov) : Bool := (o.p == q.p) && (decide (o.kl = q.kl) && decide (o.vl = q.vl))

theorem eqO_iff {o q : Ov} : eqO o q = true ↔ o = q := by
  unfold eqO
  constructor
  · intro h
    simp at h
    exact Ov.eq h.1 h.2.1 h.2.2
  · rintro rfl
    simp

def sameL : List Ov → List Ov → Bool
  | [], [] => true
  | o :: l, q :: m => eqO o q && sameL l m
  | _, _ => false

theorem sameL_iff : ∀ {l m : List Ov}, sameL l m = true ↔ l = m
  | [], [] => by simp [sameL]
  | [], _ :: _ => by simp [sameL]
  | _ :: _, [] => by simp [sameL]
  | o :: l, q :: m => by simp [sameL, eqO_iff, sameL_iff (l := l) (m := m)]

theorem sameL_self (l : List Ov) : sameL l l = true := sameL_iff.2 rfl
theorem sameL_no {l m : List Ov} (h : l ≠ m) : sameL l m = false := by
  cases hs : sameL l m
  · rfl
  · exact absurd (sameL_iff.1 hs) h

end Go.Proofs.YtkpnkknolobioaaGreat.Bm

/- Commits, by mathematics: what Check, Encode, Decode and Follows come to. No program. -/
namespace Go.Proofs.YtkpnkknolobioaaGreat.Cm
open Vm Om Bm
set_option linter.unusedVariables false

/-- A commit. -/
structure Cv where
  e : Int
  n : Int
  l : List Ov

def chk (e n : Int) (l : List Ov) : Int := if 1 ≤ e ∧ e ≤ 1048576 ∧ 1 ≤ n ∧ n ≤ 1048576 then chkL l else 2

theorem chk_in {e n : Int} {l : List Ov} (h : 1 ≤ e ∧ e ≤ 1048576 ∧ 1 ≤ n ∧ n ≤ 1048576) : chk e n l = chkL l := by unfold chk; rw [if_pos h]
theorem chk_out {e n : Int} {l : List Ov} (h : ¬ (1 ≤ e ∧ e ≤ 1048576 ∧ 1 ≤ n ∧ n ≤ 1048576)) : chk e n l = 2 := by unfold chk; rw [if_neg h]

theorem chk_zero {e n : Int} {l : List Ov} (h : chk e n l = 0) : 1 ≤ e ∧ e ≤ 1048576 ∧ 1 ≤ n ∧ n ≤ 1048576 ∧ chkL l = 0 := by
  by_cases hb : 1 ≤ e ∧ e ≤ 1048576 ∧ 1 ≤ n ∧ n ≤ 1048576
  · rw [chk_in hb] at h
    exact ⟨hb.1, hb.2.1, hb.2.2.1, hb.2.2.2, h⟩
  · rw [chk_out hb] at h
    simp at h

theorem chk_three (e n : Int) (l : List Ov) : chk e n l = 0 ∨ chk e n l = 2 ∨ chk e n l = 3 := by
  unfold chk
  split
  · exact chkL_four l
  · exact .inr (.inl rfl)

/-- Its bytes. -/
def encC (e n : Int) (l : List Ov) : List Int := enc e.toNat ++ (enc n.toNat ++ encB l)
def out (e n : Int) (l : List Ov) : List Int := if chk e n l = 0 then encC e n l else []

theorem out_ok {e n : Int} {l : List Ov} (h : chk e n l = 0) : out e n l = encC e n l := by unfold out; rw [if_pos h]
theorem out_no {e n : Int} {l : List Ov} (h : chk e n l ≠ 0) : out e n l = [] := by unfold out; rw [if_neg h]

theorem enc_small {x : Int} (h : x ≤ 1048576) : (enc x.toNat).length ≤ 3 := sz_le 2 x.toNat (by omega)

theorem encC_small {e n : Int} {l : List Ov} (h : chk e n l = 0) : (encC e n l).length ≤ 430 := by
  obtain ⟨_, h1, _, h2, h3⟩ := chk_zero h
  have := enc_small h1
  have := enc_small h2
  have := encB_small h3
  unfold encC
  simp only [List.length_append]
  omega

theorem out_small (e n : Int) (l : List Ov) : (out e n l).length ≤ 430 := by
  by_cases h : chk e n l = 0
  · rw [out_ok h]; exact encC_small h
  · rw [out_no h]; simp

theorem encC_one {e n e' n' : Int} {l l' : List Ov} (h : chk e n l = 0) (h' : chk e' n' l' = 0) (he : encC e n l = encC e' n' l') : e = e' ∧ n = n' ∧ l = l' := by
  obtain ⟨h1, h2, h3, h4, h5⟩ := chk_zero h
  obtain ⟨g1, g2, g3, g4, g5⟩ := chk_zero h'
  unfold encC at he
  have p1 := pre_one (enc e.toNat ++ (enc n.toNat ++ encB l)) e.toNat e'.toNat (List.prefix_append _ _) (by rw [he]; exact List.prefix_append _ _)
  have e1 : e = e' := by omega
  subst e1
  have he2 := List.append_cancel_left he
  have p2 := pre_one (enc n.toNat ++ encB l) n.toNat n'.toNat (List.prefix_append _ _) (by rw [he2]; exact List.prefix_append _ _)
  have e2 : n = n' := by omega
  subst e2
  have he3 := List.append_cancel_left he2
  exact ⟨rfl, rfl, encB_free (List.prefix_refl _) (by rw [he3]; exact List.prefix_refl _) (shapes h5) (shapes g5)⟩

/-- What Decode comes to: the commit, the error. -/
def CRes (bs : List Int) (e n : Int) (l : List Ov) (g : Int) : Prop :=
  (g = 0 ∧ chk e n l = 0 ∧ encC e n l = bs) ∨ (g = 5 ∧ e = 0 ∧ n = 0 ∧ l = [] ∧ ∀ e' n' l', chk e' n' l' = 0 → encC e' n' l' ≠ bs)

theorem cres_one {bs : List Int} {e n e' n' g g' : Int} {l l' : List Ov} (h : CRes bs e n l g) (k : CRes bs e' n' l' g') : e = e' ∧ n = n' ∧ l = l' ∧ g = g' := by
  rcases h with ⟨rfl, h1, h2⟩ | ⟨rfl, rfl, rfl, rfl, h⟩ <;> rcases k with ⟨rfl, k1, k2⟩ | ⟨rfl, rfl, rfl, rfl, k⟩
  · obtain ⟨rfl, rfl, rfl⟩ := encC_one h1 k1 (h2.trans k2.symm)
    exact ⟨rfl, rfl, rfl, rfl⟩
  · exact absurd h2 (k _ _ _ h1)
  · exact absurd k2 (h _ _ _ k1)
  · exact ⟨rfl, rfl, rfl, rfl⟩

theorem cres_good {bs : List Int} {e n e' n' g' : Int} {l l' : List Ov} (hc : chk e n l = 0) (h : encC e n l = bs) (k : CRes bs e' n' l' g') : e' = e ∧ n' = n ∧ l' = l ∧ g' = 0 := by
  obtain ⟨rfl, rfl, rfl, rfl⟩ := cres_one (.inl ⟨rfl, hc, h⟩ : CRes bs e n l 0) k
  exact ⟨rfl, rfl, rfl, rfl⟩

theorem cres_no {bs : List Int} {e n g : Int} {l : List Ov} (h : ∀ e' n' l', chk e' n' l' = 0 → encC e' n' l' ≠ bs) (k : CRes bs e n l g) : e = 0 ∧ n = 0 ∧ l = [] ∧ g = 5 := by
  obtain ⟨rfl, rfl, rfl, rfl⟩ := cres_one (.inr ⟨rfl, rfl, rfl, rfl, h⟩ : CRes bs 0 0 [] 5) k
  exact ⟨rfl, rfl, rfl, rfl⟩

theorem cres_e {bs : List Int} {e n g : Int} {l : List Ov} (h : CRes bs e n l g) : g = 0 ∨ g = 5 := by
  rcases h with ⟨h, _⟩ | ⟨h, _⟩
  · exact .inl h
  · exact .inr h

theorem cres_bounds {bs : List Int} {e n g : Int} {l : List Ov} (h : CRes bs e n l g) : 0 ≤ e ∧ e ≤ 1048576 ∧ 0 ≤ n ∧ n ≤ 1048576 := by
  rcases h with ⟨_, h, _⟩ | ⟨_, rfl, rfl, _⟩
  · obtain ⟨h1, h2, h3, h4, _⟩ := chk_zero h
    omega
  · omega

/-- Bytes that no small number begins. -/
def NoNum (bs : List Int) : Prop := ∀ x : Nat, x ≤ 1048576 → ¬ enc x <+: bs

theorem no_epoch {bs : List Int} (h : NoNum bs) : ∀ e n l, chk e n l = 0 → encC e n l ≠ bs := by
  intro e n l hc he
  obtain ⟨h1, h2, _⟩ := chk_zero hc
  exact h e.toNat (by omega) (by rw [← he]; exact List.prefix_append _ _)

theorem enc_drop {x : Nat} {bs : List Int} (h : enc x <+: bs) : bs = enc x ++ bs.drop (sz x) := by
  obtain ⟨t, rfl⟩ := h
  simp [sz]

theorem no_number {bs : List Int} {x : Nat} (hx : enc x <+: bs) (h : NoNum (bs.drop (sz x))) : ∀ e n l, chk e n l = 0 → encC e n l ≠ bs := by
  intro e n l hc he
  obtain ⟨h1, h2, h3, h4, _⟩ := chk_zero hc
  have p : enc e.toNat <+: bs := by rw [← he]; exact List.prefix_append _ _
  obtain rfl := pre_one _ _ _ hx p
  refine h n.toNat (by omega) ?_
  rw [← he]
  simp [encC, sz]

/-- What follows the two numbers. -/
theorem both_drop {bs : List Int} {x y : Nat} (hx : enc x <+: bs) (hy : enc y <+: bs.drop (sz x)) : bs = enc x ++ (enc y ++ bs.drop (sz x + sz y)) := by
  have h1 := enc_drop hx
  have h2 := enc_drop hy
  rw [List.drop_drop] at h2
  rw [← h2]
  exact h1

theorem enc_pre {bs : List Int} {x y : Nat} {e n : Int} {l : List Ov} (hx : enc x <+: bs) (hy : enc y <+: bs.drop (sz x)) (hc : chk e n l = 0) (he : encC e n l = bs) : e = x ∧ n = y ∧ encB l = bs.drop (sz x + sz y) := by
  obtain ⟨h1, h2, h3, h4, h5⟩ := chk_zero hc
  have p : enc e.toNat <+: bs := by rw [← he]; exact List.prefix_append _ _
  have e1 := pre_one _ _ _ hx p
  have q : enc n.toNat <+: bs.drop (sz x) := by rw [← he, e1]; simp [encC, sz]
  have e2 := pre_one _ _ _ hy q
  refine ⟨by omega, by omega, ?_⟩
  have hb := both_drop hx hy
  rw [← he] at hb
  unfold encC at hb
  rw [e1, e2] at hb
  have := List.append_cancel_left (List.append_cancel_left hb)
  rw [this, ← he, e1, e2, encC]

/-- The batch behind the two numbers is none. -/
theorem no_batch {bs : List Int} {x y : Nat} (hx : enc x <+: bs) (hy : enc y <+: bs.drop (sz x)) (h : ∀ m, chkL m = 0 → ¬ encB m <+: bs.drop (sz x + sz y)) : ∀ e n l, chk e n l = 0 → encC e n l ≠ bs := by
  intro e n l hc he
  obtain ⟨_, _, h3⟩ := enc_pre hx hy hc he
  exact h l (chk_zero hc).2.2.2.2 (by rw [h3]; exact List.prefix_refl _)

/-- There is one, but the commit that it makes may not be, or bytes are left. -/
theorem no_left {bs : List Int} {x y : Nat} {m : List Ov} (hx : enc x <+: bs) (hy : enc y <+: bs.drop (sz x)) (hm : chkL m = 0) (hp : encB m <+: bs.drop (sz x + sz y)) (h : sz x + sz y + (encB m).length ≠ bs.length ∨ chk x y m ≠ 0) : ∀ e n l, chk e n l = 0 → encC e n l ≠ bs := by
  intro e n l hc he
  obtain ⟨rfl, rfl, h3⟩ := enc_pre hx hy hc he
  obtain rfl := encB_free hp (show encB l <+: _ by rw [h3]; exact List.prefix_refl _) (shapes hm) (shapes (chk_zero hc).2.2.2.2)
  rcases h with h | h
  · apply h
    have := congrArg List.length he
    simp only [encC, List.length_append, Int.toNat_natCast] at this
    unfold sz
    omega
  · exact h hc

theorem is_commit {bs : List Int} {x y : Nat} {m : List Ov} (hx : enc x <+: bs) (hy : enc y <+: bs.drop (sz x)) (hp : encB m <+: bs.drop (sz x + sz y)) (hl : sz x + sz y + (encB m).length = bs.length) : encC x y m = bs := by
  have h1 := both_drop hx hy
  have h2 : encB m = bs.drop (sz x + sz y) := by
    obtain ⟨t, ht⟩ := hp
    have := congrArg List.length ht
    simp only [List.length_append, List.length_drop] at this
    have : t = [] := List.eq_nil_of_length_eq_zero (by omega)
    subst this
    simpa using ht
  unfold encC
  rw [Int.toNat_natCast, Int.toNat_natCast, h2]
  exact h1.symm

/-- What Follows comes to: the error, the place. -/
def fol (ep nu : Int) (i : Nat) : List Cv → Int × Int
  | [] => (0, 0)
  | c :: r => if chk c.e c.n c.l ≠ 0 then (chk c.e c.n c.l, i) else if c.n - 1 ≠ nu ∨ c.e < ep then (15, i) else fol c.e c.n (i + 1) r

theorem fol_nil (ep nu : Int) (i : Nat) : fol ep nu i [] = (0, 0) := rfl
theorem fol_bad {ep nu : Int} {i : Nat} {c : Cv} {r : List Cv} (h : chk c.e c.n c.l ≠ 0) : fol ep nu i (c :: r) = (chk c.e c.n c.l, (i : Int)) := by simp [fol, h]
theorem fol_off {ep nu : Int} {i : Nat} {c : Cv} {r : List Cv} (h : chk c.e c.n c.l = 0) (h' : c.n - 1 ≠ nu ∨ c.e < ep) : fol ep nu i (c :: r) = (15, (i : Int)) := by rw [fol, if_neg (by simp [h]), if_pos h']
theorem fol_on {ep nu : Int} {i : Nat} {c : Cv} {r : List Cv} (h : chk c.e c.n c.l = 0) (h' : ¬ (c.n - 1 ≠ nu ∨ c.e < ep)) : fol ep nu i (c :: r) = fol c.e c.n (i + 1) r := by rw [fol, if_neg (by simp [h]), if_neg h']

/-- One fault: what is wrong with c. -/
def flt (at' : Int) (ep nu : Int) (c : Cv) : Int × Int := if chk c.e c.n c.l ≠ 0 then (chk c.e c.n c.l, at') else if c.n - 1 ≠ nu ∨ c.e < ep then (15, at') else (0, 0)

theorem flt_bad {a ep nu : Int} {c : Cv} (h : chk c.e c.n c.l ≠ 0) : flt a ep nu c = (chk c.e c.n c.l, a) := by simp [flt, h]
theorem flt_off {a ep nu : Int} {c : Cv} (h : chk c.e c.n c.l = 0) (h' : c.n - 1 ≠ nu ∨ c.e < ep) : flt a ep nu c = (15, a) := by rw [flt, if_neg (by simp [h]), if_pos h']
theorem flt_on {a ep nu : Int} {c : Cv} (h : chk c.e c.n c.l = 0) (h' : ¬ (c.n - 1 ≠ nu ∨ c.e < ep)) : flt a ep nu c = (0, 0) := by rw [flt, if_neg (by simp [h]), if_neg h']

theorem flt_zero {a ep nu : Int} {c : Cv} (h : (flt a ep nu c).1 = 0) : chk c.e c.n c.l = 0 ∧ ¬ (c.n - 1 ≠ nu ∨ c.e < ep) ∧ (flt a ep nu c).2 = 0 := by
  by_cases h1 : chk c.e c.n c.l = 0
  · by_cases h2 : c.n - 1 ≠ nu ∨ c.e < ep
    · rw [flt_off h1 h2] at h
      simp at h
    · refine ⟨h1, h2, ?_⟩
      rw [flt_on h1 h2]
  · rw [flt_bad h1] at h
    exact absurd h h1

theorem fol_stop {ep nu : Int} {i : Nat} {c : Cv} {r : List Cv} (h : (flt i ep nu c).1 ≠ 0) : fol ep nu i (c :: r) = flt i ep nu c := by
  by_cases h1 : chk c.e c.n c.l = 0
  · by_cases h2 : c.n - 1 ≠ nu ∨ c.e < ep
    · rw [flt_off h1 h2, fol_off h1 h2]
    · rw [flt_on h1 h2] at h
      simp at h
  · rw [flt_bad h1, fol_bad h1]

theorem fol_next {ep nu : Int} {i : Nat} {c : Cv} {r : List Cv} (h : (flt i ep nu c).1 = 0) : fol ep nu i (c :: r) = fol c.e c.n (i + 1) r := by
  obtain ⟨h1, h2, _⟩ := flt_zero h
  exact fol_on h1 h2

/-- All of them follow. -/
def Good (ep nu : Int) : List Cv → Prop
  | [] => True
  | c :: r => chk c.e c.n c.l = 0 ∧ c.n - 1 = nu ∧ ep ≤ c.e ∧ Good c.e c.n r

theorem fol_good : ∀ (l : List Cv) (ep nu : Int) (i : Nat), (fol ep nu i l).1 = 0 ↔ Good ep nu l
  | [], _, _, _ => by simp [fol, Good]
  | c :: r, ep, nu, i => by
    by_cases h1 : chk c.e c.n c.l = 0
    · by_cases h2 : c.n - 1 ≠ nu ∨ c.e < ep
      · rw [fol_off h1 h2]
        simp only [Good]
        constructor
        · intro h; simp at h
        · intro h; omega
      · rw [fol_on h1 h2, fol_good r]
        simp only [Good]
        constructor
        · intro h; exact ⟨h1, by omega, by omega, h⟩
        · intro h; exact h.2.2.2
    · rw [fol_bad h1]
      simp only [Good]
      constructor
      · intro h; exact absurd h h1
      · intro h; exact absurd h.1 h1

theorem fol_at : ∀ (l : List Cv) (ep nu : Int) (i : Nat), (fol ep nu i l).1 = 0 → (fol ep nu i l).2 = 0
  | [], _, _, _, _ => rfl
  | c :: r, ep, nu, i, h => by
    by_cases h1 : chk c.e c.n c.l = 0
    · by_cases h2 : c.n - 1 ≠ nu ∨ c.e < ep
      · rw [fol_off h1 h2] at h
        simp at h
      · rw [fol_on h1 h2] at h ⊢
        exact fol_at r _ _ _ h
    · rw [fol_bad h1] at h
      exact absurd h h1

theorem fol_bounds : ∀ (l : List Cv) (ep nu : Int) (i : Nat), 0 ≤ (fol ep nu i l).2 ∧ (fol ep nu i l).2 ≤ i + l.length ∧ ((fol ep nu i l).1 = 0 ∨ (fol ep nu i l).1 = 2 ∨ (fol ep nu i l).1 = 3 ∨ (fol ep nu i l).1 = 15)
  | [], _, _, _ => by simp [fol]
  | c :: r, ep, nu, i => by
    by_cases h1 : chk c.e c.n c.l = 0
    · by_cases h2 : c.n - 1 ≠ nu ∨ c.e < ep
      · rw [fol_off h1 h2]
        simp
        omega
      · rw [fol_on h1 h2]
        have := fol_bounds r c.e c.n (i + 1)
        simp only [List.length_cons]
        omega
    · rw [fol_bad h1]
      have := chk_three c.e c.n c.l
      simp only [List.length_cons]
      omega

/-- The end behind a list. -/
def lastE (ep : Int) : List Cv → Int
  | [] => ep
  | c :: r => lastE c.e r
def lastN (nu : Int) : List Cv → Int
  | [] => nu
  | c :: r => lastN c.n r

theorem good_app : ∀ (l m : List Cv) (ep nu : Int), Good ep nu (l ++ m) ↔ Good ep nu l ∧ Good (lastE ep l) (lastN nu l) m
  | [], m, _, _ => by simp [Good, lastE, lastN]
  | c :: r, m, ep, nu => by
    simp only [List.cons_append, Good, lastE, lastN, good_app r m]
    constructor
    · rintro ⟨h1, h2, h3, h4, h5⟩; exact ⟨⟨h1, h2, h3, h4⟩, h5⟩
    · rintro ⟨⟨h1, h2, h3, h4⟩, h5⟩; exact ⟨h1, h2, h3, h4, h5⟩

theorem last_snoc : ∀ (l : List Cv) (c : Cv) (ep nu : Int), lastE ep (l ++ [c]) = c.e ∧ lastN nu (l ++ [c]) = c.n
  | [], _, _, _ => ⟨rfl, rfl⟩
  | d :: r, c, ep, nu => by simpa [lastE, lastN] using last_snoc r c d.e d.n

theorem good_take {l : List Cv} {ep nu : Int} (h : Good ep nu l) (k : Nat) : Good ep nu (l.take k) := by
  rw [← List.take_append_drop k l, good_app] at h
  exact h.1

/-- What stands at a place of a list that follows. -/
theorem good_at : ∀ (l : List Cv) (ep nu : Int) (k : Nat) (c : Cv), Good ep nu l → l[k]? = some c → chk c.e c.n c.l = 0 ∧ c.n - 1 - k = nu ∧ lastE ep (l.take k) ≤ c.e ∧ lastN nu (l.take k) = nu + k
  | [], _, _, _, _, _, h => by simp at h
  | d :: r, ep, nu, 0, c, hg, h => by
    simp at h
    subst h
    obtain ⟨h1, h2, h3, _⟩ := hg
    exact ⟨h1, by omega, by simpa [lastE] using h3, by simp [lastN]⟩
  | d :: r, ep, nu, k + 1, c, hg, h => by
    obtain ⟨h1, h2, h3, h4⟩ := hg
    obtain ⟨g1, g2, g3, g4⟩ := good_at r d.e d.n k c h4 (by simpa using h)
    refine ⟨g1, by omega, by simpa [lastE] using g3, ?_⟩
    simp only [List.take_succ_cons, lastN]
    rw [g4]
    omega

theorem fol_app_good : ∀ (l m : List Cv) (ep nu : Int) (i : Nat), Good ep nu l → fol ep nu i (l ++ m) = fol (lastE ep l) (lastN nu l) (i + l.length) m
  | [], m, _, _, _, _ => by simp [lastE, lastN]
  | c :: r, m, ep, nu, i, h => by
    obtain ⟨h1, h2, h3, h4⟩ := h
    rw [List.cons_append, fol_on h1 (by omega), fol_app_good r m _ _ _ h4, List.length_cons, lastE, lastN, show i + 1 + r.length = i + (r.length + 1) by omega]

/-- A list that follows, one of its midst left out. -/
theorem fol_gap {l : List Cv} {ep nu : Int} (h : Good ep nu l) (k : Nat) (hk : k + 1 < l.length) : fol ep nu 0 (l.take k ++ l.drop (k + 1)) = (15, (k : Int)) := by
  rw [fol_app_good _ _ _ _ _ (good_take h k)]
  have e1 : l.drop (k + 1) = l[k + 1] :: l.drop (k + 2) := by rw [List.drop_eq_getElem_cons hk]
  obtain ⟨g1, g2, _, _⟩ := good_at l ep nu (k + 1) l[k + 1] h (by rw [List.getElem?_eq_getElem])
  obtain ⟨k1, k2, _, k4⟩ := good_at l ep nu k l[k] h (by rw [List.getElem?_eq_getElem])
  rw [e1, fol_off g1 (.inl (by omega)), List.length_take]
  congr 1
  omega

end Go.Proofs.YtkpnkknolobioaaGreat.Cm

/- Frames as lists of numbers: what a frame is, what Read answers, what Scan answers. No program. -/
namespace Go.Proofs.YtkpnkknolobioaaGreat
set_option linter.unusedVariables false
namespace Fm

/-- A record's frame. -/
def frm (r : List Int) : List Int := Vm.enc r.length ++ r

theorem frm_len (r : List Int) : (frm r).length = Vm.sz r.length + r.length := by unfold frm Vm.sz; rw [List.length_append]
theorem frm_pos (r : List Int) : 1 ≤ (frm r).length := by have := Vm.sz_pos r.length; rw [frm_len]; omega

theorem sz3 {n : Nat} (h : n ≤ 131072) : Vm.sz n ≤ 3 := Vm.sz_le 2 n (by omega)

theorem frm_one {r s bs : List Int} (h : frm r <+: bs) (h' : frm s <+: bs) : r = s := by
  obtain ⟨t, ht⟩ := h
  obtain ⟨u, hu⟩ := h'
  unfold frm at ht hu
  have hl : r.length = s.length := Vm.pre_one bs _ _ ⟨r ++ t, by rw [← List.append_assoc]; exact ht⟩ ⟨s ++ u, by rw [← List.append_assoc]; exact hu⟩
  rw [← hu, hl, List.append_assoc, List.append_assoc] at ht
  have := List.append_cancel_left ht
  exact (List.append_inj this hl).1

/-- What Read answers: the record, the frame's length, the error. -/
def Rd (bs r : List Int) (n : Nat) (e : Int) : Prop :=
  (e = 0 ∧ r.length ≤ 131072 ∧ n = Vm.sz r.length + r.length ∧ frm r <+: bs) ∨ (e = 5 ∧ r = [] ∧ n = 0 ∧ ∀ s : List Int, s.length ≤ 131072 → ¬ frm s <+: bs)

theorem rd_one {bs r s : List Int} {n m : Nat} {e f : Int} (h : Rd bs r n e) (h' : Rd bs s m f) : r = s ∧ n = m ∧ e = f := by
  rcases h with ⟨rfl, h1, h2, h3⟩ | ⟨rfl, rfl, rfl, h3⟩ <;> rcases h' with ⟨rfl, g1, g2, g3⟩ | ⟨rfl, rfl, rfl, g3⟩
  · have := frm_one h3 g3
    subst this
    exact ⟨rfl, by omega, rfl⟩
  · exact absurd h3 (g3 _ h1)
  · exact absurd g3 (h3 _ g1)
  · exact ⟨rfl, rfl, rfl⟩

theorem rd_is (bs : List Int) : ∃ r n e, Rd bs r n e := by
  by_cases h : ∃ s : List Int, s.length ≤ 131072 ∧ frm s <+: bs
  · obtain ⟨s, h1, h2⟩ := h
    exact ⟨s, _, 0, .inl ⟨rfl, h1, rfl, h2⟩⟩
  · exact ⟨[], 0, 5, .inr ⟨rfl, rfl, rfl, fun s h1 h2 => h ⟨s, h1, h2⟩⟩⟩

/-- The count's bytes stand ahead, and then enough. -/
theorem frm_of {bs : List Int} {x : Nat} (h : Vm.enc x <+: bs) (hx : x ≤ bs.length - Vm.sz x) : ((bs.drop (Vm.sz x)).take x).length = x ∧ frm ((bs.drop (Vm.sz x)).take x) <+: bs := by
  have hl : ((bs.drop (Vm.sz x)).take x).length = x := by rw [List.length_take, List.length_drop]; omega
  refine ⟨hl, ?_⟩
  obtain ⟨t, ht⟩ := h
  have hd : bs.drop (Vm.sz x) = t := by rw [← ht]; exact List.drop_left
  unfold frm
  rw [hl]
  rw [hd] at *
  exact ⟨t.drop x, by rw [List.append_assoc, List.take_append_drop]; exact ht⟩

theorem frm_pre {bs r : List Int} (h : frm r <+: bs) : Vm.enc r.length <+: bs ∧ r.length ≤ bs.length - Vm.sz r.length ∧ Vm.sz r.length + r.length ≤ bs.length := by
  have hl := h.length_le
  rw [frm_len] at hl
  refine ⟨(List.prefix_append _ _).trans h, by omega, hl⟩

/-- Frames one behind the other. -/
def cat : List (List Int) → List Int
  | [] => []
  | r :: l => frm r ++ cat l

theorem cat_app : ∀ (l m : List (List Int)), cat (l ++ m) = cat l ++ cat m
  | [], m => rfl
  | r :: l, m => by simp [cat, cat_app l m]

theorem cat_one (r : List Int) : cat [r] = frm r := by simp [cat]

theorem cat_len : ∀ l : List (List Int), l.length ≤ (cat l).length
  | [] => Nat.zero_le _
  | r :: l => by
    have := cat_len l
    have := frm_pos r
    simp [cat]
    omega

/-- What Scan answers: whole frames one behind the other, and none behind them. -/
def Sc (bs : List Int) (l : List (List Int)) : Prop :=
  (∀ r ∈ l, r.length ≤ 131072) ∧ cat l <+: bs ∧ ∀ s : List Int, s.length ≤ 131072 → ¬ frm s <+: bs.drop (cat l).length

theorem drop_pre {a b c : List Int} (h : a ++ b <+: c) : b <+: c.drop a.length := by
  obtain ⟨t, ht⟩ := h
  rw [← ht, List.append_assoc, List.drop_left]
  exact List.prefix_append _ _

theorem pre_drop {a b c : List Int} (h : a <+: c) (h' : b <+: c.drop a.length) : a ++ b <+: c := by
  obtain ⟨t, rfl⟩ := h
  rw [List.drop_left] at h'
  obtain ⟨u, rfl⟩ := h'
  exact ⟨u, by rw [List.append_assoc]⟩

theorem sc_tail {bs r : List Int} {l : List (List Int)} (h : Sc bs (r :: l)) : r.length ≤ 131072 ∧ frm r <+: bs ∧ Sc (bs.drop (frm r).length) l := by
  obtain ⟨h1, h2, h3⟩ := h
  refine ⟨h1 r (by simp), (List.prefix_append _ _).trans h2, fun s hs => h1 s (by simp [hs]), drop_pre h2, fun s hs => ?_⟩
  rw [List.drop_drop, ← List.length_append]
  exact h3 s hs

theorem sc_one : ∀ {l m : List (List Int)} {bs : List Int}, Sc bs l → Sc bs m → l = m
  | [], [], _, _, _ => rfl
  | [], r :: m, bs, h, h' => by
    obtain ⟨h1, h2, _⟩ := sc_tail h'
    exact absurd h2 (by simpa [cat] using h.2.2 r h1)
  | r :: l, [], bs, h, h' => by
    obtain ⟨h1, h2, _⟩ := sc_tail h
    exact absurd h2 (by simpa [cat] using h'.2.2 r h1)
  | r :: l, s :: m, bs, h, h' => by
    obtain ⟨_, h2, h3⟩ := sc_tail h
    obtain ⟨_, g2, g3⟩ := sc_tail h'
    have e := frm_one h2 g2
    subst e
    rw [sc_one h3 g3]

theorem sc_is (bs : List Int) : ∃ l, Sc bs l := by
  suffices h : ∀ n (bs : List Int), bs.length ≤ n → ∃ l, Sc bs l from h _ bs (Nat.le_refl _)
  intro n
  induction n with
  | zero =>
    intro bs hb
    refine ⟨[], by simp, by simp [cat], fun s _ h => ?_⟩
    have h1 := h.length_le
    have h2 := frm_pos s
    rw [List.length_drop] at h1
    omega
  | succ n ih =>
    intro bs hb
    by_cases h : ∃ s : List Int, s.length ≤ 131072 ∧ frm s <+: bs
    · obtain ⟨s, h1, h2⟩ := h
      have hp := frm_pos s
      obtain ⟨l, g1, g2, g3⟩ := ih (bs.drop (frm s).length) (by rw [List.length_drop]; omega)
      refine ⟨s :: l, ?_, pre_drop h2 g2, fun t ht => ?_⟩
      · intro r hr
        rcases List.mem_cons.1 hr with rfl | hr
        · exact h1
        · exact g1 r hr
      · have := g3 t ht
        rw [List.drop_drop, ← List.length_append] at this
        exact this
    · exact ⟨[], by simp, by simp [cat], fun s h1 h2 => h ⟨s, h1, by simpa [cat] using h2⟩⟩

/-- One frame more. -/
theorem sc_next {bs r : List Int} {l : List (List Int)} (h : cat l <+: bs) (h' : frm r <+: bs.drop (cat l).length) : cat (l ++ [r]) <+: bs ∧ (cat (l ++ [r])).length = (cat l).length + (Vm.sz r.length + r.length) := by
  rw [cat_app, cat_one]
  exact ⟨pre_drop h h', by rw [List.length_append, frm_len]⟩

/-- Where the frames begin. -/
def plc (a : Nat) : List (List Int) → List Nat
  | [] => []
  | r :: l => a :: plc (a + (Vm.sz r.length + r.length)) l

theorem plc_len : ∀ (l : List (List Int)) (a : Nat), (plc a l).length = l.length
  | [], _ => rfl
  | r :: l, a => by simp [plc, plc_len l]

theorem plc_at : ∀ (l : List (List Int)) (a k : Nat), k < l.length → (plc a l)[k]? = some (a + (cat (l.take k)).length)
  | [], _, _, h => by simp at h
  | r :: l, a, 0, _ => by simp [plc, cat]
  | r :: l, a, k + 1, h => by
    simp only [plc, List.getElem?_cons_succ, List.take_succ_cons, cat, List.length_append]
    rw [plc_at l _ k (by simpa using h), frm_len]
    congr 1
    omega

theorem plc_snoc : ∀ (l : List (List Int)) (r : List Int) (a : Nat), plc a (l ++ [r]) = plc a l ++ [a + (cat l).length]
  | [], r, a => by simp [plc, cat]
  | s :: l, r, a => by
    simp only [List.cons_append, plc, plc_snoc l, cat, List.length_append, frm_len]
    rw [Nat.add_assoc a]

theorem cat_take_le (l : List (List Int)) (k : Nat) : (cat (l.take k)).length ≤ (cat l).length := by
  have : cat l = cat (l.take k) ++ cat (l.drop k) := by rw [← cat_app, List.take_append_drop]
  rw [this, List.length_append]
  omega

/-- A first part of frames: those that lie in it whole are what Scan answers. -/
theorem sc_cut : ∀ {l : List (List Int)} {k n : Nat}, (∀ r ∈ l, r.length ≤ 131072) → n ≤ l.length → (cat (l.take n)).length ≤ k → (n < l.length → k < (cat (l.take (n + 1))).length) → k ≤ (cat l).length → Sc ((cat l).take k) (l.take n) := by
  intro l k n hw hn hk hk' hkl
  have e1 : cat l = cat (l.take n) ++ cat (l.drop n) := by rw [← cat_app, List.take_append_drop]
  have e2 : (cat l).take k = cat (l.take n) ++ (cat (l.drop n)).take (k - (cat (l.take n)).length) := by
    rw [e1, List.take_append]
    rw [List.take_of_length_le hk]
  refine ⟨fun r hr => hw r (List.mem_of_mem_take hr), by rw [e2]; exact List.prefix_append _ _, fun s hs h => ?_⟩
  rw [e2, List.drop_left] at h
  by_cases hlt : n < l.length
  · have hd : l.drop n = l[n] :: l.drop (n + 1) := List.drop_eq_getElem_cons hlt
    have h2 := h.trans (List.take_prefix _ _)
    rw [hd, cat] at h2
    have e3 : s = l[n] := frm_one h2 (List.prefix_append _ _)
    have h3 := h.length_le
    rw [List.length_take] at h3
    have h4 := hk' hlt
    rw [List.take_succ_eq_append_getElem hlt, cat_app, cat_one, List.length_append, ← e3] at h4
    omega
  · have hd : l.drop n = [] := List.drop_eq_nil_of_le (by omega)
    rw [hd, cat, List.take_nil] at h
    have h1 := h.length_le
    have h2 := frm_pos s
    rw [List.length_nil] at h1
    omega

theorem sc_all {l : List (List Int)} (hw : ∀ r ∈ l, r.length ≤ 131072) : Sc (cat l) l := by
  refine ⟨hw, List.prefix_refl _, fun s hs h => ?_⟩
  rw [List.drop_length] at h
  have h1 := h.length_le
  have h2 := frm_pos s
  rw [List.length_nil] at h1
  omega

end Fm
end Go.Proofs.YtkpnkknolobioaaGreat

/- A log as bytes: commits' frames one behind the other, and what Scan answers. No program. -/
namespace Go.Proofs.YtkpnkknolobioaaGreat
set_option linter.unusedVariables false
namespace Wl
open Cm

/-- A commit's record, its frame, a log's bytes. -/
def rec (c : Cv) : List Int := encC c.e c.n c.l
def fr (c : Cv) : List Int := Fm.frm (rec c)
def lgb (l : List Cv) : List Int := Fm.cat (l.map rec)

theorem lgb_cons (c : Cv) (l : List Cv) : lgb (c :: l) = fr c ++ lgb l := rfl
theorem lgb_app (l m : List Cv) : lgb (l ++ m) = lgb l ++ lgb m := by unfold lgb; rw [List.map_append, Fm.cat_app]
theorem lgb_one (c : Cv) : lgb [c] = fr c := by unfold lgb fr; exact Fm.cat_one _
theorem fr_pos (c : Cv) : 1 ≤ (fr c).length := Fm.frm_pos _
theorem lgb_len (l : List Cv) : l.length ≤ (lgb l).length := by have := Fm.cat_len (l.map rec); rwa [List.length_map] at this

theorem rec_small {c : Cv} (h : chk c.e c.n c.l = 0) : (rec c).length ≤ 430 := encC_small h
theorem fr_small {c : Cv} (h : chk c.e c.n c.l = 0) : (fr c).length ≤ 433 := by
  have := rec_small h
  unfold fr
  rw [Fm.frm_len]
  have := Fm.sz3 (n := (rec c).length) (by omega)
  omega

theorem fr_one {c d : Cv} {bs : List Int} (hc : chk c.e c.n c.l = 0) (hd : chk d.e d.n d.l = 0) (h : fr c <+: bs) (h' : fr d <+: bs) : c = d := by
  obtain ⟨e1, e2, e3⟩ := encC_one hc hd (Fm.frm_one h h')
  cases c
  cases d
  simp only at e1 e2 e3
  rw [e1, e2, e3]

/-- What Scan answers behind (ep, nu): commits that follow, one behind the other, and none behind them. -/
def Lg (ep nu : Int) (bs : List Int) (l : List Cv) : Prop :=
  Cm.Good ep nu l ∧ lgb l <+: bs ∧ ∀ c, Cm.Good (lastE ep l) (lastN nu l) [c] → ¬ fr c <+: bs.drop (lgb l).length

theorem good_cons {ep nu : Int} {c : Cv} {l : List Cv} : Cm.Good ep nu (c :: l) ↔ Cm.Good ep nu [c] ∧ Cm.Good c.e c.n l := by
  have := good_app [c] l ep nu
  rw [List.singleton_append] at this
  exact this

theorem good_chk {ep nu : Int} {c : Cv} {l : List Cv} (h : Cm.Good ep nu (c :: l)) : chk c.e c.n c.l = 0 := h.1

theorem lg_tail {ep nu : Int} {bs : List Int} {c : Cv} {l : List Cv} (h : Lg ep nu bs (c :: l)) : Cm.Good ep nu [c] ∧ fr c <+: bs ∧ Lg c.e c.n (bs.drop (fr c).length) l := by
  obtain ⟨h1, h2, h3⟩ := h
  rw [lgb_cons] at h2
  obtain ⟨g1, g2⟩ := good_cons.1 h1
  refine ⟨g1, (List.prefix_append _ _).trans h2, g2, Fm.drop_pre h2, fun d hd => ?_⟩
  rw [List.drop_drop, ← List.length_append, ← lgb_cons]
  exact h3 d hd

theorem lg_one : ∀ {l m : List Cv} {ep nu : Int} {bs : List Int}, Lg ep nu bs l → Lg ep nu bs m → l = m
  | [], [], _, _, _, _, _ => rfl
  | [], c :: m, ep, nu, bs, h, h' => by
    obtain ⟨h1, h2, _⟩ := lg_tail h'
    exact absurd h2 (h.2.2 c h1)
  | c :: l, [], ep, nu, bs, h, h' => by
    obtain ⟨h1, h2, _⟩ := lg_tail h
    exact absurd h2 (h'.2.2 c h1)
  | c :: l, d :: m, ep, nu, bs, h, h' => by
    obtain ⟨h1, h2, h3⟩ := lg_tail h
    obtain ⟨g1, g2, g3⟩ := lg_tail h'
    have e := fr_one (good_chk h1) (good_chk g1) h2 g2
    subst e
    rw [lg_one h3 g3]

theorem lg_cons {ep nu : Int} {bs : List Int} {c : Cv} {l : List Cv} (h1 : Cm.Good ep nu [c]) (h2 : fr c <+: bs) (h3 : Lg c.e c.n (bs.drop (fr c).length) l) : Lg ep nu bs (c :: l) := by
  obtain ⟨g1, g2, g3⟩ := h3
  refine ⟨good_cons.2 ⟨h1, g1⟩, Fm.pre_drop h2 g2, fun d hd => ?_⟩
  have := g3 d hd
  rw [List.drop_drop, ← List.length_append, ← lgb_cons] at this
  exact this

theorem lg_is (ep nu : Int) (bs : List Int) : ∃ l, Lg ep nu bs l := by
  suffices h : ∀ n (ep nu : Int) (bs : List Int), bs.length ≤ n → ∃ l, Lg ep nu bs l from h _ ep nu bs (Nat.le_refl _)
  intro n
  induction n with
  | zero =>
    intro ep nu bs hb
    refine ⟨[], trivial, List.nil_prefix, fun c _ h => ?_⟩
    have h1 := h.length_le
    have h2 := fr_pos c
    rw [List.length_drop] at h1
    omega
  | succ n ih =>
    intro ep nu bs hb
    by_cases h : ∃ c, Cm.Good ep nu [c] ∧ fr c <+: bs
    · obtain ⟨c, h1, h2⟩ := h
      have hp := fr_pos c
      obtain ⟨l, hl⟩ := ih c.e c.n (bs.drop (fr c).length) (by rw [List.length_drop]; omega)
      exact ⟨c :: l, lg_cons h1 h2 hl⟩
    · exact ⟨[], trivial, List.nil_prefix, fun c h1 h2 => h ⟨c, h1, h2⟩⟩

/-- A log's own bytes. -/
theorem lg_self {ep nu : Int} {l : List Cv} (h : Cm.Good ep nu l) : Lg ep nu (lgb l) l := by
  refine ⟨h, List.prefix_rfl, fun c _ k => ?_⟩
  have h1 := k.length_le
  have h2 := fr_pos c
  rw [List.drop_length, List.length_nil] at h1
  omega

/-- What begins with a log is read as one that begins with it. -/
theorem lg_has : ∀ {l m : List Cv} {ep nu : Int} {bs : List Int}, Cm.Good ep nu l → lgb l <+: bs → Lg ep nu bs m → l <+: m
  | [], _, _, _, _, _, _, _ => List.nil_prefix
  | c :: l, [], ep, nu, bs, h, h2, hm => by
    exact absurd ((List.prefix_append _ _).trans h2) (hm.2.2 c (good_cons.1 h).1)
  | c :: l, d :: m, ep, nu, bs, h, h2, hm => by
    obtain ⟨g1, g2, g3⟩ := lg_tail hm
    rw [lgb_cons] at h2
    have e := fr_one (good_chk h) (good_chk g1) ((List.prefix_append _ _).trans h2) g2
    subst e
    have := lg_has (good_cons.1 h).2 (Fm.drop_pre h2) g3
    exact List.cons_prefix_cons.2 ⟨rfl, this⟩

/-- A first part of a log's bytes is read as a first part of it. -/
theorem lg_in : ∀ {l m : List Cv} {ep nu : Int} {bs : List Int}, Cm.Good ep nu l → bs <+: lgb l → Lg ep nu bs m → m <+: l
  | _, [], _, _, _, _, _, _ => List.nil_prefix
  | [], d :: m, ep, nu, bs, h, h2, hm => by
    obtain ⟨_, g2, _⟩ := lg_tail hm
    have h1 := (g2.trans h2).length_le
    have h3 := fr_pos d
    have h4 : (lgb []).length = 0 := rfl
    omega
  | c :: l, d :: m, ep, nu, bs, h, h2, hm => by
    obtain ⟨g1, g2, g3⟩ := lg_tail hm
    rw [lgb_cons] at h2
    have e := fr_one (good_chk h) (good_chk g1) (List.prefix_append _ _) (g2.trans h2)
    subst e
    obtain ⟨t, rfl⟩ := g2
    rw [List.drop_left] at g3
    have ht : t <+: lgb l := by
      obtain ⟨u, hu⟩ := h2
      rw [List.append_assoc] at hu
      exact ⟨u, List.append_cancel_left hu⟩
    exact List.cons_prefix_cons.2 ⟨rfl, lg_in (good_cons.1 h).2 ht g3⟩

/-- Its first commits. -/
theorem lgb_take (l : List Cv) (k : Nat) : lgb (l.take k) = (lgb l).take (lgb (l.take k)).length := by
  have : lgb l = lgb (l.take k) ++ lgb (l.drop k) := by rw [← lgb_app, List.take_append_drop]
  rw [this, List.take_left]

/-- Read again, cut to its good length: the same. -/
theorem lg_again {ep nu : Int} {bs : List Int} {l : List Cv} (h : Lg ep nu bs l) : bs.take (lgb l).length = lgb l ∧ Lg ep nu (bs.take (lgb l).length) l := by
  have e : bs.take (lgb l).length = lgb l := by
    obtain ⟨t, ht⟩ := h.2.1
    rw [← ht, List.take_left]
  rw [e]
  exact ⟨rfl, lg_self h.1⟩

end Wl
end Go.Proofs.YtkpnkknolobioaaGreat

/- The mathematics of sections of orphans: which may be, their bytes, what is read of any bytes. No program. -/
namespace Go.Proofs.YtkpnkknolobioaaGreat
set_option linter.unusedVariables false
namespace Orp
open Vm Bm
open Cm (Cv Good fol lastE lastN)

/-- A section. -/
structure Se where
  e : Int
  f : Int
  cs : List Cv

/-- Check. -/
def chk (s : Se) : Int := if s.e < 1 ∨ 1048576 < s.e ∨ s.f < 0 ∨ s.cs.length = 0 then 2 else if (fol 1 s.f 0 s.cs).1 = 0 then (if s.e ≤ lastE 1 s.cs then 15 else 0) else (fol 1 s.f 0 s.cs).1

theorem chk_arg {s : Se} (h : s.e < 1 ∨ 1048576 < s.e ∨ s.f < 0 ∨ s.cs.length = 0) : chk s = 2 := if_pos h
theorem chk_fol {s : Se} (h : ¬ (s.e < 1 ∨ 1048576 < s.e ∨ s.f < 0 ∨ s.cs.length = 0)) (h' : (fol 1 s.f 0 s.cs).1 ≠ 0) : chk s = (fol 1 s.f 0 s.cs).1 := by unfold chk; rw [if_neg h, if_neg h']
theorem chk_ord {s : Se} (h : ¬ (s.e < 1 ∨ 1048576 < s.e ∨ s.f < 0 ∨ s.cs.length = 0)) (h' : (fol 1 s.f 0 s.cs).1 = 0) (h2 : s.e ≤ lastE 1 s.cs) : chk s = 15 := by unfold chk; rw [if_neg h, if_pos h', if_pos h2]
theorem chk_ok {s : Se} (h : ¬ (s.e < 1 ∨ 1048576 < s.e ∨ s.f < 0 ∨ s.cs.length = 0)) (h' : (fol 1 s.f 0 s.cs).1 = 0) (h2 : ¬ s.e ≤ lastE 1 s.cs) : chk s = 0 := by unfold chk; rw [if_neg h, if_pos h', if_neg h2]

theorem good_many : ∀ {l : List Cv} {ep nu : Int}, Good ep nu l → (l = [] ∨ nu + l.length ≤ 1048576) ∧ ∀ c ∈ l, Cm.chk c.e c.n c.l = 0
  | [], _, _, _ => ⟨.inl rfl, fun c hc => by simp at hc⟩
  | c :: r, ep, nu, ⟨h1, h2, h3, h4⟩ => by
    obtain ⟨g1, g2⟩ := good_many h4
    obtain ⟨_, _, _, h5, _⟩ := Cm.chk_zero h1
    refine ⟨.inr ?_, fun d hd => ?_⟩
    · rcases g1 with rfl | g1
      · simp; omega
      · rw [List.length_cons]; omega
    · rcases List.mem_cons.1 hd with rfl | hd
      · exact h1
      · exact g2 d hd

theorem chk_zero {s : Se} (h : chk s = 0) : 1 ≤ s.e ∧ s.e ≤ 1048576 ∧ 0 ≤ s.f ∧ s.f ≤ 1048576 ∧ 1 ≤ s.cs.length ∧ s.cs.length ≤ 1048576 ∧ Good 1 s.f s.cs ∧ lastE 1 s.cs < s.e ∧ ∀ c ∈ s.cs, Cm.chk c.e c.n c.l = 0 := by
  unfold chk at h
  split at h
  · simp at h
  · rename_i h1
    split at h
    · rename_i h2
      split at h
      · simp at h
      · have g := (Cm.fol_good _ _ _ _).1 h2
        obtain ⟨g1, g2⟩ := good_many g
        rcases g1 with g1 | g1
        · rw [g1] at h1; simp at h1
        · exact ⟨by omega, by omega, by omega, by omega, by omega, by omega, g, by omega, g2⟩
    · rename_i h2
      exact absurd h h2

/-- Its header, its bytes. -/
def hdr (s : Se) : List Int := enc s.e.toNat ++ (enc s.f.toNat ++ enc s.cs.length)
def sec (s : Se) : List Int := Fm.frm (hdr s) ++ Wl.lgb s.cs
def out (s : Se) : List Int := if chk s = 0 then sec s else []
theorem out_ok {s : Se} (h : chk s = 0) : out s = sec s := if_pos h
theorem out_no {s : Se} (h : chk s ≠ 0) : out s = [] := if_neg h

theorem hdr_small {s : Se} (h : chk s = 0) : (hdr s).length ≤ 9 := by
  obtain ⟨h1, h2, h3, h4, h5, h6, _⟩ := chk_zero h
  have a := Cm.enc_small (x := s.e) (by omega)
  have b := Cm.enc_small (x := s.f) (by omega)
  have c : (enc s.cs.length).length ≤ 3 := sz_le 2 _ (by omega)
  unfold hdr
  rw [List.length_append, List.length_append]
  omega

theorem lgb_le : ∀ {l : List Cv}, (∀ c ∈ l, Cm.chk c.e c.n c.l = 0) → (Wl.lgb l).length ≤ 433 * l.length
  | [], _ => by simp [Wl.lgb, Fm.cat]
  | c :: l, h => by
    have h1 := Wl.fr_small (h c (by simp))
    have h2 := lgb_le (l := l) fun d hd => h d (by simp [hd])
    rw [Wl.lgb_cons, List.length_append, List.length_cons]
    omega

theorem sec_le {s : Se} (h : chk s = 0) : (sec s).length ≤ 10 + 433 * s.cs.length := by
  have h1 := hdr_small h
  have h2 := lgb_le (chk_zero h).2.2.2.2.2.2.2.2
  have h3 : sz (hdr s).length ≤ 1 := sz_le 0 _ (by omega)
  unfold sec
  rw [List.length_append, Fm.frm_len]
  omega

theorem out_le (s : Se) : (out s).length ≤ 10 + 433 * s.cs.length := by
  unfold out
  split
  · exact sec_le (by assumption)
  · simp

theorem sec_pos (s : Se) : 1 ≤ (sec s).length := by
  have := Fm.frm_pos (hdr s)
  unfold sec
  rw [List.length_append]
  omega

theorem hdr_parts {s : Se} {bs : List Int} (h : hdr s <+: bs) : enc s.e.toNat <+: bs ∧ enc s.f.toNat <+: bs.drop (sz s.e.toNat) ∧ enc s.cs.length <+: bs.drop (sz s.e.toNat + sz s.f.toNat) := by
  unfold hdr at h
  rw [pre_app, pre_app, List.drop_drop] at h
  exact h

theorem lgb_free : ∀ (l m : List Cv) (bs : List Int), l.length = m.length → (∀ c ∈ l, Cm.chk c.e c.n c.l = 0) → (∀ c ∈ m, Cm.chk c.e c.n c.l = 0) → Wl.lgb l <+: bs → Wl.lgb m <+: bs → l = m
  | [], [], _, _, _, _, _, _ => rfl
  | [], _ :: _, _, h, _, _, _, _ => by simp at h
  | _ :: _, [], _, h, _, _, _, _ => by simp at h
  | c :: l, d :: m, bs, hl, h1, h2, h, g => by
    rw [Wl.lgb_cons, pre_app] at h g
    have e := Wl.fr_one (h1 c (by simp)) (h2 d (by simp)) h.1 g.1
    subst e
    rw [lgb_free l m _ (by simpa using hl) (fun x hx => h1 x (by simp [hx])) (fun x hx => h2 x (by simp [hx])) h.2 g.2]

/-- No section that may be begins these bytes. -/
def No (bs : List Int) : Prop := ∀ t, chk t = 0 → ¬ sec t <+: bs
/-- No section that may be has this header. -/
def NoH (h : List Int) : Prop := ∀ t, chk t = 0 → hdr t ≠ h

theorem no_frm {bs : List Int} (h : ∀ r : List Int, r.length ≤ 131072 → ¬ Fm.frm r <+: bs) : No bs := fun t ht hp => by
  have := hdr_small ht
  exact h (hdr t) (by omega) ((List.prefix_append _ _).trans hp)

theorem no_hdr {bs h : List Int} (hp : Fm.frm h <+: bs) (hn : NoH h) : No bs := fun t ht hq =>
  hn t ht (Fm.frm_one ((List.prefix_append _ _).trans hq) hp)

theorem noh1 {h : List Int} (k : ∀ x : Nat, x ≤ 1048576 → ¬ enc x <+: h) : NoH h := fun t ht he => by
  obtain ⟨h1, h2, h3, h4, h5, h6, _⟩ := chk_zero ht
  exact k t.e.toNat (by omega) (hdr_parts (he ▸ List.prefix_rfl : hdr t <+: h)).1

theorem noh2 {h : List Int} {x : Nat} (hx : enc x <+: h) (k : ∀ y : Nat, y ≤ 1048576 → ¬ enc y <+: h.drop (sz x)) : NoH h := fun t ht he => by
  obtain ⟨h1, h2, h3, h4, h5, h6, _⟩ := chk_zero ht
  obtain ⟨p1, p2, _⟩ := hdr_parts (he ▸ List.prefix_rfl : hdr t <+: h)
  rw [← pre_one _ _ _ hx p1] at p2
  exact k t.f.toNat (by omega) p2

theorem noh3 {h : List Int} {x y : Nat} (hx : enc x <+: h) (hy : enc y <+: h.drop (sz x)) (k : ∀ m : Nat, m ≤ 1048576 → ¬ enc m <+: h.drop (sz x + sz y)) : NoH h := fun t ht he => by
  obtain ⟨h1, h2, h3, h4, h5, h6, _⟩ := chk_zero ht
  obtain ⟨p1, p2, p3⟩ := hdr_parts (he ▸ List.prefix_rfl : hdr t <+: h)
  rw [← pre_one _ _ _ hx p1] at p2 p3
  rw [← pre_one _ _ _ hy p2] at p3
  exact k t.cs.length (by omega) p3

theorem hdr_len (s : Se) : (hdr s).length = sz s.e.toNat + sz s.f.toNat + sz s.cs.length := by
  unfold hdr
  rw [List.length_append, List.length_append]
  unfold sz
  omega

theorem noh4 {h : List Int} {x y m : Nat} (hx : enc x <+: h) (hy : enc y <+: h.drop (sz x)) (hm : enc m <+: h.drop (sz x + sz y)) (hl : sz x + sz y + sz m ≠ h.length) : NoH h := fun t ht he => by
  obtain ⟨p1, p2, p3⟩ := hdr_parts (he ▸ List.prefix_rfl : hdr t <+: h)
  have e1 := pre_one _ _ _ hx p1
  rw [← e1] at p2 p3
  have e2 := pre_one _ _ _ hy p2
  rw [← e2] at p3
  have e3 := pre_one _ _ _ hm p3
  apply hl
  rw [← he, hdr_len, ← e1, ← e2, ← e3]

theorem hdr_is {h : List Int} {x y m : Nat} (hx : enc x <+: h) (hy : enc y <+: h.drop (sz x)) (hm : enc m <+: h.drop (sz x + sz y)) (hl : sz x + sz y + sz m = h.length) : enc x ++ (enc y ++ enc m) = h := by
  have : enc x ++ (enc y ++ enc m) <+: h := by
    rw [pre_app, pre_app, List.drop_drop]
    exact ⟨hx, hy, hm⟩
  refine this.eq_of_length ?_
  rw [List.length_append, List.length_append, ← hl]
  unfold sz
  omega

/-- The header tells the numbers. -/
theorem hdr_num {s : Se} {x y m : Nat} (h : hdr s = enc x ++ (enc y ++ enc m)) : s.e.toNat = x ∧ s.f.toNat = y ∧ s.cs.length = m := by
  have q : enc x ++ (enc y ++ enc m) <+: hdr s := by rw [h]; exact List.prefix_rfl
  rw [pre_app, pre_app, List.drop_drop] at q
  obtain ⟨q1, q2, q3⟩ := q
  obtain ⟨p1, p2, p3⟩ := hdr_parts (s := s) List.prefix_rfl
  have e1 := pre_one _ _ _ q1 p1
  change enc y <+: (hdr s).drop (sz x) at q2
  change enc m <+: (hdr s).drop (sz x + sz y) at q3
  rw [← e1] at p2 p3
  have e2 := pre_one _ _ _ q2 p2
  rw [← e2] at p3
  exact ⟨e1.symm, e2.symm, (pre_one _ _ _ q3 p3).symm⟩

/-- In the midst: the header and some commits are read, the next one is none. -/
theorem no_mid {bs : List Int} {x y m : Nat} {l : List Cv} (hh : Fm.frm (enc x ++ (enc y ++ enc m)) <+: bs) (hl : Wl.lgb l <+: bs.drop (Fm.frm (enc x ++ (enc y ++ enc m))).length) (hc : ∀ c ∈ l, Cm.chk c.e c.n c.l = 0) (hlt : l.length < m)
    (k : ∀ c : Cv, Cm.chk c.e c.n c.l = 0 → ¬ Wl.fr c <+: bs.drop ((Fm.frm (enc x ++ (enc y ++ enc m))).length + (Wl.lgb l).length)) : No bs := fun t ht hp => by
  obtain ⟨h1, h2, h3, h4, h5, h6, _, _, h7⟩ := chk_zero ht
  unfold sec at hp
  rw [pre_app] at hp
  have e := Fm.frm_one hp.1 hh
  obtain ⟨_, _, e3⟩ := hdr_num e
  rw [e] at hp
  have p4 := hp.2
  have hlr : l.length < t.cs.length := by omega
  have hs : t.cs = t.cs.take l.length ++ (t.cs[l.length] :: t.cs.drop (l.length + 1)) := by rw [← List.drop_eq_getElem_cons hlr, List.take_append_drop]
  rw [hs, Wl.lgb_app, pre_app] at p4
  have hq := lgb_free l (t.cs.take l.length) _ (by rw [List.length_take]; omega) hc (fun o ho => h7 o (List.mem_of_mem_take ho)) hl p4.1
  have p5 := p4.2
  rw [← hq, List.drop_drop, Wl.lgb_cons] at p5
  exact k t.cs[l.length] (h7 _ (List.getElem_mem hlr)) ((List.prefix_append _ _).trans p5)

/-- All is read. -/
theorem same_end {bs : List Int} {x y : Nat} {l : List Cv} (hh : Fm.frm (enc x ++ (enc y ++ enc l.length)) <+: bs) (hl : Wl.lgb l <+: bs.drop (Fm.frm (enc x ++ (enc y ++ enc l.length))).length) (hc : ∀ c ∈ l, Cm.chk c.e c.n c.l = 0)
    {t : Se} (ht : chk t = 0) (hp : sec t <+: bs) : t = ⟨x, y, l⟩ := by
  obtain ⟨h1, h2, h3, h4, h5, h6, _, _, h7⟩ := chk_zero ht
  unfold sec at hp
  rw [pre_app] at hp
  have e := Fm.frm_one hp.1 hh
  obtain ⟨e1, e2, e3⟩ := hdr_num e
  rw [e] at hp
  have e4 := lgb_free t.cs l _ e3 h7 hc hp.2 hl
  obtain ⟨te, tf, tc⟩ := t
  simp only at e1 e2 e4 h1 h3
  rw [Se.mk.injEq]
  exact ⟨by omega, by omega, e4⟩

theorem no_end {bs : List Int} {x y : Nat} {l : List Cv} (hh : Fm.frm (enc x ++ (enc y ++ enc l.length)) <+: bs) (hl : Wl.lgb l <+: bs.drop (Fm.frm (enc x ++ (enc y ++ enc l.length))).length) (hc : ∀ c ∈ l, Cm.chk c.e c.n c.l = 0) (hk : chk ⟨x, y, l⟩ ≠ 0) : No bs := fun t ht hp => by
  rw [same_end hh hl hc ht hp] at ht
  exact hk ht

theorem is_end {bs : List Int} {x y : Nat} {l : List Cv} (hh : Fm.frm (enc x ++ (enc y ++ enc l.length)) <+: bs) (hl : Wl.lgb l <+: bs.drop (Fm.frm (enc x ++ (enc y ++ enc l.length))).length) : sec ⟨x, y, l⟩ <+: bs ∧ (sec ⟨x, y, l⟩).length = (Fm.frm (enc x ++ (enc y ++ enc l.length))).length + (Wl.lgb l).length := by
  have e : hdr ⟨x, y, l⟩ = enc x ++ (enc y ++ enc l.length) := by unfold hdr; simp
  unfold sec
  rw [e]
  exact ⟨pre_app.2 ⟨hh, hl⟩, List.length_append⟩

theorem sec_one {s t : Se} {bs : List Int} (hs : chk s = 0) (ht : chk t = 0) (h : sec s <+: bs) (h' : sec t <+: bs) : s = t := by
  obtain ⟨h1, h2, h3, h4, h5, h6, _, _, h7⟩ := chk_zero hs
  have e : hdr s = enc s.e.toNat ++ (enc s.f.toNat ++ enc s.cs.length) := rfl
  have p := pre_app.1 h
  rw [e] at p
  have := same_end p.1 p.2 h7 ht h'
  rw [this]
  obtain ⟨se, sf, sc⟩ := s
  simp only at h1 h3
  rw [Se.mk.injEq]
  exact ⟨by simp; omega, by simp; omega, rfl⟩

/-- What a reading of one section tells. -/
def Rd (bs : List Int) (s : Se) (n : Nat) (g : Bool) : Prop := (g = true ∧ chk s = 0 ∧ sec s <+: bs ∧ n = (sec s).length) ∨ (g = false ∧ No bs)

/-- Sections with rising epochs. -/
def Ris (a : Int) : List Se → Prop
  | [] => True
  | s :: r => chk s = 0 ∧ a < s.e ∧ Ris s.e r
def lstS (a : Int) : List Se → Int
  | [] => a
  | s :: r => lstS s.e r
def secs : List Se → List Int
  | [] => []
  | s :: r => sec s ++ secs r

theorem ris_cons {a : Int} {s : Se} {l : List Se} : Ris a (s :: l) ↔ Ris a [s] ∧ Ris s.e l := by simp [Ris, and_assoc]
theorem ris_app : ∀ (l m : List Se) (a : Int), Ris a (l ++ m) ↔ Ris a l ∧ Ris (lstS a l) m
  | [], m, a => by simp [Ris, lstS]
  | s :: r, m, a => by simp only [List.cons_append, Ris, lstS, ris_app r m]; constructor <;> (rintro ⟨_, _⟩; simp_all)
theorem lst_snoc : ∀ (l : List Se) (s : Se) (a : Int), lstS a (l ++ [s]) = s.e
  | [], _, _ => rfl
  | q :: r, s, a => by simpa [lstS] using lst_snoc r s q.e
theorem ris_all : ∀ {l : List Se} {a : Int}, Ris a l → ∀ s ∈ l, chk s = 0
  | [], _, _, s, hs => by simp at hs
  | q :: r, a, h, s, hs => by
    rcases List.mem_cons.1 hs with rfl | hs
    · exact h.1
    · exact ris_all h.2.2 s hs
theorem secs_cons (s : Se) (l : List Se) : secs (s :: l) = sec s ++ secs l := rfl
theorem secs_app : ∀ (l m : List Se), secs (l ++ m) = secs l ++ secs m
  | [], _ => rfl
  | s :: l, m => by rw [List.cons_append, secs_cons, secs_cons, secs_app l m, List.append_assoc]
theorem secs_one (s : Se) : secs [s] = sec s := by simp [secs]
theorem secs_len : ∀ (l : List Se), l.length ≤ (secs l).length
  | [] => by simp
  | s :: l => by
    have := secs_len l
    have := sec_pos s
    rw [secs_cons, List.length_append, List.length_cons]
    omega

/-- The sections in a file's bytes. -/
def Sn (a : Int) (bs : List Int) (l : List Se) : Prop := Ris a l ∧ secs l <+: bs ∧ ∀ t, Ris (lstS a l) [t] → ¬ sec t <+: bs.drop (secs l).length

theorem sn_tail {a : Int} {bs : List Int} {s : Se} {l : List Se} (h : Sn a bs (s :: l)) : Ris a [s] ∧ sec s <+: bs ∧ Sn s.e (bs.drop (sec s).length) l := by
  obtain ⟨h1, h2, h3⟩ := h
  rw [secs_cons] at h2
  obtain ⟨g1, g2⟩ := ris_cons.1 h1
  refine ⟨g1, (List.prefix_append _ _).trans h2, g2, Fm.drop_pre h2, fun d hd => ?_⟩
  rw [List.drop_drop, ← List.length_append, ← secs_cons]
  exact h3 d hd

theorem sn_one : ∀ {l m : List Se} {a : Int} {bs : List Int}, Sn a bs l → Sn a bs m → l = m
  | [], [], _, _, _, _ => rfl
  | [], c :: m, a, bs, h, h' => by
    obtain ⟨h1, h2, _⟩ := sn_tail h'
    exact absurd h2 (h.2.2 c h1)
  | c :: l, [], a, bs, h, h' => by
    obtain ⟨h1, h2, _⟩ := sn_tail h
    exact absurd h2 (h'.2.2 c h1)
  | c :: l, d :: m, a, bs, h, h' => by
    obtain ⟨h1, h2, h3⟩ := sn_tail h
    obtain ⟨g1, g2, g3⟩ := sn_tail h'
    have e := sec_one h1.1 g1.1 h2 g2
    subst e
    rw [sn_one h3 g3]

theorem sn_cons {a : Int} {bs : List Int} {s : Se} {l : List Se} (h1 : Ris a [s]) (h2 : sec s <+: bs) (h3 : Sn s.e (bs.drop (sec s).length) l) : Sn a bs (s :: l) := by
  obtain ⟨g1, g2, g3⟩ := h3
  refine ⟨ris_cons.2 ⟨h1, g1⟩, Fm.pre_drop h2 g2, fun d hd => ?_⟩
  have := g3 d hd
  rw [List.drop_drop, ← List.length_append, ← secs_cons] at this
  exact this

theorem sn_is (a : Int) (bs : List Int) : ∃ l, Sn a bs l := by
  suffices h : ∀ n (a : Int) (bs : List Int), bs.length ≤ n → ∃ l, Sn a bs l from h _ a bs (Nat.le_refl _)
  intro n
  induction n with
  | zero =>
    intro a bs hb
    refine ⟨[], trivial, List.nil_prefix, fun c _ h => ?_⟩
    have h1 := h.length_le
    have h2 := sec_pos c
    rw [List.length_drop] at h1
    omega
  | succ n ih =>
    intro a bs hb
    by_cases h : ∃ c, Ris a [c] ∧ sec c <+: bs
    · obtain ⟨c, h1, h2⟩ := h
      have hp := sec_pos c
      obtain ⟨l, hl⟩ := ih c.e (bs.drop (sec c).length) (by rw [List.length_drop]; omega)
      exact ⟨c :: l, sn_cons h1 h2 hl⟩
    · exact ⟨[], trivial, List.nil_prefix, fun c h1 h2 => h ⟨c, h1, h2⟩⟩

theorem secs_take_le (l : List Se) (k : Nat) : (secs (l.take k)).length ≤ (secs l).length := by
  have : secs l = secs (l.take k) ++ secs (l.drop k) := by rw [← secs_app, List.take_append_drop]
  rw [this, List.length_append]
  omega

/-- Cut anywhere: as far as they lie ahead of the cut whole. -/
theorem sn_cut {l : List Se} {a : Int} {k n : Nat} (h : Ris a l) (hn : n ≤ l.length) (h1 : (secs (l.take n)).length ≤ k) (h2 : n < l.length → k < (secs (l.take (n + 1))).length) (h3 : k ≤ (secs l).length) : Sn a ((secs l).take k) (l.take n) := by
  have hs : secs l = secs (l.take n) ++ secs (l.drop n) := by rw [← secs_app, List.take_append_drop]
  have hr := h
  rw [← List.take_append_drop n l, ris_app] at hr
  have ht : (secs l).take k = secs (l.take n) ++ (secs (l.drop n)).take (k - (secs (l.take n)).length) := by
    rw [hs, List.take_append, List.take_of_length_le h1]
  refine ⟨hr.1, ?_, fun t hR hp => ?_⟩
  · rw [ht]; exact List.prefix_append _ _
  · rw [ht, List.drop_left] at hp
    by_cases hlt : n < l.length
    · have hd : l.drop n = l[n] :: l.drop (n + 1) := List.drop_eq_getElem_cons hlt
      have hk := h2 hlt
      rw [List.take_succ_eq_append_getElem hlt, secs_app, secs_one, List.length_append] at hk
      have hq : sec t <+: secs (l.drop n) := hp.trans (List.take_prefix _ _)
      have e := sec_one hR.1 (ris_all h l[n] (List.getElem_mem hlt)) hq (by rw [hd, secs_cons]; exact List.prefix_append _ _)
      have := hp.length_le
      rw [e, List.length_take] at this
      omega
    · have hd : l.drop n = [] := List.drop_eq_nil_of_le (by omega)
      rw [hd] at hp
      have h4 := hp.length_le
      have h5 := sec_pos t
      rw [show secs [] = [] from rfl, List.take_nil, List.length_nil] at h4
      omega

theorem sn_self {a : Int} {l : List Se} (h : Ris a l) : Sn a (secs l) l := by
  have := sn_cut (k := (secs l).length) (n := l.length) h (Nat.le_refl _) (by rw [List.take_length]; exact Nat.le_refl _) (fun h => absurd h (Nat.lt_irrefl _)) (Nat.le_refl _)
  rwa [List.take_length, List.take_length] at this

/-- Has. -/
def has (l : List Se) (e n : Int) : Bool := l.any fun s => s.cs.any fun c => c.e == e && c.n == n
theorem has_app (l m : List Se) (e n : Int) : has (l ++ m) e n = (has l e n || has m e n) := by simp [has, List.any_append]

end Orp
end Go.Proofs.YtkpnkknolobioaaGreat

/- Disks, by mathematics. No program. -/
namespace Go.Proofs.YtkpnkknolobioaaGreat.Dm
set_option linter.unusedVariables false

/-- A raw step that is pending. -/
structure Rw where
  file : Nat
  cut : Bool
  to : Nat
  bytes : List Int

/-- A disk: what is durable, what is pending; is it on; its fuse; how many raw steps it has done. -/
structure Ds where
  sure : Nat → List Int
  wait : List Rw
  on : Bool
  has : Bool
  left : Nat
  count : Nat

def upd (s : Nat → List Int) (f : Nat) (x : List Int) : Nat → List Int := fun j => if j = f then x else s j

theorem upd_same (s : Nat → List Int) (f : Nat) (x : List Int) : upd s f x f = x := by simp [upd]
theorem upd_other {s : Nat → List Int} {f j : Nat} {x : List Int} (h : j ≠ f) : upd s f x j = s j := by simp [upd, h]

/-- Bytes behind a raw step. -/
def wth (b : List Int) (r : Rw) : List Int := if r.cut then b.take r.to else b ++ r.bytes

def one (s : Nat → List Int) (r : Rw) : Nat → List Int := upd s r.file (wth (s r.file) r)

/-- All of them done, in order. -/
def dof (s : Nat → List Int) : List Rw → Nat → List Int
  | [] => s
  | r :: l => dof (one s r) l

theorem dof_app : ∀ (l m : List Rw) (s : Nat → List Int), dof s (l ++ m) = dof (dof s l) m
  | [], _, _ => rfl
  | r :: l, m, s => dof_app l m (one s r)

theorem dof_snoc (l : List Rw) (r : Rw) (s : Nat → List Int) : dof s (l ++ [r]) = one (dof s l) r := dof_app l [r] s

/-- One file's bytes behind the steps of that file. -/
def hold (f : Nat) (b : List Int) : List Rw → List Int
  | [] => b
  | r :: l => hold f (if r.file = f then wth b r else b) l

theorem hold_dof : ∀ (l : List Rw) (s : Nat → List Int) (f : Nat), hold f (s f) l = dof s l f
  | [], _, _ => rfl
  | r :: l, s, f => by
    rw [hold, dof, ← hold_dof l (one s r) f]
    congr 1
    by_cases h : r.file = f
    · subst h; rw [if_pos rfl, one, upd_same]
    · rw [if_neg h, one, upd_other (Ne.symm h)]

theorem hold_app : ∀ (l m : List Rw) (b : List Int) (f : Nat), hold f b (l ++ m) = hold f (hold f b l) m
  | [], _, _, _ => rfl
  | r :: l, m, b, f => hold_app l m _ f

theorem hold_snoc (l : List Rw) (r : Rw) (b : List Int) (f : Nat) : hold f b (l ++ [r]) = if r.file = f then wth (hold f b l) r else hold f b l := hold_app l [r] b f

/-- A raw step that fits what stands ahead of it. -/
def fits (s : Nat → List Int) (r : Rw) : Prop := r.file < 4 ∧ (r.cut = true → r.to ≤ (s r.file).length) ∧ (r.cut = false → 1 ≤ r.bytes.length ∧ r.bytes.length ≤ 64)

def valid (s : Nat → List Int) : List Rw → Prop
  | [] => True
  | r :: l => fits s r ∧ valid (one s r) l

theorem valid_app : ∀ (l m : List Rw) (s : Nat → List Int), valid s (l ++ m) ↔ valid s l ∧ valid (dof s l) m
  | [], _, _ => by simp [valid, dof]
  | r :: l, m, s => by simp [valid, dof, valid_app l m, and_assoc]

theorem valid_at {l : List Rw} {s : Nat → List Int} (h : valid s l) {k : Nat} {r : Rw} (hk : l[k]? = some r) : fits (dof s (l.take k)) r := by
  obtain ⟨hlt, rfl⟩ := List.getElem?_eq_some_iff.1 hk
  rw [← List.take_append_drop k l, valid_app, List.drop_eq_getElem_cons hlt] at h
  exact h.2.1

/-- How many bytes are pending. -/
def bulk : List Rw → Nat
  | [] => 0
  | r :: l => r.bytes.length + bulk l

theorem bulk_app : ∀ (l m : List Rw), bulk (l ++ m) = bulk l + bulk m
  | [], _ => by simp [bulk]
  | r :: l, m => by simp [bulk, bulk_app l m]; omega

theorem wth_len (b : List Int) (r : Rw) : (wth b r).length ≤ b.length + r.bytes.length := by
  unfold wth
  split
  · rw [List.length_take]; omega
  · simp

theorem hold_len : ∀ (l : List Rw) (b : List Int) (f : Nat), (hold f b l).length ≤ b.length + bulk l
  | [], _, _ => by simp [hold, bulk]
  | r :: l, b, f => by
    have h1 := hold_len l (if r.file = f then wth b r else b) f
    have h2 := wth_len b r
    simp only [hold, bulk]
    split at h1 <;> simp_all <;> omega

/-- No file, nor what is pending, has more than t bytes in all; no more than u raw steps. -/
def Sz (t u : Nat) (st : Ds) : Prop := (∀ f, (st.sure f).length + bulk st.wait ≤ t) ∧ st.wait.length ≤ u ∧ st.count ≤ u

def Ok (st : Ds) : Prop := valid st.sure st.wait

/-- One raw step is allowed, or the disk goes off. -/
def off (st : Ds) : Bool := st.has && st.left == 0
def burn (st : Ds) : Ds := { st with left := if st.has then st.left - 1 else st.left, count := st.count + 1 }
def dark (st : Ds) : Ds := { st with on := false }
def push (st : Ds) (r : Rw) : Ds := { st with wait := st.wait ++ [r] }

/-- The raw writes of a Write, piece by piece (n: as many bytes at the most). -/
def wrt (file : Nat) : Nat → Ds → List Int → Int × Ds
  | 0, st, _ => (0, st)
  | n + 1, st, bs => if bs = [] then (0, st) else if off st then (6, dark st) else wrt file n (push (burn st) ⟨file, false, 0, bs.take 64⟩) (bs.drop 64)

def inF (file : Int) : Bool := decide (0 ≤ file) && decide (file < 4)

def write (st : Ds) (file : Int) (bs : List Int) : Int × Ds := if st.on = false then (6, st) else if inF file = false then (2, st) else wrt file.toNat bs.length st bs
def cutD (st : Ds) (file len : Int) : Int × Ds := if st.on = false then (6, st) else if inF file = false then (2, st) else if len < 0 ∨ (hold file.toNat (st.sure file.toNat) st.wait).length < len then (2, st) else if off st then (6, dark st) else (0, push (burn st) ⟨file.toNat, true, len.toNat, []⟩)
def flush (st : Ds) : Ds := { st with sure := dof st.sure st.wait, wait := [] }
def sync (st : Ds) : Int × Ds := if st.on = false then (6, st) else if off st then (6, dark st) else (0, flush (burn st))
def fuse (st : Ds) (n : Int) : Int × Ds := if st.on = false then (6, st) else if n < 0 then (2, st) else (0, { st with has := true, left := n.toNat })
def safe (st : Ds) : Int × Ds := if st.on = false then (6, st) else (0, { st with has := false })
def pull (st : Ds) : Int × Ds := if st.on = false then (6, st) else (0, dark st)

/-- What stands of the steps when it is on again with k and t. -/
def kept (st : Ds) (k t : Nat) : Nat → List Int :=
  match st.wait[k]? with
  | some r => if r.cut then dof st.sure (st.wait.take k) else one (dof st.sure (st.wait.take k)) ⟨r.file, false, 0, r.bytes.take (min t (r.bytes.length - 1))⟩
  | none => dof st.sure (st.wait.take k)
def start (st : Ds) (k t : Int) : Int × Ds := if st.on = true ∨ k < 0 ∨ t < 0 then (2, st) else (0, { st with sure := kept st k.toNat t.toNat, wait := [], has := false, on := true })

def new : Ds := ⟨fun _ => [], [], true, false, 0, 0⟩

end Go.Proofs.YtkpnkknolobioaaGreat.Dm

/- The mathematics of a section that is written to a disk. No program. -/
namespace Go.Proofs.YtkpnkknolobioaaGreat
set_option linter.unusedVariables false
namespace Orp
open Dm

/-- What file 3 holds. -/
def hl (st : Ds) : List Int := hold 3 (st.sure 3) st.wait

/-- Write. -/
def wr2 (st : Ds) (s : Se) : Int × Ds :=
  if (write st 3 (sec s)).1 ≠ 0 then (6, (write st 3 (sec s)).2) else if (sync (write st 3 (sec s)).2).1 ≠ 0 then (6, (sync (write st 3 (sec s)).2).2) else (0, (sync (write st 3 (sec s)).2).2)
def wr1 (st : Ds) (base : Int) (s : Se) : Int × Ds :=
  if base < (hl st).length then (if (cutD st 3 base).1 ≠ 0 then (6, (cutD st 3 base).2) else wr2 (cutD st 3 base).2 s) else wr2 st s
def wrS (st : Ds) (base : Int) (s : Se) : Int × Ds :=
  if st.on = false then (6, st) else if chk s ≠ 0 then (chk s, st) else if base < 0 ∨ ((hl st).length : Int) < base then (2, st) else wr1 st base s

theorem wrS_off {st : Ds} {base : Int} {s : Se} (h : st.on = false) : wrS st base s = (6, st) := if_pos h
theorem wrS_chk {st : Ds} {base : Int} {s : Se} (h : st.on = true) (h2 : chk s ≠ 0) : wrS st base s = (chk s, st) := by unfold wrS; rw [if_neg (by simp [h]), if_pos h2]
theorem wrS_arg {st : Ds} {base : Int} {s : Se} (h : st.on = true) (h2 : chk s = 0) (h3 : base < 0 ∨ ((hl st).length : Int) < base) : wrS st base s = (2, st) := by unfold wrS; rw [if_neg (by simp [h]), if_neg (by simp [h2]), if_pos h3]
theorem wrS_go {st : Ds} {base : Int} {s : Se} (h : st.on = true) (h2 : chk s = 0) (h3 : ¬ (base < 0 ∨ ((hl st).length : Int) < base)) : wrS st base s = wr1 st base s := by unfold wrS; rw [if_neg (by simp [h]), if_neg (by simp [h2]), if_neg h3]

theorem hl_push {st : Ds} (bs : List Int) : hl (push (burn st) ⟨3, false, 0, bs⟩) = hl st ++ bs := by
  unfold hl push burn
  simp only
  rw [hold_snoc]
  simp [wth]

theorem hl_cut {st : Ds} (n : Nat) : hl (push (burn st) ⟨3, true, n, []⟩) = (hl st).take n := by
  unfold hl push burn
  simp only
  rw [hold_snoc]
  simp [wth]

theorem hl_flush (st : Ds) : hl (flush st) = hl st := by
  show dof st.sure st.wait 3 = hold 3 (st.sure 3) st.wait
  rw [hold_dof]

theorem wrt3 : ∀ (n : Nat) (st : Ds) (bs : List Int), bs.length ≤ n → st.on = true →
    ((wrt 3 n st bs).1 = 0 ∧ (wrt 3 n st bs).2.on = true ∧ hl (wrt 3 n st bs).2 = hl st ++ bs ∨ (wrt 3 n st bs).1 = 6 ∧ (wrt 3 n st bs).2.on = false) ∧
    (wrt 3 n st bs).2.sure = st.sure ∧ (∀ r ∈ (wrt 3 n st bs).2.wait, r ∈ st.wait ∨ r.cut = false) ∧ (st.has = false → (wrt 3 n st bs).1 = 0 ∧ (wrt 3 n st bs).2.has = false)
  | 0, st, bs, hb, ho => by
    have : bs = [] := List.eq_nil_of_length_eq_zero (by omega)
    subst this
    exact ⟨.inl ⟨rfl, ho, by simp [wrt]⟩, rfl, fun r hr => .inl hr, fun h => ⟨rfl, h⟩⟩
  | n + 1, st, bs, hb, ho => by
    unfold wrt
    by_cases h0 : bs = []
    · subst h0
      rw [if_pos rfl]
      exact ⟨.inl ⟨rfl, ho, by simp⟩, rfl, fun r hr => .inl hr, fun h => ⟨rfl, h⟩⟩
    · rw [if_neg h0]
      have hp : 1 ≤ bs.length := by
        rcases bs with _ | ⟨x, bs⟩
        · exact absurd rfl h0
        · simp
      cases hoff : off st with
      | true => exact ⟨.inr ⟨rfl, rfl⟩, rfl, fun r hr => .inl hr, fun h => by simp [off, h] at hoff⟩
      | false =>
        have ih := wrt3 n (push (burn st) ⟨3, false, 0, bs.take 64⟩) (bs.drop 64) (by rw [List.length_drop]; omega) ho
        rw [hl_push, List.append_assoc, List.take_append_drop] at ih
        obtain ⟨h1, h2, h3, h4⟩ := ih
        refine ⟨h1, h2, fun r hr => ?_, h4⟩
        rcases h3 r hr with h | h
        · rcases List.mem_append.1 (show r ∈ st.wait ++ [_] from h) with h | h
          · exact .inl h
          · rw [List.mem_singleton.1 h]; exact .inr rfl
        · exact .inr h

theorem write3 {st : Ds} (bs : List Int) (ho : st.on = true) : write st 3 bs = wrt 3 bs.length st bs := by
  unfold write
  rw [if_neg (by simp [ho]), if_neg (by decide)]
  rfl

/-- What the bytes of file 3 that stand ahead of all are, and that no cut goes into them. -/
structure Q (b0 : List Int) (st : Ds) : Prop where
  su : b0 <+: st.sure 3
  cu : ∀ r ∈ st.wait, r.file = 3 → r.cut = true → r.to = b0.length

theorem wth_in {b0 b : List Int} {r : Rw} (h : b0 <+: b) (hc : r.cut = true → r.to = b0.length) : b0 <+: wth b r := by
  unfold wth
  cases hr : r.cut with
  | true =>
    simp only [if_true]
    rw [hc hr]
    exact List.prefix_take_iff.2 ⟨h, Nat.le_refl _⟩
  | false => exact h.trans (List.prefix_append _ _)

theorem hold_in : ∀ (l : List Rw) (b0 b : List Int), b0 <+: b → (∀ r ∈ l, r.file = 3 → r.cut = true → r.to = b0.length) → b0 <+: hold 3 b l
  | [], _, _, h, _ => h
  | r :: l, b0, b, h, hc => by
    unfold hold
    refine hold_in l b0 _ ?_ fun x hx => hc x (List.mem_cons_of_mem _ hx)
    by_cases hf : r.file = 3
    · rw [if_pos hf]
      exact wth_in h (hc r (by simp) hf)
    · rw [if_neg hf]; exact h

theorem Q.hl {b0 : List Int} {st : Ds} (h : Q b0 st) : b0 <+: hl st := hold_in _ _ _ h.su h.cu

theorem Q.kept {b0 : List Int} {st : Ds} (h : Q b0 st) (k t : Nat) : b0 <+: kept st k t 3 := by
  have hd : ∀ k, b0 <+: dof st.sure (st.wait.take k) 3 := fun k => by
    rw [← hold_dof]
    exact hold_in _ _ _ h.su fun r hr => h.cu r (List.mem_of_mem_take hr)
  unfold Dm.kept
  cases hr : st.wait[k]? with
  | none => exact hd k
  | some r =>
    simp only
    cases hc : r.cut with
    | true => exact hd k
    | false =>
      show b0 <+: one (dof st.sure (st.wait.take k)) _ 3
      unfold one upd
      simp only
      by_cases hf : 3 = r.file
      · rw [if_pos hf, ← hf]
        exact wth_in (hd k) fun h => by simp at h
      · rw [if_neg hf]
        exact hd k

theorem Q.cutD {b0 : List Int} {st : Ds} (h : Q b0 st) : Q b0 (cutD st 3 b0.length).2 := by
  unfold Dm.cutD
  split
  · exact h
  · split
    · exact h
    · split
      · exact h
      · split
        · exact ⟨h.su, h.cu⟩
        · refine ⟨h.su, fun r hr hf hc => ?_⟩
          rcases List.mem_append.1 (show r ∈ st.wait ++ [_] from hr) with hr | hr
          · exact h.cu r hr hf hc
          · rw [List.mem_singleton.1 hr]
            simp

theorem Q.write {b0 : List Int} {st : Ds} (h : Q b0 st) (bs : List Int) : Q b0 (write st 3 bs).2 := by
  by_cases ho : st.on = true
  · rw [write3 bs ho]
    obtain ⟨_, h2, h3, _⟩ := wrt3 bs.length st bs (Nat.le_refl _) ho
    refine ⟨by rw [h2]; exact h.su, fun r hr hf hc => ?_⟩
    rcases h3 r hr with hr | hr
    · exact h.cu r hr hf hc
    · rw [hr] at hc; simp at hc
  · unfold Dm.write
    rw [if_pos (by simpa using ho)]
    exact h

theorem Q.sync {b0 : List Int} {st : Ds} (h : Q b0 st) : Q b0 (sync st).2 := by
  unfold Dm.sync
  split
  · exact h
  · split
    · exact ⟨h.su, h.cu⟩
    · refine ⟨?_, fun r hr => by simp [flush] at hr⟩
      show b0 <+: dof st.sure st.wait 3
      rw [← hold_dof]
      exact h.hl

theorem Q.wr2 {b0 : List Int} {st : Ds} (h : Q b0 st) (s : Se) : Q b0 (wr2 st s).2 := by
  unfold Orp.wr2
  split
  · exact h.write _
  · split
    · exact (h.write _).sync
    · exact (h.write _).sync

theorem Q.wr1 {b0 : List Int} {st : Ds} (h : Q b0 st) (s : Se) : Q b0 (wr1 st b0.length s).2 := by
  unfold Orp.wr1
  split
  · split
    · exact h.cutD
    · exact h.cutD.wr2 s
  · exact h.wr2 s

theorem Q.wrS {b0 : List Int} {st : Ds} (h : Q b0 st) (s : Se) : Q b0 (wrS st b0.length s).2 := by
  unfold Orp.wrS
  split
  · exact h
  · split
    · exact h
    · split
      · exact h
      · exact h.wr1 s

theorem Q.pull {b0 : List Int} {st : Ds} (h : Q b0 st) : Q b0 (pull st).2 := by
  unfold Dm.pull
  split
  · exact h
  · exact ⟨h.su, h.cu⟩

theorem Q.fuse {b0 : List Int} {st : Ds} (h : Q b0 st) (n : Int) : Q b0 (fuse st n).2 := by
  unfold Dm.fuse
  split
  · exact h
  · split
    · exact h
    · exact ⟨h.su, h.cu⟩

theorem Q.start {b0 : List Int} {st : Ds} (h : Q b0 st) (k t : Int) : Q b0 (start st k t).2 := by
  unfold Dm.start
  split
  · exact h
  · exact ⟨h.kept _ _, fun r hr => by simp at hr⟩

/-- A section is written behind what stands, with or without a fuse. -/
theorem wr2_is {st : Ds} {s : Se} (ho : st.on = true) : ((wr2 st s).1 = 0 ∧ (wr2 st s).2.on = true ∧ (wr2 st s).2.sure 3 = hl st ++ sec s ∧ (wr2 st s).2.wait = [] ∨ (wr2 st s).1 = 6 ∧ (wr2 st s).2.on = false) ∧ (st.has = false → (wr2 st s).1 = 0 ∧ (wr2 st s).2.has = false) := by
  obtain ⟨h1, h2, h3, h4⟩ := wrt3 (sec s).length st (sec s) (Nat.le_refl _) ho
  unfold wr2
  rw [write3 _ ho]
  rcases h1 with ⟨g1, g2, g3⟩ | ⟨g1, g2⟩
  · rw [if_neg (by simp [g1])]
    cases hoff : off (wrt 3 (sec s).length st (sec s)).2 with
    | true =>
      have e : sync (wrt 3 (sec s).length st (sec s)).2 = (6, dark (wrt 3 (sec s).length st (sec s)).2) := by
        unfold sync
        rw [if_neg (by simp [g2]), if_pos hoff]
      rw [e, if_pos (by simp)]
      refine ⟨.inr ⟨rfl, rfl⟩, fun hh => ?_⟩
      have := (h4 hh).2
      simp [off, this] at hoff
    | false =>
      have e : sync (wrt 3 (sec s).length st (sec s)).2 = (0, flush (burn (wrt 3 (sec s).length st (sec s)).2)) := by
        unfold sync
        rw [if_neg (by simp [g2]), if_neg (by simp [hoff])]
      rw [e, if_neg (by simp)]
      refine ⟨.inl ⟨rfl, g2, ?_, rfl⟩, fun hh => ⟨rfl, (h4 hh).2⟩⟩
      rw [← g3]
      show dof _ _ 3 = _
      rw [← hold_dof]
      rfl
  · rw [if_pos (by simp [g1])]
    exact ⟨.inr ⟨rfl, g2⟩, fun hh => by rw [(h4 hh).1] at g1; simp at g1⟩

theorem wrS_is {st : Ds} {s : Se} {b0 : List Int} (ho : st.on = true) (hc : chk s = 0) (hb : b0 <+: hl st) :
    ((wrS st b0.length s).1 = 0 ∧ (wrS st b0.length s).2.on = true ∧ (wrS st b0.length s).2.sure 3 = b0 ++ sec s ∧ (wrS st b0.length s).2.wait = [] ∨ (wrS st b0.length s).1 = 6 ∧ (wrS st b0.length s).2.on = false) ∧
      (st.has = false → (wrS st b0.length s).1 = 0 ∧ (wrS st b0.length s).2.has = false) := by
  have hle := hb.length_le
  rw [wrS_go ho hc (by omega)]
  unfold wr1
  by_cases hlt : (b0.length : Int) < (hl st).length
  · rw [if_pos hlt]
    have hh : hl (push (burn st) ⟨3, true, b0.length, []⟩) = b0 := by
      rw [hl_cut]
      exact (List.prefix_iff_eq_take.1 hb).symm
    cases hoff : off st with
    | true =>
      have e : cutD st 3 b0.length = (6, dark st) := by
        unfold cutD
        rw [if_neg (by simp [ho]), if_neg (by decide), if_neg ?_, if_pos hoff]
        unfold hl at hlt
        simp
        omega
      rw [e, if_pos (by simp)]
      exact ⟨.inr ⟨rfl, rfl⟩, fun h => by simp [off, h] at hoff⟩
    | false =>
      have e : cutD st 3 b0.length = (0, push (burn st) ⟨3, true, b0.length, []⟩) := by
        unfold cutD
        rw [if_neg (by simp [ho]), if_neg (by decide), if_neg ?_, if_neg (by simp [hoff])]
        · rfl
        · unfold hl at hlt
          simp
          omega
      rw [e, if_neg (by simp)]
      have := wr2_is (st := push (burn st) ⟨3, true, b0.length, []⟩) (s := s) ho
      rw [hh] at this
      exact this
  · rw [if_neg hlt]
    have e : b0 = hl st := hb.eq_of_length (by omega)
    have := wr2_is (s := s) ho
    rw [← e] at this
    exact this

/-- Cut off anywhere, and written again: the same file. -/
theorem again {st : Ds} {s : Se} {b0 : List Int} {k t : Int} (hq : Q b0 st) (hoff : st.on = false) (hc : chk s = 0) (hk : 0 ≤ k) (ht : 0 ≤ t) :
    (start st k t).1 = 0 ∧ (wrS (start st k t).2 b0.length s).1 = 0 ∧ (wrS (start st k t).2 b0.length s).2.on = true ∧ (wrS (start st k t).2 b0.length s).2.sure 3 = b0 ++ sec s := by
  have e : start st k t = (0, { st with sure := kept st k.toNat t.toNat, wait := [], has := false, on := true }) := by
    unfold start
    rw [if_neg (by simp [hoff]; omega)]
  have q := hq.start k t
  rw [e] at q ⊢
  obtain ⟨h1, h2⟩ := wrS_is (st := { st with sure := kept st k.toNat t.toNat, wait := [], has := false, on := true }) (s := s) rfl hc q.hl
  obtain ⟨g1, g2⟩ := h2 rfl
  rcases h1 with ⟨a1, a2, a3, a4⟩ | ⟨a1, _⟩
  · exact ⟨rfl, a1, a2, a3⟩
  · rw [g1] at a1; simp at a1

end Orp
end Go.Proofs.YtkpnkknolobioaaGreat

/- Writing a section, case by case. No program. -/
namespace Go.Proofs.YtkpnkknolobioaaGreat
set_option linter.unusedVariables false

theorem wr2_e1 {st : Dm.Ds} {s : Orp.Se} (h : (Dm.write st 3 (Orp.sec s)).1 ≠ 0) : Orp.wr2 st s = (6, (Dm.write st 3 (Orp.sec s)).2) := by unfold Orp.wr2; rw [if_pos h]
theorem wr2_e2 {st : Dm.Ds} {s : Orp.Se} (h : (Dm.write st 3 (Orp.sec s)).1 = 0) (h2 : (Dm.sync (Dm.write st 3 (Orp.sec s)).2).1 ≠ 0) : Orp.wr2 st s = (6, (Dm.sync (Dm.write st 3 (Orp.sec s)).2).2) := by unfold Orp.wr2; rw [if_neg (by simp [h]), if_pos h2]
theorem wr2_e3 {st : Dm.Ds} {s : Orp.Se} (h : (Dm.write st 3 (Orp.sec s)).1 = 0) (h2 : (Dm.sync (Dm.write st 3 (Orp.sec s)).2).1 = 0) : Orp.wr2 st s = (0, (Dm.sync (Dm.write st 3 (Orp.sec s)).2).2) := by unfold Orp.wr2; rw [if_neg (by simp [h]), if_neg (by simp [h2])]
theorem wr1_cut {st : Dm.Ds} {base : Int} {s : Orp.Se} (h : base < (Orp.hl st).length) (h2 : (Dm.cutD st 3 base).1 = 0) : Orp.wr1 st base s = Orp.wr2 (Dm.cutD st 3 base).2 s := by unfold Orp.wr1; rw [if_pos h, if_neg (by simp [h2])]
theorem wr1_no {st : Dm.Ds} {base : Int} {s : Orp.Se} (h : base < (Orp.hl st).length) (h2 : (Dm.cutD st 3 base).1 ≠ 0) : Orp.wr1 st base s = (6, (Dm.cutD st 3 base).2) := by unfold Orp.wr1; rw [if_pos h, if_pos h2]
theorem wr1_all {st : Dm.Ds} {base : Int} {s : Orp.Se} (h : ¬ base < (Orp.hl st).length) : Orp.wr1 st base s = Orp.wr2 st s := by unfold Orp.wr1; rw [if_neg h]

theorem wrt3_e : ∀ (n : Nat) (st : Dm.Ds) (bs : List Int), (Dm.wrt 3 n st bs).1 = 0 ∨ (Dm.wrt 3 n st bs).1 = 6
  | 0, _, _ => .inl rfl
  | n + 1, st, bs => by
    unfold Dm.wrt
    split
    · exact .inl rfl
    split
    · exact .inr rfl
    · exact wrt3_e n _ _

theorem write3_e {st : Dm.Ds} (bs : List Int) : (Dm.write st 3 bs).1 = 0 ∨ (Dm.write st 3 bs).1 = 6 := by
  unfold Dm.write
  split
  · exact .inr rfl
  rw [if_neg (by decide)]
  exact wrt3_e _ _ _

theorem sync3_e (st : Dm.Ds) : (Dm.sync st).1 = 0 ∨ (Dm.sync st).1 = 6 := by
  unfold Dm.sync
  split
  · exact .inr rfl
  split
  · exact .inr rfl
  · exact .inl rfl

theorem cut3_e {st : Dm.Ds} {n : Int} (ho : st.on = true) (h0 : 0 ≤ n) (hn : n ≤ (Orp.hl st).length) : (Dm.cutD st 3 n).1 = 0 ∨ (Dm.cutD st 3 n).1 = 6 := by
  unfold Dm.cutD
  rw [if_neg (by simp [ho]), if_neg (by decide), if_neg ?_]
  · split
    · exact .inr rfl
    · exact .inl rfl
  · unfold Orp.hl at hn
    simp
    omega

end Go.Proofs.YtkpnkknolobioaaGreat
