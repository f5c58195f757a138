/- Plain facts on the bytes of a number (seven bits a byte, the lowest first): no program, no walk. -/
namespace Go.Proofs.YtgcdibglkbfjdaaGreatDoor.Vm

/-- The bytes of a number. -/
def enc (x : Nat) : List Int := if _h : x < 128 then [(x : Int)] else ((x % 128 + 128 : Nat) : Int) :: enc (x / 128)

/-- How many bytes a number has. -/
def sz (x : Nat) : Nat := (enc x).length

theorem enc_lo {x : Nat} (h : x < 128) : enc x = [(x : Int)] := by rw [enc, dif_pos h]
theorem enc_hi {x : Nat} (h : ¬ x < 128) : enc x = ((x % 128 + 128 : Nat) : Int) :: enc (x / 128) := by rw [enc, dif_neg h]
theorem sz_lo {x : Nat} (h : x < 128) : sz x = 1 := by unfold sz; rw [enc_lo h]; rfl
theorem sz_hi {x : Nat} (h : ¬ x < 128) : sz x = sz (x / 128) + 1 := by unfold sz; rw [enc_hi h]; rfl
theorem sz_pos (x : Nat) : 1 ≤ sz x := by
  by_cases h : x < 128
  · rw [sz_lo h]; omega
  · rw [sz_hi h]; omega

theorem sz_le : ∀ (k x : Nat), x < 128 ^ (k + 1) → sz x ≤ k + 1 := by
  intro k
  induction k with
  | zero => intro x h; rw [sz_lo (by simpa using h)]; omega
  | succ k ih =>
    intro x h
    by_cases hx : x < 128
    · rw [sz_lo hx]; omega
    · rw [sz_hi hx]
      have : x / 128 < 128 ^ (k + 1) := by
        rw [Nat.div_lt_iff_lt_mul (by omega)]
        rw [Nat.pow_succ] at h
        exact h
      have := ih _ this
      omega

theorem sz_mono : ∀ (y x : Nat), x ≤ y → sz x ≤ sz y := by
  intro y
  induction y using Nat.strongRecOn with
  | ind y ih =>
    intro x h
    by_cases hy : y < 128
    · rw [sz_lo hy, sz_lo (by omega)]; omega
    · by_cases hx : x < 128
      · rw [sz_lo hx]; exact sz_pos y
      · rw [sz_hi hx, sz_hi hy]
        have := ih (y / 128) (by omega) (x / 128) (by omega)
        omega

theorem sz_le10 {x : Nat} (h : x < 18446744073709551616) : sz x ≤ 10 :=
  sz_le 9 x (Nat.lt_of_lt_of_le h (by decide))

theorem pre_cons {a b : Int} {l m : List Int} : a :: l <+: b :: m ↔ a = b ∧ l <+: m := List.cons_prefix_cons

theorem pre_nil (y : Nat) : ¬ enc y <+: [] := by
  intro h
  rw [List.prefix_nil] at h
  have := sz_pos y
  unfold sz at this
  rw [h] at this
  simp at this

theorem pre_lo {y : Nat} {c : Int} {rest : List Int} (hc : c < 128) : enc y <+: c :: rest ↔ (y : Int) = c := by
  by_cases h : y < 128
  · rw [enc_lo h, pre_cons]
    simp
  · rw [enc_hi h, pre_cons]
    constructor
    · intro h; omega
    · intro h; omega

theorem pre_hi {y : Nat} {c : Int} {rest : List Int} (hc : 128 ≤ c) (hc2 : c < 256) : enc y <+: c :: rest ↔ ∃ y', 1 ≤ y' ∧ y = (c - 128).toNat + 128 * y' ∧ enc y' <+: rest := by
  by_cases h : y < 128
  · rw [enc_lo h, pre_cons]
    constructor
    · intro h; omega
    · rintro ⟨y', h1, h2, _⟩; omega
  · rw [enc_hi h, pre_cons]
    constructor
    · rintro ⟨h1, h2⟩
      exact ⟨y / 128, by omega, by omega, h2⟩
    · rintro ⟨y', h1, h2, h3⟩
      have : y / 128 = y' := by omega
      rw [this]
      exact ⟨by omega, h3⟩

/-- Two numbers whose bytes begin one list are one. -/
theorem pre_one : ∀ (bs : List Int) (x y : Nat), enc x <+: bs → enc y <+: bs → x = y
  | [], x, _, hx, _ => absurd hx (pre_nil x)
  | c :: rest, x, y, hx, hy => by
    by_cases hx1 : x < 128
    · rw [enc_lo hx1, pre_cons] at hx
      rw [pre_lo (by omega)] at hy
      omega
    · by_cases hy1 : y < 128
      · rw [enc_lo hy1, pre_cons] at hy
        rw [pre_lo (by omega)] at hx
        omega
      · rw [enc_hi hx1, pre_cons] at hx
        rw [enc_hi hy1, pre_cons] at hy
        have := pre_one rest _ _ hx.2 hy.2
        omega

/-- Two numbers are one just where the shorter's bytes begin the other's. -/
theorem enc_cut (x y : Nat) : (x = y) ↔ (enc x).take (min (enc x).length (enc y).length) = (enc y).take (min (enc x).length (enc y).length) := by
  constructor
  · rintro rfl; rfl
  · intro h
    by_cases hl : (enc x).length ≤ (enc y).length
    · rw [Nat.min_eq_left hl, List.take_length] at h
      exact pre_one (enc y) x y (by rw [h]; exact List.take_prefix _ _) (List.prefix_refl _)
    · rw [Nat.min_eq_right (by omega), List.take_length] at h
      exact (pre_one (enc x) y x (by rw [← h]; exact List.take_prefix _ _) (List.prefix_refl _)).symm

/-- What reading a number from the front of bytes comes to: the number, its bytes' count, the error. -/
def Res (bs : List Int) (x n e : Int) : Prop :=
  (∃ u : Nat, u < 18446744073709551616 ∧ enc u <+: bs ∧ x = u ∧ n = sz u ∧ e = 0) ∨ ((∀ u : Nat, u < 18446744073709551616 → ¬ enc u <+: bs) ∧ x = 0 ∧ n = 0 ∧ e = 5)

theorem res_is (bs : List Int) : ∃ x n e, Res bs x n e := by
  by_cases h : ∃ u : Nat, u < 18446744073709551616 ∧ enc u <+: bs
  · obtain ⟨u, h1, h2⟩ := h
    exact ⟨u, sz u, 0, .inl ⟨u, h1, h2, rfl, rfl, rfl⟩⟩
  · exact ⟨0, 0, 5, .inr ⟨fun u h1 h2 => h ⟨u, h1, h2⟩, rfl, rfl, rfl⟩⟩

theorem res_bad {bs : List Int} {x n e : Int} (h : Res bs x n e) (hb : ∀ u : Nat, u < 18446744073709551616 → ¬ enc u <+: bs) : x = 0 ∧ n = 0 ∧ e = 5 := by
  rcases h with ⟨u, h1, h2, _⟩ | ⟨_, h⟩
  · exact absurd h2 (hb u h1)
  · exact h

theorem res_good {bs : List Int} {x n e : Int} (h : Res bs x n e) {u : Nat} (h1 : u < 18446744073709551616) (h2 : enc u <+: bs) : x = u ∧ n = sz u ∧ e = 0 := by
  rcases h with ⟨v, h3, h4, h⟩ | ⟨hb, _⟩
  · have := pre_one bs u v h2 h4
    subst this
    exact h
  · exact absurd h2 (hb u h1)

theorem res_bounds {bs : List Int} {x n e : Int} (h : Res bs x n e) : 0 ≤ x ∧ x < 18446744073709551616 ∧ 0 ≤ n ∧ n ≤ 10 ∧ n ≤ bs.length ∧ (e = 0 ∨ e = 5) := by
  rcases h with ⟨u, h1, h2, rfl, rfl, rfl⟩ | ⟨_, rfl, rfl, rfl⟩
  · have := sz_le10 h1
    have h3 := h2.length_le
    unfold sz at *
    omega
  · omega

/-- Behind n bytes that each go on, whose groups make acc. -/
def Inv (bs : List Int) (n acc : Nat) : Prop :=
  acc < 128 ^ n ∧ (∀ x, enc x <+: bs ↔ ∃ y, (1 ≤ y ∨ n = 0) ∧ x = acc + y * 128 ^ n ∧ enc y <+: bs.drop n) ∧ (∀ y, (1 ≤ y ∨ n = 0) → sz (acc + y * 128 ^ n) = n + sz y) ∧ ∀ y, (1 ≤ y ∨ n = 0) → enc (acc + y * 128 ^ n) = bs.take n ++ enc y

theorem inv_start (bs : List Int) : Inv bs 0 0 := by
  refine ⟨by simp, fun x => ?_, fun y _ => by simp, fun y _ => by simp⟩
  simp

theorem inv_step {bs : List Int} {n acc : Nat} {c : Int} (h : Inv bs n acc) (hn : n < bs.length) (hc : bs.getD n 0 = c) (h1 : 128 ≤ c) (h2 : c < 256) : Inv bs (n + 1) (acc + (c % 128).toNat * 128 ^ n) := by
  obtain ⟨ha, hx, hs, he⟩ := h
  have hd : bs.drop n = c :: bs.drop (n + 1) := by
    rw [List.drop_eq_getElem_cons hn]
    simp [hn] at hc
    rw [hc]
  have hp : 128 ^ (n + 1) = 128 * 128 ^ n := by rw [Nat.pow_succ, Nat.mul_comm]
  have e0 : (c - 128).toNat = (c % 128).toNat := by omega
  have hl : (c % 128).toNat ≤ 127 := by omega
  have key : ∀ y' : Nat, acc + ((c % 128).toNat + 128 * y') * 128 ^ n = acc + (c % 128).toNat * 128 ^ n + y' * 128 ^ (n + 1) := by
    intro y'
    rw [hp, Nat.add_mul, Nat.mul_comm 128 y', Nat.mul_assoc, Nat.add_assoc]
  refine ⟨?_, fun x => ?_, fun y hy => ?_, fun y hy => ?_⟩
  · rw [hp]
    have : (c % 128).toNat * 128 ^ n ≤ 127 * 128 ^ n := Nat.mul_le_mul_right _ hl
    omega
  · rw [hx x]
    constructor
    · rintro ⟨y, hy, rfl, hpre⟩
      rw [hd, pre_hi h1 h2] at hpre
      obtain ⟨y', g1, g2, g3⟩ := hpre
      refine ⟨y', .inl g1, ?_, g3⟩
      rw [g2, e0, key]
    · rintro ⟨y', hy, rfl, hpre⟩
      have g1 : 1 ≤ y' := by omega
      refine ⟨(c % 128).toNat + 128 * y', .inl (by omega), (key y').symm, ?_⟩
      rw [hd, pre_hi h1 h2]
      exact ⟨y', g1, by omega, hpre⟩
  · have g1 : 1 ≤ y := by omega
    rw [← key, hs _ (.inl (by omega)), sz_hi (by omega)]
    have : ((c % 128).toNat + 128 * y) / 128 = y := by omega
    rw [this]
    omega
  · have g1 : 1 ≤ y := by omega
    rw [← key, he _ (.inl (by omega)), enc_hi (by omega)]
    have e1 : ((c % 128).toNat + 128 * y) / 128 = y := by omega
    have e2 : ((((c % 128).toNat + 128 * y) % 128 + 128 : Nat) : Int) = c := by omega
    have e3 : bs[n] = c := by simpa [hn] using hc
    rw [e1, e2, List.take_succ_eq_append_getElem hn, e3]
    simp

/-- The bytes end ahead of the number's end. -/
theorem inv_short {bs : List Int} {n acc : Nat} (h : Inv bs n acc) (hn : bs.length ≤ n) : ∀ u : Nat, u < 18446744073709551616 → ¬ enc u <+: bs := by
  intro u _ hu
  obtain ⟨y, _, _, hp⟩ := (h.2.1 u).1 hu
  rw [List.drop_eq_nil_of_le hn] at hp
  exact pre_nil y hp

/-- A tenth byte above 1. -/
theorem inv_wide {bs : List Int} {acc : Nat} {c : Int} (h : Inv bs 9 acc) (hn : 9 < bs.length) (hc : bs.getD 9 0 = c) (h1 : 1 < c) (h2 : c < 256) : ∀ u : Nat, u < 18446744073709551616 → ¬ enc u <+: bs := by
  intro u hlt hu
  obtain ⟨y, _, rfl, hp⟩ := (h.2.1 u).1 hu
  have hd : bs.drop 9 = c :: bs.drop 10 := by
    rw [List.drop_eq_getElem_cons hn]
    simp [hn] at hc
    rw [hc]
  rw [hd] at hp
  have hy : y ≤ 1 := by
    have : (128 : Nat) ^ 9 = 9223372036854775808 := by decide
    omega
  rw [enc_lo (by omega), pre_cons] at hp
  omega

/-- A last byte that is 0, and not the first. -/
theorem inv_zero {bs : List Int} {n acc : Nat} (h : Inv bs n acc) (hn : n < bs.length) (hc : bs.getD n 0 = 0) (h1 : 1 ≤ n) : ∀ u : Nat, u < 18446744073709551616 → ¬ enc u <+: bs := by
  intro u _ hu
  obtain ⟨y, hy, rfl, hp⟩ := (h.2.1 u).1 hu
  have hd : bs.drop n = 0 :: bs.drop (n + 1) := by
    rw [List.drop_eq_getElem_cons hn]
    simp [hn] at hc
    rw [hc]
  rw [hd, pre_lo (by omega)] at hp
  omega

/-- A last byte that ends the number. -/
theorem inv_end {bs : List Int} {n acc : Nat} {c : Int} (h : Inv bs n acc) (hn : n < bs.length) (hc : bs.getD n 0 = c) (h0 : 0 ≤ c) (h1 : c < 128) (h2 : 1 ≤ c ∨ n = 0) :
    enc (acc + (c % 128).toNat * 128 ^ n) <+: bs ∧ sz (acc + (c % 128).toNat * 128 ^ n) = n + 1 := by
  have hd : bs.drop n = c :: bs.drop (n + 1) := by
    rw [List.drop_eq_getElem_cons hn]
    simp [hn] at hc
    rw [hc]
  have e : (c % 128).toNat = c.toNat := by omega
  rw [e]
  refine ⟨(h.2.1 _).2 ⟨c.toNat, by omega, rfl, ?_⟩, ?_⟩
  · rw [hd, pre_lo h1]; omega
  · rw [h.2.2.1 _ (by omega), sz_lo (by omega)]

theorem inv_fits {bs : List Int} {n acc : Nat} {c : Int} (h : Inv bs n acc) (hn : n ≤ 8) (_h0 : 0 ≤ c) : acc + (c % 128).toNat * 128 ^ n < 18446744073709551616 := by
  have hp : 128 ^ n ≤ 128 ^ 8 := Nat.pow_le_pow_right (by omega) hn
  have h8 : (128 : Nat) ^ 8 = 72057594037927936 := by decide
  have : (c % 128).toNat * 128 ^ n ≤ 127 * 128 ^ n := Nat.mul_le_mul_right _ (by omega)
  have := h.1
  omega

theorem inv_fits9 {bs : List Int} {acc : Nat} {c : Int} (h : Inv bs 9 acc) (h0 : 0 ≤ c) (h1 : c ≤ 1) : acc + (c % 128).toNat * 128 ^ 9 < 18446744073709551616 := by
  have h8 : (128 : Nat) ^ 9 = 9223372036854775808 := by decide
  have := h.1
  omega

/-- What a last group brings, once 64 bits are all: of the tenth byte one bit alone. -/
def dd (n : Nat) (c : Int) : Nat := if n ≤ 8 then (c % 128).toNat else (c % 2).toNat

theorem dd_lt (n : Nat) (c : Int) : dd n c < 128 := by unfold dd; split <;> omega

theorem dd_fits {bs : List Int} {n acc : Nat} (c : Int) (h : Inv bs n acc) (hn : n ≤ 9) : acc + dd n c * 128 ^ n < 18446744073709551616 := by
  unfold dd
  split
  · have hp : 128 ^ n ≤ 128 ^ 8 := Nat.pow_le_pow_right (by omega) (by assumption)
    have h8 : (128 : Nat) ^ 8 = 72057594037927936 := by decide
    have : (c % 128).toNat * 128 ^ n ≤ 127 * 128 ^ n := Nat.mul_le_mul_right _ (by omega)
    have := h.1
    omega
  · have : n = 9 := by omega
    subst this
    have h8 : (128 : Nat) ^ 9 = 9223372036854775808 := by decide
    have := h.1
    omega

theorem sz_small {n acc : Nat} (h : acc < 128 ^ n) (hn : 1 ≤ n) : sz acc ≤ n := by
  obtain ⟨m, rfl⟩ : ∃ m, n = m + 1 := ⟨n - 1, by omega⟩
  exact sz_le m acc h

theorem dd_own {bs : List Int} {n acc : Nat} {c : Int} (h : Inv bs n acc) (hn : n < bs.length) (h1 : 1 ≤ dd n c ∨ n = 0) :
    sz (acc + dd n c * 128 ^ n) = n + 1 ∧ (enc (acc + dd n c * 128 ^ n)).getD n 0 = dd n c := by
  have hd := dd_lt n c
  refine ⟨by rw [h.2.2.1 _ h1, sz_lo hd], ?_⟩
  rw [h.2.2.2 _ h1, enc_lo hd]
  have : (bs.take n).length = n := by simp; omega
  simp [this]

theorem dd_cases {bs : List Int} {n acc : Nat} {c : Int} (h : Inv bs n acc) (hs : sz (acc + dd n c * 128 ^ n) = n + 1) : 1 ≤ dd n c ∨ n = 0 := by
  by_cases hd : 1 ≤ dd n c
  · exact .inl hd
  · by_cases hn : n = 0
    · exact .inr hn
    · have e : dd n c = 0 := by omega
      rw [e] at hs
      have := sz_small h.1 (by omega)
      simp at hs
      omega

theorem dd_bad_len {bs : List Int} {n acc : Nat} {c : Int} (h : Inv bs n acc) (hn9 : n ≤ 9) (hn : n < bs.length) (hc : bs.getD n 0 = c) (h0 : 0 ≤ c) (h1 : c < 128) (hs : sz (acc + dd n c * 128 ^ n) ≠ n + 1) :
    ∀ u : Nat, u < 18446744073709551616 → ¬ enc u <+: bs := by
  have hd : ¬ (1 ≤ dd n c ∨ n = 0) := fun hd => hs (dd_own h hn hd).1
  by_cases h8 : n ≤ 8
  · unfold dd at hd
    rw [if_pos h8] at hd
    have : c = 0 := by omega
    subst this
    exact inv_zero h hn hc (by omega)
  · have : n = 9 := by omega
    subst this
    unfold dd at hd
    rw [if_neg h8] at hd
    by_cases hc0 : c = 0
    · subst hc0
      exact inv_zero h hn hc (by omega)
    · exact inv_wide h hn hc (by omega) (by omega)

theorem dd_bad_last {bs : List Int} {n acc : Nat} {c : Int} (h : Inv bs n acc) (hn9 : n ≤ 9) (hn : n < bs.length) (hc : bs.getD n 0 = c) (h0 : 0 ≤ c) (h1 : c < 128) (hs : sz (acc + dd n c * 128 ^ n) = n + 1)
    (hl : (enc (acc + dd n c * 128 ^ n)).getD n 0 ≠ c) : ∀ u : Nat, u < 18446744073709551616 → ¬ enc u <+: bs := by
  have hd := dd_cases h hs
  rw [(dd_own h hn hd).2] at hl
  unfold dd at hl
  by_cases h8 : n ≤ 8
  · rw [if_pos h8] at hl; omega
  · rw [if_neg h8] at hl
    have : n = 9 := by omega
    subst this
    exact inv_wide h hn hc (by omega) (by omega)

theorem dd_good {bs : List Int} {n acc : Nat} {c : Int} (h : Inv bs n acc) (hn : n < bs.length) (hc : bs.getD n 0 = c) (h0 : 0 ≤ c) (h1 : c < 128) (hs : sz (acc + dd n c * 128 ^ n) = n + 1)
    (hl : (enc (acc + dd n c * 128 ^ n)).getD n 0 = c) : enc (acc + dd n c * 128 ^ n) <+: bs := by
  have hd := dd_cases h hs
  rw [(dd_own h hn hd).2] at hl
  have e : dd n c = (c % 128).toNat := by omega
  rw [e]
  exact (inv_end h hn hc h0 h1 (by omega)).1

/-- A tenth byte that goes on: no number. -/
theorem inv_ten {bs : List Int} {acc : Nat} {c : Int} (h : Inv bs 9 acc) (hn : 9 < bs.length) (hc : bs.getD 9 0 = c) (h1 : 128 ≤ c) (h2 : c < 256) : ∀ u : Nat, u < 18446744073709551616 → ¬ enc u <+: bs :=
  inv_wide h hn hc (by omega) h2

end Go.Proofs.YtgcdibglkbfjdaaGreatDoor.Vm
