/- Texts of one layer, one behind the other. -/

/- Plain facts on words (a byte that stands for itself, or an escape of two digits): no program, no walk. -/
namespace Go.Proofs.YtdlogcdpapknaaaGreatDoor.Wm

theorem all_bytes {P : UInt8 → Bool} (h : (List.range 256).all (fun n => P (UInt8.ofNat n)) = true) (c : UInt8) : P c = true := by
  have := List.all_eq_true.1 h c.toNat (List.mem_range.2 c.toNat_lt)
  simpa using this

/-- Does a byte stand for itself? -/
def plain (c : UInt8) : Bool := decide (33 ≤ c.toNat) && decide (c.toNat ≤ 126) && c.toNat != 34 && c.toNat != 92

/-- A half byte's digit. -/
def hexd (n : Nat) : UInt8 := UInt8.ofNat (if n < 10 then 48 + n else 87 + n)

/-- The word of a byte. -/
def esc (c : UInt8) : List UInt8 := if plain c then [c] else [92, hexd (c.toNat / 16), hexd (c.toNat % 16)]

def flat (s : List UInt8) : List UInt8 := s.flatMap esc

/-- The word of bytes. -/
def wd (s : List UInt8) : List UInt8 := if s = [] then [34, 34] else flat s

theorem plain_ne (c : UInt8) (h : plain c = true) : c ≠ 92 ∧ c ≠ 34 ∧ c ≠ 32 := by
  have := all_bytes (P := fun c => !plain c || (c != 92 && c != 34 && c != 32)) (by decide +kernel) c
  simp [h] at this
  exact ⟨this.1.1, this.1.2, this.2⟩

theorem esc_plain {c : UInt8} (h : plain c = true) : esc c = [c] := by unfold esc; rw [if_pos h]
theorem esc_other {c : UInt8} (h : plain c = false) : esc c = [92, hexd (c.toNat / 16), hexd (c.toNat % 16)] := by unfold esc; rw [if_neg (by simp [h])]

theorem hexd_inj {m n : Nat} (hm : m < 16) (hn : n < 16) (h : hexd m = hexd n) : m = n := by
  have := congrArg UInt8.toNat h
  unfold hexd at this
  simp only [UInt8.toNat_ofNat'] at this
  split at this <;> split at this <;> omega

theorem hexd_ne (n : Nat) (h : n < 16) : hexd n ≠ 32 ∧ hexd n ≠ 34 ∧ hexd n ≠ 92 := by
  have : ∀ m, m < 16 → hexd m ≠ 32 ∧ hexd m ≠ 34 ∧ hexd m ≠ 92 := by decide +kernel
  exact this n h

theorem esc_ne (c : UInt8) : esc c ≠ [] := by unfold esc; split <;> simp
theorem esc_pos (c : UInt8) : 1 ≤ (esc c).length := by unfold esc; split <;> simp
theorem esc_le (c : UInt8) : (esc c).length ≤ 3 := by unfold esc; split <;> simp

theorem esc_free {c d : UInt8} {r q : List UInt8} (h : esc c ++ r = esc d ++ q) : c = d ∧ r = q := by
  cases hc : plain c <;> cases hd : plain d
  · rw [esc_other hc, esc_other hd] at h
    simp at h
    obtain ⟨h1, h2, h3⟩ := h
    have hc := c.toNat_lt
    have hd := d.toNat_lt
    have e1 := hexd_inj (by omega) (by omega) h1
    have e2 := hexd_inj (by omega) (by omega) h2
    refine ⟨?_, h3⟩
    have : c.toNat = d.toNat := by omega
    exact UInt8.toNat_inj.1 this
  · rw [esc_other hc, esc_plain hd] at h
    simp at h
    exact absurd h.1.symm (plain_ne d hd).1
  · rw [esc_plain hc, esc_other hd] at h
    simp at h
    exact absurd h.1 (plain_ne c hc).1
  · rw [esc_plain hc, esc_plain hd] at h
    simpa using h

theorem flat_nil : flat [] = [] := rfl
theorem flat_cons (c : UInt8) (s : List UInt8) : flat (c :: s) = esc c ++ flat s := by simp [flat]
theorem flat_append (s t : List UInt8) : flat (s ++ t) = flat s ++ flat t := by simp [flat]
theorem flat_snoc (s : List UInt8) (c : UInt8) : flat (s ++ [c]) = flat s ++ esc c := by simp [flat]

theorem flat_empty {t : List UInt8} (h : flat t = []) : t = [] := by
  cases t with
  | nil => rfl
  | cons c t => rw [flat_cons] at h; exact absurd (List.append_eq_nil_iff.1 h).1 (esc_ne c)

/-- What begins as a's word goes on as the word of the rest. -/
theorem flat_pre : ∀ (a t r : List UInt8), flat t = flat a ++ r → ∃ t', t = a ++ t' ∧ flat t' = r
  | [], t, r, h => ⟨t, rfl, h⟩
  | c :: a, t, r, h => by
    cases t with
    | nil =>
      rw [flat_nil, flat_cons] at h
      have := (List.append_eq_nil_iff.1 h.symm).1
      exact absurd (List.append_eq_nil_iff.1 this).1 (esc_ne c)
    | cons d t =>
      rw [flat_cons, flat_cons, List.append_assoc] at h
      obtain ⟨rfl, h2⟩ := esc_free h
      obtain ⟨t', h3, h4⟩ := flat_pre a t r h2
      exact ⟨t', by rw [h3]; rfl, h4⟩

theorem flat_inj {s t : List UInt8} (h : flat s = flat t) : s = t := by
  obtain ⟨t', h1, h2⟩ := flat_pre t s [] (by simpa using h)
  rw [flat_empty h2] at h1
  simpa using h1

theorem wd_nil : wd [] = [34, 34] := rfl
theorem wd_full {s : List UInt8} (h : s ≠ []) : wd s = flat s := by unfold wd; rw [if_neg h]

theorem flat_quote {s : List UInt8} (r : List UInt8) : flat s ≠ 34 :: r := by
  intro h
  cases s with
  | nil => simp [flat] at h
  | cons c s =>
    rw [flat_cons] at h
    cases hc : plain c
    · rw [esc_other hc] at h; simp at h
    · rw [esc_plain hc] at h
      simp at h
      exact (plain_ne c hc).2.1 h.1

theorem wd_inj {s t : List UInt8} (h : wd s = wd t) : s = t := by
  by_cases hs : s = [] <;> by_cases ht : t = []
  · rw [hs, ht]
  · rw [hs, wd_nil, wd_full ht] at h; exact absurd h.symm (flat_quote _)
  · rw [ht, wd_nil, wd_full hs] at h; exact absurd h (flat_quote _)
  · rw [wd_full hs, wd_full ht] at h; exact flat_inj h

theorem wd_ne (s : List UInt8) : wd s ≠ [] := by
  by_cases hs : s = []
  · rw [hs]; simp [wd]
  · rw [wd_full hs]; exact fun h => hs (flat_empty h)

theorem esc_blank (c : UInt8) : 32 ∉ esc c := by
  cases hc : plain c
  · rw [esc_other hc]
    have h := c.toNat_lt
    have h1 := (hexd_ne (c.toNat / 16) (by omega)).1
    have h2 := (hexd_ne (c.toNat % 16) (by omega)).1
    simp
    exact ⟨h1.symm, h2.symm⟩
  · rw [esc_plain hc]
    simp
    exact (plain_ne c hc).2.2.symm

theorem wd_blank (s : List UInt8) : 32 ∉ wd s := by
  by_cases hs : s = []
  · rw [hs]; simp [wd]
  · rw [wd_full hs]
    unfold flat
    rw [List.mem_flatMap]
    rintro ⟨c, _, h⟩
    exact esc_blank c h

theorem flat_le : ∀ s : List UInt8, (flat s).length ≤ 3 * s.length
  | [] => by simp [flat]
  | c :: s => by
    rw [flat_cons, List.length_append]
    have := esc_le c
    have := flat_le s
    simp
    omega

theorem flat_ge : ∀ s : List UInt8, s.length ≤ (flat s).length
  | [] => by simp
  | c :: s => by
    rw [flat_cons, List.length_append]
    have := esc_pos c
    have := flat_ge s
    simp
    omega

theorem wd_le (s : List UInt8) : (wd s).length ≤ 3 * s.length + 2 := by
  by_cases hs : s = []
  · rw [hs]; simp [wd]
  · rw [wd_full hs]; have := flat_le s; omega

/-- What Bytes comes to. -/
def BRes (w s : List UInt8) (e : Int) : Prop := (e = 0 ∧ wd s = w) ∨ (e = 5 ∧ s = [] ∧ ∀ t, wd t ≠ w)

theorem bres_one {w s t : List UInt8} {e f : Int} (h : BRes w s e) (k : BRes w t f) : s = t ∧ e = f := by
  rcases h with ⟨rfl, h⟩ | ⟨rfl, rfl, h⟩ <;> rcases k with ⟨rfl, k⟩ | ⟨rfl, rfl, k⟩
  · exact ⟨wd_inj (h.trans k.symm), rfl⟩
  · exact absurd h (k s)
  · exact absurd k (h t)
  · exact ⟨rfl, rfl⟩

theorem bres_wd {s t : List UInt8} {e : Int} (h : BRes (wd s) t e) : t = s ∧ e = 0 := by
  rcases h with ⟨rfl, h⟩ | ⟨rfl, rfl, h⟩
  · exact ⟨wd_inj h, rfl⟩
  · exact absurd rfl (h s)

/-- Nothing has this word, if from a place on no byte's word stands there. -/
theorem no_word {w a r : List UInt8} (hw : w = flat a ++ r) (hq : w ≠ [34, 34]) (hr : r ≠ []) (hn : ∀ c q, r ≠ esc c ++ q) : ∀ t, wd t ≠ w := by
  intro t ht
  by_cases h0 : t = []
  · rw [h0, wd_nil] at ht; exact hq ht.symm
  · rw [wd_full h0, hw] at ht
    obtain ⟨t', _, h2⟩ := flat_pre _ _ _ ht
    cases t' with
    | nil => exact hr h2.symm
    | cons c q => rw [flat_cons] at h2; exact hn c _ h2.symm

/-- Read as far as out: whatever has this word begins so. -/
def Soft (w out : List UInt8) (i : Nat) : Prop := ∀ t, flat t = w → ∃ t', t = out ++ t' ∧ flat t' = w.drop i

theorem soft_start (w : List UInt8) : Soft w [] 0 := fun t h => ⟨t, rfl, by simpa using h⟩

theorem drop_at {w : List UInt8} {i : Nat} (h : i < w.length) : w.drop i = w[i] :: w.drop (i + 1) := List.drop_eq_getElem_cons h

theorem soft_plain {w out : List UInt8} {i : Nat} (h : Soft w out i) (hi : i < w.length) (hc : w[i] ≠ 92) : Soft w (out ++ [w[i]]) (i + 1) := by
  intro t ht
  obtain ⟨t', h1, h2⟩ := h t ht
  rw [drop_at hi] at h2
  cases t' with
  | nil => cases h2
  | cons c q =>
    rw [flat_cons] at h2
    cases hp : plain c
    · rw [esc_other hp] at h2; simp only [List.cons_append, List.nil_append, List.cons.injEq] at h2; exact absurd h2.1.symm hc
    · rw [esc_plain hp] at h2
      simp only [List.cons_append, List.nil_append, List.cons.injEq] at h2
      exact ⟨q, by rw [h1, ← h2.1]; simp, h2.2⟩

/-- An escape in a word. -/
theorem soft_at {w out : List UInt8} {i : Nat} (h : Soft w out i) (hi : i < w.length) (hc : w[i] = 92) {t : List UInt8} (ht : flat t = w) :
    ∃ (c : UInt8) (q : List UInt8), t = out ++ c :: q ∧ flat q = w.drop (i + 3) ∧ i + 2 < w.length ∧ w[i + 1]? = some (hexd (c.toNat / 16)) ∧ w[i + 2]? = some (hexd (c.toNat % 16)) := by
  obtain ⟨t', h1, h2⟩ := h t ht
  rw [drop_at hi] at h2
  cases t' with
  | nil => cases h2
  | cons c q =>
    rw [flat_cons] at h2
    cases hp : plain c
    · rw [esc_other hp] at h2
      simp only [List.cons_append, List.nil_append, List.cons.injEq] at h2
      obtain ⟨_, h3⟩ := h2
      have g1 := congrArg (fun l => l[0]?) h3
      have g2 := congrArg (fun l => l[1]?) h3
      have g3 := congrArg (fun l => l.drop 2) h3
      simp [List.getElem?_drop] at g1 g2 g3
      have g2' : w[i + 2]? = some (hexd (c.toNat % 16)) := by rw [g2, show i + 1 + 1 = i + 2 by omega]
      refine ⟨c, q, h1, by rw [g3, show i + 1 + 2 = i + 3 by omega], (List.getElem?_eq_some_iff.1 g2').1, g1.symm, g2'⟩
    · rw [esc_plain hp] at h2
      simp only [List.cons_append, List.nil_append, List.cons.injEq] at h2
      exact absurd (h2.1.trans hc) (plain_ne c hp).1

theorem soft_esc {w out : List UInt8} {i : Nat} (h : Soft w out i) (hi : i < w.length) (hc : w[i] = 92) {a b : Nat} (ha : a < 16) (hb : b < 16) (h1 : w[i + 1]? = some (hexd a)) (h2 : w[i + 2]? = some (hexd b)) :
    Soft w (out ++ [UInt8.ofNat (16 * a + b)]) (i + 3) := by
  intro t ht
  obtain ⟨c, q, e1, e2, _, e3, e4⟩ := soft_at h hi hc ht
  rw [e3] at h1
  rw [e4] at h2
  have hl := c.toNat_lt
  have g1 := hexd_inj (by omega) ha (Option.some.inj h1)
  have g2 := hexd_inj (by omega) hb (Option.some.inj h2)
  have : UInt8.ofNat (16 * a + b) = c := by
    rw [show 16 * a + b = c.toNat by omega]
    simp
  exact ⟨q, by rw [this, e1]; simp, e2⟩

theorem soft_bad {w out : List UInt8} {i : Nat} (h : Soft w out i) (hi : i < w.length) (hc : w[i] = 92) (hq : w ≠ [34, 34])
    (hn : w.length ≤ i + 2 ∨ (∀ a, a < 16 → w[i + 1]? ≠ some (hexd a)) ∨ (∀ a, a < 16 → w[i + 2]? ≠ some (hexd a))) : ∀ t, wd t ≠ w := by
  intro t ht
  by_cases h0 : t = []
  · rw [h0, wd_nil] at ht; exact hq ht.symm
  · rw [wd_full h0] at ht
    obtain ⟨c, q, _, _, e1, e2, e3⟩ := soft_at h hi hc ht
    have hl := c.toNat_lt
    rcases hn with hn | hn | hn
    · omega
    · exact hn _ (by omega) e2
    · exact hn _ (by omega) e3

theorem soft_end {w out : List UInt8} {i : Nat} (h : Soft w out i) (hi : w.length ≤ i) (hq : w ≠ [34, 34]) {t : List UInt8} (ht : wd t = w) : t = out := by
  by_cases h0 : t = []
  · rw [h0, wd_nil] at ht; exact absurd ht.symm hq
  · rw [wd_full h0] at ht
    obtain ⟨t', h1, h2⟩ := h t ht
    rw [List.drop_eq_nil_of_le hi] at h2
    rw [flat_empty h2] at h1
    simpa using h1

end Go.Proofs.YtdlogcdpapknaaaGreatDoor.Wm

/- Plain facts on the bytes of a number (seven bits a byte, the lowest first): no program, no walk. -/
namespace Go.Proofs.YtdlogcdpapknaaaGreatDoor.Vm

/-- The bytes of a number. -/
def enc (x : Nat) : List Int := if _h : x < 128 then [(x : Int)] else ((x % 128 + 128 : Nat) : Int) :: enc (x / 128)

/-- How many bytes a number has. -/
def sz (x : Nat) : Nat := (enc x).length

theorem enc_lo {x : Nat} (h : x < 128) : enc x = [(x : Int)] := by rw [enc, dif_pos h]
theorem enc_hi {x : Nat} (h : ¬ x < 128) : enc x = ((x % 128 + 128 : Nat) : Int) :: enc (x / 128) := by rw [enc, dif_neg h]
theorem sz_lo {x : Nat} (h : x < 128) : sz x = 1 := by unfold sz; rw [enc_lo h]; rfl
theorem sz_hi {x : Nat} (h : ¬ x < 128) : sz x = sz (x / 128) + 1 := by unfold sz; rw [enc_hi h]; rfl
theorem sz_pos (x : Nat) : 1 ≤ sz x := by
  by_cases h : x < 128
  · rw [sz_lo h]; omega
  · rw [sz_hi h]; omega

theorem sz_le : ∀ (k x : Nat), x < 128 ^ (k + 1) → sz x ≤ k + 1 := by
  intro k
  induction k with
  | zero => intro x h; rw [sz_lo (by simpa using h)]; omega
  | succ k ih =>
    intro x h
    by_cases hx : x < 128
    · rw [sz_lo hx]; omega
    · rw [sz_hi hx]
      have : x / 128 < 128 ^ (k + 1) := by
        rw [Nat.div_lt_iff_lt_mul (by omega)]
        rw [Nat.pow_succ] at h
        exact h
      have := ih _ this
      omega

theorem sz_mono : ∀ (y x : Nat), x ≤ y → sz x ≤ sz y := by
  intro y
  induction y using Nat.strongRecOn with
  | ind y ih =>
    intro x h
    by_cases hy : y < 128
    · rw [sz_lo hy, sz_lo (by omega)]; omega
    · by_cases hx : x < 128
      · rw [sz_lo hx]; exact sz_pos y
      · rw [sz_hi hx, sz_hi hy]
        have := ih (y / 128) (by omega) (x / 128) (by omega)
        omega

theorem sz_le10 {x : Nat} (h : x < 18446744073709551616) : sz x ≤ 10 :=
  sz_le 9 x (Nat.lt_of_lt_of_le h (by decide))

theorem pre_cons {a b : Int} {l m : List Int} : a :: l <+: b :: m ↔ a = b ∧ l <+: m := List.cons_prefix_cons

theorem pre_nil (y : Nat) : ¬ enc y <+: [] := by
  intro h
  rw [List.prefix_nil] at h
  have := sz_pos y
  unfold sz at this
  rw [h] at this
  simp at this

theorem pre_lo {y : Nat} {c : Int} {rest : List Int} (hc : c < 128) : enc y <+: c :: rest ↔ (y : Int) = c := by
  by_cases h : y < 128
  · rw [enc_lo h, pre_cons]
    simp
  · rw [enc_hi h, pre_cons]
    constructor
    · intro h; omega
    · intro h; omega

theorem pre_hi {y : Nat} {c : Int} {rest : List Int} (hc : 128 ≤ c) (hc2 : c < 256) : enc y <+: c :: rest ↔ ∃ y', 1 ≤ y' ∧ y = (c - 128).toNat + 128 * y' ∧ enc y' <+: rest := by
  by_cases h : y < 128
  · rw [enc_lo h, pre_cons]
    constructor
    · intro h; omega
    · rintro ⟨y', h1, h2, _⟩; omega
  · rw [enc_hi h, pre_cons]
    constructor
    · rintro ⟨h1, h2⟩
      exact ⟨y / 128, by omega, by omega, h2⟩
    · rintro ⟨y', h1, h2, h3⟩
      have : y / 128 = y' := by omega
      rw [this]
      exact ⟨by omega, h3⟩

/-- Two numbers whose bytes begin one list are one. -/
theorem pre_one : ∀ (bs : List Int) (x y : Nat), enc x <+: bs → enc y <+: bs → x = y
  | [], x, _, hx, _ => absurd hx (pre_nil x)
  | c :: rest, x, y, hx, hy => by
    by_cases hx1 : x < 128
    · rw [enc_lo hx1, pre_cons] at hx
      rw [pre_lo (by omega)] at hy
      omega
    · by_cases hy1 : y < 128
      · rw [enc_lo hy1, pre_cons] at hy
        rw [pre_lo (by omega)] at hx
        omega
      · rw [enc_hi hx1, pre_cons] at hx
        rw [enc_hi hy1, pre_cons] at hy
        have := pre_one rest _ _ hx.2 hy.2
        omega

/-- Two numbers are one just where the shorter's bytes begin the other's. -/
theorem enc_cut (x y : Nat) : (x = y) ↔ (enc x).take (min (enc x).length (enc y).length) = (enc y).take (min (enc x).length (enc y).length) := by
  constructor
  · rintro rfl; rfl
  · intro h
    by_cases hl : (enc x).length ≤ (enc y).length
    · rw [Nat.min_eq_left hl, List.take_length] at h
      exact pre_one (enc y) x y (by rw [h]; exact List.take_prefix _ _) (List.prefix_refl _)
    · rw [Nat.min_eq_right (by omega), List.take_length] at h
      exact (pre_one (enc x) y x (by rw [← h]; exact List.take_prefix _ _) (List.prefix_refl _)).symm

/-- What reading a number from the front of bytes comes to: the number, its bytes' count, the error. -/
def Res (bs : List Int) (x n e : Int) : Prop :=
  (∃ u : Nat, u < 18446744073709551616 ∧ enc u <+: bs ∧ x = u ∧ n = sz u ∧ e = 0) ∨ ((∀ u : Nat, u < 18446744073709551616 → ¬ enc u <+: bs) ∧ x = 0 ∧ n = 0 ∧ e = 5)

theorem res_is (bs : List Int) : ∃ x n e, Res bs x n e := by
  by_cases h : ∃ u : Nat, u < 18446744073709551616 ∧ enc u <+: bs
  · obtain ⟨u, h1, h2⟩ := h
    exact ⟨u, sz u, 0, .inl ⟨u, h1, h2, rfl, rfl, rfl⟩⟩
  · exact ⟨0, 0, 5, .inr ⟨fun u h1 h2 => h ⟨u, h1, h2⟩, rfl, rfl, rfl⟩⟩

theorem res_bad {bs : List Int} {x n e : Int} (h : Res bs x n e) (hb : ∀ u : Nat, u < 18446744073709551616 → ¬ enc u <+: bs) : x = 0 ∧ n = 0 ∧ e = 5 := by
  rcases h with ⟨u, h1, h2, _⟩ | ⟨_, h⟩
  · exact absurd h2 (hb u h1)
  · exact h

theorem res_good {bs : List Int} {x n e : Int} (h : Res bs x n e) {u : Nat} (h1 : u < 18446744073709551616) (h2 : enc u <+: bs) : x = u ∧ n = sz u ∧ e = 0 := by
  rcases h with ⟨v, h3, h4, h⟩ | ⟨hb, _⟩
  · have := pre_one bs u v h2 h4
    subst this
    exact h
  · exact absurd h2 (hb u h1)

theorem res_bounds {bs : List Int} {x n e : Int} (h : Res bs x n e) : 0 ≤ x ∧ x < 18446744073709551616 ∧ 0 ≤ n ∧ n ≤ 10 ∧ n ≤ bs.length ∧ (e = 0 ∨ e = 5) := by
  rcases h with ⟨u, h1, h2, rfl, rfl, rfl⟩ | ⟨_, rfl, rfl, rfl⟩
  · have := sz_le10 h1
    have h3 := h2.length_le
    unfold sz at *
    omega
  · omega

/-- Behind n bytes that each go on, whose groups make acc. -/
def Inv (bs : List Int) (n acc : Nat) : Prop :=
  acc < 128 ^ n ∧ (∀ x, enc x <+: bs ↔ ∃ y, (1 ≤ y ∨ n = 0) ∧ x = acc + y * 128 ^ n ∧ enc y <+: bs.drop n) ∧ (∀ y, (1 ≤ y ∨ n = 0) → sz (acc + y * 128 ^ n) = n + sz y) ∧ ∀ y, (1 ≤ y ∨ n = 0) → enc (acc + y * 128 ^ n) = bs.take n ++ enc y

theorem inv_start (bs : List Int) : Inv bs 0 0 := by
  refine ⟨by simp, fun x => ?_, fun y _ => by simp, fun y _ => by simp⟩
  simp

theorem inv_step {bs : List Int} {n acc : Nat} {c : Int} (h : Inv bs n acc) (hn : n < bs.length) (hc : bs.getD n 0 = c) (h1 : 128 ≤ c) (h2 : c < 256) : Inv bs (n + 1) (acc + (c % 128).toNat * 128 ^ n) := by
  obtain ⟨ha, hx, hs, he⟩ := h
  have hd : bs.drop n = c :: bs.drop (n + 1) := by
    rw [List.drop_eq_getElem_cons hn]
    simp [hn] at hc
    rw [hc]
  have hp : 128 ^ (n + 1) = 128 * 128 ^ n := by rw [Nat.pow_succ, Nat.mul_comm]
  have e0 : (c - 128).toNat = (c % 128).toNat := by omega
  have hl : (c % 128).toNat ≤ 127 := by omega
  have key : ∀ y' : Nat, acc + ((c % 128).toNat + 128 * y') * 128 ^ n = acc + (c % 128).toNat * 128 ^ n + y' * 128 ^ (n + 1) := by
    intro y'
    rw [hp, Nat.add_mul, Nat.mul_comm 128 y', Nat.mul_assoc, Nat.add_assoc]
  refine ⟨?_, fun x => ?_, fun y hy => ?_, fun y hy => ?_⟩
  · rw [hp]
    have : (c % 128).toNat * 128 ^ n ≤ 127 * 128 ^ n := Nat.mul_le_mul_right _ hl
    omega
  · rw [hx x]
    constructor
    · rintro ⟨y, hy, rfl, hpre⟩
      rw [hd, pre_hi h1 h2] at hpre
      obtain ⟨y', g1, g2, g3⟩ := hpre
      refine ⟨y', .inl g1, ?_, g3⟩
      rw [g2, e0, key]
    · rintro ⟨y', hy, rfl, hpre⟩
      have g1 : 1 ≤ y' := by omega
      refine ⟨(c % 128).toNat + 128 * y', .inl (by omega), (key y').symm, ?_⟩
      rw [hd, pre_hi h1 h2]
      exact ⟨y', g1, by omega, hpre⟩
  · have g1 : 1 ≤ y := by omega
    rw [← key, hs _ (.inl (by omega)), sz_hi (by omega)]
    have : ((c % 128).toNat + 128 * y) / 128 = y := by omega
    rw [this]
    omega
  · have g1 : 1 ≤ y := by omega
    rw [← key, he _ (.inl (by omega)), enc_hi (by omega)]
    have e1 : ((c % 128).toNat + 128 * y) / 128 = y := by omega
    have e2 : ((((c % 128).toNat + 128 * y) % 128 + 128 : Nat) : Int) = c := by omega
    have e3 : bs[n] = c := by simpa [hn] using hc
    rw [e1, e2, List.take_succ_eq_append_getElem hn, e3]
    simp

/-- The bytes end ahead of the number's end. -/
theorem inv_short {bs : List Int} {n acc : Nat} (h : Inv bs n acc) (hn : bs.length ≤ n) : ∀ u : Nat, u < 18446744073709551616 → ¬ enc u <+: bs := by
  intro u _ hu
  obtain ⟨y, _, _, hp⟩ := (h.2.1 u).1 hu
  rw [List.drop_eq_nil_of_le hn] at hp
  exact pre_nil y hp

/-- A tenth byte above 1. -/
theorem inv_wide {bs : List Int} {acc : Nat} {c : Int} (h : Inv bs 9 acc) (hn : 9 < bs.length) (hc : bs.getD 9 0 = c) (h1 : 1 < c) (h2 : c < 256) : ∀ u : Nat, u < 18446744073709551616 → ¬ enc u <+: bs := by
  intro u hlt hu
  obtain ⟨y, _, rfl, hp⟩ := (h.2.1 u).1 hu
  have hd : bs.drop 9 = c :: bs.drop 10 := by
    rw [List.drop_eq_getElem_cons hn]
    simp [hn] at hc
    rw [hc]
  rw [hd] at hp
  have hy : y ≤ 1 := by
    have : (128 : Nat) ^ 9 = 9223372036854775808 := by decide
    omega
  rw [enc_lo (by omega), pre_cons] at hp
  omega

/-- A last byte that is 0, and not the first. -/
theorem inv_zero {bs : List Int} {n acc : Nat} (h : Inv bs n acc) (hn : n < bs.length) (hc : bs.getD n 0 = 0) (h1 : 1 ≤ n) : ∀ u : Nat, u < 18446744073709551616 → ¬ enc u <+: bs := by
  intro u _ hu
  obtain ⟨y, hy, rfl, hp⟩ := (h.2.1 u).1 hu
  have hd : bs.drop n = 0 :: bs.drop (n + 1) := by
    rw [List.drop_eq_getElem_cons hn]
    simp [hn] at hc
    rw [hc]
  rw [hd, pre_lo (by omega)] at hp
  omega

/-- A last byte that ends the number. -/
theorem inv_end {bs : List Int} {n acc : Nat} {c : Int} (h : Inv bs n acc) (hn : n < bs.length) (hc : bs.getD n 0 = c) (h0 : 0 ≤ c) (h1 : c < 128) (h2 : 1 ≤ c ∨ n = 0) :
    enc (acc + (c % 128).toNat * 128 ^ n) <+: bs ∧ sz (acc + (c % 128).toNat * 128 ^ n) = n + 1 := by
  have hd : bs.drop n = c :: bs.drop (n + 1) := by
    rw [List.drop_eq_getElem_cons hn]
    simp [hn] at hc
    rw [hc]
  have e : (c % 128).toNat = c.toNat := by omega
  rw [e]
  refine ⟨(h.2.1 _).2 ⟨c.toNat, by omega, rfl, ?_⟩, ?_⟩
  · rw [hd, pre_lo h1]; omega
  · rw [h.2.2.1 _ (by omega), sz_lo (by omega)]

theorem inv_fits {bs : List Int} {n acc : Nat} {c : Int} (h : Inv bs n acc) (hn : n ≤ 8) (_h0 : 0 ≤ c) : acc + (c % 128).toNat * 128 ^ n < 18446744073709551616 := by
  have hp : 128 ^ n ≤ 128 ^ 8 := Nat.pow_le_pow_right (by omega) hn
  have h8 : (128 : Nat) ^ 8 = 72057594037927936 := by decide
  have : (c % 128).toNat * 128 ^ n ≤ 127 * 128 ^ n := Nat.mul_le_mul_right _ (by omega)
  have := h.1
  omega

theorem inv_fits9 {bs : List Int} {acc : Nat} {c : Int} (h : Inv bs 9 acc) (h0 : 0 ≤ c) (h1 : c ≤ 1) : acc + (c % 128).toNat * 128 ^ 9 < 18446744073709551616 := by
  have h8 : (128 : Nat) ^ 9 = 9223372036854775808 := by decide
  have := h.1
  omega

/-- What a last group brings, once 64 bits are all: of the tenth byte one bit alone. -/
def dd (n : Nat) (c : Int) : Nat := if n ≤ 8 then (c % 128).toNat else (c % 2).toNat

theorem dd_lt (n : Nat) (c : Int) : dd n c < 128 := by unfold dd; split <;> omega

theorem dd_fits {bs : List Int} {n acc : Nat} (c : Int) (h : Inv bs n acc) (hn : n ≤ 9) : acc + dd n c * 128 ^ n < 18446744073709551616 := by
  unfold dd
  split
  · have hp : 128 ^ n ≤ 128 ^ 8 := Nat.pow_le_pow_right (by omega) (by assumption)
    have h8 : (128 : Nat) ^ 8 = 72057594037927936 := by decide
    have : (c % 128).toNat * 128 ^ n ≤ 127 * 128 ^ n := Nat.mul_le_mul_right _ (by omega)
    have := h.1
    omega
  · have : n = 9 := by omega
    subst this
    have h8 : (128 : Nat) ^ 9 = 9223372036854775808 := by decide
    have := h.1
    omega

theorem sz_small {n acc : Nat} (h : acc < 128 ^ n) (hn : 1 ≤ n) : sz acc ≤ n := by
  obtain ⟨m, rfl⟩ : ∃ m, n = m + 1 := ⟨n - 1, by omega⟩
  exact sz_le m acc h

theorem dd_own {bs : List Int} {n acc : Nat} {c : Int} (h : Inv bs n acc) (hn : n < bs.length) (h1 : 1 ≤ dd n c ∨ n = 0) :
    sz (acc + dd n c * 128 ^ n) = n + 1 ∧ (enc (acc + dd n c * 128 ^ n)).getD n 0 = dd n c := by
  have hd := dd_lt n c
  refine ⟨by rw [h.2.2.1 _ h1, sz_lo hd], ?_⟩
  rw [h.2.2.2 _ h1, enc_lo hd]
  have : (bs.take n).length = n := by simp; omega
  simp [this]

theorem dd_cases {bs : List Int} {n acc : Nat} {c : Int} (h : Inv bs n acc) (hs : sz (acc + dd n c * 128 ^ n) = n + 1) : 1 ≤ dd n c ∨ n = 0 := by
  by_cases hd : 1 ≤ dd n c
  · exact .inl hd
  · by_cases hn : n = 0
    · exact .inr hn
    · have e : dd n c = 0 := by omega
      rw [e] at hs
      have := sz_small h.1 (by omega)
      simp at hs
      omega

theorem dd_bad_len {bs : List Int} {n acc : Nat} {c : Int} (h : Inv bs n acc) (hn9 : n ≤ 9) (hn : n < bs.length) (hc : bs.getD n 0 = c) (h0 : 0 ≤ c) (h1 : c < 128) (hs : sz (acc + dd n c * 128 ^ n) ≠ n + 1) :
    ∀ u : Nat, u < 18446744073709551616 → ¬ enc u <+: bs := by
  have hd : ¬ (1 ≤ dd n c ∨ n = 0) := fun hd => hs (dd_own h hn hd).1
  by_cases h8 : n ≤ 8
  · unfold dd at hd
    rw [if_pos h8] at hd
    have : c = 0 := by omega
    subst this
    exact inv_zero h hn hc (by omega)
  · have : n = 9 := by omega
    subst this
    unfold dd at hd
    rw [if_neg h8] at hd
    by_cases hc0 : c = 0
    · subst hc0
      exact inv_zero h hn hc (by omega)
    · exact inv_wide h hn hc (by omega) (by omega)

theorem dd_bad_last {bs : List Int} {n acc : Nat} {c : Int} (h : Inv bs n acc) (hn9 : n ≤ 9) (hn : n < bs.length) (hc : bs.getD n 0 = c) (h0 : 0 ≤ c) (h1 : c < 128) (hs : sz (acc + dd n c * 128 ^ n) = n + 1)
    (hl : (enc (acc + dd n c * 128 ^ n)).getD n 0 ≠ c) : ∀ u : Nat, u < 18446744073709551616 → ¬ enc u <+: bs := by
  have hd := dd_cases h hs
  rw [(dd_own h hn hd).2] at hl
  unfold dd at hl
  by_cases h8 : n ≤ 8
  · rw [if_pos h8] at hl; omega
  · rw [if_neg h8] at hl
    have : n = 9 := by omega
    subst this
    exact inv_wide h hn hc (by omega) (by omega)

theorem dd_good {bs : List Int} {n acc : Nat} {c : Int} (h : Inv bs n acc) (hn : n < bs.length) (hc : bs.getD n 0 = c) (h0 : 0 ≤ c) (h1 : c < 128) (hs : sz (acc + dd n c * 128 ^ n) = n + 1)
    (hl : (enc (acc + dd n c * 128 ^ n)).getD n 0 = c) : enc (acc + dd n c * 128 ^ n) <+: bs := by
  have hd := dd_cases h hs
  rw [(dd_own h hn hd).2] at hl
  have e : dd n c = (c % 128).toNat := by omega
  rw [e]
  exact (inv_end h hn hc h0 h1 (by omega)).1

/-- A tenth byte that goes on: no number. -/
theorem inv_ten {bs : List Int} {acc : Nat} {c : Int} (h : Inv bs 9 acc) (hn : 9 < bs.length) (hc : bs.getD 9 0 = c) (h1 : 128 ≤ c) (h2 : c < 256) : ∀ u : Nat, u < 18446744073709551616 → ¬ enc u <+: bs :=
  inv_wide h hn hc (by omega) h2

end Go.Proofs.YtdlogcdpapknaaaGreatDoor.Vm

/- Plain facts on an op's bytes (its kind, its key behind its count, its value behind its count): no program, no walk. -/
namespace Go.Proofs.YtdlogcdpapknaaaGreatDoor.Om
open Vm

/-- Bytes as numbers. -/
def ints (l : List UInt8) : List Int := l.map fun c => (c.toNat : Int)

theorem ints_nil : ints [] = [] := rfl
theorem ints_len (l : List UInt8) : (ints l).length = l.length := by simp [ints]
theorem ints_append (a b : List UInt8) : ints (a ++ b) = ints a ++ ints b := by simp [ints]
theorem ints_inj : ∀ {a b : List UInt8}, ints a = ints b → a = b
  | [], [], _ => rfl
  | [], _ :: _, h => by simp [ints] at h
  | _ :: _, [], h => by simp [ints] at h
  | x :: a, y :: b, h => by
    simp only [ints, List.map_cons, List.cons.injEq] at h
    have h1 : x.toNat = y.toNat := by omega
    rw [UInt8.toNat_inj.1 h1, ints_inj (a := a) (b := b) h.2]

/-- Numbers as bytes. -/
def byts (l : List Int) : List UInt8 := l.map fun z => UInt8.ofNat z.toNat

theorem byts_ints (l : List UInt8) : byts (ints l) = l := by
  simp only [byts, ints, List.map_map]
  conv => rhs; rw [← List.map_id l]
  apply List.map_congr_left
  intro z _
  simp

theorem ints_byts {l : List Int} (h : ∀ z ∈ l, 0 ≤ z ∧ z < 256) : ints (byts l) = l := by
  simp only [byts, ints, List.map_map]
  conv => rhs; rw [← List.map_id l]
  apply List.map_congr_left
  intro z hz
  have := h z hz
  simp
  omega

theorem byts_len (l : List Int) : (byts l).length = l.length := by simp [byts]

/-- What Check answers. -/
def chk (p : Bool) (k v : List UInt8) : Int := if 1 ≤ k.length ∧ k.length ≤ 16 ∧ v.length ≤ 32 ∧ (p = true ∨ v = []) then 0 else 2

theorem chk_ok {p : Bool} {k v : List UInt8} (h : 1 ≤ k.length ∧ k.length ≤ 16 ∧ v.length ≤ 32 ∧ (p = true ∨ v = [])) : chk p k v = 0 := by unfold chk; rw [if_pos h]
theorem chk_no {p : Bool} {k v : List UInt8} (h : ¬ (1 ≤ k.length ∧ k.length ≤ 16 ∧ v.length ≤ 32 ∧ (p = true ∨ v = []))) : chk p k v = 2 := by unfold chk; rw [if_neg h]
theorem chk_ok' {p : Bool} {k v : List UInt8} (h : chk p k v = 0) : 1 ≤ k.length ∧ k.length ≤ 16 ∧ v.length ≤ 32 ∧ (p = true ∨ v = []) := by
  unfold chk at h
  split at h
  · assumption
  · simp at h
theorem chk_two (p : Bool) (k v : List UInt8) : chk p k v = 0 ∨ chk p k v = 2 := by unfold chk; split <;> simp

/-- Bytes behind their count. -/
def cnt (s : List UInt8) : List Int := enc s.length ++ ints s

/-- An op's bytes. -/
def opEnc (p : Bool) (k v : List UInt8) : List Int := (if p then 1 else 0) :: (cnt k ++ if p then cnt v else [])

theorem cnt_len (s : List UInt8) : (cnt s).length = sz s.length + s.length := by simp [cnt, ints_len, sz]

theorem cnt_le {s : List UInt8} (h : s.length ≤ 32) : (cnt s).length ≤ 33 := by
  rw [cnt_len, sz_lo (by omega)]; omega

theorem cnt_short {s : List UInt8} (h : s.length ≤ 32) : cnt s = (s.length : Int) :: ints s := by
  unfold cnt; rw [enc_lo (by omega)]; rfl

theorem opEnc_le {p : Bool} {k v : List UInt8} (h : chk p k v = 0) : (opEnc p k v).length ≤ 51 := by
  have h := chk_ok' h
  have h1 := cnt_len k
  have h2 := cnt_len v
  rw [sz_lo (by omega)] at h1 h2
  unfold opEnc
  cases p <;> simp <;> omega

/-- Two counted rows of bytes with one beginning are one. -/
theorem cnt_free {s t : List UInt8} {bs : List Int} (h : cnt s <+: bs) (k : cnt t <+: bs) : s = t := by
  have h1 : enc s.length <+: bs := (List.prefix_append _ _).trans h
  have k1 : enc t.length <+: bs := (List.prefix_append _ _).trans k
  have e := pre_one bs _ _ h1 k1
  have hl : (cnt s).length = (cnt t).length := by rw [cnt_len, cnt_len, e]
  have : cnt s = cnt t := by
    rw [List.prefix_iff_eq_take] at h k
    rw [h, k, hl]
  unfold cnt at this
  rw [e] at this
  exact ints_inj (List.append_cancel_left this)

/-- What readCounted comes to, of the bytes from its place on. -/
def CRes (bs : List Int) (most : Nat) (s : List UInt8) (n : Nat) (e : Int) : Prop :=
  (e = 0 ∧ s.length ≤ most ∧ cnt s <+: bs ∧ n = (cnt s).length) ∨ (e = 5 ∧ s = [] ∧ n = 0 ∧ ∀ t : List UInt8, t.length ≤ most → ¬ cnt t <+: bs)

/-- What Read comes to. -/
def ORes (bs : List Int) (p : Bool) (k v : List UInt8) (n e : Int) : Prop :=
  (e = 0 ∧ chk p k v = 0 ∧ opEnc p k v <+: bs ∧ n = (opEnc p k v).length) ∨ (e = 5 ∧ p = false ∧ k = [] ∧ v = [] ∧ n = 0 ∧ ∀ p k v, chk p k v = 0 → ¬ opEnc p k v <+: bs)

theorem opEnc_free {p q : Bool} {k v l u : List UInt8} {bs : List Int} (h : opEnc p k v <+: bs) (g : opEnc q l u <+: bs) (hp : chk p k v = 0) (hq : chk q l u = 0) : p = q ∧ k = l ∧ v = u := by
  cases bs with
  | nil => simp [opEnc] at h
  | cons b bs =>
    unfold opEnc at h g
    rw [List.cons_prefix_cons] at h g
    have e : p = q := by
      have := h.1.trans g.1.symm
      clear h g hp hq
      cases p <;> cases q <;> simp_all
    subst e
    have hk : k = l := cnt_free ((List.prefix_append _ _).trans h.2) ((List.prefix_append _ _).trans g.2)
    subst hk
    refine ⟨rfl, rfl, ?_⟩
    cases p
    · have h1 := (chk_ok' hp).2.2.2
      have h2 := (chk_ok' hq).2.2.2
      simp at h1 h2
      rw [h1, h2]
    · obtain ⟨r, hr⟩ := h.2
      obtain ⟨r', hr'⟩ := g.2
      simp only [if_true] at hr hr'
      rw [List.append_assoc] at hr hr'
      have := List.append_cancel_left (hr.trans hr'.symm)
      exact cnt_free (bs := cnt v ++ r) (List.prefix_append _ _) (by rw [this]; exact List.prefix_append _ _)

theorem ores_one {bs : List Int} {p q : Bool} {k v l u : List UInt8} {n m e f : Int} (h : ORes bs p k v n e) (g : ORes bs q l u m f) : p = q ∧ k = l ∧ v = u ∧ n = m ∧ e = f := by
  rcases h with ⟨rfl, h1, h2, rfl⟩ | ⟨rfl, rfl, rfl, rfl, rfl, h⟩ <;> rcases g with ⟨rfl, g1, g2, rfl⟩ | ⟨rfl, rfl, rfl, rfl, rfl, g⟩
  · obtain ⟨rfl, rfl, rfl⟩ := opEnc_free h2 g2 h1 g1
    exact ⟨rfl, rfl, rfl, rfl, rfl⟩
  · exact absurd h2 (g _ _ _ h1)
  · exact absurd g2 (h _ _ _ g1)
  · exact ⟨rfl, rfl, rfl, rfl, rfl⟩

theorem ores_good {bs : List Int} {p q : Bool} {k v l u : List UInt8} {m f : Int} (hc : chk p k v = 0) (h : opEnc p k v <+: bs) (g : ORes bs q l u m f) : q = p ∧ l = k ∧ u = v ∧ m = (opEnc p k v).length ∧ f = 0 := by
  obtain ⟨rfl, rfl, rfl, rfl, rfl⟩ := ores_one (.inl ⟨rfl, hc, h, rfl⟩ : ORes bs p k v _ 0) g
  exact ⟨rfl, rfl, rfl, rfl, rfl⟩

/-- Read: nothing to begin with. -/
theorem ores_nil : ORes [] false [] [] 0 5 := .inr ⟨rfl, rfl, rfl, rfl, rfl, fun p k v _ h => by simp [opEnc] at h⟩

/-- Read: a first byte that is no kind. -/
theorem ores_kind {b : Int} {bs : List Int} (h0 : b ≠ 0) (h1 : b ≠ 1) : ORes (b :: bs) false [] [] 0 5 := by
  refine .inr ⟨rfl, rfl, rfl, rfl, rfl, fun p k v _ h => ?_⟩
  unfold opEnc at h
  rw [List.cons_prefix_cons] at h
  have := h.1
  cases p <;> simp at this <;> omega

/-- Read: no key. -/
theorem ores_key {b : Int} {bs : List Int} {s : List UInt8} {n : Nat} {e : Int} (h : CRes bs 16 s n e) (he : e ≠ 0 ∨ s = []) : ORes (b :: bs) false [] [] 0 5 := by
  refine .inr ⟨rfl, rfl, rfl, rfl, rfl, fun p k v hc hp => ?_⟩
  have hk := chk_ok' hc
  unfold opEnc at hp
  rw [List.cons_prefix_cons] at hp
  have hkp : cnt k <+: bs := (List.prefix_append _ _).trans hp.2
  rcases h with ⟨h1, _, h2, _⟩ | ⟨_, _, _, h3⟩
  · rcases he with he | he
    · exact he h1
    · have := cnt_free h2 hkp
      rw [← this, he] at hk
      simp at hk
  · exact h3 k hk.2.1 hkp

/-- Read: a delete. -/
theorem ores_del {bs : List Int} {s : List UInt8} {n : Nat} (h : CRes bs 16 s n 0) (hs : s ≠ []) : ORes (0 :: bs) false s [] ((1 + n : Nat) : Int) 0 := by
  rcases h with ⟨_, h1, h2, h3⟩ | ⟨h, _⟩
  · have : 0 < s.length := List.length_pos_iff.2 hs
    refine .inl ⟨rfl, chk_ok ⟨by omega, h1, by simp, .inr rfl⟩, ?_, ?_⟩
    · unfold opEnc; simpa using h2
    · unfold opEnc; rw [h3]; simp; omega
  · simp at h

/-- Read: a put. -/
theorem ores_put {bs : List Int} {s t : List UInt8} {n m : Nat} (h : CRes bs 16 s n 0) (hs : s ≠ []) (g : CRes (bs.drop n) 32 t m 0) : ORes (1 :: bs) true s t ((1 + n + m : Nat) : Int) 0 := by
  rcases h with ⟨_, h1, h2, h3⟩ | ⟨h, _⟩
  · rcases g with ⟨_, g1, g2, g3⟩ | ⟨g, _⟩
    · have : 0 < s.length := List.length_pos_iff.2 hs
      refine .inl ⟨rfl, chk_ok ⟨by omega, h1, g1, .inl rfl⟩, ?_, ?_⟩
      · unfold opEnc
        obtain ⟨r, hr⟩ := h2
        rw [h3, ← hr] at g2
        simp at g2
        rw [List.cons_prefix_cons]
        refine ⟨rfl, ?_⟩
        rw [← hr]
        simpa using List.prefix_append_right_inj (cnt s) |>.2 g2
      · unfold opEnc; rw [h3, g3]; simp; omega
    · simp at g
  · simp at h

/-- Read: no value. -/
theorem ores_val {bs : List Int} {s t : List UInt8} {n m : Nat} {e : Int} (h : CRes bs 16 s n 0) (g : CRes (bs.drop n) 32 t m e) (he : e ≠ 0) : ORes (1 :: bs) false [] [] 0 5 := by
  refine .inr ⟨rfl, rfl, rfl, rfl, rfl, fun p k v hc hp => ?_⟩
  have hk := chk_ok' hc
  unfold opEnc at hp
  rw [List.cons_prefix_cons] at hp
  cases p
  · simp at hp
  · have hkp : cnt k <+: bs := (List.prefix_append _ _).trans hp.2
    rcases h with ⟨_, _, h2, h3⟩ | ⟨h, _⟩
    · have e1 := cnt_free h2 hkp
      subst e1
      obtain ⟨r, hr⟩ := h2
      rcases g with ⟨g, _⟩ | ⟨_, _, _, g⟩
      · exact he g
      · refine g v hk.2.2.1 ?_
        rw [h3, ← hr]
        have := hp.2
        rw [← hr] at this
        simp only [if_true] at this
        simpa using (List.prefix_append_right_inj (cnt s)).1 this
    · simp at h

/-- What Append answers. -/
def appd (bs : List Int) (p : Bool) (k v : List UInt8) : List Int := if chk p k v = 0 then bs ++ opEnc p k v else []

theorem appd_ok {bs : List Int} {p : Bool} {k v : List UInt8} (h : chk p k v = 0) : appd bs p k v = bs ++ opEnc p k v := by unfold appd; rw [if_pos h]
theorem appd_no {bs : List Int} {p : Bool} {k v : List UInt8} (h : chk p k v = 2) : appd bs p k v = [] := by unfold appd; rw [if_neg (by omega)]

theorem appd_le (bs : List Int) (p : Bool) (k v : List UInt8) : (appd bs p k v).length ≤ bs.length + 51 := by
  rcases chk_two p k v with h | h
  · rw [appd_ok h, List.length_append]
    have := opEnc_le h
    omega
  · rw [appd_no h]; simp

end Go.Proofs.YtdlogcdpapknaaaGreatDoor.Om

/- Plain facts on a batch's bytes (how many ops; each op's kind, how much of its key it shares with the one ahead, the rest, its value): no program, no walk. -/
namespace Go.Proofs.YtdlogcdpapknaaaGreatDoor.Bm
open Vm Om

/-- An op. -/
structure Ov where
  p : Bool
  k : ByteArray
  v : ByteArray

def Ov.kl (o : Ov) : List UInt8 := o.k.data.toList
def Ov.vl (o : Ov) : List UInt8 := o.v.data.toList
def Ov.c (o : Ov) : Int := chk o.p o.kl o.vl
def Ov.bit (o : Ov) : Nat := if o.p then 1 else 0

theorem ba_eq {a b : ByteArray} (h : a.data.toList = b.data.toList) : a = b := by
  obtain ⟨⟨a⟩⟩ := a
  obtain ⟨⟨b⟩⟩ := b
  simp at h
  rw [h]

theorem Ov.eq {o q : Ov} (h1 : o.p = q.p) (h2 : o.kl = q.kl) (h3 : o.vl = q.vl) : o = q := by
  obtain ⟨p, k, v⟩ := o
  obtain ⟨p', k', v'⟩ := q
  have e2 : k = k' := ba_eq h2
  have e3 : v = v' := ba_eq h3
  have e1 : p = p' := h1
  rw [e1, e2, e3]

theorem Ov.two (o : Ov) : o.c = 0 ∨ o.c = 2 := chk_two _ _ _

/-- How many first bytes two texts have in common. -/
def com : List UInt8 → List UInt8 → Nat
  | x :: a, y :: b => if x = y then com a b + 1 else 0
  | _, _ => 0

theorem com_le : ∀ (a b : List UInt8), com a b ≤ a.length ∧ com a b ≤ b.length ∧ b.take (com a b) = a.take (com a b)
  | [], b => by simp [com]
  | x :: a, [] => by simp [com]
  | x :: a, y :: b => by
    have := com_le a b
    unfold com
    split
    · rename_i h
      subst h
      simp [this.1, this.2.1, this.2.2]
    · simp

theorem com_is : ∀ (a b : List UInt8) (n : Nat), n ≤ a.length → n ≤ b.length → a.take n = b.take n → (n = a.length ∨ n = b.length ∨ a[n]? ≠ b[n]?) → com a b = n
  | [], b, n, h1, h2, h3, h4 => by simp at h1; subst h1; simp [com]
  | x :: a, [], n, h1, h2, h3, h4 => by simp at h2; subst h2; simp [com]
  | x :: a, y :: b, 0, h1, h2, h3, h4 => by
    simp at h4
    unfold com
    rw [if_neg h4]
  | x :: a, y :: b, n + 1, h1, h2, h3, h4 => by
    simp at h1 h2 h3 h4
    obtain ⟨rfl, h3⟩ := h3
    unfold com
    rw [if_pos rfl, com_is a b n h1 h2 h3 h4]

theorem com_self (a : List UInt8) : com a a = a.length := com_is a a _ (Nat.le_refl _) (Nat.le_refl _) rfl (.inl rfl)

/-- What Check answers of ops, without their count. -/
def first : List Ov → Int
  | [] => 0
  | o :: r => if o.c = 0 then first r else 2

theorem first_two : ∀ (l : List Ov), first l = 0 ∨ first l = 2
  | [] => .inl rfl
  | o :: r => by unfold first; split; exact first_two r; exact .inr rfl

theorem first_zero : ∀ {l : List Ov}, first l = 0 → ∀ o ∈ l, o.c = 0
  | [], _, o, ho => by simp at ho
  | q :: r, h, o, ho => by
    unfold first at h
    split at h
    · rcases List.mem_cons.1 ho with rfl | ho
      · assumption
      · exact first_zero h o ho
    · simp at h

theorem first_all : ∀ {l : List Ov}, (∀ o ∈ l, o.c = 0) → first l = 0
  | [], _ => rfl
  | q :: r, h => by
    unfold first
    rw [if_pos (h q (by simp)), first_all fun o ho => h o (by simp [ho])]

theorem first_bad {l : List Ov} {o : Ov} (ho : o ∈ l) (h : o.c ≠ 0) : first l = 2 := by
  rcases first_two l with h' | h'
  · exact absurd (first_zero h' o ho) h
  · exact h'

/-- What Check answers. -/
def chkL (l : List Ov) : Int := if l.length = 0 then 2 else if 8 < l.length then 3 else first l

theorem chkL_nil : chkL [] = 2 := rfl
theorem chkL_long {l : List Ov} (h : 8 < l.length) : chkL l = 3 := by unfold chkL; rw [if_neg (by omega), if_pos h]
theorem chkL_mid {l : List Ov} (h : l.length ≠ 0) (h' : ¬ 8 < l.length) : chkL l = first l := by unfold chkL; rw [if_neg h, if_neg h']
theorem chkL_zero {l : List Ov} (h : chkL l = 0) : 1 ≤ l.length ∧ l.length ≤ 8 ∧ ∀ o ∈ l, o.c = 0 := by
  unfold chkL at h
  split at h
  · simp at h
  · split at h
    · simp at h
    · exact ⟨by omega, by omega, first_zero h⟩
theorem chkL_four (l : List Ov) : chkL l = 0 ∨ chkL l = 2 ∨ chkL l = 3 := by
  unfold chkL
  split
  · simp
  · split
    · simp
    · rcases first_two l with h | h <;> simp [h]

/-- Kind, how much is shared, the rest behind its count. -/
def pre4 (kind sh : Nat) (rest : List UInt8) : List Int := enc kind ++ (enc sh ++ (enc rest.length ++ ints rest))

/-- An op's bytes behind a key. -/
def encO (ah : List UInt8) (o : Ov) : List Int := pre4 o.bit (com ah o.kl) (o.kl.drop (com ah o.kl)) ++ if o.p then cnt o.vl else []

def encL (ah : List UInt8) : List Ov → List Int
  | [] => []
  | o :: r => encO ah o ++ encL o.kl r

def encB (l : List Ov) : List Int := enc l.length ++ encL [] l

def appB (bs : List Int) (l : List Ov) : List Int := if chkL l = 0 then bs ++ encB l else []

theorem appB_ok {bs : List Int} {l : List Ov} (h : chkL l = 0) : appB bs l = bs ++ encB l := by unfold appB; rw [if_pos h]
theorem appB_no {bs : List Int} {l : List Ov} (h : chkL l ≠ 0) : appB bs l = [] := by unfold appB; rw [if_neg h]

theorem pre_app {A X bs : List Int} : A ++ X <+: bs ↔ A <+: bs ∧ X <+: bs.drop A.length := by
  constructor
  · intro h
    refine ⟨(List.prefix_append _ _).trans h, ?_⟩
    obtain ⟨r, rfl⟩ := h
    rw [List.append_assoc, List.drop_left]
    exact List.prefix_append _ _
  · rintro ⟨⟨r, rfl⟩, h⟩
    rw [List.drop_left] at h
    exact (List.prefix_append_right_inj _).2 h

theorem ints_pre {s t : List UInt8} {bs : List Int} (h : ints s <+: bs) (k : ints t <+: bs) (hl : s.length = t.length) : s = t := by
  rw [List.prefix_iff_eq_take] at h k
  apply ints_inj
  rw [h, k, ints_len, ints_len, hl]

theorem pre4_free {a b c d : Nat} {r s : List UInt8} {bs : List Int} (h : pre4 a b r <+: bs) (g : pre4 c d s <+: bs) : a = c ∧ b = d ∧ r = s := by
  unfold pre4 at h g
  rw [pre_app, pre_app, pre_app] at h g
  obtain ⟨h1, h2, h3, h4⟩ := h
  obtain ⟨g1, g2, g3, g4⟩ := g
  obtain rfl := pre_one _ _ _ h1 g1
  obtain rfl := pre_one _ _ _ h2 g2
  have e := pre_one _ _ _ h3 g3
  rw [e] at h4
  exact ⟨rfl, rfl, ints_pre h4 g4 e⟩

/-- A delete has no value. -/
def Ov.shape (o : Ov) : Prop := o.p = true ∨ o.vl = []

theorem Ov.shape_of {o : Ov} (h : o.c = 0) : o.shape := (chk_ok' h).2.2.2

theorem key_of (ah : List UInt8) (k : List UInt8) : ah.take (com ah k) ++ k.drop (com ah k) = k := by
  rw [← (com_le ah k).2.2, List.take_append_drop]

theorem bit_eq {o q : Ov} (h : o.bit = q.bit) : o.p = q.p := by
  unfold Ov.bit at h
  cases h1 : o.p <;> cases h2 : q.p <;> simp_all

theorem encO_free {ah : List UInt8} {o q : Ov} {bs : List Int} (h : encO ah o <+: bs) (g : encO ah q <+: bs) (ho : o.shape) (hq : q.shape) : o = q := by
  unfold encO at h g
  rw [pre_app] at h g
  obtain ⟨h1, h2⟩ := h
  obtain ⟨g1, g2⟩ := g
  obtain ⟨e1, e2, e3⟩ := pre4_free h1 g1
  have ek : o.kl = q.kl := by
    rw [← key_of ah o.kl, ← key_of ah q.kl, e2]
    rw [e2] at e3
    rw [e3]
  have ep := bit_eq e1
  refine Ov.eq ep ek ?_
  have el : o.kl.length = q.kl.length := by rw [ek]
  rw [e1, ek] at h2
  cases hp : o.p
  · have := ho
    have := hq
    unfold Ov.shape at *
    rw [← ep] at *
    simp_all
  · rw [hp] at h2
    rw [← ep, hp] at g2
    simp only [if_true] at h2 g2
    exact cnt_free h2 g2

theorem encL_free : ∀ (ah : List UInt8) (l m : List Ov) (bs : List Int), l.length = m.length → (∀ o ∈ l, o.shape) → (∀ o ∈ m, o.shape) → encL ah l <+: bs → encL ah m <+: bs → l = m
  | _, [], [], _, _, _, _, _, _ => rfl
  | _, [], _ :: _, _, h, _, _, _, _ => by simp at h
  | _, _ :: _, [], _, h, _, _, _, _ => by simp at h
  | ah, o :: l, q :: m, bs, hl, h1, h2, h, g => by
    unfold encL at h g
    rw [pre_app] at h g
    obtain rfl := encO_free h.1 g.1 (h1 o (by simp)) (h2 q (by simp))
    rw [encL_free o.kl l m _ (by simpa using hl) (fun x hx => h1 x (by simp [hx])) (fun x hx => h2 x (by simp [hx])) h.2 g.2]

theorem encB_free {l m : List Ov} {bs : List Int} (h : encB l <+: bs) (g : encB m <+: bs) (hl : ∀ o ∈ l, o.shape) (hm : ∀ o ∈ m, o.shape) : l = m := by
  unfold encB at h g
  rw [pre_app] at h g
  have e := pre_one _ _ _ h.1 g.1
  rw [e] at h
  exact encL_free [] l m _ e hl hm h.2 g.2

/-- The last key. -/
def lst (ah : List UInt8) : List Ov → List UInt8
  | [] => ah
  | o :: r => lst o.kl r

theorem lst_snoc : ∀ (ah : List UInt8) (l : List Ov) (o : Ov), lst ah (l ++ [o]) = o.kl
  | _, [], _ => rfl
  | _, q :: l, o => lst_snoc q.kl l o

theorem encL_snoc : ∀ (ah : List UInt8) (l : List Ov) (o : Ov), encL ah (l ++ [o]) = encL ah l ++ encO (lst ah l) o
  | _, [], _ => by simp [encL, lst]
  | ah, q :: l, o => by
    show encO ah q ++ encL q.kl (l ++ [o]) = encO ah q ++ encL q.kl l ++ encO (lst q.kl l) o
    rw [encL_snoc q.kl l o, List.append_assoc]

theorem encL_app : ∀ (ah : List UInt8) (l m : List Ov), encL ah (l ++ m) = encL ah l ++ encL (lst ah l) m
  | _, [], _ => rfl
  | ah, q :: l, m => by
    show encO ah q ++ encL q.kl (l ++ m) = encO ah q ++ encL q.kl l ++ encL (lst q.kl l) m
    rw [encL_app q.kl l m, List.append_assoc]

/-- What Read comes to. -/
def BRes (bs : List Int) (l : List Ov) (n e : Int) : Prop :=
  (e = 0 ∧ chkL l = 0 ∧ encB l <+: bs ∧ n = (encB l).length) ∨ (e = 5 ∧ l = [] ∧ n = 0 ∧ ∀ m, chkL m = 0 → ¬ encB m <+: bs)

theorem shapes {l : List Ov} (h : chkL l = 0) : ∀ o ∈ l, o.shape := fun o ho => Ov.shape_of ((chkL_zero h).2.2 o ho)

theorem bres_one {bs : List Int} {l m : List Ov} {n i e f : Int} (h : BRes bs l n e) (g : BRes bs m i f) : l = m ∧ n = i ∧ e = f := by
  rcases h with ⟨rfl, h1, h2, rfl⟩ | ⟨rfl, rfl, rfl, h⟩ <;> rcases g with ⟨rfl, g1, g2, rfl⟩ | ⟨rfl, rfl, rfl, g⟩
  · obtain rfl := encB_free h2 g2 (shapes h1) (shapes g1)
    exact ⟨rfl, rfl, rfl⟩
  · exact absurd h2 (g _ h1)
  · exact absurd g2 (h _ g1)
  · exact ⟨rfl, rfl, rfl⟩

theorem bres_good {bs : List Int} {l m : List Ov} {i f : Int} (hc : chkL l = 0) (h : encB l <+: bs) (g : BRes bs m i f) : m = l ∧ i = (encB l).length ∧ f = 0 := by
  obtain ⟨rfl, rfl, rfl⟩ := bres_one (.inl ⟨rfl, hc, h, rfl⟩ : BRes bs l _ 0) g
  exact ⟨rfl, rfl, rfl⟩

theorem bres_e {bs : List Int} {l : List Ov} {n e : Int} (h : BRes bs l n e) : e = 0 ∨ e = 5 := by
  rcases h with ⟨h, _⟩ | ⟨h, _⟩
  · exact .inl h
  · exact .inr h

/-- What a reader's number does. -/
def SS (bs : List Int) (most a : Nat) (bad : Bool) (u a' : Nat) (bad' : Bool) : Prop :=
  (bad = true ∧ bad' = true ∧ u = 0 ∧ a' = a) ∨ (bad = false ∧ bad' = true ∧ u = 0 ∧ a' = a ∧ ∀ x : Nat, x ≤ most → ¬ enc x <+: bs.drop a) ∨ (bad = false ∧ bad' = false ∧ u ≤ most ∧ enc u <+: bs.drop a ∧ a' = a + sz u)

/-- What a reader's bytes do. -/
def BS (bs : List Int) (n a : Nat) (bad : Bool) (zs : List Int) (a' : Nat) (bad' : Bool) : Prop :=
  ((bad = true ∨ bs.length - a < n) ∧ bad' = true ∧ zs = [] ∧ a' = a) ∨ (bad = false ∧ n ≤ bs.length - a ∧ bad' = false ∧ zs = (bs.drop a).take n ∧ a' = a + n)

theorem ss_le {bs : List Int} {most a u a' : Nat} {bad bad' : Bool} (h : SS bs most a bad u a' bad') : u ≤ most := by
  rcases h with ⟨_, _, h, _⟩ | ⟨_, _, h, _⟩ | ⟨_, _, h, _⟩ <;> omega

theorem bs_le {bs zs : List Int} {n a a' : Nat} {bad bad' : Bool} (h : BS bs n a bad zs a' bad') : zs.length ≤ n := by
  rcases h with ⟨_, _, h, _⟩ | ⟨_, _, _, h, _⟩
  · simp [h]
  · rw [h, List.length_take]; omega

theorem ss_bad {bs : List Int} {most a u a' : Nat} {bad bad' : Bool} (h : SS bs most a bad u a' bad') (hb : bad = true) : bad' = true := by
  rcases h with ⟨_, h, _⟩ | ⟨_, h, _⟩ | ⟨h, _⟩
  · exact h
  · exact h
  · rw [hb] at h; simp at h

theorem bs_bad {bs zs : List Int} {n a a' : Nat} {bad bad' : Bool} (h : BS bs n a bad zs a' bad') (hb : bad = true) : bad' = true := by
  rcases h with ⟨_, h, _⟩ | ⟨h, _⟩
  · exact h
  · rw [hb] at h; simp at h

/-- No op that may be stands there. -/
def No (bs : List Int) (a : Nat) (ah : List UInt8) : Prop := ∀ q : Ov, q.c = 0 → ¬ encO ah q <+: bs.drop a

theorem encO_parts {ah : List UInt8} {q : Ov} {bs : List Int} {a : Nat} (h : encO ah q <+: bs.drop a) :
    enc q.bit <+: bs.drop a ∧ enc (com ah q.kl) <+: bs.drop (a + sz q.bit) ∧ enc (q.kl.length - com ah q.kl) <+: bs.drop (a + sz q.bit + sz (com ah q.kl)) ∧
    ints (q.kl.drop (com ah q.kl)) <+: bs.drop (a + sz q.bit + sz (com ah q.kl) + sz (q.kl.length - com ah q.kl)) := by
  unfold encO pre4 at h
  rw [pre_app, pre_app, pre_app, pre_app] at h
  obtain ⟨⟨h1, h2, h3, h4⟩, _⟩ := h
  simp only [List.drop_drop, List.length_drop] at h2 h3 h4
  exact ⟨h1, h2, h3, h4⟩

/-- What the four steps of a key come to. -/
def PS (bs : List Int) (a : Nat) (bad : Bool) (ah : List UInt8) (kind sh n : Nat) (zs : List Int) (a4 : Nat) (bad4 : Bool) : Prop :=
  (bad4 = false ∧ bad = false ∧ kind ≤ 1 ∧ sh ≤ ah.length ∧ zs.length = n ∧ pre4 kind sh (byts zs) <+: bs.drop a ∧ a4 = a + (pre4 kind sh (byts zs)).length) ∨ (bad4 = true ∧ (bad = false → No bs a ah))

theorem bit_le (q : Ov) : q.bit ≤ 1 := by unfold Ov.bit; split <;> omega

theorem pstep {bs : List Int} (hb : ∀ z ∈ bs, 0 ≤ z ∧ z < 256) {a a1 a2 a3 a4 kind sh n M : Nat} {bad bad1 bad2 bad3 bad4 : Bool} {ah : List UInt8} {zs : List Int}
    (h1 : SS bs 1 a bad kind a1 bad1) (h2 : SS bs ah.length a1 bad1 sh a2 bad2) (h3 : SS bs M a2 bad2 n a3 bad3) (h4 : BS bs n a3 bad3 zs a4 bad4) (hM : M = 16 ∨ M = 16 - sh) : PS bs a bad ah kind sh n zs a4 bad4 := by
  rcases h1 with ⟨b1, c1, _⟩ | ⟨b1, c1, _, _, h1⟩ | ⟨b1, c1, u1, p1, e1⟩
  · exact .inr ⟨bs_bad h4 (ss_bad h3 (ss_bad h2 c1)), fun h => by rw [b1] at h; simp at h⟩
  · refine .inr ⟨bs_bad h4 (ss_bad h3 (ss_bad h2 c1)), fun _ q _ hp => h1 q.bit (bit_le q) (encO_parts hp).1⟩
  · rcases h2 with ⟨b2, c2, _⟩ | ⟨b2, c2, _, _, h2⟩ | ⟨b2, c2, u2, p2, e2⟩
    · rw [c1] at b2; simp at b2
    · refine .inr ⟨bs_bad h4 (ss_bad h3 c2), fun _ q _ hp => ?_⟩
      obtain ⟨g1, g2, _⟩ := encO_parts hp
      have := pre_one _ _ _ p1 g1
      rw [← this, ← e1] at g2
      exact h2 _ (com_le ah q.kl).1 g2
    · rcases h3 with ⟨b3, c3, _⟩ | ⟨b3, c3, _, _, h3⟩ | ⟨b3, c3, u3, p3, e3⟩
      · rw [c2] at b3; simp at b3
      · refine .inr ⟨bs_bad h4 c3, fun _ q hq hp => ?_⟩
        obtain ⟨g1, g2, g3, _⟩ := encO_parts hp
        have w1 := pre_one _ _ _ p1 g1
        rw [← w1, ← e1] at g2 g3
        have w2 := pre_one _ _ _ p2 g2
        rw [← w2, ← e2] at g3
        have := (chk_ok' hq).2.1
        exact h3 _ (by omega) g3
      · rcases h4 with ⟨b4, c4, _⟩ | ⟨b4, c4, d4, e4, f4⟩
        · refine .inr ⟨c4, fun _ q hq hp => ?_⟩
          obtain ⟨g1, g2, g3, g4⟩ := encO_parts hp
          have w1 := pre_one _ _ _ p1 g1
          rw [← w1, ← e1] at g2 g3 g4
          have w2 := pre_one _ _ _ p2 g2
          rw [← w2, ← e2] at g3 g4
          have w3 := pre_one _ _ _ p3 g3
          rw [← w3, ← e3] at g4
          have hl := g4.length_le
          rw [ints_len, List.length_drop, List.length_drop] at hl
          rcases b4 with b4 | b4
          · rw [c3] at b4; simp at b4
          · omega
        · have hl : zs.length = n := by rw [e4, List.length_take, List.length_drop]; omega
          have hbz : ints (byts zs) = zs := ints_byts fun z hz => hb z (by rw [e4] at hz; exact List.mem_of_mem_drop (List.mem_of_mem_take hz))
          refine .inl ⟨d4, b1, u1, u2, hl, ?_, ?_⟩
          · unfold pre4
            rw [pre_app, pre_app, pre_app, hbz, byts_len, hl]
            simp only [List.drop_drop]
            refine ⟨p1, ?_, ?_, ?_⟩
            · rw [e1] at p2; exact p2
            · rw [e2, e1] at p3; exact p3
            · rw [e3, e2, e1] at e4
              rw [e4]
              exact List.take_prefix _ _
          · unfold pre4
            simp only [List.length_append, ints_len, byts_len, hl]
            unfold sz at e1 e2 e3
            omega

/-- What an op of a reader comes to. -/
def OS (bs : List Int) (a : Nat) (bad : Bool) (ah : List UInt8) (o : Ov) (a' : Nat) (bad' : Bool) : Prop :=
  (bad = false ∧ bad' = false ∧ encO ah o <+: bs.drop a ∧ a' = a + (encO ah o).length ∧ o.shape) ∨ (bad' = true ∧ (bad = false → No bs a ah))

theorem os_bad {bs : List Int} {a a' : Nat} {bad bad' : Bool} {ah : List UInt8} {o : Ov} (h : bad' = true) (k : bad = false → No bs a ah) : OS bs a bad ah o a' bad' := .inr ⟨h, k⟩

theorem rest_of {sh : Nat} {ah rest : List UInt8} (h : sh ≤ ah.length) : (ah.take sh ++ rest).drop sh = rest := by
  have : (ah.take sh).length = sh := by rw [List.length_take]; omega
  rw [List.drop_append_of_le_length (by omega), List.drop_of_length_le (by omega), List.nil_append]

theorem os_com {bs : List Int} {a a4 kind sh n : Nat} {bad : Bool} {ah : List UInt8} {zs : List Int} (h : PS bs a bad ah kind sh n zs a4 false) (hc : com ah (ah.take sh ++ byts zs) ≠ sh) : No bs a ah := by
  rcases h with ⟨_, _, _, _, _, h, _⟩ | ⟨h, _⟩
  · intro q hq hp
    unfold encO at hp
    rw [pre_app] at hp
    obtain ⟨_, e2, e3⟩ := pre4_free h hp.1
    apply hc
    rw [e3, e2, key_of]
  · simp at h

theorem os_del {bs : List Int} {a a4 sh n : Nat} {bad : Bool} {ah : List UInt8} {zs : List Int} {o : Ov} (h : PS bs a bad ah 0 sh n zs a4 false) (hp : o.p = false) (hk : o.kl = ah.take sh ++ byts zs) (hv : o.vl = []) (hc : com ah o.kl = sh) : OS bs a bad ah o a4 false := by
  rcases h with ⟨_, h1, _, h2, h3, h4, h5⟩ | ⟨h, _⟩
  · have e : encO ah o = pre4 0 sh (byts zs) := by
      unfold encO Ov.bit
      rw [hp, hc, hk, rest_of h2]
      simp
    exact .inl ⟨h1, rfl, by rw [e]; exact h4, by rw [e]; exact h5, .inr hv⟩
  · simp at h

theorem os_put {bs : List Int} (hb : ∀ z ∈ bs, 0 ≤ z ∧ z < 256) {a a4 a5 a6 sh n m : Nat} {bad bad5 bad6 : Bool} {ah : List UInt8} {zs ys : List Int} {o : Ov} (h : PS bs a bad ah 1 sh n zs a4 false) (hp : o.p = true) (hk : o.kl = ah.take sh ++ byts zs) (hv : o.vl = byts ys) (hc : com ah o.kl = sh)
    (g1 : SS bs 32 a4 false m a5 bad5) (g2 : BS bs m a5 bad5 ys a6 bad6) : OS bs a bad ah o a6 bad6 := by
  rcases h with ⟨_, h1, _, h2, h3, h4, h5⟩ | ⟨h, _⟩
  · have e : encO ah o = pre4 1 sh (byts zs) ++ cnt (byts ys) := by
      unfold encO Ov.bit
      rw [hp, hc, hk, rest_of h2, hv]
      simp
    have none : (∀ t : List UInt8, t.length ≤ 32 → ¬ cnt t <+: bs.drop a4) → No bs a ah := by
      intro hn q hq hpq
      have hpq0 := hpq
      unfold encO at hpq
      rw [pre_app] at hpq
      obtain ⟨e1, e2, e3⟩ := pre4_free h4 hpq.1
      have hpp : q.p = true := by
        unfold Ov.bit at e1
        cases hh : q.p
        · rw [hh] at e1; simp at e1
        · rfl
      have hq2 := hpq.2
      rw [hpp, List.drop_drop, ← e1, ← e3, ← e2] at hq2
      rw [if_pos rfl, ← h5] at hq2
      exact hn q.vl (chk_ok' hq).2.2.1 hq2
    rcases g1 with ⟨b1, _⟩ | ⟨b1, c1, _, _, g1⟩ | ⟨b1, c1, u1, p1, e1⟩
    · simp at b1
    · refine .inr ⟨bs_bad g2 c1, fun _ => none fun t ht hp => ?_⟩
      unfold cnt at hp
      rw [pre_app] at hp
      exact g1 _ ht hp.1
    · rcases g2 with ⟨b2, c2, _⟩ | ⟨b2, c2, d2, e2, f2⟩
      · refine .inr ⟨c2, fun _ => none fun t ht hp => ?_⟩
        unfold cnt at hp
        rw [pre_app, List.drop_drop] at hp
        have w := pre_one _ _ _ p1 hp.1
        have hl := hp.2.length_le
        rw [ints_len, List.length_drop] at hl
        rcases b2 with b2 | b2
        · rw [c1] at b2; simp at b2
        · unfold sz at e1
          rw [w] at e1 b2
          omega
      · have hl : ys.length = m := by rw [e2, List.length_take, List.length_drop]; omega
        have hby : ints (byts ys) = ys := ints_byts fun z hz => hb z (by rw [e2] at hz; exact List.mem_of_mem_drop (List.mem_of_mem_take hz))
        refine .inl ⟨h1, d2, ?_, ?_, .inl hp⟩
        · rw [e, pre_app, List.drop_drop, ← h5]
          refine ⟨h4, ?_⟩
          unfold cnt
          rw [pre_app, List.drop_drop, byts_len, hl, hby]
          refine ⟨p1, ?_⟩
          unfold sz at e1
          rw [← e1, e2]
          exact List.take_prefix _ _
        · rw [e, List.length_append, ← Nat.add_assoc, ← h5, f2, e1, cnt_len, byts_len, hl]
          omega
  · simp at h

/-- What the program's reader does of a key. -/
def KS (bs : List Int) (a1 : Nat) (bad1 : Bool) (ah key : List UInt8) (a' : Nat) (bad' : Bool) : Prop :=
  ∃ sh n zs a2 bad2 a3 bad3 bad4, SS bs ah.length a1 bad1 sh a2 bad2 ∧ SS bs (16 - sh) a2 bad2 n a3 bad3 ∧ BS bs n a3 bad3 zs a' bad4 ∧ key = ah.take sh ++ byts zs ∧ bad' = (bad4 || decide (com ah key ≠ sh))

theorem ks_bad {bs : List Int} {a1 a' : Nat} {bad1 bad' : Bool} {ah key : List UInt8} (h : KS bs a1 bad1 ah key a' bad') (hb : bad1 = true) : bad' = true := by
  obtain ⟨sh, n, zs, a2, bad2, a3, bad3, bad4, h2, h3, h4, _, e⟩ := h
  rw [e, bs_bad h4 (ss_bad h3 (ss_bad h2 hb))]
  rfl

/-- What the key's steps come to. -/
theorem ks_os {bs : List Int} (hb : ∀ z ∈ bs, 0 ≤ z ∧ z < 256) {a a1 a' kind : Nat} {bad bad1 bad' : Bool} {ah key : List UInt8} (h1 : SS bs 1 a bad kind a1 bad1) (h : KS bs a1 bad1 ah key a' bad') :
    (bad' = true ∧ (bad = false → No bs a ah)) ∨ (bad' = false ∧ ∃ sh n zs, PS bs a bad ah kind sh n zs a' false ∧ key = ah.take sh ++ byts zs ∧ com ah key = sh) := by
  obtain ⟨sh, n, zs, a2, bad2, a3, bad3, bad4, h2, h3, h4, hk, e⟩ := h
  have hp := pstep hb h1 h2 h3 h4 (.inr rfl)
  cases bad4
  · by_cases hc : com ah key = sh
    · exact .inr ⟨by rw [e]; simpa using hc, sh, n, zs, hp, hk, hc⟩
    · refine .inl ⟨by rw [e]; simpa using hc, fun _ => os_com hp (by rw [← hk]; exact hc)⟩
  · rcases hp with ⟨h, _⟩ | ⟨_, h⟩
    · simp at h
    · exact .inl ⟨by rw [e]; rfl, h⟩

theorem ks_del {bs : List Int} (hb : ∀ z ∈ bs, 0 ≤ z ∧ z < 256) {a a1 a' : Nat} {bad bad1 bad' : Bool} {ah key : List UInt8} {o : Ov} (h1 : SS bs 1 a bad 0 a1 bad1) (h : KS bs a1 bad1 ah key a' bad') (hp : o.p = false) (hk : o.kl = key) (hv : o.vl = []) : OS bs a bad ah o a' bad' := by
  rcases ks_os hb h1 h with ⟨g1, g2⟩ | ⟨g1, sh, n, zs, g2, g3, g4⟩
  · exact .inr ⟨g1, g2⟩
  · rw [g1]
    exact os_del g2 hp (hk.trans g3) hv (by rw [hk]; exact g4)

theorem ks_put {bs : List Int} (hb : ∀ z ∈ bs, 0 ≤ z ∧ z < 256) {a a1 a4 a5 a6 m : Nat} {bad bad1 bad4 bad5 bad6 : Bool} {ah key : List UInt8} {ys : List Int} {o : Ov} (h1 : SS bs 1 a bad 1 a1 bad1) (h : KS bs a1 bad1 ah key a4 bad4) (hp : o.p = true) (hk : o.kl = key) (hv : o.vl = byts ys)
    (g1 : SS bs 32 a4 bad4 m a5 bad5) (g2 : BS bs m a5 bad5 ys a6 bad6) : OS bs a bad ah o a6 bad6 := by
  rcases ks_os hb h1 h with ⟨k1, k2⟩ | ⟨k1, sh, n, zs, k2, k3, k4⟩
  · exact .inr ⟨bs_bad g2 (ss_bad g1 k1), k2⟩
  · rw [k1] at g1
    exact os_put hb k2 hp (hk.trans k3) hv (by rw [hk]; exact k4) g1 g2

theorem ks_len {bs : List Int} {a1 a' : Nat} {bad1 bad' : Bool} {ah key : List UInt8} (h : KS bs a1 bad1 ah key a' bad') (hah : ah.length ≤ 16) : key.length ≤ 16 := by
  obtain ⟨sh, n, zs, a2, bad2, a3, bad3, bad4, h2, h3, h4, hk, _⟩ := h
  have e1 := ss_le h2
  have e2 := ss_le h3
  have e3 := bs_le h4
  rw [hk, List.length_append, byts_len, List.length_take]
  omega

/-- No batch that may be stands there. -/
def NB (bs : List Int) : Prop := ∀ m : List Ov, chkL m = 0 → ¬ encB m <+: bs

/-- What a reader has come to, so many ops being told. -/
def LS (bs : List Int) (c : Nat) (l : List Ov) (a : Nat) (bad : Bool) (ah : List UInt8) : Prop :=
  (bad = false ∧ c ≤ 8 ∧ enc c <+: bs ∧ encL [] l <+: bs.drop (sz c) ∧ a = sz c + (encL [] l).length ∧ ah = lst [] l ∧ ∀ o ∈ l, o.shape) ∨ (bad = true ∧ NB bs)

theorem ls_start {bs : List Int} {c a : Nat} {bad : Bool} (h : SS bs 8 0 false c a bad) : LS bs c [] a bad [] := by
  rcases h with ⟨h, _⟩ | ⟨_, h1, _, _, h⟩ | ⟨_, h1, h2, h3, h4⟩
  · simp at h
  · refine .inr ⟨h1, fun m hm hp => ?_⟩
    unfold encB at hp
    rw [pre_app] at hp
    exact h _ (chkL_zero hm).2.1 (by simpa using hp.1)
  · refine .inl ⟨h1, h2, by simpa using h3, by simp [encL], by simp [encL, h4], rfl, by simp⟩

theorem ls_step {bs : List Int} {c a a' : Nat} {bad bad' : Bool} {l : List Ov} {ah : List UInt8} {o : Ov} (h : LS bs c l a bad ah) (hl : l.length < c) (g : OS bs a bad ah o a' bad') : LS bs c (l ++ [o]) a' bad' o.kl := by
  rcases h with ⟨rfl, h1, h2, h3, h4, h5, h6⟩ | ⟨rfl, h⟩
  · rcases g with ⟨_, g1, g2, g3, g4⟩ | ⟨g1, g2⟩
    · refine .inl ⟨g1, h1, h2, ?_, ?_, (lst_snoc _ _ _).symm, ?_⟩
      · rw [encL_snoc, pre_app, List.drop_drop, ← h4, ← h5]
        exact ⟨h3, g2⟩
      · rw [encL_snoc, List.length_append, ← h5, g3, h4, Nat.add_assoc]
      · intro x hx
        rcases List.mem_append.1 hx with hx | hx
        · exact h6 x hx
        · rw [List.mem_singleton.1 hx]; exact g4
    · refine .inr ⟨g1, fun m hm hp => ?_⟩
      unfold encB at hp
      rw [pre_app] at hp
      have e := pre_one _ _ _ h2 hp.1
      have hp2 := hp.2
      have hlm : l.length < m.length := by omega
      have hsplit : m = m.take l.length ++ m[l.length] :: m.drop (l.length + 1) := by
        rw [List.getElem_cons_drop, List.take_append_drop]
      rw [hsplit, encL_app, pre_app] at hp2
      have hmem : ∀ x ∈ m.take l.length, x.shape := fun x hx => shapes hm x (List.mem_of_mem_take hx)
      have hsz : (enc m.length).length = sz c := by rw [← e]; rfl
      rw [← hsplit, hsz] at hp2
      have e2 := encL_free [] l (m.take l.length) _ (by rw [List.length_take]; omega) h6 hmem h3 hp2.1
      have hp3 := hp2.2
      rw [← e2, List.drop_drop, ← h4, ← h5] at hp3
      show False
      unfold encL at hp3
      rw [pre_app] at hp3
      exact g2 rfl _ ((chkL_zero hm).2.2 _ (List.getElem_mem _)) hp3.1
  · rcases g with ⟨g, _⟩ | ⟨g1, _⟩
    · simp at g
    · exact .inr ⟨g1, h⟩

theorem ls_end {bs : List Int} {c a : Nat} {l : List Ov} {ah : List UInt8} (h : LS bs c l a false ah) (hl : l.length = c) (hc : chkL l = 0) : BRes bs l a 0 := by
  rcases h with ⟨_, h1, h2, h3, h4, _⟩ | ⟨h, _⟩
  · have e : encB l = enc c ++ encL [] l := by unfold encB; rw [hl]
    refine .inl ⟨rfl, hc, ?_, ?_⟩
    · rw [e, pre_app]; exact ⟨h2, h3⟩
    · rw [e, List.length_append, h4]; rfl
  · simp at h

theorem ls_bad {bs : List Int} {c a : Nat} {l : List Ov} {ah : List UInt8} {bad : Bool} (h : LS bs c l a bad ah) (hl : bad = false → l.length = c) (hc : bad = true ∨ chkL l ≠ 0) : BRes bs [] 0 5 := by
  refine .inr ⟨rfl, rfl, rfl, ?_⟩
  rcases h with ⟨hb, h1, h2, h3, h4, _, h6⟩ | ⟨_, h⟩
  · rcases hc with hc | hc
    · rw [hc] at hb; simp at hb
    · intro m hm hp
      have e : encB l <+: bs := by
        unfold encB
        rw [hl hb, pre_app]
        exact ⟨h2, h3⟩
      have := encB_free e hp h6 (shapes hm)
      rw [this] at hc
      exact hc hm
  · exact h

/-- No first part of a batch's bytes is a batch. -/
theorem bres_cut {l m : List Ov} {n e : Int} {j : Nat} (hc : chkL l = 0) (hj : j < (encB l).length) (h : BRes ((encB l).take j) m n e) : e = 5 ∧ m = [] ∧ n = 0 := by
  rcases h with ⟨_, h1, h2, _⟩ | ⟨h1, h2, h3, _⟩
  · have := encB_free (h2.trans (List.take_prefix _ _)) (List.prefix_refl (encB l)) (shapes h1) (shapes hc)
    have hl := h2.length_le
    rw [this, List.length_take] at hl
    omega
  · exact ⟨h1, h2, h3⟩

/-- The ops' bytes, one behind the other. -/
def sum : List Ov → Nat
  | [] => 0
  | o :: r => (opEnc o.p o.kl o.vl).length + sum r

theorem encO_le (ah : List UInt8) {o : Ov} (h : o.c = 0) : (encO ah o).length ≤ (opEnc o.p o.kl o.vl).length + 1 := by
  have hh := chk_ok' h
  have hc := com_le ah o.kl
  have hb := bit_le o
  unfold encO pre4 opEnc
  have e1 : (enc o.bit).length = 1 := by have := sz_lo (x := o.bit) (by omega); exact this
  have e2 : (enc (com ah o.kl)).length = 1 := by have := sz_lo (x := com ah o.kl) (by omega); exact this
  have e3 : (enc (o.kl.length - com ah o.kl)).length = 1 := by have := sz_lo (x := o.kl.length - com ah o.kl) (by omega); exact this
  have e4 := cnt_len o.kl
  rw [sz_lo (by omega)] at e4
  simp only [List.length_append, List.length_cons, List.length_drop, e1, e2, e3, e4, ints_len]
  split <;> simp <;> omega

theorem encL_le : ∀ (ah : List UInt8) (l : List Ov), (∀ o ∈ l, o.c = 0) → (encL ah l).length ≤ sum l + l.length
  | _, [], _ => by simp [encL, sum]
  | ah, o :: l, h => by
    have h1 := encO_le ah (h o (by simp))
    have h2 := encL_le o.kl l fun x hx => h x (by simp [hx])
    simp only [encL, sum, List.length_append, List.length_cons]
    omega

theorem encB_le {l : List Ov} (h : chkL l = 0) : (encB l).length ≤ 9 + sum l := by
  obtain ⟨h1, h2, h3⟩ := chkL_zero h
  have := encL_le [] l h3
  have e : (enc l.length).length = 1 := by have := sz_lo (x := l.length) (by omega); exact this
  unfold encB
  rw [List.length_append, e]
  omega

theorem sum_le : ∀ {l : List Ov}, (∀ o ∈ l, o.c = 0) → sum l ≤ 51 * l.length
  | [], _ => by simp [sum]
  | o :: l, h => by
    have h1 := opEnc_le (h o (by simp))
    have h2 := sum_le (l := l) fun x hx => h x (by simp [hx])
    simp only [sum, List.length_cons]
    unfold Ov.kl Ov.vl at *
    omega

theorem encB_small {l : List Ov} (h : chkL l = 0) : (encB l).length ≤ 420 := by
  have := encB_le h
  obtain ⟨h1, h2, h3⟩ := chkL_zero h
  have := sum_le h3
  omega

theorem encB_pos (l : List Ov) : 1 ≤ (encB l).length := by
  unfold encB
  have := sz_pos l.length
  unfold sz at this
  rw [List.length_append]
  omega

theorem sum_snoc : ∀ (l : List Ov) (o : Ov), sum (l ++ [o]) = sum l + (opEnc o.p o.kl o.vl).length
  | [], o => by simp [sum]
  | q :: l, o => by simp only [List.cons_append, sum, sum_snoc l o]; omega

/-- Whether two ops are one. -/
def eqO (o q : Ov) : Bool := (o.p == q.p) && (decide (o.kl = q.kl) && decide (o.vl = q.vl))

theorem eqO_iff {o q : Ov} : eqO o q = true ↔ o = q := by
  unfold eqO
  constructor
  · intro h
    simp at h
    exact Ov.eq h.1 h.2.1 h.2.2
  · rintro rfl
    simp

def sameL : List Ov → List Ov → Bool
  | [], [] => true
  | o :: l, q :: m => eqO o q && sameL l m
  | _, _ => false

theorem sameL_iff : ∀ {l m : List Ov}, sameL l m = true ↔ l = m
  | [], [] => by simp [sameL]
  | [], _ :: _ => by simp [sameL]
  | _ :: _, [] => by simp [sameL]
  | o :: l, q :: m => by simp [sameL, eqO_iff, sameL_iff (l := l) (m := m)]

theorem sameL_self (l : List Ov) : sameL l l = true := sameL_iff.2 rfl
theorem sameL_no {l m : List Ov} (h : l ≠ m) : sameL l m = false := by
  cases hs : sameL l m
  · rfl
  · exact absurd (sameL_iff.1 hs) h

end Go.Proofs.YtdlogcdpapknaaaGreatDoor.Bm
