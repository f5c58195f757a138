/- Plain facts on words (a byte that stands for itself, or an escape of two digits): no program, no walk. -/
namespace Go.Proofs.YtgcdibglkbfjdaaGreatDoor.Wm

theorem all_bytes {P : UInt8 → Bool} (h : (List.range 256).all (fun n => P (UInt8.ofNat n)) = true) (c : UInt8) : P c = true := by
  have := List.all_eq_true.1 h c.toNat (List.mem_range.2 c.toNat_lt)
  simpa using this

/-- Does a byte stand for itself? -/
def plain (c : UInt8) : Bool := decide (33 ≤ c.toNat) && decide (c.toNat ≤ 126) && c.toNat != 34 && c.toNat != 92

/-- A half byte's digit. -/
def hexd (n : Nat) : UInt8 := UInt8.ofNat (if n < 10 then 48 + n else 87 + n)

/-- The word of a byte. -/
def esc (c : UInt8) : List UInt8 := if plain c then [c] else [92, hexd (c.toNat / 16), hexd (c.toNat % 16)]

def flat (s : List UInt8) : List UInt8 := s.flatMap esc

/-- The word of bytes. -/
def wd (s : List UInt8) : List UInt8 := if s = [] then [34, 34] else flat s

theorem plain_ne (c : UInt8) (h : plain c = true) : c ≠ 92 ∧ c ≠ 34 ∧ c ≠ 32 := by
  have := all_bytes (P := fun c => !plain c || (c != 92 && c != 34 && c != 32)) (by decide +kernel) c
  simp [h] at this
  exact ⟨this.1.1, this.1.2, this.2⟩

theorem esc_plain {c : UInt8} (h : plain c = true) : esc c = [c] := by unfold esc; rw [if_pos h]
theorem esc_other {c : UInt8} (h : plain c = false) : esc c = [92, hexd (c.toNat / 16), hexd (c.toNat % 16)] := by unfold esc; rw [if_neg (by simp [h])]

theorem hexd_inj {m n : Nat} (hm : m < 16) (hn : n < 16) (h : hexd m = hexd n) : m = n := by
  have := congrArg UInt8.toNat h
  unfold hexd at this
  simp only [UInt8.toNat_ofNat'] at this
  split at this <;> split at this <;> omega

theorem hexd_ne (n : Nat) (h : n < 16) : hexd n ≠ 32 ∧ hexd n ≠ 34 ∧ hexd n ≠ 92 := by
  have : ∀ m, m < 16 → hexd m ≠ 32 ∧ hexd m ≠ 34 ∧ hexd m ≠ 92 := by decide +kernel
  exact this n h

theorem esc_ne (c : UInt8) : esc c ≠ [] := by unfold esc; split <;> simp
theorem esc_pos (c : UInt8) : 1 ≤ (esc c).length := by unfold esc; split <;> simp
theorem esc_le (c : UInt8) : (esc c).length ≤ 3 := by unfold esc; split <;> simp

theorem esc_free {c d : UInt8} {r q : List UInt8} (h : esc c ++ r = esc d ++ q) : c = d ∧ r = q := by
  cases hc : plain c <;> cases hd : plain d
  · rw [esc_other hc, esc_other hd] at h
    simp at h
    obtain ⟨h1, h2, h3⟩ := h
    have hc := c.toNat_lt
    have hd := d.toNat_lt
    have e1 := hexd_inj (by omega) (by omega) h1
    have e2 := hexd_inj (by omega) (by omega) h2
    refine ⟨?_, h3⟩
    have : c.toNat = d.toNat := by omega
    exact UInt8.toNat_inj.1 this
  · rw [esc_other hc, esc_plain hd] at h
    simp at h
    exact absurd h.1.symm (plain_ne d hd).1
  · rw [esc_plain hc, esc_other hd] at h
    simp at h
    exact absurd h.1 (plain_ne c hc).1
  · rw [esc_plain hc, esc_plain hd] at h
    simpa using h

theorem flat_nil : flat [] = [] := rfl
theorem flat_cons (c : UInt8) (s : List UInt8) : flat (c :: s) = esc c ++ flat s := by simp [flat]
theorem flat_append (s t : List UInt8) : flat (s ++ t) = flat s ++ flat t := by simp [flat]
theorem flat_snoc (s : List UInt8) (c : UInt8) : flat (s ++ [c]) = flat s ++ esc c := by simp [flat]

theorem flat_empty {t : List UInt8} (h : flat t = []) : t = [] := by
  cases t with
  | nil => rfl
  | cons c t => rw [flat_cons] at h; exact absurd (List.append_eq_nil_iff.1 h).1 (esc_ne c)

/-- What begins as a's word goes on as the word of the rest. -/
theorem flat_pre : ∀ (a t r : List UInt8), flat t = flat a ++ r → ∃ t', t = a ++ t' ∧ flat t' = r
  | [], t, r, h => ⟨t, rfl, h⟩
  | c :: a, t, r, h => by
    cases t with
    | nil =>
      rw [flat_nil, flat_cons] at h
      have := (List.append_eq_nil_iff.1 h.symm).1
      exact absurd (List.append_eq_nil_iff.1 this).1 (esc_ne c)
    | cons d t =>
      rw [flat_cons, flat_cons, List.append_assoc] at h
      obtain ⟨rfl, h2⟩ := esc_free h
      obtain ⟨t', h3, h4⟩ := flat_pre a t r h2
      exact ⟨t', by rw [h3]; rfl, h4⟩

theorem flat_inj {s t : List UInt8} (h : flat s = flat t) : s = t := by
  obtain ⟨t', h1, h2⟩ := flat_pre t s [] (by simpa using h)
  rw [flat_empty h2] at h1
  simpa using h1

theorem wd_nil : wd [] = [34, 34] := rfl
theorem wd_full {s : List UInt8} (h : s ≠ []) : wd s = flat s := by unfold wd; rw [if_neg h]

theorem flat_quote {s : List UInt8} (r : List UInt8) : flat s ≠ 34 :: r := by
  intro h
  cases s with
  | nil => simp [flat] at h
  | cons c s =>
    rw [flat_cons] at h
    cases hc : plain c
    · rw [esc_other hc] at h; simp at h
    · rw [esc_plain hc] at h
      simp at h
      exact (plain_ne c hc).2.1 h.1

theorem wd_inj {s t : List UInt8} (h : wd s = wd t) : s = t := by
  by_cases hs : s = [] <;> by_cases ht : t = []
  · rw [hs, ht]
  · rw [hs, wd_nil, wd_full ht] at h; exact absurd h.symm (flat_quote _)
  · rw [ht, wd_nil, wd_full hs] at h; exact absurd h (flat_quote _)
  · rw [wd_full hs, wd_full ht] at h; exact flat_inj h

theorem wd_ne (s : List UInt8) : wd s ≠ [] := by
  by_cases hs : s = []
  · rw [hs]; simp [wd]
  · rw [wd_full hs]; exact fun h => hs (flat_empty h)

theorem esc_blank (c : UInt8) : 32 ∉ esc c := by
  cases hc : plain c
  · rw [esc_other hc]
    have h := c.toNat_lt
    have h1 := (hexd_ne (c.toNat / 16) (by omega)).1
    have h2 := (hexd_ne (c.toNat % 16) (by omega)).1
    simp
    exact ⟨h1.symm, h2.symm⟩
  · rw [esc_plain hc]
    simp
    exact (plain_ne c hc).2.2.symm

theorem wd_blank (s : List UInt8) : 32 ∉ wd s := by
  by_cases hs : s = []
  · rw [hs]; simp [wd]
  · rw [wd_full hs]
    unfold flat
    rw [List.mem_flatMap]
    rintro ⟨c, _, h⟩
    exact esc_blank c h

theorem flat_le : ∀ s : List UInt8, (flat s).length ≤ 3 * s.length
  | [] => by simp [flat]
  | c :: s => by
    rw [flat_cons, List.length_append]
    have := esc_le c
    have := flat_le s
    simp
    omega

theorem flat_ge : ∀ s : List UInt8, s.length ≤ (flat s).length
  | [] => by simp
  | c :: s => by
    rw [flat_cons, List.length_append]
    have := esc_pos c
    have := flat_ge s
    simp
    omega

theorem wd_le (s : List UInt8) : (wd s).length ≤ 3 * s.length + 2 := by
  by_cases hs : s = []
  · rw [hs]; simp [wd]
  · rw [wd_full hs]; have := flat_le s; omega

/-- What Bytes comes to. -/
def BRes (w s : List UInt8) (e : Int) : Prop := (e = 0 ∧ wd s = w) ∨ (e = 5 ∧ s = [] ∧ ∀ t, wd t ≠ w)

theorem bres_one {w s t : List UInt8} {e f : Int} (h : BRes w s e) (k : BRes w t f) : s = t ∧ e = f := by
  rcases h with ⟨rfl, h⟩ | ⟨rfl, rfl, h⟩ <;> rcases k with ⟨rfl, k⟩ | ⟨rfl, rfl, k⟩
  · exact ⟨wd_inj (h.trans k.symm), rfl⟩
  · exact absurd h (k s)
  · exact absurd k (h t)
  · exact ⟨rfl, rfl⟩

theorem bres_wd {s t : List UInt8} {e : Int} (h : BRes (wd s) t e) : t = s ∧ e = 0 := by
  rcases h with ⟨rfl, h⟩ | ⟨rfl, rfl, h⟩
  · exact ⟨wd_inj h, rfl⟩
  · exact absurd rfl (h s)

/-- Nothing has this word, if from a place on no byte's word stands there. -/
theorem no_word {w a r : List UInt8} (hw : w = flat a ++ r) (hq : w ≠ [34, 34]) (hr : r ≠ []) (hn : ∀ c q, r ≠ esc c ++ q) : ∀ t, wd t ≠ w := by
  intro t ht
  by_cases h0 : t = []
  · rw [h0, wd_nil] at ht; exact hq ht.symm
  · rw [wd_full h0, hw] at ht
    obtain ⟨t', _, h2⟩ := flat_pre _ _ _ ht
    cases t' with
    | nil => exact hr h2.symm
    | cons c q => rw [flat_cons] at h2; exact hn c _ h2.symm

/-- Read as far as out: whatever has this word begins so. -/
def Soft (w out : List UInt8) (i : Nat) : Prop := ∀ t, flat t = w → ∃ t', t = out ++ t' ∧ flat t' = w.drop i

theorem soft_start (w : List UInt8) : Soft w [] 0 := fun t h => ⟨t, rfl, by simpa using h⟩

theorem drop_at {w : List UInt8} {i : Nat} (h : i < w.length) : w.drop i = w[i] :: w.drop (i + 1) := List.drop_eq_getElem_cons h

theorem soft_plain {w out : List UInt8} {i : Nat} (h : Soft w out i) (hi : i < w.length) (hc : w[i] ≠ 92) : Soft w (out ++ [w[i]]) (i + 1) := by
  intro t ht
  obtain ⟨t', h1, h2⟩ := h t ht
  rw [drop_at hi] at h2
  cases t' with
  | nil => cases h2
  | cons c q =>
    rw [flat_cons] at h2
    cases hp : plain c
    · rw [esc_other hp] at h2; simp only [List.cons_append, List.nil_append, List.cons.injEq] at h2; exact absurd h2.1.symm hc
    · rw [esc_plain hp] at h2
      simp only [List.cons_append, List.nil_append, List.cons.injEq] at h2
      exact ⟨q, by rw [h1, ← h2.1]; simp, h2.2⟩

/-- An escape in a word. -/
theorem soft_at {w out : List UInt8} {i : Nat} (h : Soft w out i) (hi : i < w.length) (hc : w[i] = 92) {t : List UInt8} (ht : flat t = w) :
    ∃ (c : UInt8) (q : List UInt8), t = out ++ c :: q ∧ flat q = w.drop (i + 3) ∧ i + 2 < w.length ∧ w[i + 1]? = some (hexd (c.toNat / 16)) ∧ w[i + 2]? = some (hexd (c.toNat % 16)) := by
  obtain ⟨t', h1, h2⟩ := h t ht
  rw [drop_at hi] at h2
  cases t' with
  | nil => cases h2
  | cons c q =>
    rw [flat_cons] at h2
    cases hp : plain c
    · rw [esc_other hp] at h2
      simp only [List.cons_append, List.nil_append, List.cons.injEq] at h2
      obtain ⟨_, h3⟩ := h2
      have g1 := congrArg (fun l => l[0]?) h3
      have g2 := congrArg (fun l => l[1]?) h3
      have g3 := congrArg (fun l => l.drop 2) h3
      simp [List.getElem?_drop] at g1 g2 g3
      have g2' : w[i + 2]? = some (hexd (c.toNat % 16)) := by rw [g2, show i + 1 + 1 = i + 2 by omega]
      refine ⟨c, q, h1, by rw [g3, show i + 1 + 2 = i + 3 by omega], (List.getElem?_eq_some_iff.1 g2').1, g1.symm, g2'⟩
    · rw [esc_plain hp] at h2
      simp only [List.cons_append, List.nil_append, List.cons.injEq] at h2
      exact absurd (h2.1.trans hc) (plain_ne c hp).1

theorem soft_esc {w out : List UInt8} {i : Nat} (h : Soft w out i) (hi : i < w.length) (hc : w[i] = 92) {a b : Nat} (ha : a < 16) (hb : b < 16) (h1 : w[i + 1]? = some (hexd a)) (h2 : w[i + 2]? = some (hexd b)) :
    Soft w (out ++ [UInt8.ofNat (16 * a + b)]) (i + 3) := by
  intro t ht
  obtain ⟨c, q, e1, e2, _, e3, e4⟩ := soft_at h hi hc ht
  rw [e3] at h1
  rw [e4] at h2
  have hl := c.toNat_lt
  have g1 := hexd_inj (by omega) ha (Option.some.inj h1)
  have g2 := hexd_inj (by omega) hb (Option.some.inj h2)
  have : UInt8.ofNat (16 * a + b) = c := by
    rw [show 16 * a + b = c.toNat by omega]
    simp
  exact ⟨q, by rw [this, e1]; simp, e2⟩

theorem soft_bad {w out : List UInt8} {i : Nat} (h : Soft w out i) (hi : i < w.length) (hc : w[i] = 92) (hq : w ≠ [34, 34])
    (hn : w.length ≤ i + 2 ∨ (∀ a, a < 16 → w[i + 1]? ≠ some (hexd a)) ∨ (∀ a, a < 16 → w[i + 2]? ≠ some (hexd a))) : ∀ t, wd t ≠ w := by
  intro t ht
  by_cases h0 : t = []
  · rw [h0, wd_nil] at ht; exact hq ht.symm
  · rw [wd_full h0] at ht
    obtain ⟨c, q, _, _, e1, e2, e3⟩ := soft_at h hi hc ht
    have hl := c.toNat_lt
    rcases hn with hn | hn | hn
    · omega
    · exact hn _ (by omega) e2
    · exact hn _ (by omega) e3

theorem soft_end {w out : List UInt8} {i : Nat} (h : Soft w out i) (hi : w.length ≤ i) (hq : w ≠ [34, 34]) {t : List UInt8} (ht : wd t = w) : t = out := by
  by_cases h0 : t = []
  · rw [h0, wd_nil] at ht; exact absurd ht.symm hq
  · rw [wd_full h0] at ht
    obtain ⟨t', h1, h2⟩ := h t ht
    rw [List.drop_eq_nil_of_le hi] at h2
    rw [flat_empty h2] at h1
    simpa using h1

end Go.Proofs.YtgcdibglkbfjdaaGreatDoor.Wm
