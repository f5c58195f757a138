/- Texts of one layer, one behind the other. -/

/- Plain facts on the bytes of a number (seven bits a byte, the lowest first): no program, no walk. -/
namespace Go.Proofs.YtajlhdmnincehaaGreatDoor.Vm

/-- The bytes of a number. -/
def enc (x : Nat) : List Int := if _h : x < 128 then [(x : Int)] else ((x % 128 + 128 : Nat) : Int) :: enc (x / 128)

/-- How many bytes a number has. -/
def sz (x : Nat) : Nat := (enc x).length

theorem enc_lo {x : Nat} (h : x < 128) : enc x = [(x : Int)] := by rw [enc, dif_pos h]
theorem enc_hi {x : Nat} (h : ¬ x < 128) : enc x = ((x % 128 + 128 : Nat) : Int) :: enc (x / 128) := by rw [enc, dif_neg h]
theorem sz_lo {x : Nat} (h : x < 128) : sz x = 1 := by unfold sz; rw [enc_lo h]; rfl
theorem sz_hi {x : Nat} (h : ¬ x < 128) : sz x = sz (x / 128) + 1 := by unfold sz; rw [enc_hi h]; rfl
theorem sz_pos (x : Nat) : 1 ≤ sz x := by
  by_cases h : x < 128
  · rw [sz_lo h]; omega
  · rw [sz_hi h]; omega

theorem sz_le : ∀ (k x : Nat), x < 128 ^ (k + 1) → sz x ≤ k + 1 := by
  intro k
  induction k with
  | zero => intro x h; rw [sz_lo (by simpa using h)]; omega
  | succ k ih =>
    intro x h
    by_cases hx : x < 128
    · rw [sz_lo hx]; omega
    · rw [sz_hi hx]
      have : x / 128 < 128 ^ (k + 1) := by
        rw [Nat.div_lt_iff_lt_mul (by omega)]
        rw [Nat.pow_succ] at h
        exact h
      have := ih _ this
      omega


theorem sz_le10 {x : Nat} (h : x < 18446744073709551616) : sz x ≤ 10 :=
  sz_le 9 x (Nat.lt_of_lt_of_le h (by decide))

theorem pre_cons {a b : Int} {l m : List Int} : a :: l <+: b :: m ↔ a = b ∧ l <+: m := List.cons_prefix_cons

theorem pre_nil (y : Nat) : ¬ enc y <+: [] := by
  intro h
  rw [List.prefix_nil] at h
  have := sz_pos y
  unfold sz at this
  rw [h] at this
  simp at this

theorem pre_lo {y : Nat} {c : Int} {rest : List Int} (hc : c < 128) : enc y <+: c :: rest ↔ (y : Int) = c := by
  by_cases h : y < 128
  · rw [enc_lo h, pre_cons]
    simp
  · rw [enc_hi h, pre_cons]
    constructor
    · intro h; omega
    · intro h; omega

theorem pre_hi {y : Nat} {c : Int} {rest : List Int} (hc : 128 ≤ c) (hc2 : c < 256) : enc y <+: c :: rest ↔ ∃ y', 1 ≤ y' ∧ y = (c - 128).toNat + 128 * y' ∧ enc y' <+: rest := by
  by_cases h : y < 128
  · rw [enc_lo h, pre_cons]
    constructor
    · intro h; omega
    · rintro ⟨y', h1, h2, _⟩; omega
  · rw [enc_hi h, pre_cons]
    constructor
    · rintro ⟨h1, h2⟩
      exact ⟨y / 128, by omega, by omega, h2⟩
    · rintro ⟨y', h1, h2, h3⟩
      have : y / 128 = y' := by omega
      rw [this]
      exact ⟨by omega, h3⟩

/-- Two numbers whose bytes begin one list are one. -/
theorem pre_one : ∀ (bs : List Int) (x y : Nat), enc x <+: bs → enc y <+: bs → x = y
  | [], x, _, hx, _ => absurd hx (pre_nil x)
  | c :: rest, x, y, hx, hy => by
    by_cases hx1 : x < 128
    · rw [enc_lo hx1, pre_cons] at hx
      rw [pre_lo (by omega)] at hy
      omega
    · by_cases hy1 : y < 128
      · rw [enc_lo hy1, pre_cons] at hy
        rw [pre_lo (by omega)] at hx
        omega
      · rw [enc_hi hx1, pre_cons] at hx
        rw [enc_hi hy1, pre_cons] at hy
        have := pre_one rest _ _ hx.2 hy.2
        omega


/-- What reading a number from the front of bytes comes to: the number, its bytes' count, the error. -/
def Res (bs : List Int) (x n e : Int) : Prop :=
  (∃ u : Nat, u < 18446744073709551616 ∧ enc u <+: bs ∧ x = u ∧ n = sz u ∧ e = 0) ∨ ((∀ u : Nat, u < 18446744073709551616 → ¬ enc u <+: bs) ∧ x = 0 ∧ n = 0 ∧ e = 5)

theorem res_is (bs : List Int) : ∃ x n e, Res bs x n e := by
  by_cases h : ∃ u : Nat, u < 18446744073709551616 ∧ enc u <+: bs
  · obtain ⟨u, h1, h2⟩ := h
    exact ⟨u, sz u, 0, .inl ⟨u, h1, h2, rfl, rfl, rfl⟩⟩
  · exact ⟨0, 0, 5, .inr ⟨fun u h1 h2 => h ⟨u, h1, h2⟩, rfl, rfl, rfl⟩⟩

theorem res_bad {bs : List Int} {x n e : Int} (h : Res bs x n e) (hb : ∀ u : Nat, u < 18446744073709551616 → ¬ enc u <+: bs) : x = 0 ∧ n = 0 ∧ e = 5 := by
  rcases h with ⟨u, h1, h2, _⟩ | ⟨_, h⟩
  · exact absurd h2 (hb u h1)
  · exact h

theorem res_good {bs : List Int} {x n e : Int} (h : Res bs x n e) {u : Nat} (h1 : u < 18446744073709551616) (h2 : enc u <+: bs) : x = u ∧ n = sz u ∧ e = 0 := by
  rcases h with ⟨v, h3, h4, h⟩ | ⟨hb, _⟩
  · have := pre_one bs u v h2 h4
    subst this
    exact h
  · exact absurd h2 (hb u h1)

theorem res_bounds {bs : List Int} {x n e : Int} (h : Res bs x n e) : 0 ≤ x ∧ x < 18446744073709551616 ∧ 0 ≤ n ∧ n ≤ 10 ∧ n ≤ bs.length ∧ (e = 0 ∨ e = 5) := by
  rcases h with ⟨u, h1, h2, rfl, rfl, rfl⟩ | ⟨_, rfl, rfl, rfl⟩
  · have := sz_le10 h1
    have h3 := h2.length_le
    unfold sz at *
    omega
  · omega

/-- Behind n bytes that each go on, whose groups make acc. -/
def Inv (bs : List Int) (n acc : Nat) : Prop :=
  acc < 128 ^ n ∧ (∀ x, enc x <+: bs ↔ ∃ y, (1 ≤ y ∨ n = 0) ∧ x = acc + y * 128 ^ n ∧ enc y <+: bs.drop n) ∧ (∀ y, (1 ≤ y ∨ n = 0) → sz (acc + y * 128 ^ n) = n + sz y) ∧ ∀ y, (1 ≤ y ∨ n = 0) → enc (acc + y * 128 ^ n) = bs.take n ++ enc y

theorem inv_start (bs : List Int) : Inv bs 0 0 := by
  refine ⟨by simp, fun x => ?_, fun y _ => by simp, fun y _ => by simp⟩
  simp

theorem inv_step {bs : List Int} {n acc : Nat} {c : Int} (h : Inv bs n acc) (hn : n < bs.length) (hc : bs.getD n 0 = c) (h1 : 128 ≤ c) (h2 : c < 256) : Inv bs (n + 1) (acc + (c % 128).toNat * 128 ^ n) := by
  obtain ⟨ha, hx, hs, he⟩ := h
  have hd : bs.drop n = c :: bs.drop (n + 1) := by
    rw [List.drop_eq_getElem_cons hn]
    simp [hn] at hc
    rw [hc]
  have hp : 128 ^ (n + 1) = 128 * 128 ^ n := by rw [Nat.pow_succ, Nat.mul_comm]
  have e0 : (c - 128).toNat = (c % 128).toNat := by omega
  have hl : (c % 128).toNat ≤ 127 := by omega
  have key : ∀ y' : Nat, acc + ((c % 128).toNat + 128 * y') * 128 ^ n = acc + (c % 128).toNat * 128 ^ n + y' * 128 ^ (n + 1) := by
    intro y'
    rw [hp, Nat.add_mul, Nat.mul_comm 128 y', Nat.mul_assoc, Nat.add_assoc]
  refine ⟨?_, fun x => ?_, fun y hy => ?_, fun y hy => ?_⟩
  · rw [hp]
    have : (c % 128).toNat * 128 ^ n ≤ 127 * 128 ^ n := Nat.mul_le_mul_right _ hl
    omega
  · rw [hx x]
    constructor
    · rintro ⟨y, hy, rfl, hpre⟩
      rw [hd, pre_hi h1 h2] at hpre
      obtain ⟨y', g1, g2, g3⟩ := hpre
      refine ⟨y', .inl g1, ?_, g3⟩
      rw [g2, e0, key]
    · rintro ⟨y', hy, rfl, hpre⟩
      have g1 : 1 ≤ y' := by omega
      refine ⟨(c % 128).toNat + 128 * y', .inl (by omega), (key y').symm, ?_⟩
      rw [hd, pre_hi h1 h2]
      exact ⟨y', g1, by omega, hpre⟩
  · have g1 : 1 ≤ y := by omega
    rw [← key, hs _ (.inl (by omega)), sz_hi (by omega)]
    have : ((c % 128).toNat + 128 * y) / 128 = y := by omega
    rw [this]
    omega
  · have g1 : 1 ≤ y := by omega
    rw [← key, he _ (.inl (by omega)), enc_hi (by omega)]
    have e1 : ((c % 128).toNat + 128 * y) / 128 = y := by omega
    have e2 : ((((c % 128).toNat + 128 * y) % 128 + 128 : Nat) : Int) = c := by omega
    have e3 : bs[n] = c := by simpa [hn] using hc
    rw [e1, e2, List.take_succ_eq_append_getElem hn, e3]
    simp

/-- The bytes end ahead of the number's end. -/
theorem inv_short {bs : List Int} {n acc : Nat} (h : Inv bs n acc) (hn : bs.length ≤ n) : ∀ u : Nat, u < 18446744073709551616 → ¬ enc u <+: bs := by
  intro u _ hu
  obtain ⟨y, _, _, hp⟩ := (h.2.1 u).1 hu
  rw [List.drop_eq_nil_of_le hn] at hp
  exact pre_nil y hp

/-- A tenth byte above 1. -/
theorem inv_wide {bs : List Int} {acc : Nat} {c : Int} (h : Inv bs 9 acc) (hn : 9 < bs.length) (hc : bs.getD 9 0 = c) (h1 : 1 < c) (h2 : c < 256) : ∀ u : Nat, u < 18446744073709551616 → ¬ enc u <+: bs := by
  intro u hlt hu
  obtain ⟨y, _, rfl, hp⟩ := (h.2.1 u).1 hu
  have hd : bs.drop 9 = c :: bs.drop 10 := by
    rw [List.drop_eq_getElem_cons hn]
    simp [hn] at hc
    rw [hc]
  rw [hd] at hp
  have hy : y ≤ 1 := by
    have : (128 : Nat) ^ 9 = 9223372036854775808 := by decide
    omega
  rw [enc_lo (by omega), pre_cons] at hp
  omega

/-- A last byte that is 0, and not the first. -/
theorem inv_zero {bs : List Int} {n acc : Nat} (h : Inv bs n acc) (hn : n < bs.length) (hc : bs.getD n 0 = 0) (h1 : 1 ≤ n) : ∀ u : Nat, u < 18446744073709551616 → ¬ enc u <+: bs := by
  intro u _ hu
  obtain ⟨y, hy, rfl, hp⟩ := (h.2.1 u).1 hu
  have hd : bs.drop n = 0 :: bs.drop (n + 1) := by
    rw [List.drop_eq_getElem_cons hn]
    simp [hn] at hc
    rw [hc]
  rw [hd, pre_lo (by omega)] at hp
  omega

/-- A last byte that ends the number. -/
theorem inv_end {bs : List Int} {n acc : Nat} {c : Int} (h : Inv bs n acc) (hn : n < bs.length) (hc : bs.getD n 0 = c) (h0 : 0 ≤ c) (h1 : c < 128) (h2 : 1 ≤ c ∨ n = 0) :
    enc (acc + (c % 128).toNat * 128 ^ n) <+: bs ∧ sz (acc + (c % 128).toNat * 128 ^ n) = n + 1 := by
  have hd : bs.drop n = c :: bs.drop (n + 1) := by
    rw [List.drop_eq_getElem_cons hn]
    simp [hn] at hc
    rw [hc]
  have e : (c % 128).toNat = c.toNat := by omega
  rw [e]
  refine ⟨(h.2.1 _).2 ⟨c.toNat, by omega, rfl, ?_⟩, ?_⟩
  · rw [hd, pre_lo h1]; omega
  · rw [h.2.2.1 _ (by omega), sz_lo (by omega)]

theorem inv_fits {bs : List Int} {n acc : Nat} {c : Int} (h : Inv bs n acc) (hn : n ≤ 8) (_h0 : 0 ≤ c) : acc + (c % 128).toNat * 128 ^ n < 18446744073709551616 := by
  have hp : 128 ^ n ≤ 128 ^ 8 := Nat.pow_le_pow_right (by omega) hn
  have h8 : (128 : Nat) ^ 8 = 72057594037927936 := by decide
  have : (c % 128).toNat * 128 ^ n ≤ 127 * 128 ^ n := Nat.mul_le_mul_right _ (by omega)
  have := h.1
  omega

theorem inv_fits9 {bs : List Int} {acc : Nat} {c : Int} (h : Inv bs 9 acc) (h0 : 0 ≤ c) (h1 : c ≤ 1) : acc + (c % 128).toNat * 128 ^ 9 < 18446744073709551616 := by
  have h8 : (128 : Nat) ^ 9 = 9223372036854775808 := by decide
  have := h.1
  omega











end Go.Proofs.YtajlhdmnincehaaGreatDoor.Vm

/- Plain facts on an op's bytes (its kind, its key behind its count, its value behind its count): no program, no walk. -/
namespace Go.Proofs.YtajlhdmnincehaaGreatDoor.Om
open Vm

/-- Bytes as numbers. -/
def ints (l : List UInt8) : List Int := l.map fun c => (c.toNat : Int)

theorem ints_len (l : List UInt8) : (ints l).length = l.length := by simp [ints]
theorem ints_inj : ∀ {a b : List UInt8}, ints a = ints b → a = b
  | [], [], _ => rfl
  | [], _ :: _, h => by simp [ints] at h
  | _ :: _, [], h => by simp [ints] at h
  | x :: a, y :: b, h => by
    simp only [ints, List.map_cons, List.cons.injEq] at h
    have h1 : x.toNat = y.toNat := by omega
    rw [UInt8.toNat_inj.1 h1, ints_inj (a := a) (b := b) h.2]

/-- Numbers as bytes. -/
def byts (l : List Int) : List UInt8 := l.map fun z => UInt8.ofNat z.toNat




/-- What Check answers. -/
def chk (p : Bool) (k v : List UInt8) : Int := if 1 ≤ k.length ∧ k.length ≤ 16 ∧ v.length ≤ 32 ∧ (p = true ∨ v = []) then 0 else 2

theorem chk_ok {p : Bool} {k v : List UInt8} (h : 1 ≤ k.length ∧ k.length ≤ 16 ∧ v.length ≤ 32 ∧ (p = true ∨ v = [])) : chk p k v = 0 := by unfold chk; rw [if_pos h]
theorem chk_no {p : Bool} {k v : List UInt8} (h : ¬ (1 ≤ k.length ∧ k.length ≤ 16 ∧ v.length ≤ 32 ∧ (p = true ∨ v = []))) : chk p k v = 2 := by unfold chk; rw [if_neg h]
theorem chk_ok' {p : Bool} {k v : List UInt8} (h : chk p k v = 0) : 1 ≤ k.length ∧ k.length ≤ 16 ∧ v.length ≤ 32 ∧ (p = true ∨ v = []) := by
  unfold chk at h
  split at h
  · assumption
  · simp at h
theorem chk_two (p : Bool) (k v : List UInt8) : chk p k v = 0 ∨ chk p k v = 2 := by unfold chk; split <;> simp

/-- Bytes behind their count. -/
def cnt (s : List UInt8) : List Int := enc s.length ++ ints s

/-- An op's bytes. -/
def opEnc (p : Bool) (k v : List UInt8) : List Int := (if p then 1 else 0) :: (cnt k ++ if p then cnt v else [])

theorem cnt_len (s : List UInt8) : (cnt s).length = sz s.length + s.length := by simp [cnt, ints_len, sz]

theorem cnt_le {s : List UInt8} (h : s.length ≤ 32) : (cnt s).length ≤ 33 := by
  rw [cnt_len, sz_lo (by omega)]; omega


theorem opEnc_le {p : Bool} {k v : List UInt8} (h : chk p k v = 0) : (opEnc p k v).length ≤ 51 := by
  have h := chk_ok' h
  have h1 := cnt_len k
  have h2 := cnt_len v
  rw [sz_lo (by omega)] at h1 h2
  unfold opEnc
  cases p <;> simp <;> omega

/-- Two counted rows of bytes with one beginning are one. -/
theorem cnt_free {s t : List UInt8} {bs : List Int} (h : cnt s <+: bs) (k : cnt t <+: bs) : s = t := by
  have h1 : enc s.length <+: bs := (List.prefix_append _ _).trans h
  have k1 : enc t.length <+: bs := (List.prefix_append _ _).trans k
  have e := pre_one bs _ _ h1 k1
  have hl : (cnt s).length = (cnt t).length := by rw [cnt_len, cnt_len, e]
  have : cnt s = cnt t := by
    rw [List.prefix_iff_eq_take] at h k
    rw [h, k, hl]
  unfold cnt at this
  rw [e] at this
  exact ints_inj (List.append_cancel_left this)



theorem opEnc_free {p q : Bool} {k v l u : List UInt8} {bs : List Int} (h : opEnc p k v <+: bs) (g : opEnc q l u <+: bs) (hp : chk p k v = 0) (hq : chk q l u = 0) : p = q ∧ k = l ∧ v = u := by
  cases bs with
  | nil => simp [opEnc] at h
  | cons b bs =>
    unfold opEnc at h g
    rw [List.cons_prefix_cons] at h g
    have e : p = q := by
      have := h.1.trans g.1.symm
      clear h g hp hq
      cases p <;> cases q <;> simp_all
    subst e
    have hk : k = l := cnt_free ((List.prefix_append _ _).trans h.2) ((List.prefix_append _ _).trans g.2)
    subst hk
    refine ⟨rfl, rfl, ?_⟩
    cases p
    · have h1 := (chk_ok' hp).2.2.2
      have h2 := (chk_ok' hq).2.2.2
      simp at h1 h2
      rw [h1, h2]
    · obtain ⟨r, hr⟩ := h.2
      obtain ⟨r', hr'⟩ := g.2
      simp only [if_true] at hr hr'
      rw [List.append_assoc] at hr hr'
      have := List.append_cancel_left (hr.trans hr'.symm)
      exact cnt_free (bs := cnt v ++ r) (List.prefix_append _ _) (by rw [this]; exact List.prefix_append _ _)









/-- What Append answers. -/
def appd (bs : List Int) (p : Bool) (k v : List UInt8) : List Int := if chk p k v = 0 then bs ++ opEnc p k v else []

theorem appd_ok {bs : List Int} {p : Bool} {k v : List UInt8} (h : chk p k v = 0) : appd bs p k v = bs ++ opEnc p k v := by unfold appd; rw [if_pos h]
theorem appd_no {bs : List Int} {p : Bool} {k v : List UInt8} (h : chk p k v = 2) : appd bs p k v = [] := by unfold appd; rw [if_neg (by omega)]


end Go.Proofs.YtajlhdmnincehaaGreatDoor.Om

/- Plain facts on a batch's bytes (how many ops; each op's kind, how much of its key it shares with the one ahead, the rest, its value): no program, no walk. -/
namespace Go.Proofs.YtajlhdmnincehaaGreatDoor.Bm
open Vm Om

/-- An op. -/
structure Ov where
  p : Bool
  k : ByteArray
  v : ByteArray

def Ov.kl (o : Ov) : List UInt8 := o.k.data.toList
def Ov.vl (o : Ov) : List UInt8 := o.v.data.toList
def Ov.c (o : Ov) : Int := chk o.p o.kl o.vl
def Ov.bit (o : Ov) : Nat := if o.p then 1 else 0

theorem ba_eq {a b : ByteArray} (h : a.data.toList = b.data.toList) : a = b := by
  obtain ⟨⟨a⟩⟩ := a
  obtain ⟨⟨b⟩⟩ := b
  simp at h
  rw [h]

theorem Ov.eq {o q : Ov} (h1 : o.p = q.p) (h2 : o.kl = q.kl) (h3 : o.vl = q.vl) : o = q := by
  obtain ⟨p, k, v⟩ := o
  obtain ⟨p', k', v'⟩ := q
  have e2 : k = k' := ba_eq h2
  have e3 : v = v' := ba_eq h3
  have e1 : p = p' := h1
  rw [e1, e2, e3]


/-- How many first bytes two texts have in common. -/
def com : List UInt8 → List UInt8 → Nat
  | x :: a, y :: b => if x = y then com a b + 1 else 0
  | _, _ => 0

theorem com_le : ∀ (a b : List UInt8), com a b ≤ a.length ∧ com a b ≤ b.length ∧ b.take (com a b) = a.take (com a b)
  | [], b => by simp [com]
  | x :: a, [] => by simp [com]
  | x :: a, y :: b => by
    have := com_le a b
    unfold com
    split
    · rename_i h
      subst h
      simp [this.1, this.2.1, this.2.2]
    · simp

theorem com_is : ∀ (a b : List UInt8) (n : Nat), n ≤ a.length → n ≤ b.length → a.take n = b.take n → (n = a.length ∨ n = b.length ∨ a[n]? ≠ b[n]?) → com a b = n
  | [], b, n, h1, h2, h3, h4 => by simp at h1; subst h1; simp [com]
  | x :: a, [], n, h1, h2, h3, h4 => by simp at h2; subst h2; simp [com]
  | x :: a, y :: b, 0, h1, h2, h3, h4 => by
    simp at h4
    unfold com
    rw [if_neg h4]
  | x :: a, y :: b, n + 1, h1, h2, h3, h4 => by
    simp at h1 h2 h3 h4
    obtain ⟨rfl, h3⟩ := h3
    unfold com
    rw [if_pos rfl, com_is a b n h1 h2 h3 h4]


/-- What Check answers of ops, without their count. -/
def first : List Ov → Int
  | [] => 0
  | o :: r => if o.c = 0 then first r else 2

theorem first_two : ∀ (l : List Ov), first l = 0 ∨ first l = 2
  | [] => .inl rfl
  | o :: r => by unfold first; split; exact first_two r; exact .inr rfl

theorem first_zero : ∀ {l : List Ov}, first l = 0 → ∀ o ∈ l, o.c = 0
  | [], _, o, ho => by simp at ho
  | q :: r, h, o, ho => by
    unfold first at h
    split at h
    · rcases List.mem_cons.1 ho with rfl | ho
      · assumption
      · exact first_zero h o ho
    · simp at h

theorem first_all : ∀ {l : List Ov}, (∀ o ∈ l, o.c = 0) → first l = 0
  | [], _ => rfl
  | q :: r, h => by
    unfold first
    rw [if_pos (h q (by simp)), first_all fun o ho => h o (by simp [ho])]

theorem first_bad {l : List Ov} {o : Ov} (ho : o ∈ l) (h : o.c ≠ 0) : first l = 2 := by
  rcases first_two l with h' | h'
  · exact absurd (first_zero h' o ho) h
  · exact h'

/-- What Check answers. -/
def chkL (l : List Ov) : Int := if l.length = 0 then 2 else if 8 < l.length then 3 else first l

theorem chkL_long {l : List Ov} (h : 8 < l.length) : chkL l = 3 := by unfold chkL; rw [if_neg (by omega), if_pos h]
theorem chkL_mid {l : List Ov} (h : l.length ≠ 0) (h' : ¬ 8 < l.length) : chkL l = first l := by unfold chkL; rw [if_neg h, if_neg h']
theorem chkL_zero {l : List Ov} (h : chkL l = 0) : 1 ≤ l.length ∧ l.length ≤ 8 ∧ ∀ o ∈ l, o.c = 0 := by
  unfold chkL at h
  split at h
  · simp at h
  · split at h
    · simp at h
    · exact ⟨by omega, by omega, first_zero h⟩
theorem chkL_four (l : List Ov) : chkL l = 0 ∨ chkL l = 2 ∨ chkL l = 3 := by
  unfold chkL
  split
  · simp
  · split
    · simp
    · rcases first_two l with h | h <;> simp [h]

/-- Kind, how much is shared, the rest behind its count. -/
def pre4 (kind sh : Nat) (rest : List UInt8) : List Int := enc kind ++ (enc sh ++ (enc rest.length ++ ints rest))

/-- An op's bytes behind a key. -/
def encO (ah : List UInt8) (o : Ov) : List Int := pre4 o.bit (com ah o.kl) (o.kl.drop (com ah o.kl)) ++ if o.p then cnt o.vl else []

def encL (ah : List UInt8) : List Ov → List Int
  | [] => []
  | o :: r => encO ah o ++ encL o.kl r

def encB (l : List Ov) : List Int := enc l.length ++ encL [] l

def appB (bs : List Int) (l : List Ov) : List Int := if chkL l = 0 then bs ++ encB l else []

theorem appB_ok {bs : List Int} {l : List Ov} (h : chkL l = 0) : appB bs l = bs ++ encB l := by unfold appB; rw [if_pos h]
theorem appB_no {bs : List Int} {l : List Ov} (h : chkL l ≠ 0) : appB bs l = [] := by unfold appB; rw [if_neg h]

theorem pre_app {A X bs : List Int} : A ++ X <+: bs ↔ A <+: bs ∧ X <+: bs.drop A.length := by
  constructor
  · intro h
    refine ⟨(List.prefix_append _ _).trans h, ?_⟩
    obtain ⟨r, rfl⟩ := h
    rw [List.append_assoc, List.drop_left]
    exact List.prefix_append _ _
  · rintro ⟨⟨r, rfl⟩, h⟩
    rw [List.drop_left] at h
    exact (List.prefix_append_right_inj _).2 h

theorem ints_pre {s t : List UInt8} {bs : List Int} (h : ints s <+: bs) (k : ints t <+: bs) (hl : s.length = t.length) : s = t := by
  rw [List.prefix_iff_eq_take] at h k
  apply ints_inj
  rw [h, k, ints_len, ints_len, hl]

theorem pre4_free {a b c d : Nat} {r s : List UInt8} {bs : List Int} (h : pre4 a b r <+: bs) (g : pre4 c d s <+: bs) : a = c ∧ b = d ∧ r = s := by
  unfold pre4 at h g
  rw [pre_app, pre_app, pre_app] at h g
  obtain ⟨h1, h2, h3, h4⟩ := h
  obtain ⟨g1, g2, g3, g4⟩ := g
  obtain rfl := pre_one _ _ _ h1 g1
  obtain rfl := pre_one _ _ _ h2 g2
  have e := pre_one _ _ _ h3 g3
  rw [e] at h4
  exact ⟨rfl, rfl, ints_pre h4 g4 e⟩

/-- A delete has no value. -/
def Ov.shape (o : Ov) : Prop := o.p = true ∨ o.vl = []

theorem Ov.shape_of {o : Ov} (h : o.c = 0) : o.shape := (chk_ok' h).2.2.2

theorem key_of (ah : List UInt8) (k : List UInt8) : ah.take (com ah k) ++ k.drop (com ah k) = k := by
  rw [← (com_le ah k).2.2, List.take_append_drop]

theorem bit_eq {o q : Ov} (h : o.bit = q.bit) : o.p = q.p := by
  unfold Ov.bit at h
  cases h1 : o.p <;> cases h2 : q.p <;> simp_all

theorem encO_free {ah : List UInt8} {o q : Ov} {bs : List Int} (h : encO ah o <+: bs) (g : encO ah q <+: bs) (ho : o.shape) (hq : q.shape) : o = q := by
  unfold encO at h g
  rw [pre_app] at h g
  obtain ⟨h1, h2⟩ := h
  obtain ⟨g1, g2⟩ := g
  obtain ⟨e1, e2, e3⟩ := pre4_free h1 g1
  have ek : o.kl = q.kl := by
    rw [← key_of ah o.kl, ← key_of ah q.kl, e2]
    rw [e2] at e3
    rw [e3]
  have ep := bit_eq e1
  refine Ov.eq ep ek ?_
  have el : o.kl.length = q.kl.length := by rw [ek]
  rw [e1, ek] at h2
  cases hp : o.p
  · have := ho
    have := hq
    unfold Ov.shape at *
    rw [← ep] at *
    simp_all
  · rw [hp] at h2
    rw [← ep, hp] at g2
    simp only [if_true] at h2 g2
    exact cnt_free h2 g2

theorem encL_free : ∀ (ah : List UInt8) (l m : List Ov) (bs : List Int), l.length = m.length → (∀ o ∈ l, o.shape) → (∀ o ∈ m, o.shape) → encL ah l <+: bs → encL ah m <+: bs → l = m
  | _, [], [], _, _, _, _, _, _ => rfl
  | _, [], _ :: _, _, h, _, _, _, _ => by simp at h
  | _, _ :: _, [], _, h, _, _, _, _ => by simp at h
  | ah, o :: l, q :: m, bs, hl, h1, h2, h, g => by
    unfold encL at h g
    rw [pre_app] at h g
    obtain rfl := encO_free h.1 g.1 (h1 o (by simp)) (h2 q (by simp))
    rw [encL_free o.kl l m _ (by simpa using hl) (fun x hx => h1 x (by simp [hx])) (fun x hx => h2 x (by simp [hx])) h.2 g.2]

theorem encB_free {l m : List Ov} {bs : List Int} (h : encB l <+: bs) (g : encB m <+: bs) (hl : ∀ o ∈ l, o.shape) (hm : ∀ o ∈ m, o.shape) : l = m := by
  unfold encB at h g
  rw [pre_app] at h g
  have e := pre_one _ _ _ h.1 g.1
  rw [e] at h
  exact encL_free [] l m _ e hl hm h.2 g.2

/-- The last key. -/
def lst (ah : List UInt8) : List Ov → List UInt8
  | [] => ah
  | o :: r => lst o.kl r

theorem lst_snoc : ∀ (ah : List UInt8) (l : List Ov) (o : Ov), lst ah (l ++ [o]) = o.kl
  | _, [], _ => rfl
  | _, q :: l, o => lst_snoc q.kl l o

theorem encL_snoc : ∀ (ah : List UInt8) (l : List Ov) (o : Ov), encL ah (l ++ [o]) = encL ah l ++ encO (lst ah l) o
  | _, [], _ => by simp [encL, lst]
  | ah, q :: l, o => by
    show encO ah q ++ encL q.kl (l ++ [o]) = encO ah q ++ encL q.kl l ++ encO (lst q.kl l) o
    rw [encL_snoc q.kl l o, List.append_assoc]



theorem shapes {l : List Ov} (h : chkL l = 0) : ∀ o ∈ l, o.shape := fun o ho => Ov.shape_of ((chkL_zero h).2.2 o ho)




/-- What a reader's number does. -/
def SS (bs : List Int) (most a : Nat) (bad : Bool) (u a' : Nat) (bad' : Bool) : Prop :=
  (bad = true ∧ bad' = true ∧ u = 0 ∧ a' = a) ∨ (bad = false ∧ bad' = true ∧ u = 0 ∧ a' = a ∧ ∀ x : Nat, x ≤ most → ¬ enc x <+: bs.drop a) ∨ (bad = false ∧ bad' = false ∧ u ≤ most ∧ enc u <+: bs.drop a ∧ a' = a + sz u)

/-- What a reader's bytes do. -/
def BS (bs : List Int) (n a : Nat) (bad : Bool) (zs : List Int) (a' : Nat) (bad' : Bool) : Prop :=
  ((bad = true ∨ bs.length - a < n) ∧ bad' = true ∧ zs = [] ∧ a' = a) ∨ (bad = false ∧ n ≤ bs.length - a ∧ bad' = false ∧ zs = (bs.drop a).take n ∧ a' = a + n)





/-- No op that may be stands there. -/
def No (bs : List Int) (a : Nat) (ah : List UInt8) : Prop := ∀ q : Ov, q.c = 0 → ¬ encO ah q <+: bs.drop a


/-- What the four steps of a key come to. -/
def PS (bs : List Int) (a : Nat) (bad : Bool) (ah : List UInt8) (kind sh n : Nat) (zs : List Int) (a4 : Nat) (bad4 : Bool) : Prop :=
  (bad4 = false ∧ bad = false ∧ kind ≤ 1 ∧ sh ≤ ah.length ∧ zs.length = n ∧ pre4 kind sh (byts zs) <+: bs.drop a ∧ a4 = a + (pre4 kind sh (byts zs)).length) ∨ (bad4 = true ∧ (bad = false → No bs a ah))

theorem bit_le (q : Ov) : q.bit ≤ 1 := by unfold Ov.bit; split <;> omega








/-- What the program's reader does of a key. -/
def KS (bs : List Int) (a1 : Nat) (bad1 : Bool) (ah key : List UInt8) (a' : Nat) (bad' : Bool) : Prop :=
  ∃ sh n zs a2 bad2 a3 bad3 bad4, SS bs ah.length a1 bad1 sh a2 bad2 ∧ SS bs (16 - sh) a2 bad2 n a3 bad3 ∧ BS bs n a3 bad3 zs a' bad4 ∧ key = ah.take sh ++ byts zs ∧ bad' = (bad4 || decide (com ah key ≠ sh))






/-- No batch that may be stands there. -/
def NB (bs : List Int) : Prop := ∀ m : List Ov, chkL m = 0 → ¬ encB m <+: bs







/-- The ops' bytes, one behind the other. -/
def sum : List Ov → Nat
  | [] => 0
  | o :: r => (opEnc o.p o.kl o.vl).length + sum r

theorem encO_le (ah : List UInt8) {o : Ov} (h : o.c = 0) : (encO ah o).length ≤ (opEnc o.p o.kl o.vl).length + 1 := by
  have hh := chk_ok' h
  have hc := com_le ah o.kl
  have hb := bit_le o
  unfold encO pre4 opEnc
  have e1 : (enc o.bit).length = 1 := by have := sz_lo (x := o.bit) (by omega); exact this
  have e2 : (enc (com ah o.kl)).length = 1 := by have := sz_lo (x := com ah o.kl) (by omega); exact this
  have e3 : (enc (o.kl.length - com ah o.kl)).length = 1 := by have := sz_lo (x := o.kl.length - com ah o.kl) (by omega); exact this
  have e4 := cnt_len o.kl
  rw [sz_lo (by omega)] at e4
  simp only [List.length_append, List.length_cons, List.length_drop, e1, e2, e3, e4, ints_len]
  split <;> simp <;> omega

theorem encL_le : ∀ (ah : List UInt8) (l : List Ov), (∀ o ∈ l, o.c = 0) → (encL ah l).length ≤ sum l + l.length
  | _, [], _ => by simp [encL, sum]
  | ah, o :: l, h => by
    have h1 := encO_le ah (h o (by simp))
    have h2 := encL_le o.kl l fun x hx => h x (by simp [hx])
    simp only [encL, sum, List.length_append, List.length_cons]
    omega

theorem encB_le {l : List Ov} (h : chkL l = 0) : (encB l).length ≤ 9 + sum l := by
  obtain ⟨h1, h2, h3⟩ := chkL_zero h
  have := encL_le [] l h3
  have e : (enc l.length).length = 1 := by have := sz_lo (x := l.length) (by omega); exact this
  unfold encB
  rw [List.length_append, e]
  omega

theorem sum_le : ∀ {l : List Ov}, (∀ o ∈ l, o.c = 0) → sum l ≤ 51 * l.length
  | [], _ => by simp [sum]
  | o :: l, h => by
    have h1 := opEnc_le (h o (by simp))
    have h2 := sum_le (l := l) fun x hx => h x (by simp [hx])
    simp only [sum, List.length_cons]
    unfold Ov.kl Ov.vl at *
    omega

theorem encB_small {l : List Ov} (h : chkL l = 0) : (encB l).length ≤ 420 := by
  have := encB_le h
  obtain ⟨h1, h2, h3⟩ := chkL_zero h
  have := sum_le h3
  omega








end Go.Proofs.YtajlhdmnincehaaGreatDoor.Bm

/- Commits, by mathematics: what Check, Encode, Decode and Follows come to. No program. -/
namespace Go.Proofs.YtajlhdmnincehaaGreatDoor.Cm
open Vm Om Bm
set_option linter.unusedVariables false

/-- A commit. -/
structure Cv where
  e : Int
  n : Int
  l : List Ov

def chk (e n : Int) (l : List Ov) : Int := if 1 ≤ e ∧ e ≤ 1048576 ∧ 1 ≤ n ∧ n ≤ 1048576 then chkL l else 2

theorem chk_in {e n : Int} {l : List Ov} (h : 1 ≤ e ∧ e ≤ 1048576 ∧ 1 ≤ n ∧ n ≤ 1048576) : chk e n l = chkL l := by unfold chk; rw [if_pos h]
theorem chk_out {e n : Int} {l : List Ov} (h : ¬ (1 ≤ e ∧ e ≤ 1048576 ∧ 1 ≤ n ∧ n ≤ 1048576)) : chk e n l = 2 := by unfold chk; rw [if_neg h]

theorem chk_zero {e n : Int} {l : List Ov} (h : chk e n l = 0) : 1 ≤ e ∧ e ≤ 1048576 ∧ 1 ≤ n ∧ n ≤ 1048576 ∧ chkL l = 0 := by
  by_cases hb : 1 ≤ e ∧ e ≤ 1048576 ∧ 1 ≤ n ∧ n ≤ 1048576
  · rw [chk_in hb] at h
    exact ⟨hb.1, hb.2.1, hb.2.2.1, hb.2.2.2, h⟩
  · rw [chk_out hb] at h
    simp at h

theorem chk_three (e n : Int) (l : List Ov) : chk e n l = 0 ∨ chk e n l = 2 ∨ chk e n l = 3 := by
  unfold chk
  split
  · exact chkL_four l
  · exact .inr (.inl rfl)

/-- Its bytes. -/
def encC (e n : Int) (l : List Ov) : List Int := enc e.toNat ++ (enc n.toNat ++ encB l)
def out (e n : Int) (l : List Ov) : List Int := if chk e n l = 0 then encC e n l else []

theorem out_ok {e n : Int} {l : List Ov} (h : chk e n l = 0) : out e n l = encC e n l := by unfold out; rw [if_pos h]
theorem out_no {e n : Int} {l : List Ov} (h : chk e n l ≠ 0) : out e n l = [] := by unfold out; rw [if_neg h]

theorem enc_small {x : Int} (h : x ≤ 1048576) : (enc x.toNat).length ≤ 3 := sz_le 2 x.toNat (by omega)

theorem encC_small {e n : Int} {l : List Ov} (h : chk e n l = 0) : (encC e n l).length ≤ 430 := by
  obtain ⟨_, h1, _, h2, h3⟩ := chk_zero h
  have := enc_small h1
  have := enc_small h2
  have := encB_small h3
  unfold encC
  simp only [List.length_append]
  omega

theorem out_small (e n : Int) (l : List Ov) : (out e n l).length ≤ 430 := by
  by_cases h : chk e n l = 0
  · rw [out_ok h]; exact encC_small h
  · rw [out_no h]; simp

theorem encC_one {e n e' n' : Int} {l l' : List Ov} (h : chk e n l = 0) (h' : chk e' n' l' = 0) (he : encC e n l = encC e' n' l') : e = e' ∧ n = n' ∧ l = l' := by
  obtain ⟨h1, h2, h3, h4, h5⟩ := chk_zero h
  obtain ⟨g1, g2, g3, g4, g5⟩ := chk_zero h'
  unfold encC at he
  have p1 := pre_one (enc e.toNat ++ (enc n.toNat ++ encB l)) e.toNat e'.toNat (List.prefix_append _ _) (by rw [he]; exact List.prefix_append _ _)
  have e1 : e = e' := by omega
  subst e1
  have he2 := List.append_cancel_left he
  have p2 := pre_one (enc n.toNat ++ encB l) n.toNat n'.toNat (List.prefix_append _ _) (by rw [he2]; exact List.prefix_append _ _)
  have e2 : n = n' := by omega
  subst e2
  have he3 := List.append_cancel_left he2
  exact ⟨rfl, rfl, encB_free (List.prefix_refl _) (by rw [he3]; exact List.prefix_refl _) (shapes h5) (shapes g5)⟩
















/-- What Follows comes to: the error, the place. -/
def fol (ep nu : Int) (i : Nat) : List Cv → Int × Int
  | [] => (0, 0)
  | c :: r => if chk c.e c.n c.l ≠ 0 then (chk c.e c.n c.l, i) else if c.n - 1 ≠ nu ∨ c.e < ep then (15, i) else fol c.e c.n (i + 1) r

theorem fol_nil (ep nu : Int) (i : Nat) : fol ep nu i [] = (0, 0) := rfl
theorem fol_bad {ep nu : Int} {i : Nat} {c : Cv} {r : List Cv} (h : chk c.e c.n c.l ≠ 0) : fol ep nu i (c :: r) = (chk c.e c.n c.l, (i : Int)) := by simp [fol, h]
theorem fol_off {ep nu : Int} {i : Nat} {c : Cv} {r : List Cv} (h : chk c.e c.n c.l = 0) (h' : c.n - 1 ≠ nu ∨ c.e < ep) : fol ep nu i (c :: r) = (15, (i : Int)) := by rw [fol, if_neg (by simp [h]), if_pos h']
theorem fol_on {ep nu : Int} {i : Nat} {c : Cv} {r : List Cv} (h : chk c.e c.n c.l = 0) (h' : ¬ (c.n - 1 ≠ nu ∨ c.e < ep)) : fol ep nu i (c :: r) = fol c.e c.n (i + 1) r := by rw [fol, if_neg (by simp [h]), if_neg h']

/-- One fault: what is wrong with c. -/
def flt (at' : Int) (ep nu : Int) (c : Cv) : Int × Int := if chk c.e c.n c.l ≠ 0 then (chk c.e c.n c.l, at') else if c.n - 1 ≠ nu ∨ c.e < ep then (15, at') else (0, 0)

theorem flt_bad {a ep nu : Int} {c : Cv} (h : chk c.e c.n c.l ≠ 0) : flt a ep nu c = (chk c.e c.n c.l, a) := by simp [flt, h]
theorem flt_off {a ep nu : Int} {c : Cv} (h : chk c.e c.n c.l = 0) (h' : c.n - 1 ≠ nu ∨ c.e < ep) : flt a ep nu c = (15, a) := by rw [flt, if_neg (by simp [h]), if_pos h']
theorem flt_on {a ep nu : Int} {c : Cv} (h : chk c.e c.n c.l = 0) (h' : ¬ (c.n - 1 ≠ nu ∨ c.e < ep)) : flt a ep nu c = (0, 0) := by rw [flt, if_neg (by simp [h]), if_neg h']

theorem flt_zero {a ep nu : Int} {c : Cv} (h : (flt a ep nu c).1 = 0) : chk c.e c.n c.l = 0 ∧ ¬ (c.n - 1 ≠ nu ∨ c.e < ep) ∧ (flt a ep nu c).2 = 0 := by
  by_cases h1 : chk c.e c.n c.l = 0
  · by_cases h2 : c.n - 1 ≠ nu ∨ c.e < ep
    · rw [flt_off h1 h2] at h
      simp at h
    · refine ⟨h1, h2, ?_⟩
      rw [flt_on h1 h2]
  · rw [flt_bad h1] at h
    exact absurd h h1

theorem fol_stop {ep nu : Int} {i : Nat} {c : Cv} {r : List Cv} (h : (flt i ep nu c).1 ≠ 0) : fol ep nu i (c :: r) = flt i ep nu c := by
  by_cases h1 : chk c.e c.n c.l = 0
  · by_cases h2 : c.n - 1 ≠ nu ∨ c.e < ep
    · rw [flt_off h1 h2, fol_off h1 h2]
    · rw [flt_on h1 h2] at h
      simp at h
  · rw [flt_bad h1, fol_bad h1]

theorem fol_next {ep nu : Int} {i : Nat} {c : Cv} {r : List Cv} (h : (flt i ep nu c).1 = 0) : fol ep nu i (c :: r) = fol c.e c.n (i + 1) r := by
  obtain ⟨h1, h2, _⟩ := flt_zero h
  exact fol_on h1 h2

/-- All of them follow. -/
def Good (ep nu : Int) : List Cv → Prop
  | [] => True
  | c :: r => chk c.e c.n c.l = 0 ∧ c.n - 1 = nu ∧ ep ≤ c.e ∧ Good c.e c.n r

theorem fol_good : ∀ (l : List Cv) (ep nu : Int) (i : Nat), (fol ep nu i l).1 = 0 ↔ Good ep nu l
  | [], _, _, _ => by simp [fol, Good]
  | c :: r, ep, nu, i => by
    by_cases h1 : chk c.e c.n c.l = 0
    · by_cases h2 : c.n - 1 ≠ nu ∨ c.e < ep
      · rw [fol_off h1 h2]
        simp only [Good]
        constructor
        · intro h; simp at h
        · intro h; omega
      · rw [fol_on h1 h2, fol_good r]
        simp only [Good]
        constructor
        · intro h; exact ⟨h1, by omega, by omega, h⟩
        · intro h; exact h.2.2.2
    · rw [fol_bad h1]
      simp only [Good]
      constructor
      · intro h; exact absurd h h1
      · intro h; exact absurd h.1 h1

theorem fol_at : ∀ (l : List Cv) (ep nu : Int) (i : Nat), (fol ep nu i l).1 = 0 → (fol ep nu i l).2 = 0
  | [], _, _, _, _ => rfl
  | c :: r, ep, nu, i, h => by
    by_cases h1 : chk c.e c.n c.l = 0
    · by_cases h2 : c.n - 1 ≠ nu ∨ c.e < ep
      · rw [fol_off h1 h2] at h
        simp at h
      · rw [fol_on h1 h2] at h ⊢
        exact fol_at r _ _ _ h
    · rw [fol_bad h1] at h
      exact absurd h h1


/-- The end behind a list. -/
def lastE (ep : Int) : List Cv → Int
  | [] => ep
  | c :: r => lastE c.e r
def lastN (nu : Int) : List Cv → Int
  | [] => nu
  | c :: r => lastN c.n r

theorem good_app : ∀ (l m : List Cv) (ep nu : Int), Good ep nu (l ++ m) ↔ Good ep nu l ∧ Good (lastE ep l) (lastN nu l) m
  | [], m, _, _ => by simp [Good, lastE, lastN]
  | c :: r, m, ep, nu => by
    simp only [List.cons_append, Good, lastE, lastN, good_app r m]
    constructor
    · rintro ⟨h1, h2, h3, h4, h5⟩; exact ⟨⟨h1, h2, h3, h4⟩, h5⟩
    · rintro ⟨⟨h1, h2, h3, h4⟩, h5⟩; exact ⟨h1, h2, h3, h4, h5⟩

theorem last_snoc : ∀ (l : List Cv) (c : Cv) (ep nu : Int), lastE ep (l ++ [c]) = c.e ∧ lastN nu (l ++ [c]) = c.n
  | [], _, _, _ => ⟨rfl, rfl⟩
  | d :: r, c, ep, nu => by simpa [lastE, lastN] using last_snoc r c d.e d.n

theorem good_take {l : List Cv} {ep nu : Int} (h : Good ep nu l) (k : Nat) : Good ep nu (l.take k) := by
  rw [← List.take_append_drop k l, good_app] at h
  exact h.1

/-- What stands at a place of a list that follows. -/
theorem good_at : ∀ (l : List Cv) (ep nu : Int) (k : Nat) (c : Cv), Good ep nu l → l[k]? = some c → chk c.e c.n c.l = 0 ∧ c.n - 1 - k = nu ∧ lastE ep (l.take k) ≤ c.e ∧ lastN nu (l.take k) = nu + k
  | [], _, _, _, _, _, h => by simp at h
  | d :: r, ep, nu, 0, c, hg, h => by
    simp at h
    subst h
    obtain ⟨h1, h2, h3, _⟩ := hg
    exact ⟨h1, by omega, by simpa [lastE] using h3, by simp [lastN]⟩
  | d :: r, ep, nu, k + 1, c, hg, h => by
    obtain ⟨h1, h2, h3, h4⟩ := hg
    obtain ⟨g1, g2, g3, g4⟩ := good_at r d.e d.n k c h4 (by simpa using h)
    refine ⟨g1, by omega, by simpa [lastE] using g3, ?_⟩
    simp only [List.take_succ_cons, lastN]
    rw [g4]
    omega



end Go.Proofs.YtajlhdmnincehaaGreatDoor.Cm

/- Frames as lists of numbers: what a frame is, what Read answers, what Scan answers. No program. -/
namespace Go.Proofs.YtajlhdmnincehaaGreatDoor
set_option linter.unusedVariables false
namespace Fm

/-- A record's frame. -/
def frm (r : List Int) : List Int := Vm.enc r.length ++ r

theorem frm_len (r : List Int) : (frm r).length = Vm.sz r.length + r.length := by unfold frm Vm.sz; rw [List.length_append]
theorem frm_pos (r : List Int) : 1 ≤ (frm r).length := by have := Vm.sz_pos r.length; rw [frm_len]; omega

theorem sz3 {n : Nat} (h : n ≤ 131072) : Vm.sz n ≤ 3 := Vm.sz_le 2 n (by omega)

theorem frm_one {r s bs : List Int} (h : frm r <+: bs) (h' : frm s <+: bs) : r = s := by
  obtain ⟨t, ht⟩ := h
  obtain ⟨u, hu⟩ := h'
  unfold frm at ht hu
  have hl : r.length = s.length := Vm.pre_one bs _ _ ⟨r ++ t, by rw [← List.append_assoc]; exact ht⟩ ⟨s ++ u, by rw [← List.append_assoc]; exact hu⟩
  rw [← hu, hl, List.append_assoc, List.append_assoc] at ht
  have := List.append_cancel_left ht
  exact (List.append_inj this hl).1

/-- What Read answers: the record, the frame's length, the error. -/
def Rd (bs r : List Int) (n : Nat) (e : Int) : Prop :=
  (e = 0 ∧ r.length ≤ 131072 ∧ n = Vm.sz r.length + r.length ∧ frm r <+: bs) ∨ (e = 5 ∧ r = [] ∧ n = 0 ∧ ∀ s : List Int, s.length ≤ 131072 → ¬ frm s <+: bs)



/-- The count's bytes stand ahead, and then enough. -/
theorem frm_of {bs : List Int} {x : Nat} (h : Vm.enc x <+: bs) (hx : x ≤ bs.length - Vm.sz x) : ((bs.drop (Vm.sz x)).take x).length = x ∧ frm ((bs.drop (Vm.sz x)).take x) <+: bs := by
  have hl : ((bs.drop (Vm.sz x)).take x).length = x := by rw [List.length_take, List.length_drop]; omega
  refine ⟨hl, ?_⟩
  obtain ⟨t, ht⟩ := h
  have hd : bs.drop (Vm.sz x) = t := by rw [← ht]; exact List.drop_left
  unfold frm
  rw [hl]
  rw [hd] at *
  exact ⟨t.drop x, by rw [List.append_assoc, List.take_append_drop]; exact ht⟩

theorem frm_pre {bs r : List Int} (h : frm r <+: bs) : Vm.enc r.length <+: bs ∧ r.length ≤ bs.length - Vm.sz r.length ∧ Vm.sz r.length + r.length ≤ bs.length := by
  have hl := h.length_le
  rw [frm_len] at hl
  refine ⟨(List.prefix_append _ _).trans h, by omega, hl⟩

/-- Frames one behind the other. -/
def cat : List (List Int) → List Int
  | [] => []
  | r :: l => frm r ++ cat l

theorem cat_app : ∀ (l m : List (List Int)), cat (l ++ m) = cat l ++ cat m
  | [], m => rfl
  | r :: l, m => by simp [cat, cat_app l m]

theorem cat_one (r : List Int) : cat [r] = frm r := by simp [cat]



theorem drop_pre {a b c : List Int} (h : a ++ b <+: c) : b <+: c.drop a.length := by
  obtain ⟨t, ht⟩ := h
  rw [← ht, List.append_assoc, List.drop_left]
  exact List.prefix_append _ _













end Fm
end Go.Proofs.YtajlhdmnincehaaGreatDoor

/- A log as bytes: commits' frames one behind the other, and what Scan answers. No program. -/
namespace Go.Proofs.YtajlhdmnincehaaGreatDoor
set_option linter.unusedVariables false
namespace Wl
open Cm

/-- A commit's record, its frame, a log's bytes. -/
def rec (c : Cv) : List Int := encC c.e c.n c.l
def fr (c : Cv) : List Int := Fm.frm (rec c)
def lgb (l : List Cv) : List Int := Fm.cat (l.map rec)

theorem lgb_cons (c : Cv) (l : List Cv) : lgb (c :: l) = fr c ++ lgb l := rfl
theorem lgb_app (l m : List Cv) : lgb (l ++ m) = lgb l ++ lgb m := by unfold lgb; rw [List.map_append, Fm.cat_app]
theorem lgb_one (c : Cv) : lgb [c] = fr c := by unfold lgb fr; exact Fm.cat_one _
theorem fr_pos (c : Cv) : 1 ≤ (fr c).length := Fm.frm_pos _

theorem rec_small {c : Cv} (h : chk c.e c.n c.l = 0) : (rec c).length ≤ 430 := encC_small h
theorem fr_small {c : Cv} (h : chk c.e c.n c.l = 0) : (fr c).length ≤ 433 := by
  have := rec_small h
  unfold fr
  rw [Fm.frm_len]
  have := Fm.sz3 (n := (rec c).length) (by omega)
  omega

theorem fr_one {c d : Cv} {bs : List Int} (hc : chk c.e c.n c.l = 0) (hd : chk d.e d.n d.l = 0) (h : fr c <+: bs) (h' : fr d <+: bs) : c = d := by
  obtain ⟨e1, e2, e3⟩ := encC_one hc hd (Fm.frm_one h h')
  cases c
  cases d
  simp only at e1 e2 e3
  rw [e1, e2, e3]

/-- What Scan answers behind (ep, nu): commits that follow, one behind the other, and none behind them. -/
def Lg (ep nu : Int) (bs : List Int) (l : List Cv) : Prop :=
  Cm.Good ep nu l ∧ lgb l <+: bs ∧ ∀ c, Cm.Good (lastE ep l) (lastN nu l) [c] → ¬ fr c <+: bs.drop (lgb l).length

theorem good_cons {ep nu : Int} {c : Cv} {l : List Cv} : Cm.Good ep nu (c :: l) ↔ Cm.Good ep nu [c] ∧ Cm.Good c.e c.n l := by
  have := good_app [c] l ep nu
  rw [List.singleton_append] at this
  exact this

theorem good_chk {ep nu : Int} {c : Cv} {l : List Cv} (h : Cm.Good ep nu (c :: l)) : chk c.e c.n c.l = 0 := h.1

theorem lg_tail {ep nu : Int} {bs : List Int} {c : Cv} {l : List Cv} (h : Lg ep nu bs (c :: l)) : Cm.Good ep nu [c] ∧ fr c <+: bs ∧ Lg c.e c.n (bs.drop (fr c).length) l := by
  obtain ⟨h1, h2, h3⟩ := h
  rw [lgb_cons] at h2
  obtain ⟨g1, g2⟩ := good_cons.1 h1
  refine ⟨g1, (List.prefix_append _ _).trans h2, g2, Fm.drop_pre h2, fun d hd => ?_⟩
  rw [List.drop_drop, ← List.length_append, ← lgb_cons]
  exact h3 d hd





/-- What begins with a log is read as one that begins with it. -/
theorem lg_has : ∀ {l m : List Cv} {ep nu : Int} {bs : List Int}, Cm.Good ep nu l → lgb l <+: bs → Lg ep nu bs m → l <+: m
  | [], _, _, _, _, _, _, _ => List.nil_prefix
  | c :: l, [], ep, nu, bs, h, h2, hm => by
    exact absurd ((List.prefix_append _ _).trans h2) (hm.2.2 c (good_cons.1 h).1)
  | c :: l, d :: m, ep, nu, bs, h, h2, hm => by
    obtain ⟨g1, g2, g3⟩ := lg_tail hm
    rw [lgb_cons] at h2
    have e := fr_one (good_chk h) (good_chk g1) ((List.prefix_append _ _).trans h2) g2
    subst e
    have := lg_has (good_cons.1 h).2 (Fm.drop_pre h2) g3
    exact List.cons_prefix_cons.2 ⟨rfl, this⟩

/-- A first part of a log's bytes is read as a first part of it. -/
theorem lg_in : ∀ {l m : List Cv} {ep nu : Int} {bs : List Int}, Cm.Good ep nu l → bs <+: lgb l → Lg ep nu bs m → m <+: l
  | _, [], _, _, _, _, _, _ => List.nil_prefix
  | [], d :: m, ep, nu, bs, h, h2, hm => by
    obtain ⟨_, g2, _⟩ := lg_tail hm
    have h1 := (g2.trans h2).length_le
    have h3 := fr_pos d
    have h4 : (lgb []).length = 0 := rfl
    omega
  | c :: l, d :: m, ep, nu, bs, h, h2, hm => by
    obtain ⟨g1, g2, g3⟩ := lg_tail hm
    rw [lgb_cons] at h2
    have e := fr_one (good_chk h) (good_chk g1) (List.prefix_append _ _) (g2.trans h2)
    subst e
    obtain ⟨t, rfl⟩ := g2
    rw [List.drop_left] at g3
    have ht : t <+: lgb l := by
      obtain ⟨u, hu⟩ := h2
      rw [List.append_assoc] at hu
      exact ⟨u, List.append_cancel_left hu⟩
    exact List.cons_prefix_cons.2 ⟨rfl, lg_in (good_cons.1 h).2 ht g3⟩



end Wl
end Go.Proofs.YtajlhdmnincehaaGreatDoor

/- The mathematics of sections of orphans: which may be, their bytes, what is read of any bytes. No program. -/
namespace Go.Proofs.YtajlhdmnincehaaGreatDoor
set_option linter.unusedVariables false
namespace Orp
open Vm Bm
open Cm (Cv Good fol lastE lastN)

/-- A section. -/
structure Se where
  e : Int
  f : Int
  cs : List Cv

/-- Check. -/
def chk (s : Se) : Int := if s.e < 1 ∨ 1048576 < s.e ∨ s.f < 0 ∨ s.cs.length = 0 then 2 else if (fol 1 s.f 0 s.cs).1 = 0 then (if s.e ≤ lastE 1 s.cs then 15 else 0) else (fol 1 s.f 0 s.cs).1

theorem chk_ok {s : Se} (h : ¬ (s.e < 1 ∨ 1048576 < s.e ∨ s.f < 0 ∨ s.cs.length = 0)) (h' : (fol 1 s.f 0 s.cs).1 = 0) (h2 : ¬ s.e ≤ lastE 1 s.cs) : chk s = 0 := by unfold chk; rw [if_neg h, if_pos h', if_neg h2]

theorem good_many : ∀ {l : List Cv} {ep nu : Int}, Good ep nu l → (l = [] ∨ nu + l.length ≤ 1048576) ∧ ∀ c ∈ l, Cm.chk c.e c.n c.l = 0
  | [], _, _, _ => ⟨.inl rfl, fun c hc => by simp at hc⟩
  | c :: r, ep, nu, ⟨h1, h2, h3, h4⟩ => by
    obtain ⟨g1, g2⟩ := good_many h4
    obtain ⟨_, _, _, h5, _⟩ := Cm.chk_zero h1
    refine ⟨.inr ?_, fun d hd => ?_⟩
    · rcases g1 with rfl | g1
      · simp; omega
      · rw [List.length_cons]; omega
    · rcases List.mem_cons.1 hd with rfl | hd
      · exact h1
      · exact g2 d hd

theorem chk_zero {s : Se} (h : chk s = 0) : 1 ≤ s.e ∧ s.e ≤ 1048576 ∧ 0 ≤ s.f ∧ s.f ≤ 1048576 ∧ 1 ≤ s.cs.length ∧ s.cs.length ≤ 1048576 ∧ Good 1 s.f s.cs ∧ lastE 1 s.cs < s.e ∧ ∀ c ∈ s.cs, Cm.chk c.e c.n c.l = 0 := by
  unfold chk at h
  split at h
  · simp at h
  · rename_i h1
    split at h
    · rename_i h2
      split at h
      · simp at h
      · have g := (Cm.fol_good _ _ _ _).1 h2
        obtain ⟨g1, g2⟩ := good_many g
        rcases g1 with g1 | g1
        · rw [g1] at h1; simp at h1
        · exact ⟨by omega, by omega, by omega, by omega, by omega, by omega, g, by omega, g2⟩
    · rename_i h2
      exact absurd h h2

/-- Its header, its bytes. -/
def hdr (s : Se) : List Int := enc s.e.toNat ++ (enc s.f.toNat ++ enc s.cs.length)
def sec (s : Se) : List Int := Fm.frm (hdr s) ++ Wl.lgb s.cs
def out (s : Se) : List Int := if chk s = 0 then sec s else []
theorem out_ok {s : Se} (h : chk s = 0) : out s = sec s := if_pos h
theorem out_no {s : Se} (h : chk s ≠ 0) : out s = [] := if_neg h


theorem lgb_le : ∀ {l : List Cv}, (∀ c ∈ l, Cm.chk c.e c.n c.l = 0) → (Wl.lgb l).length ≤ 433 * l.length
  | [], _ => by simp [Wl.lgb, Fm.cat]
  | c :: l, h => by
    have h1 := Wl.fr_small (h c (by simp))
    have h2 := lgb_le (l := l) fun d hd => h d (by simp [hd])
    rw [Wl.lgb_cons, List.length_append, List.length_cons]
    omega






/-- No section that may be begins these bytes. -/
def No (bs : List Int) : Prop := ∀ t, chk t = 0 → ¬ sec t <+: bs















/-- What a reading of one section tells. -/
def Rd (bs : List Int) (s : Se) (n : Nat) (g : Bool) : Prop := (g = true ∧ chk s = 0 ∧ sec s <+: bs ∧ n = (sec s).length) ∨ (g = false ∧ No bs)

/-- Sections with rising epochs. -/
def Ris (a : Int) : List Se → Prop
  | [] => True
  | s :: r => chk s = 0 ∧ a < s.e ∧ Ris s.e r
def lstS (a : Int) : List Se → Int
  | [] => a
  | s :: r => lstS s.e r
def secs : List Se → List Int
  | [] => []
  | s :: r => sec s ++ secs r

theorem lst_snoc : ∀ (l : List Se) (s : Se) (a : Int), lstS a (l ++ [s]) = s.e
  | [], _, _ => rfl
  | q :: r, s, a => by simpa [lstS] using lst_snoc r s q.e

/-- The sections in a file's bytes. -/
def Sn (a : Int) (bs : List Int) (l : List Se) : Prop := Ris a l ∧ secs l <+: bs ∧ ∀ t, Ris (lstS a l) [t] → ¬ sec t <+: bs.drop (secs l).length








/-- Has. -/
def has (l : List Se) (e n : Int) : Bool := l.any fun s => s.cs.any fun c => c.e == e && c.n == n

end Orp
end Go.Proofs.YtajlhdmnincehaaGreatDoor

/- Disks, by mathematics. No program. -/
namespace Go.Proofs.YtajlhdmnincehaaGreatDoor.Dm
set_option linter.unusedVariables false

/-- A raw step that is pending. -/
structure Rw where
  file : Nat
  cut : Bool
  to : Nat
  bytes : List Int

/-- A disk: what is durable, what is pending; is it on; its fuse; how many raw steps it has done. -/
structure Ds where
  sure : Nat → List Int
  wait : List Rw
  on : Bool
  has : Bool
  left : Nat
  count : Nat

def upd (s : Nat → List Int) (f : Nat) (x : List Int) : Nat → List Int := fun j => if j = f then x else s j

theorem upd_same (s : Nat → List Int) (f : Nat) (x : List Int) : upd s f x f = x := by simp [upd]
theorem upd_other {s : Nat → List Int} {f j : Nat} {x : List Int} (h : j ≠ f) : upd s f x j = s j := by simp [upd, h]

/-- Bytes behind a raw step. -/
def wth (b : List Int) (r : Rw) : List Int := if r.cut then b.take r.to else b ++ r.bytes

def one (s : Nat → List Int) (r : Rw) : Nat → List Int := upd s r.file (wth (s r.file) r)

/-- All of them done, in order. -/
def dof (s : Nat → List Int) : List Rw → Nat → List Int
  | [] => s
  | r :: l => dof (one s r) l

theorem dof_app : ∀ (l m : List Rw) (s : Nat → List Int), dof s (l ++ m) = dof (dof s l) m
  | [], _, _ => rfl
  | r :: l, m, s => dof_app l m (one s r)

theorem dof_snoc (l : List Rw) (r : Rw) (s : Nat → List Int) : dof s (l ++ [r]) = one (dof s l) r := dof_app l [r] s

/-- One file's bytes behind the steps of that file. -/
def hold (f : Nat) (b : List Int) : List Rw → List Int
  | [] => b
  | r :: l => hold f (if r.file = f then wth b r else b) l

theorem hold_dof : ∀ (l : List Rw) (s : Nat → List Int) (f : Nat), hold f (s f) l = dof s l f
  | [], _, _ => rfl
  | r :: l, s, f => by
    rw [hold, dof, ← hold_dof l (one s r) f]
    congr 1
    by_cases h : r.file = f
    · subst h; rw [if_pos rfl, one, upd_same]
    · rw [if_neg h, one, upd_other (Ne.symm h)]

theorem hold_app : ∀ (l m : List Rw) (b : List Int) (f : Nat), hold f b (l ++ m) = hold f (hold f b l) m
  | [], _, _, _ => rfl
  | r :: l, m, b, f => hold_app l m _ f

theorem hold_snoc (l : List Rw) (r : Rw) (b : List Int) (f : Nat) : hold f b (l ++ [r]) = if r.file = f then wth (hold f b l) r else hold f b l := hold_app l [r] b f

/-- A raw step that fits what stands ahead of it. -/
def fits (s : Nat → List Int) (r : Rw) : Prop := r.file < 4 ∧ (r.cut = true → r.to ≤ (s r.file).length) ∧ (r.cut = false → 1 ≤ r.bytes.length ∧ r.bytes.length ≤ 64)

def valid (s : Nat → List Int) : List Rw → Prop
  | [] => True
  | r :: l => fits s r ∧ valid (one s r) l

theorem valid_app : ∀ (l m : List Rw) (s : Nat → List Int), valid s (l ++ m) ↔ valid s l ∧ valid (dof s l) m
  | [], _, _ => by simp [valid, dof]
  | r :: l, m, s => by simp [valid, dof, valid_app l m, and_assoc]

theorem valid_at {l : List Rw} {s : Nat → List Int} (h : valid s l) {k : Nat} {r : Rw} (hk : l[k]? = some r) : fits (dof s (l.take k)) r := by
  obtain ⟨hlt, rfl⟩ := List.getElem?_eq_some_iff.1 hk
  rw [← List.take_append_drop k l, valid_app, List.drop_eq_getElem_cons hlt] at h
  exact h.2.1

/-- How many bytes are pending. -/
def bulk : List Rw → Nat
  | [] => 0
  | r :: l => r.bytes.length + bulk l

theorem bulk_app : ∀ (l m : List Rw), bulk (l ++ m) = bulk l + bulk m
  | [], _ => by simp [bulk]
  | r :: l, m => by simp [bulk, bulk_app l m]; omega

theorem wth_len (b : List Int) (r : Rw) : (wth b r).length ≤ b.length + r.bytes.length := by
  unfold wth
  split
  · rw [List.length_take]; omega
  · simp

theorem hold_len : ∀ (l : List Rw) (b : List Int) (f : Nat), (hold f b l).length ≤ b.length + bulk l
  | [], _, _ => by simp [hold, bulk]
  | r :: l, b, f => by
    have h1 := hold_len l (if r.file = f then wth b r else b) f
    have h2 := wth_len b r
    simp only [hold, bulk]
    split at h1 <;> simp_all <;> omega

/-- No file, nor what is pending, has more than t bytes in all; no more than u raw steps. -/
def Sz (t u : Nat) (st : Ds) : Prop := (∀ f, (st.sure f).length + bulk st.wait ≤ t) ∧ st.wait.length ≤ u ∧ st.count ≤ u

def Ok (st : Ds) : Prop := valid st.sure st.wait

/-- One raw step is allowed, or the disk goes off. -/
def off (st : Ds) : Bool := st.has && st.left == 0
def burn (st : Ds) : Ds := { st with left := if st.has then st.left - 1 else st.left, count := st.count + 1 }
def dark (st : Ds) : Ds := { st with on := false }
def push (st : Ds) (r : Rw) : Ds := { st with wait := st.wait ++ [r] }

/-- The raw writes of a Write, piece by piece (n: as many bytes at the most). -/
def wrt (file : Nat) : Nat → Ds → List Int → Int × Ds
  | 0, st, _ => (0, st)
  | n + 1, st, bs => if bs = [] then (0, st) else if off st then (6, dark st) else wrt file n (push (burn st) ⟨file, false, 0, bs.take 64⟩) (bs.drop 64)

def inF (file : Int) : Bool := decide (0 ≤ file) && decide (file < 4)

def write (st : Ds) (file : Int) (bs : List Int) : Int × Ds := if st.on = false then (6, st) else if inF file = false then (2, st) else wrt file.toNat bs.length st bs
def cutD (st : Ds) (file len : Int) : Int × Ds := if st.on = false then (6, st) else if inF file = false then (2, st) else if len < 0 ∨ (hold file.toNat (st.sure file.toNat) st.wait).length < len then (2, st) else if off st then (6, dark st) else (0, push (burn st) ⟨file.toNat, true, len.toNat, []⟩)
def flush (st : Ds) : Ds := { st with sure := dof st.sure st.wait, wait := [] }
def sync (st : Ds) : Int × Ds := if st.on = false then (6, st) else if off st then (6, dark st) else (0, flush (burn st))
def fuse (st : Ds) (n : Int) : Int × Ds := if st.on = false then (6, st) else if n < 0 then (2, st) else (0, { st with has := true, left := n.toNat })
def pull (st : Ds) : Int × Ds := if st.on = false then (6, st) else (0, dark st)

/-- What stands of the steps when it is on again with k and t. -/
def kept (st : Ds) (k t : Nat) : Nat → List Int :=
  match st.wait[k]? with
  | some r => if r.cut then dof st.sure (st.wait.take k) else one (dof st.sure (st.wait.take k)) ⟨r.file, false, 0, r.bytes.take (min t (r.bytes.length - 1))⟩
  | none => dof st.sure (st.wait.take k)
def start (st : Ds) (k t : Int) : Int × Ds := if st.on = true ∨ k < 0 ∨ t < 0 then (2, st) else (0, { st with sure := kept st k.toNat t.toNat, wait := [], has := false, on := true })

def new : Ds := ⟨fun _ => [], [], true, false, 0, 0⟩

end Go.Proofs.YtajlhdmnincehaaGreatDoor.Dm
