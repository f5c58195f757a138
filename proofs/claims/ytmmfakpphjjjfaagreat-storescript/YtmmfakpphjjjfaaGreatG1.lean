/- Texts of one layer, one behind the other. -/

/- Plain facts on the bytes of a number (seven bits a byte, the lowest first): no program, no walk. -/
namespace Go.Proofs.YtmmfakpphjjjfaaGreat.Vm

def enc (x : Nat) : List Int := if _h : x < 128 then [(x : Int)] else ((x % 128 + 128 : Nat) : Int) :: enc (x / 128)

def sz (x : Nat) : Nat := (enc x).length

theorem enc_lo {x : Nat} (h : x < 128) : enc x = [(x : Int)] := by rw [enc, dif_pos h]
theorem enc_hi {x : Nat} (h : ¬ x < 128) : enc x = ((x % 128 + 128 : Nat) : Int) :: enc (x / 128) := by rw [enc, dif_neg h]
theorem sz_lo {x : Nat} (h : x < 128) : sz x = 1 := by unfold sz; rw [enc_lo h]; rfl
theorem sz_hi {x : Nat} (h : ¬ x < 128) : sz x = sz (x / 128) + 1 := by unfold sz; rw [enc_hi h]; rfl
theorem sz_pos (x : Nat) : 1 ≤ sz x := by
 by_cases h : x < 128
 ·rw [sz_lo h]; omega
 ·rw [sz_hi h]; omega

theorem sz_le : ∀ (k x : Nat), x < 128 ^ (k + 1) → sz x ≤ k + 1 := by
 intro k
 induction k with
 | zero => intro x h; rw [sz_lo (by simpa using h)]; omega
 | succ k ih =>
  intro x h
  by_cases hx : x < 128
  ·rw [sz_lo hx]; omega
  ·rw [sz_hi hx]
   have : x / 128 < 128 ^ (k + 1) := by
    rw [Nat.div_lt_iff_lt_mul (by omega)]
    rw [Nat.pow_succ] at h
    exact h
   have := ih _ this
   omega

theorem sz_le10 {x : Nat} (h : x < 18446744073709551616) : sz x ≤ 10 :=
 sz_le 9 x (Nat.lt_of_lt_of_le h (by decide))

theorem pre_cons {a b : Int} {l m : List Int} : a :: l <+: b :: m ↔ a = b ∧ l <+: m := List.cons_prefix_cons

theorem pre_nil (y : Nat) : ¬ enc y <+: [] := by
 intro h
 rw [List.prefix_nil] at h
 have := sz_pos y
 unfold sz at this
 rw [h] at this
 simp at this

theorem pre_lo {y : Nat} {c : Int} {rest : List Int} (hc : c < 128) : enc y <+: c :: rest ↔ (y : Int) = c := by
 by_cases h : y < 128
 ·rw [enc_lo h, pre_cons]
  simp
 ·rw [enc_hi h, pre_cons]
  constructor
  ·intro h; omega
  ·intro h; omega

theorem pre_hi {y : Nat} {c : Int} {rest : List Int} (hc : 128 ≤ c) (hc2 : c < 256) : enc y <+: c :: rest ↔ ∃ y', 1 ≤ y' ∧ y = (c - 128).toNat + 128 * y' ∧ enc y' <+: rest := by
 by_cases h : y < 128
 ·rw [enc_lo h, pre_cons]
  constructor
  ·intro h; omega
  ·rintro ⟨y', h1, h2, _⟩; omega
 ·rw [enc_hi h, pre_cons]
  constructor
  ·rintro ⟨h1, h2⟩
   exact ⟨y / 128, by omega, by omega, h2⟩
  ·rintro ⟨y', h1, h2, h3⟩
   have : y / 128 = y' := by omega
   rw [this]
   exact ⟨by omega, h3⟩

theorem pre_one : ∀ (bs : List Int) (x y : Nat), enc x <+: bs → enc y <+: bs → x = y
 | [], x, _, hx, _ => absurd hx (pre_nil x)
 | c :: rest, x, y, hx, hy => by
  by_cases hx1 : x < 128
  ·rw [enc_lo hx1, pre_cons] at hx
   rw [pre_lo (by omega)] at hy
   omega
  ·by_cases hy1 : y < 128
   ·rw [enc_lo hy1, pre_cons] at hy
    rw [pre_lo (by omega)] at hx
    omega
   ·rw [enc_hi hx1, pre_cons] at hx
    rw [enc_hi hy1, pre_cons] at hy
    have := pre_one rest _ _ hx.2 hy.2
    omega

def Res (bs : List Int) (x n e : Int) : Prop :=
 (∃ u : Nat, u < 18446744073709551616 ∧ enc u <+: bs ∧ x = u ∧ n = sz u ∧ e = 0) ∨ ((∀ u : Nat, u < 18446744073709551616 → ¬ enc u <+: bs) ∧ x = 0 ∧ n = 0 ∧ e = 5)

theorem res_is (bs : List Int) : ∃ x n e, Res bs x n e := by
 by_cases h : ∃ u : Nat, u < 18446744073709551616 ∧ enc u <+: bs
 ·obtain ⟨u, h1, h2⟩ := h
  exact ⟨u, sz u, 0, .inl ⟨u, h1, h2, rfl, rfl, rfl⟩⟩
 ·exact ⟨0, 0, 5, .inr ⟨fun u h1 h2 => h ⟨u, h1, h2⟩, rfl, rfl, rfl⟩⟩

theorem res_bad {bs : List Int} {x n e : Int} (h : Res bs x n e) (hb : ∀ u : Nat, u < 18446744073709551616 → ¬ enc u <+: bs) : x = 0 ∧ n = 0 ∧ e = 5 := by
 rcases h with ⟨u, h1, h2, _⟩ | ⟨_, h⟩
 ·exact absurd h2 (hb u h1)
 ·exact h

theorem res_good {bs : List Int} {x n e : Int} (h : Res bs x n e) {u : Nat} (h1 : u < 18446744073709551616) (h2 : enc u <+: bs) : x = u ∧ n = sz u ∧ e = 0 := by
 rcases h with ⟨v, h3, h4, h⟩ | ⟨hb, _⟩
 ·have := pre_one bs u v h2 h4
  subst this
  exact h
 ·exact absurd h2 (hb u h1)

theorem res_bounds {bs : List Int} {x n e : Int} (h : Res bs x n e) : 0 ≤ x ∧ x < 18446744073709551616 ∧ 0 ≤ n ∧ n ≤ 10 ∧ n ≤ bs.length ∧ (e = 0 ∨ e = 5) := by
 rcases h with ⟨u, h1, h2, rfl, rfl, rfl⟩ | ⟨_, rfl, rfl, rfl⟩
 ·have := sz_le10 h1
  have h3 := h2.length_le
  unfold sz at *
  omega
 ·omega

def Inv (bs : List Int) (n acc : Nat) : Prop :=
 acc < 128 ^ n ∧ (∀ x, enc x <+: bs ↔ ∃ y, (1 ≤ y ∨ n = 0) ∧ x = acc + y * 128 ^ n ∧ enc y <+: bs.drop n) ∧ (∀ y, (1 ≤ y ∨ n = 0) → sz (acc + y * 128 ^ n) = n + sz y) ∧ ∀ y, (1 ≤ y ∨ n = 0) → enc (acc + y * 128 ^ n) = bs.take n ++ enc y

theorem inv_start (bs : List Int) : Inv bs 0 0 := by
 refine ⟨by simp, fun x => ?_, fun y _ => by simp, fun y _ => by simp⟩
 simp

theorem inv_step {bs : List Int} {n acc : Nat} {c : Int} (h : Inv bs n acc) (hn : n < bs.length) (hc : bs.getD n 0 = c) (h1 : 128 ≤ c) (h2 : c < 256) : Inv bs (n + 1) (acc + (c % 128).toNat * 128 ^ n) := by
 obtain ⟨ha, hx, hs, he⟩ := h
 have hd : bs.drop n = c :: bs.drop (n + 1) := by
  rw [List.drop_eq_getElem_cons hn]
  simp [hn] at hc
  rw [hc]
 have hp : 128 ^ (n + 1) = 128 * 128 ^ n := by rw [Nat.pow_succ, Nat.mul_comm]
 have e0 : (c - 128).toNat = (c % 128).toNat := by omega
 have hl : (c % 128).toNat ≤ 127 := by omega
 have key : ∀ y' : Nat, acc + ((c % 128).toNat + 128 * y') * 128 ^ n = acc + (c % 128).toNat * 128 ^ n + y' * 128 ^ (n + 1) := by
  intro y'
  rw [hp, Nat.add_mul, Nat.mul_comm 128 y', Nat.mul_assoc, Nat.add_assoc]
 refine ⟨?_, fun x => ?_, fun y hy => ?_, fun y hy => ?_⟩
 ·rw [hp]
  have : (c % 128).toNat * 128 ^ n ≤ 127 * 128 ^ n := Nat.mul_le_mul_right _ hl
  omega
 ·rw [hx x]
  constructor
  ·rintro ⟨y, hy, rfl, hpre⟩
   rw [hd, pre_hi h1 h2] at hpre
   obtain ⟨y', g1, g2, g3⟩ := hpre
   refine ⟨y', .inl g1, ?_, g3⟩
   rw [g2, e0, key]
  ·rintro ⟨y', hy, rfl, hpre⟩
   have g1 : 1 ≤ y' := by omega
   refine ⟨(c % 128).toNat + 128 * y', .inl (by omega), (key y').symm, ?_⟩
   rw [hd, pre_hi h1 h2]
   exact ⟨y', g1, by omega, hpre⟩
 ·have g1 : 1 ≤ y := by omega
  rw [← key, hs _ (.inl (by omega)), sz_hi (by omega)]
  have : ((c % 128).toNat + 128 * y) / 128 = y := by omega
  rw [this]
  omega
 ·have g1 : 1 ≤ y := by omega
  rw [← key, he _ (.inl (by omega)), enc_hi (by omega)]
  have e1 : ((c % 128).toNat + 128 * y) / 128 = y := by omega
  have e2 : ((((c % 128).toNat + 128 * y) % 128 + 128 : Nat) : Int) = c := by omega
  have e3 : bs[n] = c := by simpa [hn] using hc
  rw [e1, e2, List.take_succ_eq_append_getElem hn, e3]
  simp

theorem inv_short {bs : List Int} {n acc : Nat} (h : Inv bs n acc) (hn : bs.length ≤ n) : ∀ u : Nat, u < 18446744073709551616 → ¬ enc u <+: bs := by
 intro u _ hu
 obtain ⟨y, _, _, hp⟩ := (h.2.1 u).1 hu
 rw [List.drop_eq_nil_of_le hn] at hp
 exact pre_nil y hp

theorem inv_wide {bs : List Int} {acc : Nat} {c : Int} (h : Inv bs 9 acc) (hn : 9 < bs.length) (hc : bs.getD 9 0 = c) (h1 : 1 < c) (h2 : c < 256) : ∀ u : Nat, u < 18446744073709551616 → ¬ enc u <+: bs := by
 intro u hlt hu
 obtain ⟨y, _, rfl, hp⟩ := (h.2.1 u).1 hu
 have hd : bs.drop 9 = c :: bs.drop 10 := by
  rw [List.drop_eq_getElem_cons hn]
  simp [hn] at hc
  rw [hc]
 rw [hd] at hp
 have hy : y ≤ 1 := by
  have : (128 : Nat) ^ 9 = 9223372036854775808 := by decide
  omega
 rw [enc_lo (by omega), pre_cons] at hp
 omega

theorem inv_zero {bs : List Int} {n acc : Nat} (h : Inv bs n acc) (hn : n < bs.length) (hc : bs.getD n 0 = 0) (h1 : 1 ≤ n) : ∀ u : Nat, u < 18446744073709551616 → ¬ enc u <+: bs := by
 intro u _ hu
 obtain ⟨y, hy, rfl, hp⟩ := (h.2.1 u).1 hu
 have hd : bs.drop n = 0 :: bs.drop (n + 1) := by
  rw [List.drop_eq_getElem_cons hn]
  simp [hn] at hc
  rw [hc]
 rw [hd, pre_lo (by omega)] at hp
 omega

theorem inv_end {bs : List Int} {n acc : Nat} {c : Int} (h : Inv bs n acc) (hn : n < bs.length) (hc : bs.getD n 0 = c) (h0 : 0 ≤ c) (h1 : c < 128) (h2 : 1 ≤ c ∨ n = 0) :
  enc (acc + (c % 128).toNat * 128 ^ n) <+: bs ∧ sz (acc + (c % 128).toNat * 128 ^ n) = n + 1 := by
 have hd : bs.drop n = c :: bs.drop (n + 1) := by
  rw [List.drop_eq_getElem_cons hn]
  simp [hn] at hc
  rw [hc]
 have e : (c % 128).toNat = c.toNat := by omega
 rw [e]
 refine ⟨(h.2.1 _).2 ⟨c.toNat, by omega, rfl, ?_⟩, ?_⟩
 ·rw [hd, pre_lo h1]; omega
 ·rw [h.2.2.1 _ (by omega), sz_lo (by omega)]

theorem inv_fits {bs : List Int} {n acc : Nat} {c : Int} (h : Inv bs n acc) (hn : n ≤ 8) (_h0 : 0 ≤ c) : acc + (c % 128).toNat * 128 ^ n < 18446744073709551616 := by
 have hp : 128 ^ n ≤ 128 ^ 8 := Nat.pow_le_pow_right (by omega) hn
 have h8 : (128 : Nat) ^ 8 = 72057594037927936 := by decide
 have : (c % 128).toNat * 128 ^ n ≤ 127 * 128 ^ n := Nat.mul_le_mul_right _ (by omega)
 have := h.1
 omega

theorem inv_fits9 {bs : List Int} {acc : Nat} {c : Int} (h : Inv bs 9 acc) (h0 : 0 ≤ c) (h1 : c ≤ 1) : acc + (c % 128).toNat * 128 ^ 9 < 18446744073709551616 := by
 have h8 : (128 : Nat) ^ 9 = 9223372036854775808 := by decide
 have := h.1
 omega

def dd (n : Nat) (c : Int) : Nat := if n ≤ 8 then (c % 128).toNat else (c % 2).toNat

theorem dd_lt (n : Nat) (c : Int) : dd n c < 128 := by unfold dd; split <;> omega

theorem dd_fits {bs : List Int} {n acc : Nat} (c : Int) (h : Inv bs n acc) (hn : n ≤ 9) : acc + dd n c * 128 ^ n < 18446744073709551616 := by
 unfold dd
 split
 ·have hp : 128 ^ n ≤ 128 ^ 8 := Nat.pow_le_pow_right (by omega) (by assumption)
  have h8 : (128 : Nat) ^ 8 = 72057594037927936 := by decide
  have : (c % 128).toNat * 128 ^ n ≤ 127 * 128 ^ n := Nat.mul_le_mul_right _ (by omega)
  have := h.1
  omega
 ·have : n = 9 := by omega
  subst this
  have h8 : (128 : Nat) ^ 9 = 9223372036854775808 := by decide
  have := h.1
  omega

theorem sz_small {n acc : Nat} (h : acc < 128 ^ n) (hn : 1 ≤ n) : sz acc ≤ n := by
 obtain ⟨m, rfl⟩ : ∃ m, n = m + 1 := ⟨n - 1, by omega⟩
 exact sz_le m acc h

theorem dd_own {bs : List Int} {n acc : Nat} {c : Int} (h : Inv bs n acc) (hn : n < bs.length) (h1 : 1 ≤ dd n c ∨ n = 0) :
  sz (acc + dd n c * 128 ^ n) = n + 1 ∧ (enc (acc + dd n c * 128 ^ n)).getD n 0 = dd n c := by
 have hd := dd_lt n c
 refine ⟨by rw [h.2.2.1 _ h1, sz_lo hd], ?_⟩
 rw [h.2.2.2 _ h1, enc_lo hd]
 have : (bs.take n).length = n := by simp; omega
 simp [this]

theorem dd_cases {bs : List Int} {n acc : Nat} {c : Int} (h : Inv bs n acc) (hs : sz (acc + dd n c * 128 ^ n) = n + 1) : 1 ≤ dd n c ∨ n = 0 := by
 by_cases hd : 1 ≤ dd n c
 ·exact .inl hd
 ·by_cases hn : n = 0
  ·exact .inr hn
  ·have e : dd n c = 0 := by omega
   rw [e] at hs
   have := sz_small h.1 (by omega)
   simp at hs
   omega

theorem dd_bad_len {bs : List Int} {n acc : Nat} {c : Int} (h : Inv bs n acc) (hn9 : n ≤ 9) (hn : n < bs.length) (hc : bs.getD n 0 = c) (h0 : 0 ≤ c) (h1 : c < 128) (hs : sz (acc + dd n c * 128 ^ n) ≠ n + 1) :
  ∀ u : Nat, u < 18446744073709551616 → ¬ enc u <+: bs := by
 have hd : ¬ (1 ≤ dd n c ∨ n = 0) := fun hd => hs (dd_own h hn hd).1
 by_cases h8 : n ≤ 8
 ·unfold dd at hd
  rw [if_pos h8] at hd
  have : c = 0 := by omega
  subst this
  exact inv_zero h hn hc (by omega)
 ·have : n = 9 := by omega
  subst this
  unfold dd at hd
  rw [if_neg h8] at hd
  by_cases hc0 : c = 0
  ·subst hc0
   exact inv_zero h hn hc (by omega)
  ·exact inv_wide h hn hc (by omega) (by omega)

theorem dd_bad_last {bs : List Int} {n acc : Nat} {c : Int} (h : Inv bs n acc) (hn9 : n ≤ 9) (hn : n < bs.length) (hc : bs.getD n 0 = c) (h0 : 0 ≤ c) (h1 : c < 128) (hs : sz (acc + dd n c * 128 ^ n) = n + 1)
  (hl : (enc (acc + dd n c * 128 ^ n)).getD n 0 ≠ c) : ∀ u : Nat, u < 18446744073709551616 → ¬ enc u <+: bs := by
 have hd := dd_cases h hs
 rw [(dd_own h hn hd).2] at hl
 unfold dd at hl
 by_cases h8 : n ≤ 8
 ·rw [if_pos h8] at hl; omega
 ·rw [if_neg h8] at hl
  have : n = 9 := by omega
  subst this
  exact inv_wide h hn hc (by omega) (by omega)

theorem dd_good {bs : List Int} {n acc : Nat} {c : Int} (h : Inv bs n acc) (hn : n < bs.length) (hc : bs.getD n 0 = c) (h0 : 0 ≤ c) (h1 : c < 128) (hs : sz (acc + dd n c * 128 ^ n) = n + 1)
  (hl : (enc (acc + dd n c * 128 ^ n)).getD n 0 = c) : enc (acc + dd n c * 128 ^ n) <+: bs := by
 have hd := dd_cases h hs
 rw [(dd_own h hn hd).2] at hl
 have e : dd n c = (c % 128).toNat := by omega
 rw [e]
 exact (inv_end h hn hc h0 h1 (by omega)).1

theorem inv_ten {bs : List Int} {acc : Nat} {c : Int} (h : Inv bs 9 acc) (hn : 9 < bs.length) (hc : bs.getD 9 0 = c) (h1 : 128 ≤ c) (h2 : c < 256) : ∀ u : Nat, u < 18446744073709551616 → ¬ enc u <+: bs :=
 inv_wide h hn hc (by omega) h2

end Go.Proofs.YtmmfakpphjjjfaaGreat.Vm

/- Plain facts on an op's bytes (its kind, its key behind its count, its value behind its count): no program, no walk. -/
namespace Go.Proofs.YtmmfakpphjjjfaaGreat.Om
open Vm

def ints (l : List UInt8) : List Int := l.map fun c => (c.toNat : Int)

theorem ints_len (l : List UInt8) : (ints l).length = l.length := by simp [ints]
theorem ints_inj : ∀ {a b : List UInt8}, ints a = ints b → a = b
 | [], [], _ => rfl
 | [], _ :: _, h => by simp [ints] at h
 | _ :: _, [], h => by simp [ints] at h
 | x :: a, y :: b, h => by
  simp only [ints, List.map_cons, List.cons.injEq] at h
  have h1 : x.toNat = y.toNat := by omega
  rw [UInt8.toNat_inj.1 h1, ints_inj (a := a) (b := b) h.2]

def byts (l : List Int) : List UInt8 := l.map fun z => UInt8.ofNat z.toNat

theorem ints_byts {l : List Int} (h : ∀ z ∈ l, 0 ≤ z ∧ z < 256) : ints (byts l) = l := by
 simp only [byts, ints, List.map_map]
 conv => rhs; rw [← List.map_id l]
 apply List.map_congr_left
 intro z hz
 have := h z hz
 simp
 omega

theorem byts_len (l : List Int) : (byts l).length = l.length := by simp [byts]

def chk (p : Bool) (k v : List UInt8) : Int := if 1 ≤ k.length ∧ k.length ≤ 16 ∧ v.length ≤ 32 ∧ (p = true ∨ v = []) then 0 else 2

theorem chk_ok {p : Bool} {k v : List UInt8} (h : 1 ≤ k.length ∧ k.length ≤ 16 ∧ v.length ≤ 32 ∧ (p = true ∨ v = [])) : chk p k v = 0 := by unfold chk; rw [if_pos h]
theorem chk_no {p : Bool} {k v : List UInt8} (h : ¬ (1 ≤ k.length ∧ k.length ≤ 16 ∧ v.length ≤ 32 ∧ (p = true ∨ v = []))) : chk p k v = 2 := by unfold chk; rw [if_neg h]
theorem chk_ok' {p : Bool} {k v : List UInt8} (h : chk p k v = 0) : 1 ≤ k.length ∧ k.length ≤ 16 ∧ v.length ≤ 32 ∧ (p = true ∨ v = []) := by
 unfold chk at h
 split at h
 ·assumption
 ·simp at h
theorem chk_two (p : Bool) (k v : List UInt8) : chk p k v = 0 ∨ chk p k v = 2 := by unfold chk; split <;> simp

def cnt (s : List UInt8) : List Int := enc s.length ++ ints s

def opEnc (p : Bool) (k v : List UInt8) : List Int := (if p then 1 else 0) :: (cnt k ++ if p then cnt v else [])

theorem cnt_len (s : List UInt8) : (cnt s).length = sz s.length + s.length := by simp [cnt, ints_len, sz]

theorem cnt_le {s : List UInt8} (h : s.length ≤ 32) : (cnt s).length ≤ 33 := by
 rw [cnt_len, sz_lo (by omega)]; omega

theorem opEnc_le {p : Bool} {k v : List UInt8} (h : chk p k v = 0) : (opEnc p k v).length ≤ 51 := by
 have h := chk_ok' h
 have h1 := cnt_len k
 have h2 := cnt_len v
 rw [sz_lo (by omega)] at h1 h2
 unfold opEnc
 cases p <;> simp <;> omega

theorem cnt_free {s t : List UInt8} {bs : List Int} (h : cnt s <+: bs) (k : cnt t <+: bs) : s = t := by
 have h1 : enc s.length <+: bs := (List.prefix_append _ _).trans h
 have k1 : enc t.length <+: bs := (List.prefix_append _ _).trans k
 have e := pre_one bs _ _ h1 k1
 have hl : (cnt s).length = (cnt t).length := by rw [cnt_len, cnt_len, e]
 have : cnt s = cnt t := by
  rw [List.prefix_iff_eq_take] at h k
  rw [h, k, hl]
 unfold cnt at this
 rw [e] at this
 exact ints_inj (List.append_cancel_left this)

def CRes (bs : List Int) (most : Nat) (s : List UInt8) (n : Nat) (e : Int) : Prop :=
 (e = 0 ∧ s.length ≤ most ∧ cnt s <+: bs ∧ n = (cnt s).length) ∨ (e = 5 ∧ s = [] ∧ n = 0 ∧ ∀ t : List UInt8, t.length ≤ most → ¬ cnt t <+: bs)

def ORes (bs : List Int) (p : Bool) (k v : List UInt8) (n e : Int) : Prop :=
 (e = 0 ∧ chk p k v = 0 ∧ opEnc p k v <+: bs ∧ n = (opEnc p k v).length) ∨ (e = 5 ∧ p = false ∧ k = [] ∧ v = [] ∧ n = 0 ∧ ∀ p k v, chk p k v = 0 → ¬ opEnc p k v <+: bs)

theorem opEnc_free {p q : Bool} {k v l u : List UInt8} {bs : List Int} (h : opEnc p k v <+: bs) (g : opEnc q l u <+: bs) (hp : chk p k v = 0) (hq : chk q l u = 0) : p = q ∧ k = l ∧ v = u := by
 cases bs with
 | nil => simp [opEnc] at h
 | cons b bs =>
  unfold opEnc at h g
  rw [List.cons_prefix_cons] at h g
  have e : p = q := by
   have := h.1.trans g.1.symm
   clear h g hp hq
   cases p <;> cases q <;> simp_all
  subst e
  have hk : k = l := cnt_free ((List.prefix_append _ _).trans h.2) ((List.prefix_append _ _).trans g.2)
  subst hk
  refine ⟨rfl, rfl, ?_⟩
  cases p
  ·have h1 := (chk_ok' hp).2.2.2
   have h2 := (chk_ok' hq).2.2.2
   simp at h1 h2
   rw [h1, h2]
  ·obtain ⟨r, hr⟩ := h.2
   obtain ⟨r', hr'⟩ := g.2
   simp only [if_true] at hr hr'
   rw [List.append_assoc] at hr hr'
   have := List.append_cancel_left (hr.trans hr'.symm)
   exact cnt_free (bs := cnt v ++ r) (List.prefix_append _ _) (by rw [this]; exact List.prefix_append _ _)

theorem ores_nil : ORes [] false [] [] 0 5 := .inr ⟨rfl, rfl, rfl, rfl, rfl, fun p k v _ h => by simp [opEnc] at h⟩

theorem ores_kind {b : Int} {bs : List Int} (h0 : b ≠ 0) (h1 : b ≠ 1) : ORes (b :: bs) false [] [] 0 5 := by
 refine .inr ⟨rfl, rfl, rfl, rfl, rfl, fun p k v _ h => ?_⟩
 unfold opEnc at h
 rw [List.cons_prefix_cons] at h
 have := h.1
 cases p <;> simp at this <;> omega

theorem ores_key {b : Int} {bs : List Int} {s : List UInt8} {n : Nat} {e : Int} (h : CRes bs 16 s n e) (he : e ≠ 0 ∨ s = []) : ORes (b :: bs) false [] [] 0 5 := by
 refine .inr ⟨rfl, rfl, rfl, rfl, rfl, fun p k v hc hp => ?_⟩
 have hk := chk_ok' hc
 unfold opEnc at hp
 rw [List.cons_prefix_cons] at hp
 have hkp : cnt k <+: bs := (List.prefix_append _ _).trans hp.2
 rcases h with ⟨h1, _, h2, _⟩ | ⟨_, _, _, h3⟩
 ·rcases he with he | he
  ·exact he h1
  ·have := cnt_free h2 hkp
   rw [← this, he] at hk
   simp at hk
 ·exact h3 k hk.2.1 hkp

theorem ores_del {bs : List Int} {s : List UInt8} {n : Nat} (h : CRes bs 16 s n 0) (hs : s ≠ []) : ORes (0 :: bs) false s [] ((1 + n : Nat) : Int) 0 := by
 rcases h with ⟨_, h1, h2, h3⟩ | ⟨h, _⟩
 ·have : 0 < s.length := List.length_pos_iff.2 hs
  refine .inl ⟨rfl, chk_ok ⟨by omega, h1, by simp, .inr rfl⟩, ?_, ?_⟩
  ·unfold opEnc; simpa using h2
  ·unfold opEnc; rw [h3]; simp; omega
 ·simp at h

theorem ores_put {bs : List Int} {s t : List UInt8} {n m : Nat} (h : CRes bs 16 s n 0) (hs : s ≠ []) (g : CRes (bs.drop n) 32 t m 0) : ORes (1 :: bs) true s t ((1 + n + m : Nat) : Int) 0 := by
 rcases h with ⟨_, h1, h2, h3⟩ | ⟨h, _⟩
 ·rcases g with ⟨_, g1, g2, g3⟩ | ⟨g, _⟩
  ·have : 0 < s.length := List.length_pos_iff.2 hs
   refine .inl ⟨rfl, chk_ok ⟨by omega, h1, g1, .inl rfl⟩, ?_, ?_⟩
   ·unfold opEnc
    obtain ⟨r, hr⟩ := h2
    rw [h3, ← hr] at g2
    simp at g2
    rw [List.cons_prefix_cons]
    refine ⟨rfl, ?_⟩
    rw [← hr]
    simpa using List.prefix_append_right_inj (cnt s) |>.2 g2
   ·unfold opEnc; rw [h3, g3]; simp; omega
  ·simp at g
 ·simp at h

theorem ores_val {bs : List Int} {s t : List UInt8} {n m : Nat} {e : Int} (h : CRes bs 16 s n 0) (g : CRes (bs.drop n) 32 t m e) (he : e ≠ 0) : ORes (1 :: bs) false [] [] 0 5 := by
 refine .inr ⟨rfl, rfl, rfl, rfl, rfl, fun p k v hc hp => ?_⟩
 have hk := chk_ok' hc
 unfold opEnc at hp
 rw [List.cons_prefix_cons] at hp
 cases p
 ·simp at hp
 ·have hkp : cnt k <+: bs := (List.prefix_append _ _).trans hp.2
  rcases h with ⟨_, _, h2, h3⟩ | ⟨h, _⟩
  ·have e1 := cnt_free h2 hkp
   subst e1
   obtain ⟨r, hr⟩ := h2
   rcases g with ⟨g, _⟩ | ⟨_, _, _, g⟩
   ·exact he g
   ·refine g v hk.2.2.1 ?_
    rw [h3, ← hr]
    have := hp.2
    rw [← hr] at this
    simp only [if_true] at this
    simpa using (List.prefix_append_right_inj (cnt s)).1 this
  ·simp at h

def appd (bs : List Int) (p : Bool) (k v : List UInt8) : List Int := if chk p k v = 0 then bs ++ opEnc p k v else []

theorem appd_ok {bs : List Int} {p : Bool} {k v : List UInt8} (h : chk p k v = 0) : appd bs p k v = bs ++ opEnc p k v := by unfold appd; rw [if_pos h]
theorem appd_no {bs : List Int} {p : Bool} {k v : List UInt8} (h : chk p k v = 2) : appd bs p k v = [] := by unfold appd; rw [if_neg (by omega)]

end Go.Proofs.YtmmfakpphjjjfaaGreat.Om

/- Plain facts on a batch's bytes (how many ops; each op's kind, how much of its key it shares with the one ahead, the rest, its value): no program, no walk. -/
namespace Go.Proofs.YtmmfakpphjjjfaaGreat.Bm
open Vm Om

structure Ov where
 p : Bool
 k : ByteArray
 v : ByteArray

def Ov.kl (o : Ov) : List UInt8 := o.k.data.toList
def Ov.vl (o : Ov) : List UInt8 := o.v.data.toList
def Ov.c (o : Ov) : Int := chk o.p o.kl o.vl
def Ov.bit (o : Ov) : Nat := if o.p then 1 else 0

theorem ba_eq {a b : ByteArray} (h : a.data.toList = b.data.toList) : a = b := by
 obtain ⟨⟨a⟩⟩ := a
 obtain ⟨⟨b⟩⟩ := b
 simp at h
 rw [h]

theorem Ov.eq {o q : Ov} (h1 : o.p = q.p) (h2 : o.kl = q.kl) (h3 : o.vl = q.vl) : o = q := by
 obtain ⟨p, k, v⟩ := o
 obtain ⟨p', k', v'⟩ := q
 have e2 : k = k' := ba_eq h2
 have e3 : v = v' := ba_eq h3
 have e1 : p = p' := h1
 rw [e1, e2, e3]

def com : List UInt8 → List UInt8 → Nat
 | x :: a, y :: b => if x = y then com a b + 1 else 0
 | _, _ => 0

theorem com_le : ∀ (a b : List UInt8), com a b ≤ a.length ∧ com a b ≤ b.length ∧ b.take (com a b) = a.take (com a b)
 | [], b => by simp [com]
 | x :: a, [] => by simp [com]
 | x :: a, y :: b => by
  have := com_le a b
  unfold com
  split
  ·rename_i h
   subst h
   simp [this.1, this.2.1, this.2.2]
  ·simp

def first : List Ov → Int
 | [] => 0
 | o :: r => if o.c = 0 then first r else 2

theorem first_two : ∀ (l : List Ov), first l = 0 ∨ first l = 2
 | [] => .inl rfl
 | o :: r => by unfold first; split; exact first_two r; exact .inr rfl

theorem first_zero : ∀ {l : List Ov}, first l = 0 → ∀ o ∈ l, o.c = 0
 | [], _, o, ho => by simp at ho
 | q :: r, h, o, ho => by
  unfold first at h
  split at h
  ·rcases List.mem_cons.1 ho with rfl | ho
   ·assumption
   ·exact first_zero h o ho
  ·simp at h

theorem first_all : ∀ {l : List Ov}, (∀ o ∈ l, o.c = 0) → first l = 0
 | [], _ => rfl
 | q :: r, h => by
  unfold first
  rw [if_pos (h q (by simp)), first_all fun o ho => h o (by simp [ho])]

theorem first_bad {l : List Ov} {o : Ov} (ho : o ∈ l) (h : o.c ≠ 0) : first l = 2 := by
 rcases first_two l with h' | h'
 ·exact absurd (first_zero h' o ho) h
 ·exact h'

def chkL (l : List Ov) : Int := if l.length = 0 then 2 else if 8 < l.length then 3 else first l

theorem chkL_long {l : List Ov} (h : 8 < l.length) : chkL l = 3 := by unfold chkL; rw [if_neg (by omega), if_pos h]
theorem chkL_mid {l : List Ov} (h : l.length ≠ 0) (h' : ¬ 8 < l.length) : chkL l = first l := by unfold chkL; rw [if_neg h, if_neg h']
theorem chkL_zero {l : List Ov} (h : chkL l = 0) : 1 ≤ l.length ∧ l.length ≤ 8 ∧ ∀ o ∈ l, o.c = 0 := by
 unfold chkL at h
 split at h
 ·simp at h
 ·split at h
  ·simp at h
  ·exact ⟨by omega, by omega, first_zero h⟩

def pre4 (kind sh : Nat) (rest : List UInt8) : List Int := enc kind ++ (enc sh ++ (enc rest.length ++ ints rest))

def encO (ah : List UInt8) (o : Ov) : List Int := pre4 o.bit (com ah o.kl) (o.kl.drop (com ah o.kl)) ++ if o.p then cnt o.vl else []

def encL (ah : List UInt8) : List Ov → List Int
 | [] => []
 | o :: r => encO ah o ++ encL o.kl r

def encB (l : List Ov) : List Int := enc l.length ++ encL [] l

theorem pre_app {A X bs : List Int} : A ++ X <+: bs ↔ A <+: bs ∧ X <+: bs.drop A.length := by
 constructor
 ·intro h
  refine ⟨(List.prefix_append _ _).trans h, ?_⟩
  obtain ⟨r, rfl⟩ := h
  rw [List.append_assoc, List.drop_left]
  exact List.prefix_append _ _
 ·rintro ⟨⟨r, rfl⟩, h⟩
  rw [List.drop_left] at h
  exact (List.prefix_append_right_inj _).2 h

theorem ints_pre {s t : List UInt8} {bs : List Int} (h : ints s <+: bs) (k : ints t <+: bs) (hl : s.length = t.length) : s = t := by
 rw [List.prefix_iff_eq_take] at h k
 apply ints_inj
 rw [h, k, ints_len, ints_len, hl]

theorem pre4_free {a b c d : Nat} {r s : List UInt8} {bs : List Int} (h : pre4 a b r <+: bs) (g : pre4 c d s <+: bs) : a = c ∧ b = d ∧ r = s := by
 unfold pre4 at h g
 rw [pre_app, pre_app, pre_app] at h g
 obtain ⟨h1, h2, h3, h4⟩ := h
 obtain ⟨g1, g2, g3, g4⟩ := g
 obtain rfl := pre_one _ _ _ h1 g1
 obtain rfl := pre_one _ _ _ h2 g2
 have e := pre_one _ _ _ h3 g3
 rw [e] at h4
 exact ⟨rfl, rfl, ints_pre h4 g4 e⟩

def Ov.shape (o : Ov) : Prop := o.p = true ∨ o.vl = []

theorem Ov.shape_of {o : Ov} (h : o.c = 0) : o.shape := (chk_ok' h).2.2.2

theorem key_of (ah : List UInt8) (k : List UInt8) : ah.take (com ah k) ++ k.drop (com ah k) = k := by
 rw [← (com_le ah k).2.2, List.take_append_drop]

theorem bit_eq {o q : Ov} (h : o.bit = q.bit) : o.p = q.p := by
 unfold Ov.bit at h
 cases h1 : o.p <;> cases h2 : q.p <;> simp_all

theorem encO_free {ah : List UInt8} {o q : Ov} {bs : List Int} (h : encO ah o <+: bs) (g : encO ah q <+: bs) (ho : o.shape) (hq : q.shape) : o = q := by
 unfold encO at h g
 rw [pre_app] at h g
 obtain ⟨h1, h2⟩ := h
 obtain ⟨g1, g2⟩ := g
 obtain ⟨e1, e2, e3⟩ := pre4_free h1 g1
 have ek : o.kl = q.kl := by
  rw [← key_of ah o.kl, ← key_of ah q.kl, e2]
  rw [e2] at e3
  rw [e3]
 have ep := bit_eq e1
 refine Ov.eq ep ek ?_
 have el : o.kl.length = q.kl.length := by rw [ek]
 rw [e1, ek] at h2
 cases hp : o.p
 ·have := ho
  have := hq
  unfold Ov.shape at *
  rw [← ep] at *
  simp_all
 ·rw [hp] at h2
  rw [← ep, hp] at g2
  simp only [if_true] at h2 g2
  exact cnt_free h2 g2

theorem encL_free : ∀ (ah : List UInt8) (l m : List Ov) (bs : List Int), l.length = m.length → (∀ o ∈ l, o.shape) → (∀ o ∈ m, o.shape) → encL ah l <+: bs → encL ah m <+: bs → l = m
 | _, [], [], _, _, _, _, _, _ => rfl
 | _, [], _ :: _, _, h, _, _, _, _ => by simp at h
 | _, _ :: _, [], _, h, _, _, _, _ => by simp at h
 | ah, o :: l, q :: m, bs, hl, h1, h2, h, g => by
  unfold encL at h g
  rw [pre_app] at h g
  obtain rfl := encO_free h.1 g.1 (h1 o (by simp)) (h2 q (by simp))
  rw [encL_free o.kl l m _ (by simpa using hl) (fun x hx => h1 x (by simp [hx])) (fun x hx => h2 x (by simp [hx])) h.2 g.2]

theorem encB_free {l m : List Ov} {bs : List Int} (h : encB l <+: bs) (g : encB m <+: bs) (hl : ∀ o ∈ l, o.shape) (hm : ∀ o ∈ m, o.shape) : l = m := by
 unfold encB at h g
 rw [pre_app] at h g
 have e := pre_one _ _ _ h.1 g.1
 rw [e] at h
 exact encL_free [] l m _ e hl hm h.2 g.2

def lst (ah : List UInt8) : List Ov → List UInt8
 | [] => ah
 | o :: r => lst o.kl r

theorem shapes {l : List Ov} (h : chkL l = 0) : ∀ o ∈ l, o.shape := fun o ho => Ov.shape_of ((chkL_zero h).2.2 o ho)

def SS (bs : List Int) (most a : Nat) (bad : Bool) (u a' : Nat) (bad' : Bool) : Prop :=
 (bad = true ∧ bad' = true ∧ u = 0 ∧ a' = a) ∨ (bad = false ∧ bad' = true ∧ u = 0 ∧ a' = a ∧ ∀ x : Nat, x ≤ most → ¬ enc x <+: bs.drop a) ∨ (bad = false ∧ bad' = false ∧ u ≤ most ∧ enc u <+: bs.drop a ∧ a' = a + sz u)

def No (bs : List Int) (a : Nat) (ah : List UInt8) : Prop := ∀ q : Ov, q.c = 0 → ¬ encO ah q <+: bs.drop a

def PS (bs : List Int) (a : Nat) (bad : Bool) (ah : List UInt8) (kind sh n : Nat) (zs : List Int) (a4 : Nat) (bad4 : Bool) : Prop :=
 (bad4 = false ∧ bad = false ∧ kind ≤ 1 ∧ sh ≤ ah.length ∧ zs.length = n ∧ pre4 kind sh (byts zs) <+: bs.drop a ∧ a4 = a + (pre4 kind sh (byts zs)).length) ∨ (bad4 = true ∧ (bad = false → No bs a ah))

theorem bit_le (q : Ov) : q.bit ≤ 1 := by unfold Ov.bit; split <;> omega

def NB (bs : List Int) : Prop := ∀ m : List Ov, chkL m = 0 → ¬ encB m <+: bs

def sum : List Ov → Nat
 | [] => 0
 | o :: r => (opEnc o.p o.kl o.vl).length + sum r

theorem encO_le (ah : List UInt8) {o : Ov} (h : o.c = 0) : (encO ah o).length ≤ (opEnc o.p o.kl o.vl).length + 1 := by
 have hh := chk_ok' h
 have hc := com_le ah o.kl
 have hb := bit_le o
 unfold encO pre4 opEnc
 have e1 : (enc o.bit).length = 1 := by have := sz_lo (x := o.bit) (by omega); exact this
 have e2 : (enc (com ah o.kl)).length = 1 := by have := sz_lo (x := com ah o.kl) (by omega); exact this
 have e3 : (enc (o.kl.length - com ah o.kl)).length = 1 := by have := sz_lo (x := o.kl.length - com ah o.kl) (by omega); exact this
 have e4 := cnt_len o.kl
 rw [sz_lo (by omega)] at e4
 simp only [List.length_append, List.length_cons, List.length_drop, e1, e2, e3, e4, ints_len]
 split <;> simp <;> omega

theorem encL_le : ∀ (ah : List UInt8) (l : List Ov), (∀ o ∈ l, o.c = 0) → (encL ah l).length ≤ sum l + l.length
 | _, [], _ => by simp [encL, sum]
 | ah, o :: l, h => by
  have h1 := encO_le ah (h o (by simp))
  have h2 := encL_le o.kl l fun x hx => h x (by simp [hx])
  simp only [encL, sum, List.length_append, List.length_cons]
  omega

theorem encB_le {l : List Ov} (h : chkL l = 0) : (encB l).length ≤ 9 + sum l := by
 obtain ⟨h1, h2, h3⟩ := chkL_zero h
 have := encL_le [] l h3
 have e : (enc l.length).length = 1 := by have := sz_lo (x := l.length) (by omega); exact this
 unfold encB
 rw [List.length_append, e]
 omega

theorem sum_le : ∀ {l : List Ov}, (∀ o ∈ l, o.c = 0) → sum l ≤ 51 * l.length
 | [], _ => by simp [sum]
 | o :: l, h => by
  have h1 := opEnc_le (h o (by simp))
  have h2 := sum_le (l := l) fun x hx => h x (by simp [hx])
  simp only [sum, List.length_cons]
  unfold Ov.kl Ov.vl at *
  omega

theorem encB_small {l : List Ov} (h : chkL l = 0) : (encB l).length ≤ 420 := by
 have := encB_le h
 obtain ⟨h1, h2, h3⟩ := chkL_zero h
 have := sum_le h3
 omega

def eqO (o q : Ov) : Bool := (o.p == q.p) && (decide (o.kl = q.kl) && decide (o.vl = q.vl))

theorem eqO_iff {o q : Ov} : eqO o q = true ↔ o = q := by
 unfold eqO
 constructor
 ·intro h
  simp at h
  exact Ov.eq h.1 h.2.1 h.2.2
 ·rintro rfl
  simp

def sameL : List Ov → List Ov → Bool
 | [], [] => true
 | o :: l, q :: m => eqO o q && sameL l m
 | _, _ => false

theorem sameL_iff : ∀ {l m : List Ov}, sameL l m = true ↔ l = m
 | [], [] => by simp [sameL]
 | [], _ :: _ => by simp [sameL]
 | _ :: _, [] => by simp [sameL]
 | o :: l, q :: m => by simp [sameL, eqO_iff, sameL_iff (l := l) (m := m)]

theorem sameL_self (l : List Ov) : sameL l l = true := sameL_iff.2 rfl
theorem sameL_no {l m : List Ov} (h : l ≠ m) : sameL l m = false := by
 cases hs : sameL l m
 ·rfl
 ·exact absurd (sameL_iff.1 hs) h

end Go.Proofs.YtmmfakpphjjjfaaGreat.Bm
