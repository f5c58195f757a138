/- Plain facts on an op's bytes (its kind, its key behind its count, its value behind its count): no program, no walk. -/
import Derived.Test.YtgcdibglkbfjdaaGreatDoorMath
namespace Go.Proofs.YtgcdibglkbfjdaaGreatDoor.Om
open Vm

/-- Bytes as numbers. -/
def ints (l : List UInt8) : List Int := l.map fun c => (c.toNat : Int)

theorem ints_nil : ints [] = [] := rfl
theorem ints_len (l : List UInt8) : (ints l).length = l.length := by simp [ints]
theorem ints_append (a b : List UInt8) : ints (a ++ b) = ints a ++ ints b := by simp [ints]
theorem ints_inj : ∀ {a b : List UInt8}, ints a = ints b → a = b
  | [], [], _ => rfl
  | [], _ :: _, h => by simp [ints] at h
  | _ :: _, [], h => by simp [ints] at h
  | x :: a, y :: b, h => by
    simp only [ints, List.map_cons, List.cons.injEq] at h
    have h1 : x.toNat = y.toNat := by omega
    rw [UInt8.toNat_inj.1 h1, ints_inj (a := a) (b := b) h.2]

/-- Numbers as bytes. -/
def byts (l : List Int) : List UInt8 := l.map fun z => UInt8.ofNat z.toNat

theorem byts_ints (l : List UInt8) : byts (ints l) = l := by
  simp only [byts, ints, List.map_map]
  conv => rhs; rw [← List.map_id l]
  apply List.map_congr_left
  intro z _
  simp

theorem ints_byts {l : List Int} (h : ∀ z ∈ l, 0 ≤ z ∧ z < 256) : ints (byts l) = l := by
  simp only [byts, ints, List.map_map]
  conv => rhs; rw [← List.map_id l]
  apply List.map_congr_left
  intro z hz
  have := h z hz
  simp
  omega

theorem byts_len (l : List Int) : (byts l).length = l.length := by simp [byts]

/-- What Check answers. -/
def chk (p : Bool) (k v : List UInt8) : Int := if 1 ≤ k.length ∧ k.length ≤ 16 ∧ v.length ≤ 32 ∧ (p = true ∨ v = []) then 0 else 2

theorem chk_ok {p : Bool} {k v : List UInt8} (h : 1 ≤ k.length ∧ k.length ≤ 16 ∧ v.length ≤ 32 ∧ (p = true ∨ v = [])) : chk p k v = 0 := by unfold chk; rw [if_pos h]
theorem chk_no {p : Bool} {k v : List UInt8} (h : ¬ (1 ≤ k.length ∧ k.length ≤ 16 ∧ v.length ≤ 32 ∧ (p = true ∨ v = []))) : chk p k v = 2 := by unfold chk; rw [if_neg h]
theorem chk_ok' {p : Bool} {k v : List UInt8} (h : chk p k v = 0) : 1 ≤ k.length ∧ k.length ≤ 16 ∧ v.length ≤ 32 ∧ (p = true ∨ v = []) := by
  unfold chk at h
  split at h
  · assumption
  · simp at h
theorem chk_two (p : Bool) (k v : List UInt8) : chk p k v = 0 ∨ chk p k v = 2 := by unfold chk; split <;> simp

/-- Bytes behind their count. -/
def cnt (s : List UInt8) : List Int := enc s.length ++ ints s

/-- An op's bytes. -/
def opEnc (p : Bool) (k v : List UInt8) : List Int := (if p then 1 else 0) :: (cnt k ++ if p then cnt v else [])

theorem cnt_len (s : List UInt8) : (cnt s).length = sz s.length + s.length := by simp [cnt, ints_len, sz]

theorem cnt_le {s : List UInt8} (h : s.length ≤ 32) : (cnt s).length ≤ 33 := by
  rw [cnt_len, sz_lo (by omega)]; omega

theorem cnt_short {s : List UInt8} (h : s.length ≤ 32) : cnt s = (s.length : Int) :: ints s := by
  unfold cnt; rw [enc_lo (by omega)]; rfl

theorem opEnc_le {p : Bool} {k v : List UInt8} (h : chk p k v = 0) : (opEnc p k v).length ≤ 51 := by
  have h := chk_ok' h
  have h1 := cnt_len k
  have h2 := cnt_len v
  rw [sz_lo (by omega)] at h1 h2
  unfold opEnc
  cases p <;> simp <;> omega

/-- Two counted rows of bytes with one beginning are one. -/
theorem cnt_free {s t : List UInt8} {bs : List Int} (h : cnt s <+: bs) (k : cnt t <+: bs) : s = t := by
  have h1 : enc s.length <+: bs := (List.prefix_append _ _).trans h
  have k1 : enc t.length <+: bs := (List.prefix_append _ _).trans k
  have e := pre_one bs _ _ h1 k1
  have hl : (cnt s).length = (cnt t).length := by rw [cnt_len, cnt_len, e]
  have : cnt s = cnt t := by
    rw [List.prefix_iff_eq_take] at h k
    rw [h, k, hl]
  unfold cnt at this
  rw [e] at this
  exact ints_inj (List.append_cancel_left this)

/-- What readCounted comes to, of the bytes from its place on. -/
def CRes (bs : List Int) (most : Nat) (s : List UInt8) (n : Nat) (e : Int) : Prop :=
  (e = 0 ∧ s.length ≤ most ∧ cnt s <+: bs ∧ n = (cnt s).length) ∨ (e = 5 ∧ s = [] ∧ n = 0 ∧ ∀ t : List UInt8, t.length ≤ most → ¬ cnt t <+: bs)

/-- What Read comes to. -/
def ORes (bs : List Int) (p : Bool) (k v : List UInt8) (n e : Int) : Prop :=
  (e = 0 ∧ chk p k v = 0 ∧ opEnc p k v <+: bs ∧ n = (opEnc p k v).length) ∨ (e = 5 ∧ p = false ∧ k = [] ∧ v = [] ∧ n = 0 ∧ ∀ p k v, chk p k v = 0 → ¬ opEnc p k v <+: bs)

theorem opEnc_free {p q : Bool} {k v l u : List UInt8} {bs : List Int} (h : opEnc p k v <+: bs) (g : opEnc q l u <+: bs) (hp : chk p k v = 0) (hq : chk q l u = 0) : p = q ∧ k = l ∧ v = u := by
  cases bs with
  | nil => simp [opEnc] at h
  | cons b bs =>
    unfold opEnc at h g
    rw [List.cons_prefix_cons] at h g
    have e : p = q := by
      have := h.1.trans g.1.symm
      clear h g hp hq
      cases p <;> cases q <;> simp_all
    subst e
    have hk : k = l := cnt_free ((List.prefix_append _ _).trans h.2) ((List.prefix_append _ _).trans g.2)
    subst hk
    refine ⟨rfl, rfl, ?_⟩
    cases p
    · have h1 := (chk_ok' hp).2.2.2
      have h2 := (chk_ok' hq).2.2.2
      simp at h1 h2
      rw [h1, h2]
    · obtain ⟨r, hr⟩ := h.2
      obtain ⟨r', hr'⟩ := g.2
      simp only [if_true] at hr hr'
      rw [List.append_assoc] at hr hr'
      have := List.append_cancel_left (hr.trans hr'.symm)
      exact cnt_free (bs := cnt v ++ r) (List.prefix_append _ _) (by rw [this]; exact List.prefix_append _ _)

theorem ores_one {bs : List Int} {p q : Bool} {k v l u : List UInt8} {n m e f : Int} (h : ORes bs p k v n e) (g : ORes bs q l u m f) : p = q ∧ k = l ∧ v = u ∧ n = m ∧ e = f := by
  rcases h with ⟨rfl, h1, h2, rfl⟩ | ⟨rfl, rfl, rfl, rfl, rfl, h⟩ <;> rcases g with ⟨rfl, g1, g2, rfl⟩ | ⟨rfl, rfl, rfl, rfl, rfl, g⟩
  · obtain ⟨rfl, rfl, rfl⟩ := opEnc_free h2 g2 h1 g1
    exact ⟨rfl, rfl, rfl, rfl, rfl⟩
  · exact absurd h2 (g _ _ _ h1)
  · exact absurd g2 (h _ _ _ g1)
  · exact ⟨rfl, rfl, rfl, rfl, rfl⟩

theorem ores_good {bs : List Int} {p q : Bool} {k v l u : List UInt8} {m f : Int} (hc : chk p k v = 0) (h : opEnc p k v <+: bs) (g : ORes bs q l u m f) : q = p ∧ l = k ∧ u = v ∧ m = (opEnc p k v).length ∧ f = 0 := by
  obtain ⟨rfl, rfl, rfl, rfl, rfl⟩ := ores_one (.inl ⟨rfl, hc, h, rfl⟩ : ORes bs p k v _ 0) g
  exact ⟨rfl, rfl, rfl, rfl, rfl⟩

/-- Read: nothing to begin with. -/
theorem ores_nil : ORes [] false [] [] 0 5 := .inr ⟨rfl, rfl, rfl, rfl, rfl, fun p k v _ h => by simp [opEnc] at h⟩

/-- Read: a first byte that is no kind. -/
theorem ores_kind {b : Int} {bs : List Int} (h0 : b ≠ 0) (h1 : b ≠ 1) : ORes (b :: bs) false [] [] 0 5 := by
  refine .inr ⟨rfl, rfl, rfl, rfl, rfl, fun p k v _ h => ?_⟩
  unfold opEnc at h
  rw [List.cons_prefix_cons] at h
  have := h.1
  cases p <;> simp at this <;> omega

/-- Read: no key. -/
theorem ores_key {b : Int} {bs : List Int} {s : List UInt8} {n : Nat} {e : Int} (h : CRes bs 16 s n e) (he : e ≠ 0 ∨ s = []) : ORes (b :: bs) false [] [] 0 5 := by
  refine .inr ⟨rfl, rfl, rfl, rfl, rfl, fun p k v hc hp => ?_⟩
  have hk := chk_ok' hc
  unfold opEnc at hp
  rw [List.cons_prefix_cons] at hp
  have hkp : cnt k <+: bs := (List.prefix_append _ _).trans hp.2
  rcases h with ⟨h1, _, h2, _⟩ | ⟨_, _, _, h3⟩
  · rcases he with he | he
    · exact he h1
    · have := cnt_free h2 hkp
      rw [← this, he] at hk
      simp at hk
  · exact h3 k hk.2.1 hkp

/-- Read: a delete. -/
theorem ores_del {bs : List Int} {s : List UInt8} {n : Nat} (h : CRes bs 16 s n 0) (hs : s ≠ []) : ORes (0 :: bs) false s [] ((1 + n : Nat) : Int) 0 := by
  rcases h with ⟨_, h1, h2, h3⟩ | ⟨h, _⟩
  · have : 0 < s.length := List.length_pos_iff.2 hs
    refine .inl ⟨rfl, chk_ok ⟨by omega, h1, by simp, .inr rfl⟩, ?_, ?_⟩
    · unfold opEnc; simpa using h2
    · unfold opEnc; rw [h3]; simp; omega
  · simp at h

/-- Read: a put. -/
theorem ores_put {bs : List Int} {s t : List UInt8} {n m : Nat} (h : CRes bs 16 s n 0) (hs : s ≠ []) (g : CRes (bs.drop n) 32 t m 0) : ORes (1 :: bs) true s t ((1 + n + m : Nat) : Int) 0 := by
  rcases h with ⟨_, h1, h2, h3⟩ | ⟨h, _⟩
  · rcases g with ⟨_, g1, g2, g3⟩ | ⟨g, _⟩
    · have : 0 < s.length := List.length_pos_iff.2 hs
      refine .inl ⟨rfl, chk_ok ⟨by omega, h1, g1, .inl rfl⟩, ?_, ?_⟩
      · unfold opEnc
        obtain ⟨r, hr⟩ := h2
        rw [h3, ← hr] at g2
        simp at g2
        rw [List.cons_prefix_cons]
        refine ⟨rfl, ?_⟩
        rw [← hr]
        simpa using List.prefix_append_right_inj (cnt s) |>.2 g2
      · unfold opEnc; rw [h3, g3]; simp; omega
    · simp at g
  · simp at h

/-- Read: no value. -/
theorem ores_val {bs : List Int} {s t : List UInt8} {n m : Nat} {e : Int} (h : CRes bs 16 s n 0) (g : CRes (bs.drop n) 32 t m e) (he : e ≠ 0) : ORes (1 :: bs) false [] [] 0 5 := by
  refine .inr ⟨rfl, rfl, rfl, rfl, rfl, fun p k v hc hp => ?_⟩
  have hk := chk_ok' hc
  unfold opEnc at hp
  rw [List.cons_prefix_cons] at hp
  cases p
  · simp at hp
  · have hkp : cnt k <+: bs := (List.prefix_append _ _).trans hp.2
    rcases h with ⟨_, _, h2, h3⟩ | ⟨h, _⟩
    · have e1 := cnt_free h2 hkp
      subst e1
      obtain ⟨r, hr⟩ := h2
      rcases g with ⟨g, _⟩ | ⟨_, _, _, g⟩
      · exact he g
      · refine g v hk.2.2.1 ?_
        rw [h3, ← hr]
        have := hp.2
        rw [← hr] at this
        simp only [if_true] at this
        simpa using (List.prefix_append_right_inj (cnt s)).1 this
    · simp at h

/-- What Append answers. -/
def appd (bs : List Int) (p : Bool) (k v : List UInt8) : List Int := if chk p k v = 0 then bs ++ opEnc p k v else []

theorem appd_ok {bs : List Int} {p : Bool} {k v : List UInt8} (h : chk p k v = 0) : appd bs p k v = bs ++ opEnc p k v := by unfold appd; rw [if_pos h]
theorem appd_no {bs : List Int} {p : Bool} {k v : List UInt8} (h : chk p k v = 2) : appd bs p k v = [] := by unfold appd; rw [if_neg (by omega)]

theorem appd_le (bs : List Int) (p : Bool) (k v : List UInt8) : (appd bs p k v).length ≤ bs.length + 51 := by
  rcases chk_two p k v with h | h
  · rw [appd_ok h, List.length_append]
    have := opEnc_le h
    omega
  · rw [appd_no h]; simp

end Go.Proofs.YtgcdibglkbfjdaaGreatDoor.Om
