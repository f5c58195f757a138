/- Commits, by mathematics: what Check, Encode, Decode and Follows come to. No program. -/
import Derived.Test.YtklpbcdkgjoheaaBm
namespace Go.Proofs.Ytklpbcdkgjoheaa.Cm
open Vm Om Bm
set_option linter.unusedVariables false

/-- A commit. -/
structure Cv where
  e : Int
  n : Int
  l : List Ov

def chk (e n : Int) (l : List Ov) : Int := if 1 ≤ e ∧ e ≤ 1048576 ∧ 1 ≤ n ∧ n ≤ 1048576 then chkL l else 2

theorem chk_in {e n : Int} {l : List Ov} (h : 1 ≤ e ∧ e ≤ 1048576 ∧ 1 ≤ n ∧ n ≤ 1048576) : chk e n l = chkL l := by unfold chk; rw [if_pos h]
theorem chk_out {e n : Int} {l : List Ov} (h : ¬ (1 ≤ e ∧ e ≤ 1048576 ∧ 1 ≤ n ∧ n ≤ 1048576)) : chk e n l = 2 := by unfold chk; rw [if_neg h]

theorem chk_zero {e n : Int} {l : List Ov} (h : chk e n l = 0) : 1 ≤ e ∧ e ≤ 1048576 ∧ 1 ≤ n ∧ n ≤ 1048576 ∧ chkL l = 0 := by
  by_cases hb : 1 ≤ e ∧ e ≤ 1048576 ∧ 1 ≤ n ∧ n ≤ 1048576
  · rw [chk_in hb] at h
    exact ⟨hb.1, hb.2.1, hb.2.2.1, hb.2.2.2, h⟩
  · rw [chk_out hb] at h
    simp at h

theorem chk_three (e n : Int) (l : List Ov) : chk e n l = 0 ∨ chk e n l = 2 ∨ chk e n l = 3 := by
  unfold chk
  split
  · exact chkL_four l
  · exact .inr (.inl rfl)

/-- Its bytes. -/
def encC (e n : Int) (l : List Ov) : List Int := enc e.toNat ++ (enc n.toNat ++ encB l)
def out (e n : Int) (l : List Ov) : List Int := if chk e n l = 0 then encC e n l else []

theorem out_ok {e n : Int} {l : List Ov} (h : chk e n l = 0) : out e n l = encC e n l := by unfold out; rw [if_pos h]
theorem out_no {e n : Int} {l : List Ov} (h : chk e n l ≠ 0) : out e n l = [] := by unfold out; rw [if_neg h]

theorem enc_small {x : Int} (h : x ≤ 1048576) : (enc x.toNat).length ≤ 3 := sz_le 2 x.toNat (by omega)

theorem encC_small {e n : Int} {l : List Ov} (h : chk e n l = 0) : (encC e n l).length ≤ 430 := by
  obtain ⟨_, h1, _, h2, h3⟩ := chk_zero h
  have := enc_small h1
  have := enc_small h2
  have := encB_small h3
  unfold encC
  simp only [List.length_append]
  omega

theorem out_small (e n : Int) (l : List Ov) : (out e n l).length ≤ 430 := by
  by_cases h : chk e n l = 0
  · rw [out_ok h]; exact encC_small h
  · rw [out_no h]; simp

theorem encC_one {e n e' n' : Int} {l l' : List Ov} (h : chk e n l = 0) (h' : chk e' n' l' = 0) (he : encC e n l = encC e' n' l') : e = e' ∧ n = n' ∧ l = l' := by
  obtain ⟨h1, h2, h3, h4, h5⟩ := chk_zero h
  obtain ⟨g1, g2, g3, g4, g5⟩ := chk_zero h'
  unfold encC at he
  have p1 := pre_one (enc e.toNat ++ (enc n.toNat ++ encB l)) e.toNat e'.toNat (List.prefix_append _ _) (by rw [he]; exact List.prefix_append _ _)
  have e1 : e = e' := by omega
  subst e1
  have he2 := List.append_cancel_left he
  have p2 := pre_one (enc n.toNat ++ encB l) n.toNat n'.toNat (List.prefix_append _ _) (by rw [he2]; exact List.prefix_append _ _)
  have e2 : n = n' := by omega
  subst e2
  have he3 := List.append_cancel_left he2
  exact ⟨rfl, rfl, encB_free (List.prefix_refl _) (by rw [he3]; exact List.prefix_refl _) (shapes h5) (shapes g5)⟩

/-- What Decode comes to: the commit, the error. -/
def CRes (bs : List Int) (e n : Int) (l : List Ov) (g : Int) : Prop :=
  (g = 0 ∧ chk e n l = 0 ∧ encC e n l = bs) ∨ (g = 5 ∧ e = 0 ∧ n = 0 ∧ l = [] ∧ ∀ e' n' l', chk e' n' l' = 0 → encC e' n' l' ≠ bs)

theorem cres_one {bs : List Int} {e n e' n' g g' : Int} {l l' : List Ov} (h : CRes bs e n l g) (k : CRes bs e' n' l' g') : e = e' ∧ n = n' ∧ l = l' ∧ g = g' := by
  rcases h with ⟨rfl, h1, h2⟩ | ⟨rfl, rfl, rfl, rfl, h⟩ <;> rcases k with ⟨rfl, k1, k2⟩ | ⟨rfl, rfl, rfl, rfl, k⟩
  · obtain ⟨rfl, rfl, rfl⟩ := encC_one h1 k1 (h2.trans k2.symm)
    exact ⟨rfl, rfl, rfl, rfl⟩
  · exact absurd h2 (k _ _ _ h1)
  · exact absurd k2 (h _ _ _ k1)
  · exact ⟨rfl, rfl, rfl, rfl⟩

theorem cres_good {bs : List Int} {e n e' n' g' : Int} {l l' : List Ov} (hc : chk e n l = 0) (h : encC e n l = bs) (k : CRes bs e' n' l' g') : e' = e ∧ n' = n ∧ l' = l ∧ g' = 0 := by
  obtain ⟨rfl, rfl, rfl, rfl⟩ := cres_one (.inl ⟨rfl, hc, h⟩ : CRes bs e n l 0) k
  exact ⟨rfl, rfl, rfl, rfl⟩

theorem cres_no {bs : List Int} {e n g : Int} {l : List Ov} (h : ∀ e' n' l', chk e' n' l' = 0 → encC e' n' l' ≠ bs) (k : CRes bs e n l g) : e = 0 ∧ n = 0 ∧ l = [] ∧ g = 5 := by
  obtain ⟨rfl, rfl, rfl, rfl⟩ := cres_one (.inr ⟨rfl, rfl, rfl, rfl, h⟩ : CRes bs 0 0 [] 5) k
  exact ⟨rfl, rfl, rfl, rfl⟩

theorem cres_e {bs : List Int} {e n g : Int} {l : List Ov} (h : CRes bs e n l g) : g = 0 ∨ g = 5 := by
  rcases h with ⟨h, _⟩ | ⟨h, _⟩
  · exact .inl h
  · exact .inr h

theorem cres_bounds {bs : List Int} {e n g : Int} {l : List Ov} (h : CRes bs e n l g) : 0 ≤ e ∧ e ≤ 1048576 ∧ 0 ≤ n ∧ n ≤ 1048576 := by
  rcases h with ⟨_, h, _⟩ | ⟨_, rfl, rfl, _⟩
  · obtain ⟨h1, h2, h3, h4, _⟩ := chk_zero h
    omega
  · omega

/-- Bytes that no small number begins. -/
def NoNum (bs : List Int) : Prop := ∀ x : Nat, x ≤ 1048576 → ¬ enc x <+: bs

theorem no_epoch {bs : List Int} (h : NoNum bs) : ∀ e n l, chk e n l = 0 → encC e n l ≠ bs := by
  intro e n l hc he
  obtain ⟨h1, h2, _⟩ := chk_zero hc
  exact h e.toNat (by omega) (by rw [← he]; exact List.prefix_append _ _)

theorem enc_drop {x : Nat} {bs : List Int} (h : enc x <+: bs) : bs = enc x ++ bs.drop (sz x) := by
  obtain ⟨t, rfl⟩ := h
  simp [sz]

theorem no_number {bs : List Int} {x : Nat} (hx : enc x <+: bs) (h : NoNum (bs.drop (sz x))) : ∀ e n l, chk e n l = 0 → encC e n l ≠ bs := by
  intro e n l hc he
  obtain ⟨h1, h2, h3, h4, _⟩ := chk_zero hc
  have p : enc e.toNat <+: bs := by rw [← he]; exact List.prefix_append _ _
  obtain rfl := pre_one _ _ _ hx p
  refine h n.toNat (by omega) ?_
  rw [← he]
  simp [encC, sz]

/-- What follows the two numbers. -/
theorem both_drop {bs : List Int} {x y : Nat} (hx : enc x <+: bs) (hy : enc y <+: bs.drop (sz x)) : bs = enc x ++ (enc y ++ bs.drop (sz x + sz y)) := by
  have h1 := enc_drop hx
  have h2 := enc_drop hy
  rw [List.drop_drop] at h2
  rw [← h2]
  exact h1

theorem enc_pre {bs : List Int} {x y : Nat} {e n : Int} {l : List Ov} (hx : enc x <+: bs) (hy : enc y <+: bs.drop (sz x)) (hc : chk e n l = 0) (he : encC e n l = bs) : e = x ∧ n = y ∧ encB l = bs.drop (sz x + sz y) := by
  obtain ⟨h1, h2, h3, h4, h5⟩ := chk_zero hc
  have p : enc e.toNat <+: bs := by rw [← he]; exact List.prefix_append _ _
  have e1 := pre_one _ _ _ hx p
  have q : enc n.toNat <+: bs.drop (sz x) := by rw [← he, e1]; simp [encC, sz]
  have e2 := pre_one _ _ _ hy q
  refine ⟨by omega, by omega, ?_⟩
  have hb := both_drop hx hy
  rw [← he] at hb
  unfold encC at hb
  rw [e1, e2] at hb
  have := List.append_cancel_left (List.append_cancel_left hb)
  rw [this, ← he, e1, e2, encC]

/-- The batch behind the two numbers is none. -/
theorem no_batch {bs : List Int} {x y : Nat} (hx : enc x <+: bs) (hy : enc y <+: bs.drop (sz x)) (h : ∀ m, chkL m = 0 → ¬ encB m <+: bs.drop (sz x + sz y)) : ∀ e n l, chk e n l = 0 → encC e n l ≠ bs := by
  intro e n l hc he
  obtain ⟨_, _, h3⟩ := enc_pre hx hy hc he
  exact h l (chk_zero hc).2.2.2.2 (by rw [h3]; exact List.prefix_refl _)

/-- There is one, but the commit that it makes may not be, or bytes are left. -/
theorem no_left {bs : List Int} {x y : Nat} {m : List Ov} (hx : enc x <+: bs) (hy : enc y <+: bs.drop (sz x)) (hm : chkL m = 0) (hp : encB m <+: bs.drop (sz x + sz y)) (h : sz x + sz y + (encB m).length ≠ bs.length ∨ chk x y m ≠ 0) : ∀ e n l, chk e n l = 0 → encC e n l ≠ bs := by
  intro e n l hc he
  obtain ⟨rfl, rfl, h3⟩ := enc_pre hx hy hc he
  obtain rfl := encB_free hp (show encB l <+: _ by rw [h3]; exact List.prefix_refl _) (shapes hm) (shapes (chk_zero hc).2.2.2.2)
  rcases h with h | h
  · apply h
    have := congrArg List.length he
    simp only [encC, List.length_append, Int.toNat_natCast] at this
    unfold sz
    omega
  · exact h hc

theorem is_commit {bs : List Int} {x y : Nat} {m : List Ov} (hx : enc x <+: bs) (hy : enc y <+: bs.drop (sz x)) (hp : encB m <+: bs.drop (sz x + sz y)) (hl : sz x + sz y + (encB m).length = bs.length) : encC x y m = bs := by
  have h1 := both_drop hx hy
  have h2 : encB m = bs.drop (sz x + sz y) := by
    obtain ⟨t, ht⟩ := hp
    have := congrArg List.length ht
    simp only [List.length_append, List.length_drop] at this
    have : t = [] := List.eq_nil_of_length_eq_zero (by omega)
    subst this
    simpa using ht
  unfold encC
  rw [Int.toNat_natCast, Int.toNat_natCast, h2]
  exact h1.symm

/-- What Follows comes to: the error, the place. -/
def fol (ep nu : Int) (i : Nat) : List Cv → Int × Int
  | [] => (0, 0)
  | c :: r => if chk c.e c.n c.l ≠ 0 then (chk c.e c.n c.l, i) else if c.n - 1 ≠ nu ∨ c.e < ep then (15, i) else fol c.e c.n (i + 1) r

theorem fol_nil (ep nu : Int) (i : Nat) : fol ep nu i [] = (0, 0) := rfl
theorem fol_bad {ep nu : Int} {i : Nat} {c : Cv} {r : List Cv} (h : chk c.e c.n c.l ≠ 0) : fol ep nu i (c :: r) = (chk c.e c.n c.l, (i : Int)) := by simp [fol, h]
theorem fol_off {ep nu : Int} {i : Nat} {c : Cv} {r : List Cv} (h : chk c.e c.n c.l = 0) (h' : c.n - 1 ≠ nu ∨ c.e < ep) : fol ep nu i (c :: r) = (15, (i : Int)) := by rw [fol, if_neg (by simp [h]), if_pos h']
theorem fol_on {ep nu : Int} {i : Nat} {c : Cv} {r : List Cv} (h : chk c.e c.n c.l = 0) (h' : ¬ (c.n - 1 ≠ nu ∨ c.e < ep)) : fol ep nu i (c :: r) = fol c.e c.n (i + 1) r := by rw [fol, if_neg (by simp [h]), if_neg h']

/-- One fault: what is wrong with c. -/
def flt (at' : Int) (ep nu : Int) (c : Cv) : Int × Int := if chk c.e c.n c.l ≠ 0 then (chk c.e c.n c.l, at') else if c.n - 1 ≠ nu ∨ c.e < ep then (15, at') else (0, 0)

theorem flt_bad {a ep nu : Int} {c : Cv} (h : chk c.e c.n c.l ≠ 0) : flt a ep nu c = (chk c.e c.n c.l, a) := by simp [flt, h]
theorem flt_off {a ep nu : Int} {c : Cv} (h : chk c.e c.n c.l = 0) (h' : c.n - 1 ≠ nu ∨ c.e < ep) : flt a ep nu c = (15, a) := by rw [flt, if_neg (by simp [h]), if_pos h']
theorem flt_on {a ep nu : Int} {c : Cv} (h : chk c.e c.n c.l = 0) (h' : ¬ (c.n - 1 ≠ nu ∨ c.e < ep)) : flt a ep nu c = (0, 0) := by rw [flt, if_neg (by simp [h]), if_neg h']

theorem flt_zero {a ep nu : Int} {c : Cv} (h : (flt a ep nu c).1 = 0) : chk c.e c.n c.l = 0 ∧ ¬ (c.n - 1 ≠ nu ∨ c.e < ep) ∧ (flt a ep nu c).2 = 0 := by
  by_cases h1 : chk c.e c.n c.l = 0
  · by_cases h2 : c.n - 1 ≠ nu ∨ c.e < ep
    · rw [flt_off h1 h2] at h
      simp at h
    · refine ⟨h1, h2, ?_⟩
      rw [flt_on h1 h2]
  · rw [flt_bad h1] at h
    exact absurd h h1

theorem fol_stop {ep nu : Int} {i : Nat} {c : Cv} {r : List Cv} (h : (flt i ep nu c).1 ≠ 0) : fol ep nu i (c :: r) = flt i ep nu c := by
  by_cases h1 : chk c.e c.n c.l = 0
  · by_cases h2 : c.n - 1 ≠ nu ∨ c.e < ep
    · rw [flt_off h1 h2, fol_off h1 h2]
    · rw [flt_on h1 h2] at h
      simp at h
  · rw [flt_bad h1, fol_bad h1]

theorem fol_next {ep nu : Int} {i : Nat} {c : Cv} {r : List Cv} (h : (flt i ep nu c).1 = 0) : fol ep nu i (c :: r) = fol c.e c.n (i + 1) r := by
  obtain ⟨h1, h2, _⟩ := flt_zero h
  exact fol_on h1 h2

/-- All of them follow. -/
def Good (ep nu : Int) : List Cv → Prop
  | [] => True
  | c :: r => chk c.e c.n c.l = 0 ∧ c.n - 1 = nu ∧ ep ≤ c.e ∧ Good c.e c.n r

theorem fol_good : ∀ (l : List Cv) (ep nu : Int) (i : Nat), (fol ep nu i l).1 = 0 ↔ Good ep nu l
  | [], _, _, _ => by simp [fol, Good]
  | c :: r, ep, nu, i => by
    by_cases h1 : chk c.e c.n c.l = 0
    · by_cases h2 : c.n - 1 ≠ nu ∨ c.e < ep
      · rw [fol_off h1 h2]
        simp only [Good]
        constructor
        · intro h; simp at h
        · intro h; omega
      · rw [fol_on h1 h2, fol_good r]
        simp only [Good]
        constructor
        · intro h; exact ⟨h1, by omega, by omega, h⟩
        · intro h; exact h.2.2.2
    · rw [fol_bad h1]
      simp only [Good]
      constructor
      · intro h; exact absurd h h1
      · intro h; exact absurd h.1 h1

theorem fol_at : ∀ (l : List Cv) (ep nu : Int) (i : Nat), (fol ep nu i l).1 = 0 → (fol ep nu i l).2 = 0
  | [], _, _, _, _ => rfl
  | c :: r, ep, nu, i, h => by
    by_cases h1 : chk c.e c.n c.l = 0
    · by_cases h2 : c.n - 1 ≠ nu ∨ c.e < ep
      · rw [fol_off h1 h2] at h
        simp at h
      · rw [fol_on h1 h2] at h ⊢
        exact fol_at r _ _ _ h
    · rw [fol_bad h1] at h
      exact absurd h h1

theorem fol_bounds : ∀ (l : List Cv) (ep nu : Int) (i : Nat), 0 ≤ (fol ep nu i l).2 ∧ (fol ep nu i l).2 ≤ i + l.length ∧ ((fol ep nu i l).1 = 0 ∨ (fol ep nu i l).1 = 2 ∨ (fol ep nu i l).1 = 3 ∨ (fol ep nu i l).1 = 15)
  | [], _, _, _ => by simp [fol]
  | c :: r, ep, nu, i => by
    by_cases h1 : chk c.e c.n c.l = 0
    · by_cases h2 : c.n - 1 ≠ nu ∨ c.e < ep
      · rw [fol_off h1 h2]
        simp
        omega
      · rw [fol_on h1 h2]
        have := fol_bounds r c.e c.n (i + 1)
        simp only [List.length_cons]
        omega
    · rw [fol_bad h1]
      have := chk_three c.e c.n c.l
      simp only [List.length_cons]
      omega

/-- The end behind a list. -/
def lastE (ep : Int) : List Cv → Int
  | [] => ep
  | c :: r => lastE c.e r
def lastN (nu : Int) : List Cv → Int
  | [] => nu
  | c :: r => lastN c.n r

theorem good_app : ∀ (l m : List Cv) (ep nu : Int), Good ep nu (l ++ m) ↔ Good ep nu l ∧ Good (lastE ep l) (lastN nu l) m
  | [], m, _, _ => by simp [Good, lastE, lastN]
  | c :: r, m, ep, nu => by
    simp only [List.cons_append, Good, lastE, lastN, good_app r m]
    constructor
    · rintro ⟨h1, h2, h3, h4, h5⟩; exact ⟨⟨h1, h2, h3, h4⟩, h5⟩
    · rintro ⟨⟨h1, h2, h3, h4⟩, h5⟩; exact ⟨h1, h2, h3, h4, h5⟩

theorem last_snoc : ∀ (l : List Cv) (c : Cv) (ep nu : Int), lastE ep (l ++ [c]) = c.e ∧ lastN nu (l ++ [c]) = c.n
  | [], _, _, _ => ⟨rfl, rfl⟩
  | d :: r, c, ep, nu => by simpa [lastE, lastN] using last_snoc r c d.e d.n

theorem good_take {l : List Cv} {ep nu : Int} (h : Good ep nu l) (k : Nat) : Good ep nu (l.take k) := by
  rw [← List.take_append_drop k l, good_app] at h
  exact h.1

/-- What stands at a place of a list that follows. -/
theorem good_at : ∀ (l : List Cv) (ep nu : Int) (k : Nat) (c : Cv), Good ep nu l → l[k]? = some c → chk c.e c.n c.l = 0 ∧ c.n - 1 - k = nu ∧ lastE ep (l.take k) ≤ c.e ∧ lastN nu (l.take k) = nu + k
  | [], _, _, _, _, _, h => by simp at h
  | d :: r, ep, nu, 0, c, hg, h => by
    simp at h
    subst h
    obtain ⟨h1, h2, h3, _⟩ := hg
    exact ⟨h1, by omega, by simpa [lastE] using h3, by simp [lastN]⟩
  | d :: r, ep, nu, k + 1, c, hg, h => by
    obtain ⟨h1, h2, h3, h4⟩ := hg
    obtain ⟨g1, g2, g3, g4⟩ := good_at r d.e d.n k c h4 (by simpa using h)
    refine ⟨g1, by omega, by simpa [lastE] using g3, ?_⟩
    simp only [List.take_succ_cons, lastN]
    rw [g4]
    omega

theorem fol_app_good : ∀ (l m : List Cv) (ep nu : Int) (i : Nat), Good ep nu l → fol ep nu i (l ++ m) = fol (lastE ep l) (lastN nu l) (i + l.length) m
  | [], m, _, _, _, _ => by simp [lastE, lastN]
  | c :: r, m, ep, nu, i, h => by
    obtain ⟨h1, h2, h3, h4⟩ := h
    rw [List.cons_append, fol_on h1 (by omega), fol_app_good r m _ _ _ h4, List.length_cons, lastE, lastN, show i + 1 + r.length = i + (r.length + 1) by omega]

/-- A list that follows, one of its midst left out. -/
theorem fol_gap {l : List Cv} {ep nu : Int} (h : Good ep nu l) (k : Nat) (hk : k + 1 < l.length) : fol ep nu 0 (l.take k ++ l.drop (k + 1)) = (15, (k : Int)) := by
  rw [fol_app_good _ _ _ _ _ (good_take h k)]
  have e1 : l.drop (k + 1) = l[k + 1] :: l.drop (k + 2) := by rw [List.drop_eq_getElem_cons hk]
  obtain ⟨g1, g2, _, _⟩ := good_at l ep nu (k + 1) l[k + 1] h (by rw [List.getElem?_eq_getElem])
  obtain ⟨k1, k2, _, k4⟩ := good_at l ep nu k l[k] h (by rw [List.getElem?_eq_getElem])
  rw [e1, fol_off g1 (.inl (by omega)), List.length_take]
  congr 1
  omega

end Go.Proofs.Ytklpbcdkgjoheaa.Cm
