/- Starts, by mathematics: where epochs begin, which epoch a number has, where two logs part. No program. -/
import Derived.Test.YtklpbcdkgjoheaaCm
namespace Go.Proofs.Ytklpbcdkgjoheaa.Sm
set_option linter.unusedVariables false

/-- A start: an epoch, its first number. -/
abbrev S := Int × Int

/-- They rise from (e, f) on, within their bounds. -/
def Up (en : Int) : Int → Int → List S → Prop
  | _, _, [] => True
  | e, f, s :: r => e < s.1 ∧ s.1 ≤ 1048576 ∧ f < s.2 ∧ s.2 ≤ en ∧ Up en s.1 s.2 r

def upb (en : Int) : Int → Int → List S → Bool
  | _, _, [] => true
  | e, f, s :: r => (decide (e < s.1) && decide (s.1 ≤ 1048576)) && ((decide (f < s.2) && decide (s.2 ≤ en)) && upb en s.1 s.2 r)

theorem upb_iff (en : Int) : ∀ (e f : Int) (l : List S), upb en e f l = true ↔ Up en e f l
  | _, _, [] => ⟨fun _ => trivial, fun _ => rfl⟩
  | e, f, s :: r => by
    unfold upb Up
    rw [Bool.and_eq_true, Bool.and_eq_true, Bool.and_eq_true, Bool.and_eq_true, upb_iff en s.1 s.2 r, decide_eq_true_iff, decide_eq_true_iff, decide_eq_true_iff, decide_eq_true_iff]
    constructor
    · rintro ⟨⟨h1, h2⟩, ⟨h3, h4⟩, h5⟩
      exact ⟨h1, h2, h3, h4, h5⟩
    · rintro ⟨h1, h2, h3, h4, h5⟩
      exact ⟨⟨h1, h2⟩, ⟨h3, h4⟩, h5⟩

def Ok (l : List S) (en : Int) : Prop := 0 ≤ en ∧ en ≤ 1048576 ∧ (l.length = 0 ↔ en = 0) ∧ Up en 0 0 l ∧ ((l.map Prod.snd).headD 1 = 1)

def okb (l : List S) (en : Int) : Bool := (decide (0 ≤ en) && decide (en ≤ 1048576)) && (decide (l.length = 0 ↔ en = 0) && (upb en 0 0 l && decide ((l.map Prod.snd).headD 1 = 1)))

theorem okb_iff {l : List S} {en : Int} : okb l en = true ↔ Ok l en := by
  unfold okb Ok
  rw [Bool.and_eq_true, Bool.and_eq_true, Bool.and_eq_true, Bool.and_eq_true, upb_iff, decide_eq_true_iff, decide_eq_true_iff, decide_eq_true_iff, decide_eq_true_iff]
  constructor
  · rintro ⟨⟨h1, h2⟩, h3, h4, h5⟩
    exact ⟨h1, h2, h3, h4, h5⟩
  · rintro ⟨h1, h2, h3, h4, h5⟩
    exact ⟨⟨h1, h2⟩, h3, h4, h5⟩

def chk (l : List S) (en : Int) : Int := if okb l en = true then 0 else 5

theorem chk_ok {l : List S} {en : Int} (h : Ok l en) : chk l en = 0 := if_pos (okb_iff.2 h)
theorem chk_no {l : List S} {en : Int} (h : ¬ Ok l en) : chk l en = 5 := if_neg fun k => h (okb_iff.1 k)
theorem chk_zero {l : List S} {en : Int} : chk l en = 0 ↔ Ok l en := by
  constructor
  · intro h
    by_cases k : Ok l en
    · exact k
    · rw [chk_no k] at h; simp at h
  · exact chk_ok

/-- The epoch of a number. -/
def epo (n : Int) : Int → List S → Int
  | e, [] => e
  | e, s :: r => if s.2 ≤ n then epo n s.1 r else e

/-- Those that have begun by n. -/
def beg (n : Int) : List S → List S
  | [] => []
  | s :: r => if s.2 ≤ n then s :: beg n r else []

def lst (l : List S) : Int := ((l.map Prod.fst).getLast?).getD 0

theorem lst_nil : lst [] = 0 := rfl
theorem lst_snoc (l : List S) (s : S) : lst (l ++ [s]) = s.1 := by simp [lst]
theorem lst_at {l : List S} {s : S} (h : l[l.length - 1]? = some s) : lst l = s.1 := by
  unfold lst
  rw [List.getLast?_eq_getElem?, List.length_map, List.getElem?_map, h]
  rfl

/-- Places of a rising row. -/
theorem up_at : ∀ (l : List S) (en e f : Int), Up en e f l → ∀ (i : Nat) (s : S), l[i]? = some s → e < s.1 ∧ s.1 ≤ 1048576 ∧ f < s.2 ∧ s.2 ≤ en
  | [], _, _, _, _, _, _, h => by simp at h
  | t :: r, en, e, f, h, 0, s, hs => by
    simp at hs
    subst hs
    exact ⟨h.1, h.2.1, h.2.2.1, h.2.2.2.1⟩
  | t :: r, en, e, f, h, i + 1, s, hs => by
    have := up_at r en t.1 t.2 h.2.2.2.2 i s (by simpa using hs)
    have := h.1
    have := h.2.2.1
    omega

theorem up_lt : ∀ (l : List S) (en e f : Int), Up en e f l → ∀ (i j : Nat) (s t : S), i < j → l[i]? = some s → l[j]? = some t → s.1 < t.1 ∧ s.2 < t.2
  | [], _, _, _, _, _, _, _, _, _, h, _ => by simp at h
  | a :: r, en, e, f, h, 0, j, s, t, hij, hs, ht => by
    simp at hs
    subst hs
    obtain ⟨j, rfl⟩ : ∃ k, j = k + 1 := ⟨j - 1, by omega⟩
    have := up_at r en a.1 a.2 h.2.2.2.2 j t (by simpa using ht)
    omega
  | a :: r, en, e, f, h, i + 1, j, s, t, hij, hs, ht => by
    obtain ⟨j, rfl⟩ : ∃ k, j = k + 1 := ⟨j - 1, by omega⟩
    exact up_lt r en a.1 a.2 h.2.2.2.2 i j s t (by omega) (by simpa using hs) (by simpa using ht)

theorem up_drop {l : List S} {k : Nat} {s : S} {en e f : Int} (h : l[k]? = some s) : Up en e f (l.drop k) ↔ e < s.1 ∧ s.1 ≤ 1048576 ∧ f < s.2 ∧ s.2 ≤ en ∧ Up en s.1 s.2 (l.drop (k + 1)) := by
  have hk := (List.getElem?_eq_some_iff.1 h).1
  rw [List.drop_eq_getElem_cons hk, (List.getElem?_eq_some_iff.1 h).2]
  rfl

/-- The front that has begun. -/
theorem beg_take : ∀ (n : Int) (l : List S), beg n l = l.take (beg n l).length
  | _, [] => by simp [beg]
  | n, s :: r => by
    unfold beg
    split
    · rw [List.length_cons, List.take_succ_cons, ← beg_take n r]
    · simp

theorem beg_le (n : Int) (l : List S) : (beg n l).length ≤ l.length := by
  have := congrArg List.length (beg_take n l)
  rw [List.length_take] at this
  omega

theorem beg_in : ∀ (n : Int) (l : List S) (i : Nat) (s : S), i < (beg n l).length → l[i]? = some s → s.2 ≤ n
  | _, [], _, _, h, _ => by simp [beg] at h
  | n, t :: r, i, s, h, hs => by
    unfold beg at h
    split at h
    · rename_i ht
      cases i with
      | zero => simp at hs; subst hs; exact ht
      | succ i => exact beg_in n r i s (by simpa using h) (by simpa using hs)
    · simp at h

theorem beg_out : ∀ (n : Int) (l : List S) (s : S), l[(beg n l).length]? = some s → n < s.2
  | _, [], _, h => by simp [beg] at h
  | n, t :: r, s, h => by
    unfold beg at h
    split at h
    · rename_i ht
      exact beg_out n r s (by simpa using h)
    · rename_i ht
      simp at h
      subst h
      omega

/-- How many have begun, of a rising row. -/
theorem beg_len {l : List S} {en e f n : Int} (h : Up en e f l) {k : Nat} (hk : k ≤ l.length) (h1 : ∀ (i : Nat) (s : S), i < k → l[i]? = some s → s.2 ≤ n) (h2 : ∀ s : S, l[k]? = some s → n < s.2) : (beg n l).length = k := by
  have hb := beg_le n l
  rcases Nat.lt_trichotomy (beg n l).length k with h3 | h3 | h3
  · have hs : l[(beg n l).length]? = some l[(beg n l).length] := List.getElem?_eq_getElem (by omega)
    have := beg_out n l _ hs
    have := h1 _ _ h3 hs
    omega
  · exact h3
  · have hs : l[k]? = some l[k] := List.getElem?_eq_getElem (by omega)
    have := beg_in n l k _ h3 hs
    have := h2 _ hs
    omega

theorem epo_beg : ∀ (n e : Int) (l : List S), epo n e l = ((beg n l).map Prod.fst).getLast?.getD e
  | _, _, [] => rfl
  | n, e, s :: r => by
    unfold epo beg
    split
    · rw [epo_beg n s.1 r, List.map_cons, List.getLast?_cons]
      rfl
    · rfl

theorem epo_lst (n : Int) (l : List S) : epo n 0 l = lst (beg n l) := epo_beg n 0 l

/-- The epoch by its place. -/
theorem epo_at {l : List S} {en e f n : Int} (h : Up en e f l) {k : Nat} {s : S} (hs : l[k]? = some s) (h1 : s.2 ≤ n) (h2 : ∀ t : S, l[k + 1]? = some t → n < t.2) : epo n 0 l = s.1 := by
  have hk := (List.getElem?_eq_some_iff.1 hs).1
  have hl : (beg n l).length = k + 1 := by
    refine beg_len h (by omega) (fun i t hi ht => ?_) h2
    rcases Nat.lt_or_ge i k with g | g
    · have := (up_lt l en e f h i k t s g ht hs).2
      omega
    · obtain rfl : i = k := by omega
      rw [hs] at ht
      simp at ht
      subst ht
      exact h1
  rw [epo_lst, beg_take, hl]
  refine lst_at ?_
  rw [List.length_take, show min (k + 1) l.length - 1 = k by omega, List.getElem?_take, if_pos (by omega)]
  exact hs

theorem epo_zero {l : List S} {n : Int} (h : ∀ s : S, l[0]? = some s → n < s.2) : epo n 0 l = 0 := by
  cases l with
  | nil => rfl
  | cons s r =>
    have := h s (by simp)
    unfold epo
    rw [if_neg (by omega)]

theorem ok_head {l : List S} {en : Int} (h : Ok l en) : ∀ s : S, l[0]? = some s → s.2 = 1 := by
  intro s hs
  cases l with
  | nil => simp at hs
  | cons t r =>
    simp at hs
    subst hs
    exact h.2.2.2.2

theorem ok_zero {l : List S} {en : Int} (h : Ok l en) : epo 0 0 l = 0 := epo_zero fun s hs => by rw [ok_head h s hs]; omega

/-- At the end all have begun. -/
theorem beg_end {l : List S} {en e f n : Int} (h : Up en e f l) (hn : en ≤ n) : beg n l = l := by
  have : (beg n l).length = l.length := beg_len h (Nat.le_refl _) (fun i s _ hs => by have := up_at l en e f h i s hs; omega) (fun s hs => by simp at hs)
  rw [beg_take, this, List.take_length]

theorem epo_end {l : List S} {en : Int} (h : Ok l en) : epo en 0 l = lst l := by rw [epo_lst, beg_end h.2.2.2.1 (Int.le_refl _)]

theorem epo_le {l : List S} {en e f n : Int} (h : Up en e f l) {k : Nat} (hl : ∀ s : S, l[k + 1]? = some s → n < s.2) {t : S} (ht : l[k]? = some t) (he : 0 ≤ e) : epo n 0 l ≤ t.1 := by
  rw [epo_lst]
  have hk : (beg n l).length ≤ k + 1 := by
    rcases Nat.lt_or_ge (k + 1) (beg n l).length with g | g
    · have := beg_le n l
      have hs : l[k + 1]? = some l[k + 1] := List.getElem?_eq_getElem (by omega)
      have := beg_in n l (k + 1) _ g hs
      have := hl _ hs
      omega
    · exact g
  rw [beg_take]
  generalize hq : (beg n l).length = q at hk
  have hkl := (List.getElem?_eq_some_iff.1 ht).1
  cases q with
  | zero =>
    have := up_at l en e f h k t ht
    simp [lst_nil]
    omega
  | succ q =>
    have hs : l[q]? = some l[q] := List.getElem?_eq_getElem (by omega)
    rw [lst_at (s := l[q]) (by rw [List.length_take, show min (q + 1) l.length - 1 = q by omega, List.getElem?_take, if_pos (by omega)]; exact hs)]
    rcases Nat.lt_or_ge q k with g | g
    · have := (up_lt l en e f h q k _ t g hs ht).1
      omega
    · obtain rfl : q = k := by omega
      rw [hs] at ht
      simp at ht
      rw [ht]
      exact Int.le_refl _

/-- The fork: the greatest number with one epoch. -/
def Fk (a : List S) (ae : Int) (b : List S) (be n : Int) : Prop :=
  0 ≤ n ∧ n ≤ ae ∧ n ≤ be ∧ epo n 0 a = epo n 0 b ∧ ∀ m, n < m → m ≤ ae → m ≤ be → epo m 0 a ≠ epo m 0 b

theorem fk_one {a b : List S} {ae be n m : Int} (h : Fk a ae b be n) (k : Fk a ae b be m) : n = m := by
  obtain ⟨h1, h2, h3, h4, h5⟩ := h
  obtain ⟨k1, k2, k3, k4, k5⟩ := k
  rcases Int.lt_trichotomy n m with g | g | g
  · exact absurd k4 (h5 m g k2 k3)
  · exact g
  · exact absurd h4 (k5 n g h2 h3)

theorem fk_swap {a b : List S} {ae be n : Int} (h : Fk a ae b be n) : Fk b be a ae n :=
  ⟨h.1, h.2.2.1, h.2.1, h.2.2.2.1.symm, fun m h1 h2 h3 e => h.2.2.2.2 m h1 h3 h2 e.symm⟩

/-- Going back from both ends: p starts are left of a, with the last number x; q of b, with y. -/
structure Bk (a : List S) (ae : Int) (b : List S) (be : Int) (p : Nat) (x : Int) (q : Nat) (y : Int) : Prop where
  pa : p ≤ a.length
  qb : q ≤ b.length
  xa : (p = a.length ∧ x = ae) ∨ ∃ s : S, a[p]? = some s ∧ x = s.2 - 1
  yb : (q = b.length ∧ y = be) ∨ ∃ s : S, b[q]? = some s ∧ y = s.2 - 1
  no : ∀ m, m ≤ ae → m ≤ be → (x < m ∨ y < m) → epo m 0 a ≠ epo m 0 b

theorem bk_start (a b : List S) (ae be : Int) : Bk a ae b be a.length ae b.length be :=
  ⟨Nat.le_refl _, Nat.le_refl _, .inl ⟨rfl, rfl⟩, .inl ⟨rfl, rfl⟩, fun m h1 h2 h3 => by omega⟩

theorem Bk.swap {a b : List S} {ae be x y : Int} {p q : Nat} (h : Bk a ae b be p x q y) : Bk b be a ae q y p x :=
  ⟨h.qb, h.pa, h.yb, h.xa, fun m h1 h2 h3 e => h.no m h2 h1 h3.symm e.symm⟩

theorem Bk.bound {a b : List S} {ae be x y : Int} {p q : Nat} (h : Bk a ae b be p x q y) (ha : Ok a ae) : 0 ≤ x ∧ x ≤ ae ∧ (p = 0 → x = 0) ∧ (∀ s : S, a[p]? = some s → x < s.2) := by
  rcases h.xa with ⟨rfl, rfl⟩ | ⟨s, hs, rfl⟩
  · exact ⟨ha.1, Int.le_refl _, fun h0 => ha.2.2.1.1 h0, fun s hs => by simp at hs⟩
  · have := up_at a ae 0 0 ha.2.2.2.1 p s hs
    refine ⟨by omega, by omega, fun h0 => ?_, fun t ht => ?_⟩
    · subst h0
      have := ok_head ha s hs
      omega
    · rw [hs] at ht
      simp at ht
      subst ht
      omega

/-- One of a's is dropped. -/
theorem Bk.drop {a b : List S} {ae be x y : Int} {p q : Nat} (h : Bk a ae b be (p + 1) x (q + 1) y) (ha : Ok a ae) (hb : Ok b be) {s t : S} (hs : a[p]? = some s) (ht : b[q]? = some t) (hd : t.1 < s.1 ∨ x < s.2 ∨ y < s.2) : Bk a ae b be p (s.2 - 1) (q + 1) y := by
  have hp := h.pa
  refine ⟨by omega, h.qb, .inr ⟨s, hs, rfl⟩, h.yb, fun m h1 h2 h3 => ?_⟩
  by_cases hm : x < m ∨ y < m
  · exact h.no m h1 h2 hm
  · have h4 : s.2 ≤ m := by omega
    rcases hd with hd | hd | hd
    · have e1 := epo_at ha.2.2.2.1 hs h4 (fun t' ht' => by have := (h.bound ha).2.2.2 t' ht'; omega)
      have e2 := epo_le hb.2.2.2.1 (n := m) (k := q) (fun s' hs' => by have := (h.swap.bound hb).2.2.2 s' hs'; omega) ht (Int.le_refl 0)
      omega
    · omega
    · omega

/-- The epochs that are left are one: the fork is there. -/
theorem Bk.found {a b : List S} {ae be x y : Int} {p q : Nat} (h : Bk a ae b be (p + 1) x (q + 1) y) (ha : Ok a ae) (hb : Ok b be) {s t : S} (hs : a[p]? = some s) (ht : b[q]? = some t) (h1 : ¬ t.1 < s.1) (h2 : ¬ s.1 < t.1) (h3 : s.2 ≤ min x y) (h4 : t.2 ≤ min x y) : Fk a ae b be (min x y) := by
  obtain ⟨x0, x1, _, x2⟩ := h.bound ha
  obtain ⟨y0, y1, _, y2⟩ := h.swap.bound hb
  refine ⟨by omega, by omega, by omega, ?_, fun m g1 g2 g3 => h.no m g2 g3 (by omega)⟩
  rw [epo_at ha.2.2.2.1 hs h3 (fun t' ht' => by have := x2 t' ht'; omega), epo_at hb.2.2.2.1 ht h4 (fun t' ht' => by have := y2 t' ht'; omega)]
  omega

/-- Nothing is left of one. -/
theorem Bk.none {a b : List S} {ae be x y : Int} {p q : Nat} (h : Bk a ae b be p x q y) (ha : Ok a ae) (hb : Ok b be) (h0 : p = 0 ∨ q = 0) : Fk a ae b be (min x y) := by
  obtain ⟨x0, x1, x3, x2⟩ := h.bound ha
  obtain ⟨y0, y1, y3, y2⟩ := h.swap.bound hb
  have h1 : min x y = 0 := by
    rcases h0 with h0 | h0
    · have := x3 h0; omega
    · have := y3 h0; omega
  refine ⟨by omega, by omega, by omega, ?_, fun m g1 g2 g3 => h.no m g2 g3 (by omega)⟩
  rw [h1, ok_zero ha, ok_zero hb]

/-- The numbers at which alone a fork can be. -/
def cand (l : List S) : List Int := l.map fun s => s.2 - 1

theorem cand_one : ∀ (l : List S) (en e f m d : Int), Up en e f l → m ≤ en → ∃ c, (c = en ∨ c ∈ cand l) ∧ m ≤ c ∧ c ≤ en ∧ ∀ x, m ≤ x → x ≤ c → epo x d l = epo m d l
  | [], en, e, f, m, d, _, hm => ⟨en, .inl rfl, hm, Int.le_refl _, fun x _ _ => rfl⟩
  | s :: r, en, e, f, m, d, h, hm => by
    by_cases hs : s.2 ≤ m
    · obtain ⟨c, h1, h2, h3, h4⟩ := cand_one r en s.1 s.2 m s.1 h.2.2.2.2 hm
      refine ⟨c, h1.imp id (fun h => List.mem_cons_of_mem _ h), h2, h3, fun x g1 g2 => ?_⟩
      unfold epo
      rw [if_pos (by omega), if_pos hs]
      exact h4 x g1 g2
    · refine ⟨s.2 - 1, .inr (List.mem_cons_self ..), by omega, by have := h.2.2.2.1; omega, fun x g1 g2 => ?_⟩
      unfold epo
      rw [if_neg (by omega), if_neg hs]

/-- The document's way: the best of the candidates. -/
def Best (a : List S) (ae : Int) (b : List S) (be : Int) (l : List Int) (n : Int) : Prop :=
  0 ≤ n ∧ (n = 0 ∨ (n ≤ ae ∧ n ≤ be ∧ epo n 0 a = epo n 0 b)) ∧ ∀ c ∈ l, c ≤ ae → c ≤ be → epo c 0 a = epo c 0 b → c ≤ n

theorem best_start (a b : List S) (ae be : Int) : Best a ae b be [] 0 := ⟨Int.le_refl _, .inl rfl, fun c h => by simp at h⟩

theorem best_yes {a b : List S} {ae be n c : Int} {l : List Int} (h : Best a ae b be l n) (h1 : n < c) (h2 : c ≤ ae) (h3 : c ≤ be) (h4 : epo c 0 a = epo c 0 b) : Best a ae b be (l ++ [c]) c := by
  obtain ⟨g1, g2, g3⟩ := h
  refine ⟨by omega, .inr ⟨h2, h3, h4⟩, fun d hd k1 k2 k3 => ?_⟩
  rcases List.mem_append.1 hd with hd | hd
  · have := g3 d hd k1 k2 k3
    omega
  · rw [List.mem_singleton.1 hd]
    exact Int.le_refl _

theorem best_no {a b : List S} {ae be n c : Int} {l : List Int} (h : Best a ae b be l n) (h1 : ¬ (n < c ∧ c ≤ ae ∧ c ≤ be ∧ epo c 0 a = epo c 0 b)) : Best a ae b be (l ++ [c]) n := by
  obtain ⟨g1, g2, g3⟩ := h
  refine ⟨g1, g2, fun d hd k1 k2 k3 => ?_⟩
  rcases List.mem_append.1 hd with hd | hd
  · exact g3 d hd k1 k2 k3
  · rw [List.mem_singleton.1 hd] at k1 k2 k3 ⊢
    by_cases g : n < c
    · exact absurd ⟨g, k1, k2, k3⟩ h1
    · omega

theorem best_fk {a b : List S} {ae be n : Int} (ha : Ok a ae) (hb : Ok b be) (h : Best a ae b be ([ae, be] ++ cand a ++ cand b) n) : Fk a ae b be n := by
  obtain ⟨g1, g2, g3⟩ := h
  have a0 := ha.1
  have b0 := hb.1
  have hz : n ≤ ae ∧ n ≤ be ∧ epo n 0 a = epo n 0 b := by
    rcases g2 with rfl | g2
    · exact ⟨a0, b0, by rw [ok_zero ha, ok_zero hb]⟩
    · exact g2
  refine ⟨g1, hz.1, hz.2.1, hz.2.2, fun m h1 h2 h3 he => ?_⟩
  obtain ⟨c, c1, c2, c3, c4⟩ := cand_one a ae 0 0 m 0 ha.2.2.2.1 h2
  obtain ⟨d, d1, d2, d3, d4⟩ := cand_one b be 0 0 m 0 hb.2.2.2.1 h3
  rcases Int.le_total c d with g | g
  · have := g3 c (by rcases c1 with rfl | c1 <;> simp [*]) c3 (by omega) (by rw [c4 c c2 (Int.le_refl _), d4 c c2 g]; exact he)
    omega
  · have := g3 d (by rcases d1 with rfl | d1 <;> simp [*]) (by omega) d3 (by rw [c4 d d2 g, d4 d d2 (Int.le_refl _)]; exact he)
    omega

/-- The starts of a log behind the epoch ep. -/
def told (ep : Int) : List Cm.Cv → List S
  | [] => []
  | c :: r => if c.e = ep then told c.e r else (c.e, c.n) :: told c.e r

theorem told_app : ∀ (l m : List Cm.Cv) (ep : Int), told ep (l ++ m) = told ep l ++ told (Cm.lastE ep l) m
  | [], m, _ => rfl
  | c :: r, m, ep => by
    have h := told_app r m c.e
    simp only [List.cons_append, told, Cm.lastE]
    split
    · exact h
    · rw [h]; rfl

theorem told_snoc (l : List Cm.Cv) (c : Cm.Cv) (ep : Int) : told ep (l ++ [c]) = if c.e = Cm.lastE ep l then told ep l else told ep l ++ [(c.e, c.n)] := by
  rw [told_app]
  simp only [told]
  split <;> simp

/-- The last epoch of the starts is the log's. -/
theorem told_last : ∀ (l : List Cm.Cv) (ep : Int), (((told ep l).map Prod.fst).getLast?).getD ep = Cm.lastE ep l
  | [], _ => rfl
  | c :: r, ep => by
    unfold told
    split
    · rename_i h
      rw [← h]
      exact told_last r c.e
    · rw [List.map_cons, List.getLast?_cons]
      exact told_last r c.e

theorem lst_told (l : List Cm.Cv) : lst (told 0 l) = Cm.lastE 0 l := told_last l 0

/-- Of a log that follows, they rise. -/
theorem told_up : ∀ (l : List Cm.Cv) (ep nu en : Int), Cm.Good ep nu l → nu + l.length ≤ en → Up en ep nu (told ep l)
  | [], _, _, _, _, _ => trivial
  | c :: r, ep, nu, en, h, hl => by
    obtain ⟨h1, h2, h3, h4⟩ := h
    obtain ⟨b1, b2, b3, b4, _⟩ := Cm.chk_zero h1
    have hl' : c.n + r.length ≤ en := by simp at hl; omega
    have := told_up r c.e c.n en h4 hl'
    unfold told
    split
    · rename_i he
      rw [← he]
      generalize told c.e r = u at this
      cases u with
      | nil => trivial
      | cons s u =>
        obtain ⟨g1, g2, g3, g4, g5⟩ := this
        exact ⟨g1, g2, by omega, g4, g5⟩
    · exact ⟨by omega, b2, by omega, by simp at hl; omega, this⟩

theorem good_n : ∀ (l : List Cm.Cv) (ep nu : Int), Cm.Good ep nu l → Cm.lastN nu l = nu + l.length
  | [], _, _, _ => by simp [Cm.lastN]
  | c :: r, ep, nu, h => by
    obtain ⟨h1, h2, h3, h4⟩ := h
    unfold Cm.lastN
    rw [good_n r c.e c.n h4]
    simp
    omega

theorem good_len {l : List Cm.Cv} (h : Cm.Good 0 0 l) : (l.length : Int) ≤ 1048576 := by
  cases hl : l.length with
  | zero => simp
  | succ k =>
    have hc : l[k]? = some l[k] := List.getElem?_eq_getElem (by omega)
    obtain ⟨g1, g2, _⟩ := Cm.good_at l 0 0 k _ h hc
    have := Cm.chk_zero g1
    simp
    omega

theorem told_ok {l : List Cm.Cv} (h : Cm.Good 0 0 l) : Ok (told 0 l) l.length := by
  refine ⟨by omega, good_len h, ?_, told_up l 0 0 l.length h (by omega), ?_⟩
  · cases l with
    | nil => simp [told]
    | cons c r =>
      obtain ⟨h1, h2, h3, h4⟩ := h
      have := Cm.chk_zero h1
      unfold told
      rw [if_neg (by omega)]
      simp
      omega
  · cases l with
    | nil => rfl
    | cons c r =>
      obtain ⟨h1, h2, h3, h4⟩ := h
      have := Cm.chk_zero h1
      unfold told
      rw [if_neg (by omega)]
      simp
      omega

/-- Of a log that follows, those that have begun by n are those of its first n. -/
theorem told_beg : ∀ (l : List Cm.Cv) (ep nu : Int) (k : Nat), Cm.Good ep nu l → beg (nu + k) (told ep l) = told ep (l.take k)
  | [], _, _, _, _ => by simp [told, beg]
  | c :: r, ep, nu, 0, h => by
    have hu := told_up (c :: r) ep nu (nu + (c :: r).length) h (Int.le_refl _)
    rw [List.take_zero]
    generalize told ep (c :: r) = u at hu
    cases u with
    | nil => rfl
    | cons s u =>
      unfold beg
      rw [if_neg (by have := hu.2.2.1; simp; omega)]
      rfl
  | c :: r, ep, nu, k + 1, h => by
    obtain ⟨h1, h2, h3, h4⟩ := h
    have := told_beg r c.e c.n k h4
    rw [show c.n + (k : Int) = nu + ((k + 1 : Nat) : Int) by push_cast; omega] at this
    rw [List.take_succ_cons]
    unfold told
    split
    · exact this
    · rw [beg, if_pos (by simp; omega), this]

theorem told_at {l : List Cm.Cv} (h : Cm.Good 0 0 l) {k : Nat} {c : Cm.Cv} (hc : l[k]? = some c) : epo ((k : Int) + 1) 0 (told 0 l) = c.e := by
  have hk := (List.getElem?_eq_some_iff.1 hc).1
  have := told_beg l 0 0 (k + 1) h
  rw [show (0 : Int) + ((k + 1 : Nat) : Int) = (k : Int) + 1 by push_cast; omega] at this
  rw [epo_lst, this, lst_told, List.take_add_one, hc]
  exact (Cm.last_snoc _ c 0 0).1

/-- Two logs with a common front part that go on with epochs that never meet fork where it ends. -/
theorem fork_told {l m : List Cm.Cv} (hl : Cm.Good 0 0 l) (hm : Cm.Good 0 0 m) {k : Nat} (h1 : k ≤ l.length) (h2 : k ≤ m.length) (hf : l.take k = m.take k) (hn : ∀ (i : Nat) (c d : Cm.Cv), k ≤ i → l[i]? = some c → m[i]? = some d → c.e ≠ d.e) : Fk (told 0 l) l.length (told 0 m) m.length k := by
  refine ⟨by omega, by omega, by omega, ?_, fun x g1 g2 g3 => ?_⟩
  · cases k with
    | zero => rw [show ((0 : Nat) : Int) = 0 from rfl, ok_zero (told_ok hl), ok_zero (told_ok hm)]
    | succ k =>
      have e1 : l[k]? = some l[k] := List.getElem?_eq_getElem (by omega)
      have e2 : m[k]? = some m[k] := List.getElem?_eq_getElem (by omega)
      rw [show ((k + 1 : Nat) : Int) = (k : Int) + 1 by push_cast; rfl, told_at hl e1, told_at hm e2]
      have := congrArg (fun u => u[k]?) hf
      simp only [List.getElem?_take] at this
      rw [if_pos (by omega), if_pos (by omega), e1, e2] at this
      simp at this
      rw [this]
  · obtain ⟨i, rfl⟩ : ∃ i : Nat, x = (i : Int) + 1 := ⟨(x - 1).toNat, by omega⟩
    have e1 : l[i]? = some l[i] := List.getElem?_eq_getElem (by omega)
    have e2 : m[i]? = some m[i] := List.getElem?_eq_getElem (by omega)
    rw [told_at hl e1, told_at hm e2]
    exact hn i _ _ (by omega) e1 e2

/-- What a commit behind makes of the starts. -/
def grw (l : List S) (e n : Int) : List S := if e = lst l then l else l ++ [(e, n)]

theorem told_grw (l : List Cm.Cv) (c : Cm.Cv) : told 0 (l ++ [c]) = grw (told 0 l) c.e c.n := by
  unfold grw
  rw [told_snoc, lst_told]

theorem grw_len (l : List S) (e n : Int) : (grw l e n).length ≤ l.length + 1 := by
  unfold grw
  split <;> simp

end Go.Proofs.Ytklpbcdkgjoheaa.Sm
