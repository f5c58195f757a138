/- Texts of one layer, one behind the other. -/
import Derived.Test.YtimmohpnlieefaaA1
import Derived.Test.YtimmohpnlieefaaA2
import Derived.Deep.RegionHeld3
import Derived.Lib.SliceRun
/- Starts, by mathematics: where epochs begin, which epoch a number has, where two logs part. No program. -/
namespace Go.Proofs.Ytimmohpnlieefaa.Sm
set_option linter.unusedVariables false

/-- A start: an epoch, its first number. -/
abbrev S := Int × Int

/-- They rise from (e, f) on, within their bounds. -/
def Up (en : Int) : Int → Int → List S → Prop
  | _, _, [] => True
  | e, f, s :: r => e < s.1 ∧ s.1 ≤ 1048576 ∧ f < s.2 ∧ s.2 ≤ en ∧ Up en s.1 s.2 r

def upb (en : Int) : Int → Int → List S → Bool
  | _, _, [] => true
  | e, f, s :: r => (decide (e < s.1) && decide (s.1 ≤ 1048576)) && ((decide (f < s.2) && decide (s.2 ≤ en)) && upb en s.1 s.2 r)

theorem upb_iff (en : Int) : ∀ (e f : Int) (l : List S), upb en e f l = true ↔ Up en e f l
  | _, _, [] => ⟨fun _ => trivial, fun _ => rfl⟩
  | e, f, s :: r => by
    unfold upb Up
    rw [Bool.and_eq_true, Bool.and_eq_true, Bool.and_eq_true, Bool.and_eq_true, upb_iff en s.1 s.2 r, decide_eq_true_iff, decide_eq_true_iff, decide_eq_true_iff, decide_eq_true_iff]
    constructor
    · rintro ⟨⟨h1, h2⟩, ⟨h3, h4⟩, h5⟩
      exact ⟨h1, h2, h3, h4, h5⟩
    · rintro ⟨h1, h2, h3, h4, h5⟩
      exact ⟨⟨h1, h2⟩, ⟨h3, h4⟩, h5⟩

def Ok (l : List S) (en : Int) : Prop := 0 ≤ en ∧ en ≤ 1048576 ∧ (l.length = 0 ↔ en = 0) ∧ Up en 0 0 l ∧ ((l.map Prod.snd).headD 1 = 1)

def okb (l : List S) (en : Int) : Bool := (decide (0 ≤ en) && decide (en ≤ 1048576)) && (decide (l.length = 0 ↔ en = 0) && (upb en 0 0 l && decide ((l.map Prod.snd).headD 1 = 1)))

theorem okb_iff {l : List S} {en : Int} : okb l en = true ↔ Ok l en := by
  unfold okb Ok
  rw [Bool.and_eq_true, Bool.and_eq_true, Bool.and_eq_true, Bool.and_eq_true, upb_iff, decide_eq_true_iff, decide_eq_true_iff, decide_eq_true_iff, decide_eq_true_iff]
  constructor
  · rintro ⟨⟨h1, h2⟩, h3, h4, h5⟩
    exact ⟨h1, h2, h3, h4, h5⟩
  · rintro ⟨h1, h2, h3, h4, h5⟩
    exact ⟨⟨h1, h2⟩, h3, h4, h5⟩

def chk (l : List S) (en : Int) : Int := if okb l en = true then 0 else 5

theorem chk_ok {l : List S} {en : Int} (h : Ok l en) : chk l en = 0 := if_pos (okb_iff.2 h)
theorem chk_no {l : List S} {en : Int} (h : ¬ Ok l en) : chk l en = 5 := if_neg fun k => h (okb_iff.1 k)
theorem chk_zero {l : List S} {en : Int} : chk l en = 0 ↔ Ok l en := by
  constructor
  · intro h
    by_cases k : Ok l en
    · exact k
    · rw [chk_no k] at h; simp at h
  · exact chk_ok

/-- The epoch of a number. -/
def epo (n : Int) : Int → List S → Int
  | e, [] => e
  | e, s :: r => if s.2 ≤ n then epo n s.1 r else e

/-- Those that have begun by n. -/
def beg (n : Int) : List S → List S
  | [] => []
  | s :: r => if s.2 ≤ n then s :: beg n r else []

def lst (l : List S) : Int := ((l.map Prod.fst).getLast?).getD 0

theorem lst_nil : lst [] = 0 := rfl
theorem lst_snoc (l : List S) (s : S) : lst (l ++ [s]) = s.1 := by simp [lst]
theorem lst_at {l : List S} {s : S} (h : l[l.length - 1]? = some s) : lst l = s.1 := by
  unfold lst
  rw [List.getLast?_eq_getElem?, List.length_map, List.getElem?_map, h]
  rfl

/-- Places of a rising row. -/
theorem up_at : ∀ (l : List S) (en e f : Int), Up en e f l → ∀ (i : Nat) (s : S), l[i]? = some s → e < s.1 ∧ s.1 ≤ 1048576 ∧ f < s.2 ∧ s.2 ≤ en
  | [], _, _, _, _, _, _, h => by simp at h
  | t :: r, en, e, f, h, 0, s, hs => by
    simp at hs
    subst hs
    exact ⟨h.1, h.2.1, h.2.2.1, h.2.2.2.1⟩
  | t :: r, en, e, f, h, i + 1, s, hs => by
    have := up_at r en t.1 t.2 h.2.2.2.2 i s (by simpa using hs)
    have := h.1
    have := h.2.2.1
    omega

theorem up_lt : ∀ (l : List S) (en e f : Int), Up en e f l → ∀ (i j : Nat) (s t : S), i < j → l[i]? = some s → l[j]? = some t → s.1 < t.1 ∧ s.2 < t.2
  | [], _, _, _, _, _, _, _, _, _, h, _ => by simp at h
  | a :: r, en, e, f, h, 0, j, s, t, hij, hs, ht => by
    simp at hs
    subst hs
    obtain ⟨j, rfl⟩ : ∃ k, j = k + 1 := ⟨j - 1, by omega⟩
    have := up_at r en a.1 a.2 h.2.2.2.2 j t (by simpa using ht)
    omega
  | a :: r, en, e, f, h, i + 1, j, s, t, hij, hs, ht => by
    obtain ⟨j, rfl⟩ : ∃ k, j = k + 1 := ⟨j - 1, by omega⟩
    exact up_lt r en a.1 a.2 h.2.2.2.2 i j s t (by omega) (by simpa using hs) (by simpa using ht)

theorem up_drop {l : List S} {k : Nat} {s : S} {en e f : Int} (h : l[k]? = some s) : Up en e f (l.drop k) ↔ e < s.1 ∧ s.1 ≤ 1048576 ∧ f < s.2 ∧ s.2 ≤ en ∧ Up en s.1 s.2 (l.drop (k + 1)) := by
  have hk := (List.getElem?_eq_some_iff.1 h).1
  rw [List.drop_eq_getElem_cons hk, (List.getElem?_eq_some_iff.1 h).2]
  rfl

/-- The front that has begun. -/
theorem beg_take : ∀ (n : Int) (l : List S), beg n l = l.take (beg n l).length
  | _, [] => by simp [beg]
  | n, s :: r => by
    unfold beg
    split
    · rw [List.length_cons, List.take_succ_cons, ← beg_take n r]
    · simp

theorem beg_le (n : Int) (l : List S) : (beg n l).length ≤ l.length := by
  have := congrArg List.length (beg_take n l)
  rw [List.length_take] at this
  omega

theorem beg_in : ∀ (n : Int) (l : List S) (i : Nat) (s : S), i < (beg n l).length → l[i]? = some s → s.2 ≤ n
  | _, [], _, _, h, _ => by simp [beg] at h
  | n, t :: r, i, s, h, hs => by
    unfold beg at h
    split at h
    · rename_i ht
      cases i with
      | zero => simp at hs; subst hs; exact ht
      | succ i => exact beg_in n r i s (by simpa using h) (by simpa using hs)
    · simp at h

theorem beg_out : ∀ (n : Int) (l : List S) (s : S), l[(beg n l).length]? = some s → n < s.2
  | _, [], _, h => by simp [beg] at h
  | n, t :: r, s, h => by
    unfold beg at h
    split at h
    · rename_i ht
      exact beg_out n r s (by simpa using h)
    · rename_i ht
      simp at h
      subst h
      omega

/-- How many have begun, of a rising row. -/
theorem beg_len {l : List S} {en e f n : Int} (h : Up en e f l) {k : Nat} (hk : k ≤ l.length) (h1 : ∀ (i : Nat) (s : S), i < k → l[i]? = some s → s.2 ≤ n) (h2 : ∀ s : S, l[k]? = some s → n < s.2) : (beg n l).length = k := by
  have hb := beg_le n l
  rcases Nat.lt_trichotomy (beg n l).length k with h3 | h3 | h3
  · have hs : l[(beg n l).length]? = some l[(beg n l).length] := List.getElem?_eq_getElem (by omega)
    have := beg_out n l _ hs
    have := h1 _ _ h3 hs
    omega
  · exact h3
  · have hs : l[k]? = some l[k] := List.getElem?_eq_getElem (by omega)
    have := beg_in n l k _ h3 hs
    have := h2 _ hs
    omega

theorem epo_beg : ∀ (n e : Int) (l : List S), epo n e l = ((beg n l).map Prod.fst).getLast?.getD e
  | _, _, [] => rfl
  | n, e, s :: r => by
    unfold epo beg
    split
    · rw [epo_beg n s.1 r, List.map_cons, List.getLast?_cons]
      rfl
    · rfl

theorem epo_lst (n : Int) (l : List S) : epo n 0 l = lst (beg n l) := epo_beg n 0 l

/-- The epoch by its place. -/
theorem epo_at {l : List S} {en e f n : Int} (h : Up en e f l) {k : Nat} {s : S} (hs : l[k]? = some s) (h1 : s.2 ≤ n) (h2 : ∀ t : S, l[k + 1]? = some t → n < t.2) : epo n 0 l = s.1 := by
  have hk := (List.getElem?_eq_some_iff.1 hs).1
  have hl : (beg n l).length = k + 1 := by
    refine beg_len h (by omega) (fun i t hi ht => ?_) h2
    rcases Nat.lt_or_ge i k with g | g
    · have := (up_lt l en e f h i k t s g ht hs).2
      omega
    · obtain rfl : i = k := by omega
      rw [hs] at ht
      simp at ht
      subst ht
      exact h1
  rw [epo_lst, beg_take, hl]
  refine lst_at ?_
  rw [List.length_take, show min (k + 1) l.length - 1 = k by omega, List.getElem?_take, if_pos (by omega)]
  exact hs

theorem epo_zero {l : List S} {n : Int} (h : ∀ s : S, l[0]? = some s → n < s.2) : epo n 0 l = 0 := by
  cases l with
  | nil => rfl
  | cons s r =>
    have := h s (by simp)
    unfold epo
    rw [if_neg (by omega)]

theorem ok_head {l : List S} {en : Int} (h : Ok l en) : ∀ s : S, l[0]? = some s → s.2 = 1 := by
  intro s hs
  cases l with
  | nil => simp at hs
  | cons t r =>
    simp at hs
    subst hs
    exact h.2.2.2.2

theorem ok_zero {l : List S} {en : Int} (h : Ok l en) : epo 0 0 l = 0 := epo_zero fun s hs => by rw [ok_head h s hs]; omega

/-- At the end all have begun. -/
theorem beg_end {l : List S} {en e f n : Int} (h : Up en e f l) (hn : en ≤ n) : beg n l = l := by
  have : (beg n l).length = l.length := beg_len h (Nat.le_refl _) (fun i s _ hs => by have := up_at l en e f h i s hs; omega) (fun s hs => by simp at hs)
  rw [beg_take, this, List.take_length]

theorem epo_end {l : List S} {en : Int} (h : Ok l en) : epo en 0 l = lst l := by rw [epo_lst, beg_end h.2.2.2.1 (Int.le_refl _)]

theorem epo_le {l : List S} {en e f n : Int} (h : Up en e f l) {k : Nat} (hl : ∀ s : S, l[k + 1]? = some s → n < s.2) {t : S} (ht : l[k]? = some t) (he : 0 ≤ e) : epo n 0 l ≤ t.1 := by
  rw [epo_lst]
  have hk : (beg n l).length ≤ k + 1 := by
    rcases Nat.lt_or_ge (k + 1) (beg n l).length with g | g
    · have := beg_le n l
      have hs : l[k + 1]? = some l[k + 1] := List.getElem?_eq_getElem (by omega)
      have := beg_in n l (k + 1) _ g hs
      have := hl _ hs
      omega
    · exact g
  rw [beg_take]
  generalize hq : (beg n l).length = q at hk
  have hkl := (List.getElem?_eq_some_iff.1 ht).1
  cases q with
  | zero =>
    have := up_at l en e f h k t ht
    simp [lst_nil]
    omega
  | succ q =>
    have hs : l[q]? = some l[q] := List.getElem?_eq_getElem (by omega)
    rw [lst_at (s := l[q]) (by rw [List.length_take, show min (q + 1) l.length - 1 = q by omega, List.getElem?_take, if_pos (by omega)]; exact hs)]
    rcases Nat.lt_or_ge q k with g | g
    · have := (up_lt l en e f h q k _ t g hs ht).1
      omega
    · obtain rfl : q = k := by omega
      rw [hs] at ht
      simp at ht
      rw [ht]
      exact Int.le_refl _

/-- The fork: the greatest number with one epoch. -/
def Fk (a : List S) (ae : Int) (b : List S) (be n : Int) : Prop :=
  0 ≤ n ∧ n ≤ ae ∧ n ≤ be ∧ epo n 0 a = epo n 0 b ∧ ∀ m, n < m → m ≤ ae → m ≤ be → epo m 0 a ≠ epo m 0 b

theorem fk_one {a b : List S} {ae be n m : Int} (h : Fk a ae b be n) (k : Fk a ae b be m) : n = m := by
  obtain ⟨h1, h2, h3, h4, h5⟩ := h
  obtain ⟨k1, k2, k3, k4, k5⟩ := k
  rcases Int.lt_trichotomy n m with g | g | g
  · exact absurd k4 (h5 m g k2 k3)
  · exact g
  · exact absurd h4 (k5 n g h2 h3)

theorem fk_swap {a b : List S} {ae be n : Int} (h : Fk a ae b be n) : Fk b be a ae n :=
  ⟨h.1, h.2.2.1, h.2.1, h.2.2.2.1.symm, fun m h1 h2 h3 e => h.2.2.2.2 m h1 h3 h2 e.symm⟩

/-- Going back from both ends: p starts are left of a, with the last number x; q of b, with y. -/
structure Bk (a : List S) (ae : Int) (b : List S) (be : Int) (p : Nat) (x : Int) (q : Nat) (y : Int) : Prop where
  pa : p ≤ a.length
  qb : q ≤ b.length
  xa : (p = a.length ∧ x = ae) ∨ ∃ s : S, a[p]? = some s ∧ x = s.2 - 1
  yb : (q = b.length ∧ y = be) ∨ ∃ s : S, b[q]? = some s ∧ y = s.2 - 1
  no : ∀ m, m ≤ ae → m ≤ be → (x < m ∨ y < m) → epo m 0 a ≠ epo m 0 b

theorem bk_start (a b : List S) (ae be : Int) : Bk a ae b be a.length ae b.length be :=
  ⟨Nat.le_refl _, Nat.le_refl _, .inl ⟨rfl, rfl⟩, .inl ⟨rfl, rfl⟩, fun m h1 h2 h3 => by omega⟩

theorem Bk.swap {a b : List S} {ae be x y : Int} {p q : Nat} (h : Bk a ae b be p x q y) : Bk b be a ae q y p x :=
  ⟨h.qb, h.pa, h.yb, h.xa, fun m h1 h2 h3 e => h.no m h2 h1 h3.symm e.symm⟩

theorem Bk.bound {a b : List S} {ae be x y : Int} {p q : Nat} (h : Bk a ae b be p x q y) (ha : Ok a ae) : 0 ≤ x ∧ x ≤ ae ∧ (p = 0 → x = 0) ∧ (∀ s : S, a[p]? = some s → x < s.2) := by
  rcases h.xa with ⟨rfl, rfl⟩ | ⟨s, hs, rfl⟩
  · exact ⟨ha.1, Int.le_refl _, fun h0 => ha.2.2.1.1 h0, fun s hs => by simp at hs⟩
  · have := up_at a ae 0 0 ha.2.2.2.1 p s hs
    refine ⟨by omega, by omega, fun h0 => ?_, fun t ht => ?_⟩
    · subst h0
      have := ok_head ha s hs
      omega
    · rw [hs] at ht
      simp at ht
      subst ht
      omega

/-- One of a's is dropped. -/
theorem Bk.drop {a b : List S} {ae be x y : Int} {p q : Nat} (h : Bk a ae b be (p + 1) x (q + 1) y) (ha : Ok a ae) (hb : Ok b be) {s t : S} (hs : a[p]? = some s) (ht : b[q]? = some t) (hd : t.1 < s.1 ∨ x < s.2 ∨ y < s.2) : Bk a ae b be p (s.2 - 1) (q + 1) y := by
  have hp := h.pa
  refine ⟨by omega, h.qb, .inr ⟨s, hs, rfl⟩, h.yb, fun m h1 h2 h3 => ?_⟩
  by_cases hm : x < m ∨ y < m
  · exact h.no m h1 h2 hm
  · have h4 : s.2 ≤ m := by omega
    rcases hd with hd | hd | hd
    · have e1 := epo_at ha.2.2.2.1 hs h4 (fun t' ht' => by have := (h.bound ha).2.2.2 t' ht'; omega)
      have e2 := epo_le hb.2.2.2.1 (n := m) (k := q) (fun s' hs' => by have := (h.swap.bound hb).2.2.2 s' hs'; omega) ht (Int.le_refl 0)
      omega
    · omega
    · omega

/-- The epochs that are left are one: the fork is there. -/
theorem Bk.found {a b : List S} {ae be x y : Int} {p q : Nat} (h : Bk a ae b be (p + 1) x (q + 1) y) (ha : Ok a ae) (hb : Ok b be) {s t : S} (hs : a[p]? = some s) (ht : b[q]? = some t) (h1 : ¬ t.1 < s.1) (h2 : ¬ s.1 < t.1) (h3 : s.2 ≤ min x y) (h4 : t.2 ≤ min x y) : Fk a ae b be (min x y) := by
  obtain ⟨x0, x1, _, x2⟩ := h.bound ha
  obtain ⟨y0, y1, _, y2⟩ := h.swap.bound hb
  refine ⟨by omega, by omega, by omega, ?_, fun m g1 g2 g3 => h.no m g2 g3 (by omega)⟩
  rw [epo_at ha.2.2.2.1 hs h3 (fun t' ht' => by have := x2 t' ht'; omega), epo_at hb.2.2.2.1 ht h4 (fun t' ht' => by have := y2 t' ht'; omega)]
  omega

/-- Nothing is left of one. -/
theorem Bk.none {a b : List S} {ae be x y : Int} {p q : Nat} (h : Bk a ae b be p x q y) (ha : Ok a ae) (hb : Ok b be) (h0 : p = 0 ∨ q = 0) : Fk a ae b be (min x y) := by
  obtain ⟨x0, x1, x3, x2⟩ := h.bound ha
  obtain ⟨y0, y1, y3, y2⟩ := h.swap.bound hb
  have h1 : min x y = 0 := by
    rcases h0 with h0 | h0
    · have := x3 h0; omega
    · have := y3 h0; omega
  refine ⟨by omega, by omega, by omega, ?_, fun m g1 g2 g3 => h.no m g2 g3 (by omega)⟩
  rw [h1, ok_zero ha, ok_zero hb]

/-- The numbers at which alone a fork can be. -/
def cand (l : List S) : List Int := l.map fun s => s.2 - 1

theorem cand_one : ∀ (l : List S) (en e f m d : Int), Up en e f l → m ≤ en → ∃ c, (c = en ∨ c ∈ cand l) ∧ m ≤ c ∧ c ≤ en ∧ ∀ x, m ≤ x → x ≤ c → epo x d l = epo m d l
  | [], en, e, f, m, d, _, hm => ⟨en, .inl rfl, hm, Int.le_refl _, fun x _ _ => rfl⟩
  | s :: r, en, e, f, m, d, h, hm => by
    by_cases hs : s.2 ≤ m
    · obtain ⟨c, h1, h2, h3, h4⟩ := cand_one r en s.1 s.2 m s.1 h.2.2.2.2 hm
      refine ⟨c, h1.imp id (fun h => List.mem_cons_of_mem _ h), h2, h3, fun x g1 g2 => ?_⟩
      unfold epo
      rw [if_pos (by omega), if_pos hs]
      exact h4 x g1 g2
    · refine ⟨s.2 - 1, .inr (List.mem_cons_self ..), by omega, by have := h.2.2.2.1; omega, fun x g1 g2 => ?_⟩
      unfold epo
      rw [if_neg (by omega), if_neg hs]

/-- The document's way: the best of the candidates. -/
def Best (a : List S) (ae : Int) (b : List S) (be : Int) (l : List Int) (n : Int) : Prop :=
  0 ≤ n ∧ (n = 0 ∨ (n ≤ ae ∧ n ≤ be ∧ epo n 0 a = epo n 0 b)) ∧ ∀ c ∈ l, c ≤ ae → c ≤ be → epo c 0 a = epo c 0 b → c ≤ n

theorem best_start (a b : List S) (ae be : Int) : Best a ae b be [] 0 := ⟨Int.le_refl _, .inl rfl, fun c h => by simp at h⟩

theorem best_yes {a b : List S} {ae be n c : Int} {l : List Int} (h : Best a ae b be l n) (h1 : n < c) (h2 : c ≤ ae) (h3 : c ≤ be) (h4 : epo c 0 a = epo c 0 b) : Best a ae b be (l ++ [c]) c := by
  obtain ⟨g1, g2, g3⟩ := h
  refine ⟨by omega, .inr ⟨h2, h3, h4⟩, fun d hd k1 k2 k3 => ?_⟩
  rcases List.mem_append.1 hd with hd | hd
  · have := g3 d hd k1 k2 k3
    omega
  · rw [List.mem_singleton.1 hd]
    exact Int.le_refl _

theorem best_no {a b : List S} {ae be n c : Int} {l : List Int} (h : Best a ae b be l n) (h1 : ¬ (n < c ∧ c ≤ ae ∧ c ≤ be ∧ epo c 0 a = epo c 0 b)) : Best a ae b be (l ++ [c]) n := by
  obtain ⟨g1, g2, g3⟩ := h
  refine ⟨g1, g2, fun d hd k1 k2 k3 => ?_⟩
  rcases List.mem_append.1 hd with hd | hd
  · exact g3 d hd k1 k2 k3
  · rw [List.mem_singleton.1 hd] at k1 k2 k3 ⊢
    by_cases g : n < c
    · exact absurd ⟨g, k1, k2, k3⟩ h1
    · omega

theorem best_fk {a b : List S} {ae be n : Int} (ha : Ok a ae) (hb : Ok b be) (h : Best a ae b be ([ae, be] ++ cand a ++ cand b) n) : Fk a ae b be n := by
  obtain ⟨g1, g2, g3⟩ := h
  have a0 := ha.1
  have b0 := hb.1
  have hz : n ≤ ae ∧ n ≤ be ∧ epo n 0 a = epo n 0 b := by
    rcases g2 with rfl | g2
    · exact ⟨a0, b0, by rw [ok_zero ha, ok_zero hb]⟩
    · exact g2
  refine ⟨g1, hz.1, hz.2.1, hz.2.2, fun m h1 h2 h3 he => ?_⟩
  obtain ⟨c, c1, c2, c3, c4⟩ := cand_one a ae 0 0 m 0 ha.2.2.2.1 h2
  obtain ⟨d, d1, d2, d3, d4⟩ := cand_one b be 0 0 m 0 hb.2.2.2.1 h3
  rcases Int.le_total c d with g | g
  · have := g3 c (by rcases c1 with rfl | c1 <;> simp [*]) c3 (by omega) (by rw [c4 c c2 (Int.le_refl _), d4 c c2 g]; exact he)
    omega
  · have := g3 d (by rcases d1 with rfl | d1 <;> simp [*]) (by omega) d3 (by rw [c4 d d2 g, d4 d d2 (Int.le_refl _)]; exact he)
    omega

/-- The starts of a log behind the epoch ep. -/
def told (ep : Int) : List Cm.Cv → List S
  | [] => []
  | c :: r => if c.e = ep then told c.e r else (c.e, c.n) :: told c.e r

theorem told_app : ∀ (l m : List Cm.Cv) (ep : Int), told ep (l ++ m) = told ep l ++ told (Cm.lastE ep l) m
  | [], m, _ => rfl
  | c :: r, m, ep => by
    have h := told_app r m c.e
    simp only [List.cons_append, told, Cm.lastE]
    split
    · exact h
    · rw [h]; rfl

theorem told_snoc (l : List Cm.Cv) (c : Cm.Cv) (ep : Int) : told ep (l ++ [c]) = if c.e = Cm.lastE ep l then told ep l else told ep l ++ [(c.e, c.n)] := by
  rw [told_app]
  simp only [told]
  split <;> simp

/-- The last epoch of the starts is the log's. -/
theorem told_last : ∀ (l : List Cm.Cv) (ep : Int), (((told ep l).map Prod.fst).getLast?).getD ep = Cm.lastE ep l
  | [], _ => rfl
  | c :: r, ep => by
    unfold told
    split
    · rename_i h
      rw [← h]
      exact told_last r c.e
    · rw [List.map_cons, List.getLast?_cons]
      exact told_last r c.e

theorem lst_told (l : List Cm.Cv) : lst (told 0 l) = Cm.lastE 0 l := told_last l 0

/-- Of a log that follows, they rise. -/
theorem told_up : ∀ (l : List Cm.Cv) (ep nu en : Int), Cm.Good ep nu l → nu + l.length ≤ en → Up en ep nu (told ep l)
  | [], _, _, _, _, _ => trivial
  | c :: r, ep, nu, en, h, hl => by
    obtain ⟨h1, h2, h3, h4⟩ := h
    obtain ⟨b1, b2, b3, b4, _⟩ := Cm.chk_zero h1
    have hl' : c.n + r.length ≤ en := by simp at hl; omega
    have := told_up r c.e c.n en h4 hl'
    unfold told
    split
    · rename_i he
      rw [← he]
      generalize told c.e r = u at this
      cases u with
      | nil => trivial
      | cons s u =>
        obtain ⟨g1, g2, g3, g4, g5⟩ := this
        exact ⟨g1, g2, by omega, g4, g5⟩
    · exact ⟨by omega, b2, by omega, by simp at hl; omega, this⟩

theorem good_n : ∀ (l : List Cm.Cv) (ep nu : Int), Cm.Good ep nu l → Cm.lastN nu l = nu + l.length
  | [], _, _, _ => by simp [Cm.lastN]
  | c :: r, ep, nu, h => by
    obtain ⟨h1, h2, h3, h4⟩ := h
    unfold Cm.lastN
    rw [good_n r c.e c.n h4]
    simp
    omega

theorem good_len {l : List Cm.Cv} (h : Cm.Good 0 0 l) : (l.length : Int) ≤ 1048576 := by
  cases hl : l.length with
  | zero => simp
  | succ k =>
    have hc : l[k]? = some l[k] := List.getElem?_eq_getElem (by omega)
    obtain ⟨g1, g2, _⟩ := Cm.good_at l 0 0 k _ h hc
    have := Cm.chk_zero g1
    simp
    omega

theorem told_ok {l : List Cm.Cv} (h : Cm.Good 0 0 l) : Ok (told 0 l) l.length := by
  refine ⟨by omega, good_len h, ?_, told_up l 0 0 l.length h (by omega), ?_⟩
  · cases l with
    | nil => simp [told]
    | cons c r =>
      obtain ⟨h1, h2, h3, h4⟩ := h
      have := Cm.chk_zero h1
      unfold told
      rw [if_neg (by omega)]
      simp
      omega
  · cases l with
    | nil => rfl
    | cons c r =>
      obtain ⟨h1, h2, h3, h4⟩ := h
      have := Cm.chk_zero h1
      unfold told
      rw [if_neg (by omega)]
      simp
      omega

/-- Of a log that follows, those that have begun by n are those of its first n. -/
theorem told_beg : ∀ (l : List Cm.Cv) (ep nu : Int) (k : Nat), Cm.Good ep nu l → beg (nu + k) (told ep l) = told ep (l.take k)
  | [], _, _, _, _ => by simp [told, beg]
  | c :: r, ep, nu, 0, h => by
    have hu := told_up (c :: r) ep nu (nu + (c :: r).length) h (Int.le_refl _)
    rw [List.take_zero]
    generalize told ep (c :: r) = u at hu
    cases u with
    | nil => rfl
    | cons s u =>
      unfold beg
      rw [if_neg (by have := hu.2.2.1; simp; omega)]
      rfl
  | c :: r, ep, nu, k + 1, h => by
    obtain ⟨h1, h2, h3, h4⟩ := h
    have := told_beg r c.e c.n k h4
    rw [show c.n + (k : Int) = nu + ((k + 1 : Nat) : Int) by push_cast; omega] at this
    rw [List.take_succ_cons]
    unfold told
    split
    · exact this
    · rw [beg, if_pos (by simp; omega), this]

theorem told_at {l : List Cm.Cv} (h : Cm.Good 0 0 l) {k : Nat} {c : Cm.Cv} (hc : l[k]? = some c) : epo ((k : Int) + 1) 0 (told 0 l) = c.e := by
  have hk := (List.getElem?_eq_some_iff.1 hc).1
  have := told_beg l 0 0 (k + 1) h
  rw [show (0 : Int) + ((k + 1 : Nat) : Int) = (k : Int) + 1 by push_cast; omega] at this
  rw [epo_lst, this, lst_told, List.take_add_one, hc]
  exact (Cm.last_snoc _ c 0 0).1

/-- Two logs with a common front part that go on with epochs that never meet fork where it ends. -/
theorem fork_told {l m : List Cm.Cv} (hl : Cm.Good 0 0 l) (hm : Cm.Good 0 0 m) {k : Nat} (h1 : k ≤ l.length) (h2 : k ≤ m.length) (hf : l.take k = m.take k) (hn : ∀ (i : Nat) (c d : Cm.Cv), k ≤ i → l[i]? = some c → m[i]? = some d → c.e ≠ d.e) : Fk (told 0 l) l.length (told 0 m) m.length k := by
  refine ⟨by omega, by omega, by omega, ?_, fun x g1 g2 g3 => ?_⟩
  · cases k with
    | zero => rw [show ((0 : Nat) : Int) = 0 from rfl, ok_zero (told_ok hl), ok_zero (told_ok hm)]
    | succ k =>
      have e1 : l[k]? = some l[k] := List.getElem?_eq_getElem (by omega)
      have e2 : m[k]? = some m[k] := List.getElem?_eq_getElem (by omega)
      rw [show ((k + 1 : Nat) : Int) = (k : Int) + 1 by push_cast; rfl, told_at hl e1, told_at hm e2]
      have := congrArg (fun u => u[k]?) hf
      simp only [List.getElem?_take] at this
      rw [if_pos (by omega), if_pos (by omega), e1, e2] at this
      simp at this
      rw [this]
  · obtain ⟨i, rfl⟩ : ∃ i : Nat, x = (i : Int) + 1 := ⟨(x - 1).toNat, by omega⟩
    have e1 : l[i]? = some l[i] := List.getElem?_eq_getElem (by omega)
    have e2 : m[i]? = some m[i] := List.getElem?_eq_getElem (by omega)
    rw [told_at hl e1, told_at hm e2]
    exact hn i _ _ (by omega) e1 e2

/-- What a commit behind makes of the starts. -/
def grw (l : List S) (e n : Int) : List S := if e = lst l then l else l ++ [(e, n)]

theorem told_grw (l : List Cm.Cv) (c : Cm.Cv) : told 0 (l ++ [c]) = grw (told 0 l) c.e c.n := by
  unfold grw
  rw [told_snoc, lst_told]

theorem grw_len (l : List S) (e n : Int) : (grw l e n).length ≤ l.length + 1 := by
  unfold grw
  split <;> simp

end Go.Proofs.Ytimmohpnlieefaa.Sm

/- Rows of starts in memory; the contracts of starts' lastEpoch, rise and Check, and of the document's Check and epoch. -/
namespace Go.Proofs.Ytimmohpnlieefaa
open Go.RowKit
set_option linter.unusedVariables false

/-- A start's cells. -/
def stc (s : Sm.S) : List Value := [.int .i64 s.1, .int .i64 s.2]
theorem stc_len (s : Sm.S) : (stc s).length = 2 := rfl

abbrev RowS (w : World) (v : Value) (l : List Sm.S) : Prop := RowG stc w v l
abbrev OwnS (base : Nat) (w : World) (v : Value) (l : List Sm.S) : Prop := OwnG stc 2 103 base w v l

theorem stc_one : ∀ (l : List Sm.S), ∀ u ∈ gcells stc l, u.oneCell' = true
  | [], u, h => by simp [gcells] at h
  | s :: r, u, h => by
    rcases List.mem_append.1 h with h | h
    · simp only [stc, List.mem_cons, List.not_mem_nil, or_false] at h
      rcases h with rfl | rfl <;> rfl
    · exact stc_one r u h

theorem rowS_full {w : World} {v : Value} {l : List Sm.S} (h : RowS w v l) (hne : 0 < l.length) :
    ∃ b off cap, v = .slice (some ⟨b, off, none⟩) l.length cap ∧ l.length ≤ cap ∧ cap ≤ maxLen ∧ b < w.heap.size ∧ ∀ (i : Nat) (s : Sm.S), l[i]? = some s → w.cell? ⟨b, off + i * 2, none⟩ = some (.int .i64 s.1) ∧ w.cell? ⟨b, off + i * 2 + 1, none⟩ = some (.int .i64 s.2) := by
  obtain ⟨b, off, cap, h1, h2, h3, h4, h5⟩ := h.full stc_len (by decide) hne
  exact ⟨b, off, cap, h1, h2, h3, h4, fun i s hs => ⟨h5 i s hs 0 _ rfl, h5 i s hs 1 _ rfl⟩⟩

theorem rowS_drewN {w : World} {v : Value} {l : List Sm.S} (h : RowS w v l) (n : Nat) : RowS (w.drewN n) v l := h.agree fun _ _ => rfl

/-- An element of a row. -/
theorem at_of {α : Type} {l : List α} {k : Nat} (h : k < l.length) : ∃ s, l[k]? = some s := ⟨l[k], List.getElem?_eq_getElem h⟩

set_option maxHeartbeats 400000 in
theorem lastE_any (v : Value) (l : List Sm.S) (w : World) (h : RowS w v l) (hl : l.length ≤ 140737488355328) :
    Calls Try.prog 94 #[v] w fun E w' => E = .returned (.int .i64 (Sm.lst l)) ∧ w' = w := by
  by_cases hz : l.length = 0
  · have : l = [] := List.eq_nil_of_length_eq_zero hz
    subst this
    obtain ⟨ao, cap, rfl, _, _⟩ := h.shape
    simp only [List.length_nil]
    clear h hl hz
    go_enter Try.func94, Try.ntmps94
    go_wp2
    go_ret
    exact ⟨rfl, rfl⟩
  · obtain ⟨b, off, cap, rfl, _, _, hB, hc⟩ := rowS_full h (by omega)
    obtain ⟨s, hs⟩ := at_of (l := l) (k := l.length - 1) (by omega)
    obtain ⟨c0, c1⟩ := hc _ _ hs
    rw [Sm.lst_at hs]
    generalize hn : l.length = n at *
    obtain ⟨k, rfl⟩ : ∃ k, n = k + 1 := ⟨n - 1, by omega⟩
    simp only [Nat.add_sub_cancel] at c0 c1
    clear h hc hs hn
    have hne : ((((k + 1 : Nat) : Int)) == 0) = false := by simp; omega
    have hsub : (((k + 1 : Nat) : Int)) - 1 = (k : Int) := by omega
    go_enter Try.func94, Try.ntmps94
    go_wp2
    go_ret
    exact ⟨rfl, rfl⟩

/-- They rise, and the first begins at 1. -/
def updS (en : Int) (l : List Sm.S) : Bool := Sm.upb en 0 0 l && decide ((l.map Prod.snd).headD 1 = 1)
theorem updS_iff {en : Int} {l : List Sm.S} : updS en l = true ↔ Sm.Up en 0 0 l ∧ (l.map Prod.snd).headD 1 = 1 := by
  unfold updS
  rw [Bool.and_eq_true, Sm.upb_iff, decide_eq_true_iff]
theorem updS_no {en : Int} {l : List Sm.S} (h : ¬ (Sm.Up en 0 0 l ∧ (l.map Prod.snd).headD 1 = 1)) : updS en l = false := by
  cases hu : updS en l with
  | false => rfl
  | true => exact absurd (updS_iff.1 hu) h

theorem head_at {l : List Sm.S} {s : Sm.S} (h : l[0]? = some s) : (l.map Prod.snd).headD 1 = s.2 := by
  cases l with
  | nil => simp at h
  | cons t r => simp at h; subst h; rfl

theorem both_zero {n : Nat} {en : Int} (h : n = 0 ↔ en = 0) : ∃ b : Bool, ((n : Int) == 0) = b ∧ (en == 0) = b := by
  by_cases hn : n = 0
  · exact ⟨true, by simp [hn], by simp [h.1 hn]⟩
  · exact ⟨false, by simp; omega, by simp; exact fun e => hn (h.2 e)⟩

theorem one_zero {n : Nat} {en : Int} (h : ¬ (n = 0 ↔ en = 0)) : (((n : Int) == 0) = true ∧ (en == 0) = false) ∨ (((n : Int) == 0) = false ∧ (en == 0) = true) := by
  by_cases hn : n = 0
  · exact .inl ⟨by simp [hn], by simp; exact fun e => h ⟨fun _ => e, fun _ => hn⟩⟩
  · refine .inr ⟨by simp; omega, ?_⟩
    simp
    rcases Classical.em (en = 0) with g | g
    · exact g
    · exact absurd ⟨fun k => absurd k hn, fun k => absurd k g⟩ h

end Go.Proofs.Ytimmohpnlieefaa

/- The contracts of the laws' copies of ops: CopyOps, LentOps, KeptOps. -/
namespace Go.Proofs.Ytimmohpnlieefaa
open Go.RowKit
set_option linter.unusedVariables false

/-- What stands behind ops that are lent. -/
def behind : Bm.Ov := ⟨true, ⟨#[98, 101, 104, 105, 110, 100]⟩, ⟨#[]⟩⟩

set_option maxHeartbeats 400000 in
theorem copyO_any (vl : Value) (l : List Bm.Ov) (w : World) (h : IsO w vl l) (hl : l.length * 40 ≤ 140737488355328) :
    Calls Try.prog 89 #[vl] w fun e w' => ∃ v, e = .returned v ∧ OwnO 87 w.heap.size w' v l ∧ Below w.heap.size w w' := by
  obtain ⟨w1, hw1, sz1, bel1, own1⟩ := ops_step 87 w #[] 0 [] rfl rfl (by simp [maxLen])
  have h1 := h.below bel1
  go_enter Try.func89, Try.ntmps89
  go_wp2_with (at_builtin; refine wpList_append_ops rfl (.tmp 3) (.tmp 4) 30 rfl 87 w.heap.size Try.underlying30 Try.info87 _ [] rfl own1 _ l rfl h1 (by simp; omega) (by omega) ?_)
  intro v2 w2 own2 bel2 _
  go_wp2
  go_ret
  exact ⟨_, rfl, by simpa using own2, bel1.trans bel2⟩

end Go.Proofs.Ytimmohpnlieefaa

/- The contracts of the laws' copies of one commit: CopyCommit, LentCommit, KeptCommit. -/
namespace Go.Proofs.Ytimmohpnlieefaa
open Go.RowKit
set_option linter.unusedVariables false

/-- A slice of ops that was lent: those behind it stand in its room. -/
def LentV (base : Nat) (w : World) (v : Value) (l : List Bm.Ov) : Prop :=
  ∃ g cap, v = .slice (some ⟨g, 0, none⟩) l.length cap ∧ l.length + 3 ≤ cap ∧ cap ≤ maxLen ∧ OwnO 87 base w (.slice (some ⟨g, 0, none⟩) (l.length + 3) cap) (l ++ [behind, behind, behind])

theorem LentV.is {base : Nat} {w : World} {v : Value} {l : List Bm.Ov} (h : LentV base w v l) : IsO w v l := by
  obtain ⟨g, cap, rfl, hc, hm, ho⟩ := h
  have := ho.is.front l.length (by simp)
  rwa [List.take_left] at this

theorem LentV.below {base : Nat} {w w' : World} {v : Value} {l : List Bm.Ov} (h : LentV base w v l) (hb : Below w.heap.size w w') : LentV base w' v l := by
  obtain ⟨g, cap, rfl, hc, hm, ho⟩ := h
  exact ⟨g, cap, rfl, hc, hm, ho.below hb⟩

theorem LentV.keepT {e' base : Nat} {w w' : World} {v : Value} {l : List Bm.Ov} (h : LentV base w v l) (k : KeepT e' w w') (hne : 87 ≠ e') : LentV base w' v l := by
  obtain ⟨g, cap, rfl, hc, hm, ho⟩ := h
  exact ⟨g, cap, rfl, hc, hm, ho.keepT k hne⟩

theorem LentV.rebase {base base' : Nat} {w : World} {v : Value} {l : List Bm.Ov} (h : LentV base w v l) (hb : base' ≤ base) : LentV base' w v l := by
  obtain ⟨g, cap, rfl, hc, hm, ho⟩ := h
  exact ⟨g, cap, rfl, hc, hm, ho.rebase hb⟩

theorem lent_of {base : Nat} {w : World} {v : Value} {l : List Bm.Ov} (h : OwnO 87 base w v (l ++ [behind, behind, behind])) :
    ∃ g cap, v = .slice (some ⟨g, 0, none⟩) (l.length + 3) cap ∧ l.length + 3 ≤ cap ∧ cap ≤ maxLen ∧ OwnO 87 base w (.slice (some ⟨g, 0, none⟩) (l.length + 3) cap) (l ++ [behind, behind, behind]) := by
  have h' := h
  rcases h.2 with ⟨_, hn⟩ | ⟨g, cap, cur, hv, h1, hh, hc, hm, hs, ht⟩
  · simp at hn
  · rw [List.length_append, show [behind, behind, behind].length = 3 from rfl] at hv hc
    exact ⟨g, cap, hv, hc, hm, hv ▸ h'⟩

theorem run_front (g n m cap p : Nat) (hp : p ≤ cap) (wx : World) : (Instr.slice 30 (.slice (some ⟨g, 0, none⟩) n cap) none (some (.int .i64 p)) none).run Try.prog wx = .ok (.slice (some ⟨g, 0, none⟩) p cap) wx := by
  rw [run_slice_h wx 30 (some ⟨g, 0, none⟩) n cap Try.elemO .i64 _ (by omega) (by omega), Try.sizeO]
  simp only [Result.andThen, sliced]
  simp [Addr.add]

set_option maxHeartbeats 1000000 in
theorem copyC_any (e n : Int) (v : Value) (l : List Bm.Ov) (w : World) (h : IsO w v l) (hl : l.length * 40 ≤ 140737488351232) :
    Calls Try.prog 66 #[cmv e n v] w fun E w' => ∃ v', E = .returned (cmv e n v') ∧ OwnO 87 w.heap.size w' v' l ∧ Below w.heap.size w w' := by
  unfold cmv
  obtain ⟨w1, hw1, sz1, bel1, hB⟩ := blk_step w #[.int .i64 e, .int .i64 n, v] 32
  obtain ⟨w2, hw2, sz2, bel2, hR⟩ := blk_step w1 #[.int .i64 0, .int .i64 0, .slice none 0 0] 32
  rw [sz1] at hR
  have hB2 := (bel2.block w.heap.size (by omega)).trans hB
  have bel02 : Below w.heap.size w w2 := bel1.trans (bel2.mono (by omega))
  have h2 := h.below bel02
  obtain ⟨ao, cap, rfl, _, _⟩ := h.shape
  have c0 := blk_cell hB2 0 rfl
  have c1 := blk_cell hB2 1 rfl
  have c2 := blk_cell hB2 2 rfl
  have HB := hide hB2
  have HR := hide hR
  clear hB hB2 hR bel1 bel2
  go_enter Try.func66, Try.ntmps66
  go_wp2_with fail
  go_region_held3 (fun w' => w'.cell? ⟨w.heap.size, 0, none⟩ = some (.int .i64 e) ∧ w'.cell? ⟨w.heap.size, 1, none⟩ = some (.int .i64 n) ∧ w'.cell? ⟨w.heap.size, 2, none⟩ = some (.slice ao l.length cap)) (first | exact ⟨c0, c1, c2⟩ | exact ⟨a0, a1, a2⟩ | exact ⟨b0, b1, b2⟩ | go_keep)
    (first
    | (go_at_call 89; refine (copyO_any _ l _ (h2.drewN 1) (by omega)).mono ?_; rintro E w3 ⟨v3, rfl, own3, bel3'⟩; have bel3 : Below w2.heap.size w2 w3 := ((Below.refl _ _).drew).trans bel3'; have sz3 := bel3.size; have hB3 := (bel3.block w.heap.size (by omega)).trans HB.out; have hR3 := (bel3.block (w.heap.size + 1) (by omega)).trans HR.out; have a0 := blk_cell hB3 0 rfl; have a1 := blk_cell hB3 1 rfl; have a2 := blk_cell hB3 2 rfl; obtain ⟨ah, ch, hv3, _, _⟩ := own3.is.shape; subst hv3; obtain ⟨V', hV', bV', gV', ⟨r0, r1, r2⟩, ⟨f0, f1, f2⟩, ⟨z0, z1, z2⟩⟩ := res_step hR3 (.int .i64 e) (.int .i64 n) (.slice ah l.length ch); have belV' := below_put (bel02.trans (bel3.mono (by omega))) gV' (by omega) (by omega); have szV := gV'.size; have ownV' := (own3.keptg gV' (show w.heap.size + 1 < w2.drew.heap.size by simp; omega)).rebase (base' := w.heap.size) (show w.heap.size ≤ w2.drew.heap.size by simp; omega); have hBV := (gV'.block w.heap.size (by omega) (by simp)).trans hB3; have b0 := blk_cell hBV 0 rfl; have b1 := blk_cell hBV 1 rfl; have b2 := blk_cell hBV 2 rfl; clear bel3' hB3 hR3 own3 bV' gV' hBV))
  go_wp2
  refine bodyPost_ret (v := .agg #[.int .i64 e, .int .i64 n, .slice ah l.length ch]) (by simp [results, Try.results66, go_sem, z0, z1, z2]) rfl ?_
  exact ⟨_, rfl, ownV', belV'⟩

end Go.Proofs.Ytimmohpnlieefaa

/- The contracts of the laws' copies of lists of commits: CopyCommits, LentCommits, KeptCommits. -/
namespace Go.Proofs.Ytimmohpnlieefaa
open Go.RowKit
set_option linter.unusedVariables false

theorem cw_ext {c d : Cw} (h : c.c = d.c) : c.e = d.e ∧ c.n = d.n ∧ c.l = d.l := by
  unfold Cw.c at h
  simpa using h

theorem cvs_at {r s : List Cw} (h : cvs r = cvs s) {k : Nat} {c : Cw} (hc : r[k]? = some c) : ∃ d, s[k]? = some d ∧ c.e = d.e ∧ c.n = d.n ∧ c.l = d.l := by
  have h1 : (cvs r)[k]? = some c.c := by unfold cvs; rw [List.getElem?_map, hc]; rfl
  rw [h] at h1
  unfold cvs at h1
  rw [List.getElem?_map, Option.map_eq_some_iff] at h1
  obtain ⟨d, hd, he⟩ := h1
  obtain ⟨e1, e2, e3⟩ := cw_ext he
  exact ⟨d, hd, e1.symm, e2.symm, e3.symm⟩

theorem cvs_len {r s : List Cw} (h : cvs r = cvs s) : r.length = s.length := by
  have := congrArg List.length h
  simpa [cvs] using this

theorem cvs_take (r : List Cw) (k : Nat) : cvs (r.take k) = (cvs r).take k := by unfold cvs; rw [List.map_take]

theorem cvs_snoc {rs r : List Cw} {k : Nat} {c d : Cw} (h : cvs rs = cvs (r.take k)) (hd : r[k]? = some d) (he : c.c = d.c) : cvs (rs ++ [c]) = cvs (r.take (k + 1)) := by
  obtain ⟨hk, rfl⟩ := List.getElem?_eq_some_iff.1 hd
  rw [List.take_succ_eq_append_getElem hk]
  unfold cvs at h ⊢
  rw [List.map_append, List.map_append, h]
  simp [he]

/-- The loop of CopyCommits: what was made of the first ones. -/
def CopyR (base : Nat) (w : World) (rs : List Cw) : Prop := ∀ c ∈ rs, OwnO 87 base w c.v c.l
def LentR (base : Nat) (w : World) (rs : List Cw) : Prop := ∀ c ∈ rs, LentV base w c.v c.l

theorem CopyR.inC {base : Nat} {w : World} {rs r : List Cw} (h : CopyR base w rs) (he : cvs rs = cvs r) {w' : World} (hr : InC w' r) : InC w rs := by
  intro c hc
  obtain ⟨k, hk⟩ := List.getElem?_of_mem hc
  obtain ⟨d, hd, e1, e2, _⟩ := cvs_at he hk
  obtain ⟨_, i1, i2⟩ := hr d (List.mem_of_getElem? hd)
  exact ⟨(h c hc).is, by rw [e1]; exact i1, by rw [e2]; exact i2⟩

theorem LentR.inC {base : Nat} {w : World} {rs r : List Cw} (h : LentR base w rs) (he : cvs rs = cvs r) {w' : World} (hr : InC w' r) : InC w rs := by
  intro c hc
  obtain ⟨k, hk⟩ := List.getElem?_of_mem hc
  obtain ⟨d, hd, e1, e2, _⟩ := cvs_at he hk
  obtain ⟨_, i1, i2⟩ := hr d (List.mem_of_getElem? hd)
  exact ⟨(h c hc).is, by rw [e1]; exact i1, by rw [e2]; exact i2⟩

theorem fit_same {rs r : List Cw} (he : cvs rs = cvs r) (hr : FitC r) : FitC rs := by
  intro c hc
  obtain ⟨k, hk⟩ := List.getElem?_of_mem hc
  obtain ⟨d, hd, _, _, e3⟩ := cvs_at he hk
  rw [e3]
  exact hr d (List.mem_of_getElem? hd)

theorem CopyR.below {base : Nat} {w w' : World} {rs : List Cw} (h : CopyR base w rs) (hb : Below w.heap.size w w') : CopyR base w' rs := fun c hc => (h c hc).below hb
theorem LentR.below {base : Nat} {w w' : World} {rs : List Cw} (h : LentR base w rs) (hb : Below w.heap.size w w') : LentR base w' rs := fun c hc => (h c hc).below hb
theorem CopyR.keepT {base : Nat} {w w' : World} {rs : List Cw} (h : CopyR base w rs) (hb : KeepT 32 w w') : CopyR base w' rs := fun c hc => (h c hc).keepT hb (by decide)
theorem LentR.keepT {base : Nat} {w w' : World} {rs : List Cw} (h : LentR base w rs) (hb : KeepT 32 w w') : LentR base w' rs := fun c hc => (h c hc).keepT hb (by decide)
theorem CopyR.snoc {base : Nat} {w : World} {rs : List Cw} (h : CopyR base w rs) {c : Cw} (hc : OwnO 87 base w c.v c.l) : CopyR base w (rs ++ [c]) := fun d hd => (List.mem_append.1 hd).elim (h d) (fun h => by rw [List.mem_singleton.1 h]; exact hc)
theorem LentR.snoc {base : Nat} {w : World} {rs : List Cw} (h : LentR base w rs) {c : Cw} (hc : LentV base w c.v c.l) : LentR base w (rs ++ [c]) := fun d hd => (List.mem_append.1 hd).elim (h d) (fun h => by rw [List.mem_singleton.1 h]; exact hc)

set_option maxHeartbeats 1000000 in
theorem copyCs_any (vl : Value) (r : List Cw) (w : World) (h : IsC w vl r) (hf : FitC r) (hl : r.length ≤ 1000) :
    Calls Try.prog 29 #[vl] w fun E w' => ∃ v rs, E = .returned v ∧ OwnR 32 w.heap.size w' v rs ∧ cvs rs = cvs r ∧ CopyR w.heap.size w' rs ∧ Below w.heap.size w w' := by
  by_cases hz : r.length = 0
  · have : r = [] := List.eq_nil_of_length_eq_zero hz
    subst this
    obtain ⟨ao, cap, rfl, _, _⟩ := h.1.shape
    clear h hf hl hz
    simp only [List.length_nil]
    go_enter Try.func29, Try.ntmps29
    go_wp2
    go_loopw [3, 4] (fun ov iv wr => ov = .slice none 0 0 ∧ iv = .int .i64 0 ∧ wr = w) (fun _ _ _ => 0)
    case atStart => exact ⟨rfl, rfl, rfl⟩
    case round =>
      obtain ⟨rfl, rfl, rfl⟩ := hrel
      go_wp2
      go_ret
      exact ⟨_, [], rfl, OwnR.nil _ _ _, rfl, fun c hc => by simp at hc, Below.refl _ _⟩
  obtain ⟨b1, o1, c1, hvl, _, _, hB, hcell⟩ := h.1.full (by omega)
  subst hvl
  have HIN := hide h.2
  have HFIT := hide hf
  have HC := hide hcell
  generalize hn : r.length = n at *
  have HN := hide hn
  clear h hcell hf hn
  go_enter Try.func29, Try.ntmps29
  go_wp2
  go_loopw [3, 4] (fun ov iv wr => ∃ (k : Nat) (rs : List Cw), k ≤ n ∧ iv = .int .i64 k ∧ rs.length = k ∧ Hid (OwnR 32 w.heap.size wr ov rs ∧ cvs rs = cvs (r.take k) ∧ CopyR w.heap.size wr rs) ∧ Below w.heap.size w wr) (fun _ iv _ => n - (intOf iv).toNat)
  case atStart => exact ⟨0, [], by omega, rfl, rfl, ⟨OwnR.nil _ _ _, rfl, fun c hc => by simp at hc⟩, Below.refl _ _⟩
  case round =>
    obtain ⟨k, rs, hk, rfl, hrl, HT, bel⟩ := hrel
    have sz := bel.size
    by_cases hlt : k < n
    · obtain ⟨c, hc⟩ : ∃ c, r[k]? = some c := ⟨r[k]'(by have := HN.out; omega), by rw [List.getElem?_eq_getElem]⟩
      obtain ⟨e0, e1, e2⟩ := HC.out k c hc
      have d0 := (bel.cell (p := ⟨b1, o1 + k * 3, none⟩) hB).trans e0
      have d1 := (bel.cell (p := ⟨b1, o1 + k * 3 + 1, none⟩) hB).trans e1
      have d2 := (bel.cell (p := ⟨b1, o1 + k * 3 + 2, none⟩) hB).trans e2
      have hmem := List.mem_of_getElem? hc
      obtain ⟨i1, _, _⟩ := HIN.out c hmem
      have i2 := i1.below bel
      obtain ⟨hfc, hlc⟩ := HFIT.out c hmem
      have HCK := hide hc
      have hlt' : (k : Int) < n := by omega
      clear hc hmem i1 e0 e1 e2
      go_wp2_with fail
      refine (copyC_any c.e c.n _ c.l _ i2 hlc).mono ?_
      rintro E w2 ⟨v2, rfl, own2, bel2⟩
      unfold cmv
      have sz2 := bel2.size
      obtain ⟨ah, ch, hv2, _, _⟩ := own2.is.shape
      subst hv2
      obtain ⟨w3, hw3, sz3, bel3, own3⟩ := coms_step 32 w2 #[.int .i64 c.e, .int .i64 c.n, .slice ah c.l.length ch] 1 [⟨c.e, c.n, .slice ah c.l.length ch, c.l⟩] rfl rfl (by simp [maxLen])
      obtain ⟨hO, hE, hP⟩ := HT.out
      have bel23 : Below wr.heap.size wr w3 := bel2.trans (bel3.mono (by omega))
      have hO3 := hO.below bel23
      have hP3 := hP.below bel23
      have own23 := (own2.below bel3).rebase (base' := w.heap.size) (by omega)
      have hlk : (rs.length + [(⟨c.e, c.n, .slice ah c.l.length ch, c.l⟩ : Cw)].length) * 40 ≤ 140737488355328 := by rw [List.length_singleton]; omega
      have HE := hide hE
      have HP := hide hP3
      have bel03 : Below w.heap.size w w3 := bel.trans (bel23.mono (by omega))
      clear HT hO hP hP3 hE bel2 bel3 bel23 own2 bel d0 d1 d2 i2
      go_wp2_with (at_builtin; refine wpList_append_coms rfl (.tmp 11) (.tmp 17) 34 rfl 32 w.heap.size Try.underlying34 Try.info32 _ rs rfl hO3 _ _ rfl own3.row (by intro c hc; rw [List.mem_singleton.1 hc]; rfl) hlk (by omega) ?_)
      intro v4 w4 own4 bel4 kp4
      have HT2 : Hid (OwnR 32 w.heap.size w4 v4 (rs ++ [⟨c.e, c.n, .slice ah c.l.length ch, c.l⟩]) ∧ cvs (rs ++ [⟨c.e, c.n, .slice ah c.l.length ch, c.l⟩]) = cvs (r.take (k + 1)) ∧ CopyR w.heap.size w4 (rs ++ [⟨c.e, c.n, .slice ah c.l.length ch, c.l⟩])) :=
        ⟨own4, cvs_snoc HE.out HCK.out rfl, (HP.out.keepT kp4).snoc (own23.keepT kp4 (by decide))⟩
      have bel04 := bel03.trans bel4
      clear own4 kp4 own23 own3 hO3 HE HP bel03 bel4 hlk
      go_wp2
      go_roundw
      case rel => exact ⟨k + 1, _, by omega, by go_num, by rw [List.length_append, hrl]; rfl, HT2, bel04⟩
      case measure => simp [intOf]; omega
    · have hlt' : ¬ (k : Int) < n := by omega
      have HE : Hid (cvs rs = cvs r) := hide (by rw [HT.out.2.1, List.take_of_length_le (by have := HN.out; omega)])
      go_wp2
      go_ret
      exact ⟨_, rfl, rs, HT.out.1, HE.out, HT.out.2.2, bel⟩

/-- What stands behind commits that are lent. -/
def behC : Cw := ⟨-7, 0, .slice none 0 0, []⟩

end Go.Proofs.Ytimmohpnlieefaa

/- The contract of the laws' KeptCommits. -/
namespace Go.Proofs.Ytimmohpnlieefaa
open Go.RowKit
set_option linter.unusedVariables false

theorem row_at {w : World} {b o : Nat} {r : List Cw} (h : ∀ i c, r[i]? = some c → w.cell? ⟨b, o + i * 3, none⟩ = some (.int .i64 c.e) ∧ w.cell? ⟨b, o + i * 3 + 1, none⟩ = some (.int .i64 c.n) ∧ w.cell? ⟨b, o + i * 3 + 2, none⟩ = some c.v) {w' : World} {base : Nat} (hb : Below base w w') (hB : b < base) {k : Nat} {c : Cw} (hc : r[k]? = some c) :
    w'.cell? ⟨b, o + k * 3, none⟩ = some (.int .i64 c.e) ∧ w'.cell? ⟨b, o + k * 3 + 1, none⟩ = some (.int .i64 c.n) ∧ w'.cell? ⟨b, o + k * 3 + 2, none⟩ = some c.v := by
  obtain ⟨e0, e1, e2⟩ := h k c hc
  exact ⟨(hb.cell (p := ⟨b, o + k * 3, none⟩) hB).trans e0, (hb.cell (p := ⟨b, o + k * 3 + 1, none⟩) hB).trans e1, (hb.cell (p := ⟨b, o + k * 3 + 2, none⟩) hB).trans e2⟩

end Go.Proofs.Ytimmohpnlieefaa

/- An append of commits inside a region that draws its order; front and back parts of a list of commits by their values; a variable that is no fault. -/
namespace Go.Proofs.Ytimmohpnlieefaa
open Go.RowKit
set_option linter.unusedVariables false

/-- 'append(out, xs...)' of commits inside a region that draws its order. -/
theorem step_append_coms {P : Program} {ops : Array Oper} {o : Oper} {a : Act} {w : World} {K : Act → World → Prop} {Q : Exit → Act → World → Prop} {E : Prop} (hgd : o.guard = none) (s x : Operand) (t : TypeId)
    (ho : o.op = .call { callee := .builtin .append, args := #[s, x], argTypes := #[t, t] })
    (e : TypeId) (base : Nat) (ht : P.underlying t = some (.slice e)) (hinfo : (P.info? e).map (fun i => (i.zero, i.size, i.bytes)) = some (some (.agg #[.int .i64 0, .int .i64 0, .slice none 0 0]), 3, 40))
    (v : Value) (l : List Cw) (hs : a.eval s = v) (hown : OwnR e base w v l) (vx : Value) (m : List Cw) (hx : a.eval x = vx) (his : RowC w vx m) (hone : ∀ c ∈ m, c.v.oneCell' = true)
    (hlen : (l.length + m.length) * 40 ≤ 140737488355328) (hbase : base ≤ w.heap.size)
    (h : ∀ v' w', OwnR e base w' v' (l ++ m) → Below base w w' → KeepT e w w' → K (a.put o.dst v') w') :
    if Region.wanted o (yielded ops a.tmps) = true then Oper.wp P o a w K Q else E := by
  have hw : Region.wanted o (yielded ops a.tmps) = true := by simp [Region.wanted, hgd]
  rw [if_pos hw]
  obtain ⟨i, hi, hz, hsize, hb⟩ := info_parts hinfo
  have hn : l.length + m.length ≤ 140737488355328 := by omega
  rcases his with ⟨hv, hy⟩ | ⟨ad, cap, hv, h1, h2, hc⟩
  · subst hy
    have hrun := run_append_owned_none (P := P) (w := w) base t o.type e i 3 ht hi v l.length _ hown
    have hk := h v w (by simpa using hown) (Below.refl _ _) (KeepT.refl _ _)
    unfold Oper.wp
    simp [execOp, ho, resolve, invoke, builtin, hs, hx.trans hv, hrun, Result.andThen]
    exact hk
  · refine wp_append_own w s x t ho base e i _ 3 40 ht hi hz hsize hb rfl (by decide) v l.length _ hs hown ad m.length cap (ccells m) (hx.trans hv) (ccells_len m) hc (ccells_cell m hone) (by unfold maxLen; omega) hlen hbase ?_
    intro v' w' ho' hg _
    refine h v' w' (by unfold OwnR; rw [ccells_app, List.length_append]; exact ho') ((Below.refl _ _).grown hg hbase fun k' hk => ?_) (KeepT.of_row hown hg)
    exact (World.ownsRow.lt hown k' hk).1

theorem RowC.front {w : World} {ad : Addr} {n cap : Nat} {l : List Cw} (h : RowC w (.slice (some ad) n cap) l) (p : Nat) (hp : p ≤ l.length) : RowC w (.slice (some ad) p cap) (l.take p) := by
  have hl : (l.take p).length = p := by rw [List.length_take]; omega
  rcases h with ⟨hv, _⟩ | ⟨ad', cap', hv, h1, h2, hc⟩
  · simp at hv
  · simp at hv
    obtain ⟨rfl, rfl, rfl⟩ := hv
    refine .inr ⟨ad, cap, by rw [hl], by omega, h2, fun j u hj => hc j u ?_⟩
    rw [ccells_take, List.getElem?_take] at hj
    split at hj
    · exact hj
    · simp at hj

theorem RowC.back {w : World} {b off n cap : Nat} {l : List Cw} (h : RowC w (.slice (some ⟨b, off, none⟩) n cap) l) (p : Nat) (hp : p < l.length) : RowC w (.slice (some ⟨b, off + p * 3, none⟩) (l.length - p) (cap - p)) (l.drop p) := by
  rcases h with ⟨hv, _⟩ | ⟨ad', cap', hv, h1, h2, hc⟩
  · simp at hv
  · simp at hv
    obtain ⟨rfl, rfl, rfl⟩ := hv
    refine .inr ⟨⟨b, off + p * 3, none⟩, cap - p, by simp, by simp; omega, by omega, fun j u hj => ?_⟩
    rw [ccells_drop, List.getElem?_drop] at hj
    have := hc _ _ hj
    rw [add_at] at this ⊢
    rw [Nat.add_assoc]
    exact this

theorem run_frontC (b off n cap p : Nat) (hp : p ≤ cap) (wx : World) : (Instr.slice 34 (.slice (some ⟨b, off, none⟩) n cap) none (some (.int .i64 p)) none).run Try.prog wx = .ok (.slice (some ⟨b, off, none⟩) p cap) wx := by
  rw [run_slice_h wx 34 (some ⟨b, off, none⟩) n cap Try.elemC .i64 _ (by omega) (by omega), Try.sizeC]
  simp only [Result.andThen, sliced]
  simp [Addr.add]

theorem run_backC (b off n cap p : Nat) (hp : p < n) (hn : n ≤ cap) (wx : World) : (Instr.slice 34 (.slice (some ⟨b, off, none⟩) n cap) (some (.int .i64 p)) none none).run Try.prog wx = .ok (.slice (some ⟨b, off + p * 3, none⟩) (n - p) (cap - p)) wx := by
  rw [run_slice_l wx 34 (some ⟨b, off, none⟩) n cap Try.elemC .i64 _ (by omega) (by omega), Try.sizeC]
  have hne : ¬ cap = p := by omega
  simp [Result.andThen, sliced, hne, add_at]

theorem Try.enters29 : ∀ args w, (callFunc 29 args).run Try.prog w = .ok (.enter 29 args) w := enters_of Try.func29 (by kernel_rfl) rfl
theorem Try.enters70 : ∀ args w, (callFunc 70 args).run Try.prog w = .ok (.enter 70 args) w := enters_of Try.func70 (by kernel_rfl) rfl

/-- 'none := api.Fault{}'. -/
theorem none_step (w : World) (t : TypeId) : ∃ V, w.alloc (.cells #[.int .i64 0, .int .i64 0] t) = V ∧ V.heap.size = w.heap.size + 1 ∧ Below w.heap.size w V ∧ V.heap[w.heap.size]? = some (.cells #[.int .i64 0, .int .i64 0] t (0, 0)) ∧
    (V.cell? ⟨w.heap.size, 0, none⟩ = some (.int .i64 0) ∧ V.cell? ⟨w.heap.size, 1, none⟩ = some (.int .i64 0)) ∧ (V.frozen? ⟨w.heap.size, 0, none⟩ = false ∧ V.frozen? ⟨w.heap.size, 1, none⟩ = false) ∧
    (V.setCell ⟨w.heap.size, 0, none⟩ (.int .i64 0) = V ∧ V.setCell ⟨w.heap.size, 1, none⟩ (.int .i64 0) = V) := by
  obtain ⟨V, h1, h2, h3, h4⟩ := blk_step w #[.int .i64 0, .int .i64 0] t
  exact ⟨V, h1, h2, h3, h4, ⟨blk_cell h4 0 rfl, blk_cell h4 1 rfl⟩, ⟨blk_froz h4 0, blk_froz h4 1⟩, ⟨set_same h4 (j := 0) rfl, set_same h4 (j := 1) rfl⟩⟩

/-- No fault, or one. -/
theorem fol_two (r : List Cm.Cv) (ep nu : Int) : (Cm.Good ep nu r ∧ Cm.fol ep nu 0 r = (0, 0)) ∨ (¬ Cm.Good ep nu r ∧ (Cm.fol ep nu 0 r).1 ≠ 0) := by
  by_cases h : Cm.Good ep nu r
  · have h1 := (Cm.fol_good r ep nu 0).2 h
    exact .inl ⟨h, Prod.ext h1 (Cm.fol_at r ep nu 0 h1)⟩
  · exact .inr ⟨h, fun h1 => h ((Cm.fol_good r ep nu 0).1 h1)⟩

end Go.Proofs.Ytimmohpnlieefaa

/- Lists of commits: the same, of the call's own, apart. -/
namespace Go.Proofs.Ytimmohpnlieefaa
open Go.RowKit
set_option linter.unusedVariables false

/-- Whether two lists of commits are the same. -/
def sameV : List Cm.Cv → List Cm.Cv → Bool
  | [], [] => true
  | c :: r, d :: s => sameC c.e c.n c.l d.e d.n d.l && sameV r s
  | _, _ => false

theorem sameC_iff {e n e' n' : Int} {l l' : List Bm.Ov} : sameC e n l e' n' l' = true ↔ e = e' ∧ n = n' ∧ l = l' := by
  simp [sameC, Bm.sameL_iff]

theorem sameV_iff : ∀ {r s : List Cm.Cv}, sameV r s = true ↔ r = s
  | [], [] => by simp [sameV]
  | [], _ :: _ => by simp [sameV]
  | _ :: _, [] => by simp [sameV]
  | ⟨e, n, l⟩ :: r, ⟨e', n', l'⟩ :: s => by
    simp only [sameV, Bool.and_eq_true, sameC_iff, sameV_iff (r := r) (s := s)]
    simp [and_assoc]

theorem sameV_no {r s : List Cm.Cv} (h : r ≠ s) : sameV r s = false := by
  cases hs : sameV r s
  · rfl
  · exact absurd (sameV_iff.1 hs) h

theorem sameV_self (r : List Cm.Cv) : sameV r r = true := sameV_iff.2 rfl

theorem cvs_length (r : List Cw) : (cvs r).length = r.length := by unfold cvs; rw [List.length_map]

/-- A list's cells, where there are any. -/
theorem isC_cells {w : World} {v : Value} {r : List Cw} (h : IsC w v r) : 0 < r.length → ∃ b1 o1 c1, v = .slice (some ⟨b1, o1, none⟩) r.length c1 ∧ b1 < w.heap.size ∧ ∀ i c, r[i]? = some c → w.cell? ⟨b1, o1 + i * 3, none⟩ = some (.int .i64 c.e) ∧ w.cell? ⟨b1, o1 + i * 3 + 1, none⟩ = some (.int .i64 c.n) ∧ w.cell? ⟨b1, o1 + i * 3 + 2, none⟩ = some c.v := by
  intro hp
  obtain ⟨b1, o1, c1, hv, _, _, hB, hc⟩ := h.1.full hp
  exact ⟨b1, o1, c1, hv, hB, hc⟩

theorem cvs_get (r : List Cw) (k : Nat) : (cvs r)[k]? = (r[k]?).map Cw.c := by unfold cvs; rw [List.getElem?_map]

set_option maxHeartbeats 1000000 in
theorem sameCs_any (va vb : Value) (r s : List Cw) (w : World) (ha : IsC w va r) (hb : IsC w vb s) (fa : FitC r) (fb : FitC s) (hl : r.length ≤ 140737488355328) (hl' : s.length ≤ 140737488355328) :
    Calls Try.prog 16 #[va, vb] w fun E w' => E = .returned (.bool (sameV (cvs r) (cvs s))) ∧ Below w.heap.size w w' := by
  obtain ⟨ans, hans⟩ : ∃ x, sameV (cvs r) (cvs s) = x := ⟨_, rfl⟩
  rw [hans]
  have HA := hide hans
  clear hans
  obtain ⟨a1, p1, hva, _, _⟩ := ha.1.shape
  obtain ⟨a2, p2, hvb, _, _⟩ := hb.1.shape
  by_cases hne : r.length = s.length
  · have C1 := hide (isC_cells ha)
    have C2 := hide (isC_cells hb)
    have I1 := hide ha.2
    have I2 := hide hb.2
    have F1 := hide fa
    have F2 := hide fb
    have HL := hide hne
    have ht : ((r.length : Int) != (s.length : Int)) = false := by simp; omega
    subst hva hvb
    generalize hn : r.length = n at *
    generalize hm : s.length = m at *
    have HN := hide hn
    have HM := hide hm
    clear ha hb fa fb hne hn hm
    go_enter Try.func16, Try.ntmps16
    go_wp2
    go_loopw [5] (fun i wr => ∃ (k : Nat), k ≤ n ∧ i = .int .i64 k ∧ Hid ((cvs r).take k = (cvs s).take k) ∧ Below w.heap.size w wr) (fun i _ => n - (intOf i).toNat)
    case atStart => exact ⟨0, by omega, rfl, hide rfl, Below.refl _ _⟩
    case round =>
      obtain ⟨k, hk, rfl, HT, bel⟩ := hrel
      have sz := bel.size
      by_cases hlt : k < n
      · obtain ⟨b1, o1, c1, hv1, hB1, hc1⟩ := C1.out (by have := HN.out; omega)
        obtain ⟨b2, o2, c2, hv2, hB2, hc2⟩ := C2.out (by have := HM.out; have := HL.out; omega)
        simp only [Value.slice.injEq, true_and] at hv1 hv2
        obtain ⟨rfl, rfl⟩ := hv1
        obtain ⟨rfl, rfl⟩ := hv2
        obtain ⟨c, hc⟩ := at_of (l := r) (k := k) (by have := HN.out; omega)
        obtain ⟨d, hd⟩ := at_of (l := s) (k := k) (by have := HM.out; have := HL.out; omega)
        obtain ⟨x0, x1, x2⟩ := row_at hc1 bel hB1 hc
        obtain ⟨y0, y1, y2⟩ := row_at hc2 bel hB2 hd
        have i1 := (I1.out c (List.mem_of_getElem? hc)).1.below bel
        have i2 := (I2.out d (List.mem_of_getElem? hd)).1.below bel
        have l1 := (F1.out c (List.mem_of_getElem? hc)).2
        have l2 := (F2.out d (List.mem_of_getElem? hd)).2
        have hlt' : (k : Int) < n := by omega
        have hlt2 : (k : Int) < m := by have := HL.out; omega
        have hB1' : b1 < wr.heap.size := by omega
        have hB2' : b2 < wr.heap.size := by omega
        have X := hide (fun W (h1 : IsO W c.v c.l) (h2 : IsO W d.v d.l) => csameK_any c.e c.n _ c.l d.e d.n _ d.l W h1 h2 (by omega) (by omega))
        have HC := hide hc
        have HD := hide hd
        obtain ⟨sm, hsm⟩ : ∃ x, sameC c.e c.n c.l d.e d.n d.l = x := ⟨_, rfl⟩
        rw [hsm] at X
        have HSM := hide hsm
        clear hc hd hc1 hc2 l1 l2 hsm
        cases sm
        · have hfo := HA.out
          rw [sameV_no fun e => by
            have h1 : (cvs r)[k]? = some c.c := by rw [cvs_get, HC.out]; rfl
            rw [e, cvs_get, HD.out] at h1
            have h2 : d.c = c.c := by simpa using h1
            obtain ⟨q1, q2, q3⟩ := cw_ext h2
            have := HSM.out
            rw [sameC_iff.2 ⟨q1.symm, q2.symm, q3.symm⟩] at this
            simp at this] at hfo
          subst hfo
          go_wp2_with fail
          go_region_held3 (fun w' => (w'.cell? ⟨b1, o1 + k * 3, none⟩ = some (.int .i64 c.e) ∧ w'.cell? ⟨b1, o1 + k * 3 + 1, none⟩ = some (.int .i64 c.n) ∧ w'.cell? ⟨b1, o1 + k * 3 + 2, none⟩ = some c.v) ∧ (w'.cell? ⟨b2, o2 + k * 3, none⟩ = some (.int .i64 d.e) ∧ w'.cell? ⟨b2, o2 + k * 3 + 1, none⟩ = some (.int .i64 d.n) ∧ w'.cell? ⟨b2, o2 + k * 3 + 2, none⟩ = some d.v)) (first | exact ⟨⟨x0, x1, x2⟩, ⟨y0, y1, y2⟩⟩ | exact ⟨⟨g0, g1, g2⟩, ⟨h0, h1, h2⟩⟩ | go_keep)
            (first
            | (go_at_call 54; refine (X.out _ (i1.drewN 1) (i2.drewN 1)).mono ?_; rintro E w3 ⟨rfl, bel3'⟩; have bel3 : Below wr.heap.size wr w3 := ((Below.refl _ _).drew).trans bel3'; have g0 := (bel3.cell (p := ⟨b1, o1 + k * 3, none⟩) hB1').trans x0; have g1 := (bel3.cell (p := ⟨b1, o1 + k * 3 + 1, none⟩) hB1').trans x1; have g2 := (bel3.cell (p := ⟨b1, o1 + k * 3 + 2, none⟩) hB1').trans x2; have h0 := (bel3.cell (p := ⟨b2, o2 + k * 3, none⟩) hB2').trans y0; have h1 := (bel3.cell (p := ⟨b2, o2 + k * 3 + 1, none⟩) hB2').trans y1; have h2 := (bel3.cell (p := ⟨b2, o2 + k * 3 + 2, none⟩) hB2').trans y2; clear bel3'))
          have belR := bel.trans (bel3.mono (by omega))
          go_wp2
          go_ret
          exact ⟨rfl, belR⟩
        · have HT2 : Hid ((cvs r).take (k + 1) = (cvs s).take (k + 1)) := hide (by
            obtain ⟨q1, q2, q3⟩ := sameC_iff.1 HSM.out
            rw [List.take_add_one, List.take_add_one, HT.out, cvs_get, cvs_get, HC.out, HD.out]
            simp [Cw.c, q1, q2, q3])
          go_wp2_with fail
          go_region_held3 (fun w' => (w'.cell? ⟨b1, o1 + k * 3, none⟩ = some (.int .i64 c.e) ∧ w'.cell? ⟨b1, o1 + k * 3 + 1, none⟩ = some (.int .i64 c.n) ∧ w'.cell? ⟨b1, o1 + k * 3 + 2, none⟩ = some c.v) ∧ (w'.cell? ⟨b2, o2 + k * 3, none⟩ = some (.int .i64 d.e) ∧ w'.cell? ⟨b2, o2 + k * 3 + 1, none⟩ = some (.int .i64 d.n) ∧ w'.cell? ⟨b2, o2 + k * 3 + 2, none⟩ = some d.v)) (first | exact ⟨⟨x0, x1, x2⟩, ⟨y0, y1, y2⟩⟩ | exact ⟨⟨g0, g1, g2⟩, ⟨h0, h1, h2⟩⟩ | go_keep)
            (first
            | (go_at_call 54; refine (X.out _ (i1.drewN 1) (i2.drewN 1)).mono ?_; rintro E w3 ⟨rfl, bel3'⟩; have bel3 : Below wr.heap.size wr w3 := ((Below.refl _ _).drew).trans bel3'; have g0 := (bel3.cell (p := ⟨b1, o1 + k * 3, none⟩) hB1').trans x0; have g1 := (bel3.cell (p := ⟨b1, o1 + k * 3 + 1, none⟩) hB1').trans x1; have g2 := (bel3.cell (p := ⟨b1, o1 + k * 3 + 2, none⟩) hB1').trans x2; have h0 := (bel3.cell (p := ⟨b2, o2 + k * 3, none⟩) hB2').trans y0; have h1 := (bel3.cell (p := ⟨b2, o2 + k * 3 + 1, none⟩) hB2').trans y1; have h2 := (bel3.cell (p := ⟨b2, o2 + k * 3 + 2, none⟩) hB2').trans y2; clear bel3'))
          have belR := bel.trans (bel3.mono (by omega))
          clear x0 x1 x2 y0 y1 y2 g0 g1 g2 h0 h1 h2 i1 i2 bel3 bel
          go_wp2
          go_roundw
          case rel => exact ⟨k + 1, by omega, by go_num, HT2, belR⟩
          case measure => simp [intOf]; omega
      · have hlt' : ¬ (k : Int) < n := by omega
        have hfo := HA.out
        rw [sameV_iff.2 (by
          have h1 := HT.out
          rw [List.take_of_length_le (by rw [cvs_length, HN.out]; omega), List.take_of_length_le (by rw [cvs_length, HM.out]; have := HL.out; omega)] at h1
          exact h1)] at hfo
        subst hfo
        clear HA
        go_wp2
        go_ret
        exact ⟨rfl, bel⟩
  · have ht : ((r.length : Int) != (s.length : Int)) = true := by simp; omega
    have hfo := HA.out
    rw [sameV_no fun e => hne (by rw [← cvs_length r, ← cvs_length s, e])] at hfo
    subst hfo hva hvb
    clear hne HA
    go_enter Try.func16, Try.ntmps16
    go_wp2
    go_ret
    exact ⟨rfl, Below.refl _ _⟩

/-- Commits whose ops lie apart. -/
def ApC (cs : List Cw) : Prop := ∀ (i j : Nat) (c d : Cw), i ≠ j → cs[i]? = some c → cs[j]? = some d → c.v.ownBlock = none ∨ c.v.ownBlock ≠ d.v.ownBlock

theorem OwnR.rebase {e base base' : Nat} {w : World} {v : Value} {l : List Cw} (h : OwnR e base w v l) (hb : base' ≤ base) : OwnR e base' w v l := by
  refine ⟨h.1, ?_⟩
  rcases h.2 with h | ⟨g, cap, cur, hv, h1, r⟩
  · exact .inl h
  · exact .inr ⟨g, cap, cur, hv, by omega, r⟩

theorem row_out {e base size n : Nat} {w w' : World} {v : Value} {xs : List Value} {F : Nat → Prop} (h : w.ownsRow base e size v n xs) (ho : Out F w w') (hF : ∀ i, F i → i < base) : w'.ownsRow base e size v n xs :=
  row_agree h fun g hg => ho.block g (World.ownsRow.lt h g hg).2 fun hf => by have := hF g hf; have := (World.ownsRow.lt h g hg).1; omega

theorem row_rebase {e base base' size n : Nat} {w : World} {v : Value} {xs : List Value} (h : w.ownsRow base e size v n xs) (hb : base' ≤ base) : w.ownsRow base' e size v n xs := by
  refine ⟨h.1, ?_⟩
  rcases h.2 with k | ⟨g, cap, cur, hv, h1, r⟩
  · exact .inl k
  · exact .inr ⟨g, cap, cur, hv, Nat.le_trans hb h1, r⟩

theorem apc_snoc {cs : List Cw} {c : Cw} {N : Nat} (h : ApC cs) (h1 : ∀ d ∈ cs, ∀ b, d.v.ownBlock = some b → b < N) (h2 : ∀ b, c.v.ownBlock = some b → N ≤ b) : ApC (cs ++ [c]) := by
  intro i j x y hij hx hy
  have hix := (List.getElem?_eq_some_iff.1 hx).1
  have hjx := (List.getElem?_eq_some_iff.1 hy).1
  rw [List.length_append, List.length_singleton] at hix hjx
  have key : ∀ u v : Value, (∀ b d, u.ownBlock = some b → v.ownBlock = some d → b ≠ d) → u.ownBlock = none ∨ u.ownBlock ≠ v.ownBlock := by
    intro u v h
    cases hu : u.ownBlock with
    | none => exact .inl rfl
    | some b => exact .inr fun e => h b b hu e.symm rfl
  by_cases hi : i < cs.length
  · rw [List.getElem?_append_left hi] at hx
    by_cases hj : j < cs.length
    · rw [List.getElem?_append_left hj] at hy
      exact h i j x y hij hx hy
    · have : j = cs.length := by omega
      subst this
      simp at hy
      subst hy
      exact key _ _ fun b d hb hd => by have := h1 x (List.mem_of_getElem? hx) b hb; have := h2 d hd; omega
  · have : i = cs.length := by omega
    subst this
    simp at hx
    subst hx
    rw [List.getElem?_append_left (by omega)] at hy
    exact key _ _ fun b d hb hd => by have := h2 b hb; have := h1 y (List.mem_of_getElem? hy) d hd; omega

end Go.Proofs.Ytimmohpnlieefaa

/- The contracts of the document's reader: Small, Bytes. -/
namespace Go.Proofs.Ytimmohpnlieefaa
open Go.RowKit
set_option linter.unusedVariables false

theorem Try.elemB : Try.prog.underlying 37 = some (.slice (Try.prog.elem 37)) := by kernel_rfl
theorem Try.sizeE (wx : World) : (sizeOf (Try.prog.elem 37)).run Try.prog wx = .ok 1 wx := by kernel_rfl

/-- A reader in block g: of the bytes bs (they lie where w0 has them), at a place, bad or not. -/
def Rdr (w0 w : World) (g : Nat) (vb : Value) (bs : List Int) (a : Nat) (bad : Bool) : Prop :=
  Is .u8 w0 vb bs ∧ w0.heap.size ≤ g ∧ Below w0.heap.size w0 w ∧ w.heap[g]? = some (.cells #[vb, .int .i64 a, .bool bad] 117 (0, 0)) ∧ a ≤ bs.length

theorem Rdr.lt {w0 w : World} {g a : Nat} {vb : Value} {bs : List Int} {bad : Bool} (h : Rdr w0 w g vb bs a bad) : g < w.heap.size := by
  rcases Nat.lt_or_ge g w.heap.size with h' | h'
  · exact h'
  · have := h.2.2.2.1
    simp [Array.getElem?_eq_none h'] at this

theorem Rdr.is {w0 w : World} {g a : Nat} {vb : Value} {bs : List Int} {bad : Bool} (h : Rdr w0 w g vb bs a bad) : Is .u8 w vb bs := h.1.below h.2.2.1

theorem Rdr.below {w0 w w' : World} {g a : Nat} {vb : Value} {bs : List Int} {bad : Bool} (h : Rdr w0 w g vb bs a bad) (hb : Below w.heap.size w w') : Rdr w0 w' g vb bs a bad := by
  have hl := h.lt
  have hs := h.2.2.1.size
  exact ⟨h.1, h.2.1, h.2.2.1.trans (hb.mono hs), (hb.block g hl).trans h.2.2.2.1, h.2.2.2.2⟩

theorem Rdr.cell0 {w0 w : World} {g a : Nat} {vb : Value} {bs : List Int} {bad : Bool} (h : Rdr w0 w g vb bs a bad) : w.cell? ⟨g, 0, none⟩ = some vb := by simp [World.cell?, h.2.2.2.1]
theorem Rdr.cell1 {w0 w : World} {g a : Nat} {vb : Value} {bs : List Int} {bad : Bool} (h : Rdr w0 w g vb bs a bad) : w.cell? ⟨g, 1, none⟩ = some (.int .i64 a) := by simp [World.cell?, h.2.2.2.1]
theorem Rdr.cell2 {w0 w : World} {g a : Nat} {vb : Value} {bs : List Int} {bad : Bool} (h : Rdr w0 w g vb bs a bad) : w.cell? ⟨g, 2, none⟩ = some (.bool bad) := by simp [World.cell?, h.2.2.2.1]
theorem Rdr.froz {w0 w : World} {g a : Nat} {vb : Value} {bs : List Int} {bad : Bool} (h : Rdr w0 w g vb bs a bad) (j : Nat) : w.frozen? ⟨g, j, none⟩ = false := by simp [World.frozen?, h.2.2.2.1]

theorem Rdr.put1 {w0 w : World} {g a : Nat} {vb : Value} {bs : List Int} {bad : Bool} (h : Rdr w0 w g vb bs a bad) (a' : Nat) (ha : a' ≤ bs.length) : Rdr w0 (w.setCell ⟨g, 1, none⟩ (.int .i64 a')) g vb bs a' bad :=
  ⟨h.1, h.2.1, h.2.2.1.setCell (p := ⟨g, 1, none⟩) h.2.1 _, by rw [set_cells h.2.2.2.1]; rfl, ha⟩
theorem Rdr.put2 {w0 w : World} {g a : Nat} {vb : Value} {bs : List Int} {bad : Bool} (h : Rdr w0 w g vb bs a bad) (bad' : Bool) : Rdr w0 (w.setCell ⟨g, 2, none⟩ (.bool bad')) g vb bs a bad' :=
  ⟨h.1, h.2.1, h.2.2.1.setCell (p := ⟨g, 2, none⟩) h.2.1 _, by rw [set_cells h.2.2.2.1]; rfl, h.2.2.2.2⟩

/-- What a reader's Small does. -/
def SStep (bs : List Int) (most a : Nat) (bad : Bool) (u a' : Nat) (bad' : Bool) : Prop :=
  (bad = true ∧ bad' = true ∧ u = 0 ∧ a' = a) ∨ (bad = false ∧ bad' = true ∧ u = 0 ∧ a' = a ∧ ∀ x : Nat, x ≤ most → ¬ Vm.enc x <+: bs.drop a) ∨ (bad = false ∧ bad' = false ∧ u ≤ most ∧ Vm.enc u <+: bs.drop a ∧ a' = a + Vm.sz u)

/-- What a reader's Bytes does. -/
def BStep (bs : List Int) (n a : Nat) (bad : Bool) (zs : List Int) (a' : Nat) (bad' : Bool) : Prop :=
  ((bad = true ∨ bs.length - a < n) ∧ bad' = true ∧ zs = [] ∧ a' = a) ∨ (bad = false ∧ n ≤ bs.length - a ∧ bad' = false ∧ zs = (bs.drop a).take n ∧ a' = a + n)

set_option maxHeartbeats 400000 in
theorem rsmall_any (w0 w : World) (g : Nat) (vb : Value) (bs : List Int) (a : Nat) (bad : Bool) (most : Nat) (h : Rdr w0 w g vb bs a bad) (hl : bs.length ≤ 150000000000000) (hm : most < 9223372036854775808) :
    Calls Try.prog 85 #[.pointer (some ⟨g, 0, none⟩), .int .i64 most] w fun E w' => ∃ (u a' : Nat) (bad' : Bool), E = .returned (.int .i64 u) ∧ Rdr w0 w' g vb bs a' bad' ∧ w.grownBy w' (some g) ∧ SStep bs most a bad u a' bad' := by
  have c0 := h.cell0
  have c1 := h.cell1
  have c2 := h.cell2
  have ha := h.2.2.2.2
  cases bad
  · obtain ⟨vs, hsl, isl⟩ := h.is.slice_l Try.elemB Try.sizeE a ha
    obtain ⟨u, i, e, hS⟩ := sres_is (bs.drop a) most
    have hdl : (bs.drop a).length = bs.length - a := by rw [List.length_drop]
    rcases hS with ⟨hR, h1, h2, he⟩ | ⟨hu, hi, he, x, n, f, hR, hcase⟩
    · have hbd := Vm.res_bounds hR
      obtain ⟨un, rfl⟩ : ∃ un : Nat, u = un := ⟨u.toNat, by omega⟩
      obtain ⟨n, rfl⟩ : ∃ n : Nat, i = n := ⟨i.toNat, by omega⟩
      have hG : SStep bs most a false un (a + n) false := by
        rcases hR with ⟨x, hx, hp, h3, h4, _⟩ | ⟨_, _, _, h5⟩
        · have : x = un := by omega
          subst this
          exact .inr (.inr ⟨rfl, rfl, by omega, hp, by omega⟩)
        · simp at h5
      have hS : SRes (bs.drop a) most un n 0 := .inl ⟨hR, h1, h2, rfl⟩
      have HG := hide hG
      have HS := hide hS
      have HH := hide h
      have hn1 : a + n ≤ bs.length := by omega
      have hn2 : n ≤ 10 := by omega
      clear hS hG hR hbd h he h1 h2
      go_enter Try.func85, Try.ntmps85
      go_wp2_with fail
      go_region_with (go_at_call 102; refine (smallR_any _ (bs.drop a) most un n 0 _ (isl.drewN 1) (by omega) (by omega) (by omega) HS.out).mono ?_; rintro E w1 ⟨rfl, bel1'⟩; have bel1 : Below w.heap.size w w1 := ((Below.refl _ _).drew).trans bel1'; have hr := HH.out.below bel1; have k1 := hr.cell1; have f1 := hr.froz 1; have HR := hide hr; clear hr bel1')
      all_goals
        clear isl hsl
        go_wp2
        go_ret
        exact ⟨un, a + n, false, rfl, HR.out.put1 (a + n) hn1, grown_trans (grown_of_below bel1 _) (grown_setCell _ _ _), HG.out⟩
    · have hG : SStep bs most a false 0 a true := by
        refine .inr (.inl ⟨rfl, rfl, rfl, rfl, fun y hy hp => ?_⟩)
        have := Vm.res_good hR (u := y) (by omega) hp
        omega
      have hS : SRes (bs.drop a) most 0 0 5 := .inr ⟨rfl, rfl, rfl, x, n, f, hR, hcase⟩
      have HG := hide hG
      have HS := hide hS
      have HH := hide h
      clear hS hG hR h he hcase hu hi
      go_enter Try.func85, Try.ntmps85
      go_wp2_with fail
      go_region_with (go_at_call 102; refine (smallR_any _ (bs.drop a) most 0 0 5 _ (isl.drewN 1) (by omega) (by omega) (by omega) HS.out).mono ?_; rintro E w1 ⟨rfl, bel1'⟩; have bel1 : Below w.heap.size w w1 := ((Below.refl _ _).drew).trans bel1'; have hr := HH.out.below bel1; have k1 := hr.cell2; have f1 := hr.froz 2; have HR := hide hr; clear hr bel1')
      all_goals
        clear isl hsl
        go_wp2
        go_ret
        exact ⟨0, a, true, rfl, HR.out.put2 true, grown_trans (grown_of_below bel1 _) (grown_setCell _ _ _), HG.out⟩
  · have HH := hide h
    clear h
    go_enter Try.func85, Try.ntmps85
    go_wp2
    go_ret
    exact ⟨0, a, true, rfl, HH.out, World.grownBy.refl _ _, .inl ⟨rfl, rfl, rfl, rfl⟩⟩

set_option maxHeartbeats 400000 in
theorem rbytes_any (w0 w : World) (g : Nat) (vb : Value) (bs : List Int) (a : Nat) (bad : Bool) (n : Nat) (h : Rdr w0 w g vb bs a bad) (hl : bs.length ≤ 150000000000000) (hm : n < 9223372036854775808) :
    Calls Try.prog 84 #[.pointer (some ⟨g, 0, none⟩), .int .i64 n] w fun E w' => ∃ (v : Value) (zs : List Int) (a' : Nat) (bad' : Bool), E = .returned v ∧ Own .u8 5 w.heap.size w' v zs ∧ Rdr w0 w' g vb bs a' bad' ∧ w.grownBy w' (some g) ∧ BStep bs n a bad zs a' bad' := by
  have c0 := h.cell0
  have c1 := h.cell1
  have c2 := h.cell2
  have f1 := h.froz 1
  have f2 := h.froz 2
  have ha := h.2.2.2.2
  have hgl := h.lt
  have hlen := h.is.len_run Try.elemB
  cases bad
  · by_cases hn : n ≤ bs.length - a
    · obtain ⟨vs, hsl, isl⟩ := h.is.slice_lh Try.elemB Try.sizeE a (a + n) (by omega) (by omega)
      rw [show a + n - a = n by omega] at isl
      have hsl2 : ∀ wx, (Instr.slice 37 vb (some (.int .i64 (a : Int))) (some (.int .i64 ((a : Int) + (n : Int)))) none).run Try.prog wx = .ok vs wx := by simpa using hsl
      have hwr : IntKind.i64.wrap ((a : Int) + (n : Int)) = (a : Int) + n := wrap_i64_small _ (by omega) (by omega)
      clear hsl
      have hge : ¬ (bs.length : Int) - a < n := by omega
      have HH := hide h
      have hlt : ((bs.drop a).take n).length = n := by rw [List.length_take, List.length_drop]; omega
      clear h
      go_enter Try.func84, Try.ntmps84
      go_wp2_with fail
      go_quiet (fail)
      have is2 : ∀ m, Is .u8 (w.drewN m) vs ((bs.drop a).take n) := fun m => isl.drewN m
      go_wp2_with fail
      go_region_law (refine step_append_is rfl (.tmp 27) (.tmp 42) 37 rfl .u8 5 w.heap.size 1 Try.underlying37 Try.info5 (by decide) _ [] (by simp [Act.eval, Act.put]) (Own.nil _ _ _ _) _ ((bs.drop a).take n) (by simp [Act.eval, Act.put]) (is2 _) (by simp; omega) (by simp) ?_; intro v3 w3 own3 bel3' _; have bel3 : Below w.heap.size w w3 := (below_drewN (Below.refl _ _) _).trans bel3'; have hr := HH.out.below bel3; have k1 := hr.cell1; have g1 := hr.froz 1; have HR := hide hr; clear hr bel3')
      all_goals
        rw [List.nil_append] at own3
        have own4 := own3.kept (grown_setCell w3 ⟨g, 1, none⟩ (.int .i64 ((a + n : Nat) : Int))) (by
          cases hv : v3.ownBlock with
          | none => exact .inl rfl
          | some b => exact .inr (fun e => by have := own3.block b hv; simp at e; omega))
        clear is2 isl hsl2
        go_wp2
        go_ret
        exact ⟨_, _, a + n, false, rfl, own4, HR.out.put1 (a + n) (by omega), grown_trans (grown_of_below bel3 _) (grown_setCell _ _ _), .inr ⟨rfl, hn, rfl, rfl, rfl⟩⟩
    · have hge : (bs.length : Int) - a < n := by omega
      have HH := hide h
      clear h
      go_enter Try.func84, Try.ntmps84
      go_wp2_with fail
      go_quiet (fail)
      go_wp2
      go_ret
      exact ⟨_, [], a, true, rfl, Own.nil _ _ _ _, (HH.out.below (below_drewN (Below.refl _ _) nq)).put2 true, grown_trans (grown_drewN _ _ _) (grown_setCell _ _ _), .inl ⟨.inr (by omega), rfl, rfl, rfl⟩⟩
  · have HH := hide h
    clear h
    go_enter Try.func84, Try.ntmps84
    go_wp2_with fail
    go_quiet (fail)
    go_wp2
    go_ret
    exact ⟨_, [], a, true, rfl, Own.nil _ _ _ _, (HH.out.below (below_drewN (Below.refl _ _) nq)).put2 true, grown_trans (grown_drewN _ _ _) (grown_setCell _ _ _), .inl ⟨.inl rfl, rfl, rfl, rfl⟩⟩

end Go.Proofs.Ytimmohpnlieefaa

/- The contract of the document's epoch; what At comes to. -/
namespace Go.Proofs.Ytimmohpnlieefaa
open Go.RowKit
set_option linter.unusedVariables false

/-- What At comes to. -/
def atE (l : List Sm.S) (en n : Int) : Int := if Sm.chk l en = 0 then (if n < 0 ∨ en < n then 2 else 0) else Sm.chk l en
def atV (l : List Sm.S) (en n : Int) : Int := if atE l en n = 0 then Sm.epo n 0 l else 0

theorem atE_five {l : List Sm.S} {en n : Int} (h : Sm.chk l en ≠ 0) : Sm.chk l en = 5 ∧ atE l en n = 5 ∧ atV l en n = 0 := by
  have h5 : Sm.chk l en = 5 := Sm.chk_no fun k => h (Sm.chk_ok k)
  have : atE l en n = 5 := by unfold atE; rw [if_neg h, h5]
  exact ⟨h5, this, by unfold atV; rw [this]; rfl⟩
theorem atE_two {l : List Sm.S} {en n : Int} (h : Sm.chk l en = 0) (hn : n < 0 ∨ en < n) : atE l en n = 2 ∧ atV l en n = 0 := by
  have : atE l en n = 2 := by unfold atE; rw [if_pos h, if_pos hn]
  exact ⟨this, by unfold atV; rw [this]; rfl⟩
theorem atE_ok {l : List Sm.S} {en n : Int} (h : Sm.chk l en = 0) (hn : ¬ (n < 0 ∨ en < n)) : atE l en n = 0 ∧ atV l en n = Sm.epo n 0 l := by
  have : atE l en n = 0 := by unfold atE; rw [if_pos h, if_neg hn]
  exact ⟨this, by unfold atV; rw [if_pos this]⟩

end Go.Proofs.Ytimmohpnlieefaa

/- The contracts of sort.Search, of starts' begun, checkPlace, At and Trimmed, and of the copy that slices.Clone makes of starts. -/
namespace Go.Proofs.Ytimmohpnlieefaa
open Go.RowKit
set_option linter.unusedVariables false

theorem Try.elemS : Try.prog.underlying 53 = some (.slice (Try.prog.elem 53)) := by kernel_rfl
theorem Try.sizeS (wx : World) : (sizeOf (Try.prog.elem 53)).run Try.prog wx = .ok 2 wx := by kernel_rfl

theorem run_frontS (ao : Option Addr) (n cap p : Nat) (hp : p ≤ cap) (ha : ao = none → cap = 0) (wx : World) : (Instr.slice 53 (.slice ao n cap) none (some (.int .i64 p)) none).run Try.prog wx = .ok (.slice ao p cap) wx := by
  rw [run_slice_h wx 53 ao n cap Try.elemS .i64 _ (by omega) (by omega), Try.sizeS]
  simp only [Result.andThen, sliced]
  cases ao with
  | none =>
    obtain rfl := ha rfl
    obtain rfl : p = 0 := by omega
    simp
  | some ad => simp [Addr.add]

theorem RowG.frontS {w : World} {ao : Option Addr} {n cap : Nat} {l : List Sm.S} (h : RowS w (.slice ao n cap) l) (p : Nat) (hp : p ≤ l.length) : RowS w (.slice ao p cap) (l.take p) := by
  have hl : (l.take p).length = p := by rw [List.length_take]; omega
  rcases h with ⟨hv, e⟩ | ⟨ad', cap', hv, h1, h2, hc⟩
  · subst e
    simp at hv hp
    obtain ⟨rfl, rfl, rfl⟩ := hv
    subst hp
    exact .inl ⟨rfl, rfl⟩
  · simp at hv
    obtain ⟨rfl, rfl, rfl⟩ := hv
    refine .inr ⟨ad', cap, by rw [hl], by omega, h2, fun j u hj => hc j u ?_⟩
    rw [gcells_take stc_len, List.getElem?_take] at hj
    split at hj
    · exact hj
    · simp at hj

theorem rowS_shape {w : World} {v : Value} {l : List Sm.S} (h : RowS w v l) : ∃ ao cap, v = .slice ao l.length cap ∧ l.length ≤ cap ∧ cap ≤ maxLen ∧ (ao = none → cap = 0) := by
  rcases h with ⟨hv, e⟩ | ⟨ad, cap, hv, h1, h2, _⟩
  · subst e; exact ⟨none, 0, hv, by simp, by simp, fun _ => rfl⟩
  · exact ⟨some ad, cap, hv, h1, h2, fun h => by cases h⟩

end Go.Proofs.Ytimmohpnlieefaa

/- The contracts of starts' checkPlace, At, Trimmed, fork, Fork, and of the copy that slices.Clone makes of starts. -/
namespace Go.Proofs.Ytimmohpnlieefaa
open Go.RowKit
set_option linter.unusedVariables false

theorem Try.info103 : (Try.prog.info? 103).map (fun i => (i.zero, i.size, i.bytes)) = some (some (.agg #[.int .i64 0, .int .i64 0]), 2, 16) := by kernel_rfl

theorem ownS_rebase {base base' : Nat} {w : World} {v : Value} {l : List Sm.S} (h : OwnS base w v l) (hb : base' ≤ base) : OwnS base' w v l := by
  refine ⟨h.1, ?_⟩
  rcases h.2 with h | ⟨g, cap, cur, hv, h1, r⟩
  · exact .inl h
  · exact .inr ⟨g, cap, cur, hv, by omega, r⟩

theorem ownS_below {base : Nat} {w w' : World} {v : Value} {l : List Sm.S} (h : OwnS base w v l) (hb : Below w.heap.size w w') : OwnS base w' v l := h.agree fun b hb' => hb.block b (h.lt b hb').2

/-- 'append(out, xs...)' of starts. -/
theorem wpList_append_sts {w : World} {ops : Array Oper} {rest : List Oper} {o : Oper} {a : Act} {Q : Exit → Act → World → Prop} (hgd : o.guard = none) (s x : Operand)
    (ho : o.op = .call { callee := .builtin .append, args := #[s, x], argTypes := #[53, 53] })
    (base : Nat) (v : Value) (l : List Sm.S) (hs : a.eval s = v) (hown : OwnS base w v l) (vx : Value) (m : List Sm.S) (hx : a.eval x = vx) (his : RowS w vx m)
    (hlen : (l.length + m.length) * 16 ≤ 140737488355328) (hbase : base ≤ w.heap.size)
    (h : ∀ v' w', OwnS base w' v' (l ++ m) → Below base w w' → w.grownBy w' v.ownBlock → wpList Try.prog ops Q rest (a.put o.dst v') w') : wpList Try.prog ops Q (o :: rest) a w :=
  wpList_append_rows stc 2 16 stc_len (by decide) (by decide) (.agg #[.int .i64 0, .int .i64 0]) rfl hgd s x 53 ho 103 base Try.underlying53 Try.info103 v l hs hown vx m hx his (stc_one m) hlen hbase
    fun v' w' h1 h2 => h v' w' h1 ((Below.refl _ _).grown h2 hbase fun k hk => (OwnG.lt hown k hk).1) h2

theorem sts_step (w : World) (cs : Array Value) (n : Nat) (l : List Sm.S) (hn : l.length = n) (h : cs.toList = gcells stc l) (hm : n ≤ maxLen) :
    ∃ W, w.alloc (.cells cs 103) = W ∧ W.heap.size = w.heap.size + 1 ∧ Below w.heap.size w W ∧ OwnS w.heap.size W (.slice (some ⟨w.heap.size, 0, none⟩) n n) l := rows_step stc 2 stc_len 103 w cs n l hn h hm

theorem Try.eqnilS (w : World) (a : Option Addr) (n c : Nat) : (binOp .eql 53 (.slice a n c) (.slice none 0 0)).run Try.prog w = .ok (.bool a.isNone) w := Lib.run_eql_slice_nil w 53 103 a n c 0 0 Try.underlying53

theorem atE_zero {l : List Sm.S} {en n : Int} (h : atE l en n = 0) : Sm.Ok l en ∧ 0 ≤ n ∧ n ≤ en := by
  by_cases h0 : Sm.chk l en = 0
  · by_cases hn : n < 0 ∨ en < n
    · rw [(atE_two h0 hn).1] at h
      simp at h
    · exact ⟨Sm.chk_zero.1 h0, by omega, by omega⟩
  · rw [(atE_five h0).2.1] at h
    simp at h

/-- What Trimmed comes to. -/
def trm (l : List Sm.S) (en n : Int) : List Sm.S := if atE l en n = 0 then Sm.beg n l else []

end Go.Proofs.Ytimmohpnlieefaa

/- The contracts of the laws' copies of starts: SameStarts, CopyStarts, LentStarts, KeptStarts; of the chapter's lists of starts ('of'). -/
namespace Go.Proofs.Ytimmohpnlieefaa
open Go.RowKit
set_option linter.unusedVariables false

set_option maxHeartbeats 1000000 in
theorem sameS_quiet (va vb : Value) (xs ys : List Sm.S) (w : World) (ha : RowS w va xs) (hb : RowS w vb ys) (hl : xs.length ≤ 140737488355328) (hl' : ys.length ≤ 140737488355328) :
    Calls Try.prog 37 #[va, vb] w fun e w' => e = .returned (.bool (decide (xs = ys))) ∧ ∃ m, w' = w.drewN m := by
  obtain ⟨ans, hans⟩ : ∃ r, decide (xs = ys) = r := ⟨_, rfl⟩
  rw [hans]
  have HA := hide hans
  clear hans
  by_cases hne : xs.length = ys.length
  · by_cases hz : 0 < xs.length
    · obtain ⟨b1, o1, c1, rfl, _, _, hB1, hc1⟩ := rowS_full ha hz
      obtain ⟨b2, o2, c2, rfl, _, _, hB2, hc2⟩ := rowS_full hb (by omega)
      have ht : ((xs.length : Int) != (ys.length : Int)) = false := by simp; omega
      have HL := hide hne
      have HC1 := hide hc1
      have HC2 := hide hc2
      clear hne ha hb hc1 hc2
      generalize hn : xs.length = n at *
      generalize hm : ys.length = m at *
      have HN := hide hn
      have HM := hide hm
      clear hn hm
      go_enter Try.func37, Try.ntmps37
      go_wp2
      go_loopw [5] (fun i wr => ∃ (k : Nat), k ≤ n ∧ i = .int .i64 k ∧ Hid (xs.take k = ys.take k) ∧ ∃ m, wr = w.drewN m) (fun i _ => n - (intOf i).toNat)
      case atStart => exact ⟨0, by omega, rfl, hide rfl, 0, rfl⟩
      case round =>
        obtain ⟨k, hk, rfl, HT, mm, rfl⟩ := hrel
        by_cases hlt : k < n
        · obtain ⟨o, ho⟩ := at_of (l := xs) (k := k) (by have := HN.out; omega)
          obtain ⟨q, hq⟩ := at_of (l := ys) (k := k) (by have := HM.out; have := HL.out; omega)
          obtain ⟨d0, d1⟩ := HC1.out k o ho
          obtain ⟨e0, e1⟩ := HC2.out k q hq
          have hlt' : (k : Int) < n := by omega
          have hlt2 : (k : Int) < m := by have := HL.out; omega
          have HO := hide ho
          have HQ := hide hq
          clear ho hq
          by_cases h1 : o.1 = q.1
          · have n1 : (o.1 != q.1) = false := by simpa using h1
            by_cases h2 : o.2 = q.2
            · have n2 : (o.2 != q.2) = false := by simpa using h2
              have HT2 : Hid (xs.take (k + 1) = ys.take (k + 1)) := hide (by
                rw [List.take_add_one, List.take_add_one, HT.out, HO.out, HQ.out, Prod.ext h1 h2])
              clear h1 h2
              go_wp2
              go_big_quiet (fail)
              go_wp2
              go_roundw
              case rel => exact ⟨k + 1, by omega, by go_num, HT2, _, rfl⟩
              case measure => simp [intOf]; omega
            · have n2 : (o.2 != q.2) = true := by simpa using h2
              have hfo := HA.out
              rw [decide_eq_false fun e => by
                have h3 := HO.out
                rw [e, HQ.out] at h3
                exact h2 (by rw [Option.some.inj h3])] at hfo
              subst hfo
              clear h1 h2 HA
              go_wp2
              go_big_quiet (fail)
              go_wp2
              go_ret
              exact ⟨rfl, _, by first | rfl | exact World.drewN_drewN _ _ _⟩
          · have n1 : (o.1 != q.1) = true := by simpa using h1
            have hfo := HA.out
            rw [decide_eq_false fun e => by
              have h3 := HO.out
              rw [e, HQ.out] at h3
              exact h1 (by rw [Option.some.inj h3])] at hfo
            subst hfo
            clear h1 HA
            go_wp2
            go_big_quiet (fail)
            go_wp2
            go_ret
            exact ⟨rfl, _, by first | rfl | exact World.drewN_drewN _ _ _⟩
        · have hlt' : ¬ (k : Int) < n := by omega
          have hfo := HA.out
          rw [decide_eq_true (by
            have h1 := HT.out
            rw [List.take_of_length_le (by have := HN.out; omega), List.take_of_length_le (by have := HN.out; have := HM.out; have := HL.out; omega)] at h1
            exact h1)] at hfo
          subst hfo
          clear HA
          go_wp2
          go_ret
          exact ⟨rfl, mm, rfl⟩
    · have hx : xs = [] := List.eq_nil_of_length_eq_zero (by omega)
      have hy : ys = [] := List.eq_nil_of_length_eq_zero (by omega)
      subst hx hy
      obtain ⟨a1, c1, rfl, _, _⟩ := ha.shape
      obtain ⟨a2, c2, rfl, _, _⟩ := hb.shape
      have hfo := HA.out
      simp at hfo
      subst hfo
      simp only [List.length_nil]
      clear hl hl' hne hz ha hb HA
      go_enter Try.func37, Try.ntmps37
      go_wp2
      refine wp_loop_rounds 1 ?_
      rw [rounds_succ]
      go_wp2
      go_ret
      exact ⟨rfl, 0, rfl⟩
  · obtain ⟨a1, c1, rfl, _, _⟩ := ha.shape
    obtain ⟨a2, c2, rfl, _, _⟩ := hb.shape
    have ht : ((xs.length : Int) != (ys.length : Int)) = true := by simp; omega
    have hfo := HA.out
    rw [decide_eq_false fun h => hne (by rw [h])] at hfo
    subst hfo
    clear hne HA
    go_enter Try.func37, Try.ntmps37
    go_wp2
    go_ret
    exact ⟨rfl, 0, rfl⟩

theorem sameS_yes (va vb : Value) (xs : List Sm.S) (w : World) (ha : RowS w va xs) (hb : RowS w vb xs) (hl : xs.length ≤ 140737488355328) :
    Calls Try.prog 37 #[va, vb] w fun e w' => e = .returned (.bool true) ∧ ∃ m, w' = w.drewN m := by
  have := sameS_quiet va vb xs xs w ha hb hl hl
  rw [decide_eq_true rfl] at this
  exact this

/-- What stands behind starts that are lent. -/
def beS : List Sm.S := [(-5, 0), (-5, 1), (-5, 2)]

end Go.Proofs.Ytimmohpnlieefaa
