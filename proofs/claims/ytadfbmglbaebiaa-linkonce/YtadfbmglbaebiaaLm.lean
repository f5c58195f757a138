/- The link of the document, as plain functions of lists. No program. -/
import Derived.Test.YtadfbmglbaebiaaKit
namespace Go.Proofs.Ytadfbmglbaebiaa
set_option linter.unusedVariables false

namespace Lm

/-- A letter: its number, to whom, its bytes. -/
structure Lt where
  n : Int
  to : Int
  bs : List Int

/-- A link: the number that was given last, the letters in flight. -/
structure Ls where
  last : Nat
  fl : List Lt

def new : Ls := ⟨0, []⟩

/-- Where the letter of a number stands; behind the last where there is none. -/
def pl : List Lt → Int → Nat
  | [], _ => 0
  | x :: r, n => if x.n = n then 0 else pl r n + 1

theorem pl_le : ∀ (l : List Lt) (n : Int), pl l n ≤ l.length
  | [], _ => by simp [pl]
  | x :: r, n => by
    have := pl_le r n
    simp only [pl, List.length_cons]
    split <;> omega

theorem pl_eq : ∀ (l : List Lt) (n : Int) (k : Nat) (x : Lt), (∀ (j : Nat) (y : Lt), j < k → l[j]? = some y → y.n ≠ n) → l[k]? = some x → x.n = n → pl l n = k
  | [], _, _, _, _, h, _ => by simp at h
  | a :: r, n, 0, x, _, h, he => by
    simp at h
    subst h
    simp [pl, he]
  | a :: r, n, k + 1, x, hj, h, he => by
    have h0 := hj 0 a (by omega) rfl
    have := pl_eq r n k x (fun j y hjk hy => hj (j + 1) y (by omega) (by simpa using hy)) (by simpa using h) he
    simp [pl, h0, this]

theorem pl_none : ∀ (l : List Lt) (n : Int), (∀ (j : Nat) (y : Lt), l[j]? = some y → y.n ≠ n) → pl l n = l.length
  | [], _, _ => rfl
  | a :: r, n, h => by
    have h0 := h 0 a rfl
    have := pl_none r n fun j y hy => h (j + 1) y (by simpa using hy)
    simp [pl, h0, this]

theorem pl_at : ∀ (l : List Lt) (n : Int) (x : Lt), l[pl l n]? = some x → x.n = n
  | [], _, _, h => by simp [pl] at h
  | a :: r, n, x, h => by
    unfold pl at h
    split at h
    · rename_i h0
      simp at h
      subst h
      exact h0
    · exact pl_at r n x (by simpa using h)

theorem pl_miss (l : List Lt) (n : Int) (h : l[pl l n]? = none) : ∀ x ∈ l, x.n ≠ n := by
  induction l with
  | nil => simp
  | cons a r ih =>
    unfold pl at h
    split at h
    · simp at h
    · rename_i h0
      intro x hx
      rcases List.mem_cons.1 hx with rfl | hx
      · exact h0
      · exact ih (by simpa using h) x hx

/-- The same, as the program tells it. -/
def fnd (l : List Lt) (n : Int) : Int := if pl l n < l.length then (pl l n : Int) else -1

/-- A letter with the next number. -/
def put (st : Ls) (to : Int) (bs : List Int) : (Int × Int) × Ls :=
  if 512 ≤ st.fl.length then ((0, 3), st) else (((st.last : Int) + 1, 0), ⟨st.last + 1, st.fl ++ [⟨(st.last : Int) + 1, to, bs⟩]⟩)

def send (st : Ls) (to : Int) (bs : List Int) : (Int × Int) × Ls := if to ≠ 0 ∧ to ≠ 1 then ((0, 2), st) else put st to bs

def zero : Lt := ⟨0, 0, []⟩

def del (st : Ls) (n : Int) : (Lt × Int) × Ls :=
  match st.fl[pl st.fl n]? with
  | some x => ((x, 0), ⟨st.last, st.fl.eraseIdx (pl st.fl n)⟩)
  | none => ((zero, 4), st)

def twi (st : Ls) (n : Int) : (Int × Int) × Ls :=
  match st.fl[pl st.fl n]? with
  | some x => put st x.to x.bs
  | none => ((0, 4), st)

/-- What holds of every link. -/
structure Ok (st : Ls) : Prop where
  each : ∀ x ∈ st.fl, (x.to = 0 ∨ x.to = 1) ∧ 1 ≤ x.n ∧ x.n ≤ st.last ∧ x.bs.length ≤ 40
  up : st.fl.Pairwise fun x y => x.n < y.n
  len : st.fl.length ≤ 512

theorem ok_new : Ok new := ⟨by simp [new], by simp [new], by simp [new]⟩

theorem ok_put {st : Ls} (h : Ok st) {to : Int} {bs : List Int} (ht : to = 0 ∨ to = 1) (hb : bs.length ≤ 40) : Ok (put st to bs).2 := by
  unfold put
  split
  · exact h
  · rename_i hl
    refine ⟨fun x hx => ?_, ?_, ?_⟩
    · simp only [List.mem_append, List.mem_singleton] at hx
      rcases hx with hx | rfl
      · obtain ⟨h1, h2, h3, h4⟩ := h.each x hx
        exact ⟨h1, h2, by simp only [Int.natCast_add]; omega, h4⟩
      · exact ⟨ht, by simp only; omega, by simp, hb⟩
    · rw [List.pairwise_append]
      refine ⟨h.up, by simp, fun a ha b hb => ?_⟩
      simp only [List.mem_singleton] at hb
      subst hb
      have := (h.each a ha).2.2.1
      simp only
      omega
    · simp only [List.length_append, List.length_singleton]
      omega

theorem ok_send {st : Ls} (h : Ok st) {to : Int} {bs : List Int} (hb : bs.length ≤ 40) : Ok (send st to bs).2 := by
  unfold send
  split
  · exact h
  · rename_i ht
    exact ok_put h (by omega) hb

theorem ok_del {st : Ls} (h : Ok st) (n : Int) : Ok (del st n).2 := by
  unfold del
  split
  · have hs := List.eraseIdx_sublist st.fl (pl st.fl n)
    refine ⟨fun x hx => h.each x (hs.subset hx), h.up.sublist hs, ?_⟩
    have := hs.length_le
    have := h.len
    simp only
    omega
  · exact h

theorem ok_twi {st : Ls} (h : Ok st) (n : Int) : Ok (twi st n).2 := by
  unfold twi
  split
  · rename_i x hx
    have := h.each x (List.mem_of_getElem? hx)
    exact ok_put h this.1 this.2.2.2
  · exact h

theorem last_put (st : Ls) (to : Int) (bs : List Int) : (put st to bs).2.last ≤ st.last + 1 := by
  unfold put
  split
  · simp
  · simp

theorem last_send (st : Ls) (to : Int) (bs : List Int) : (send st to bs).2.last ≤ st.last + 1 := by
  unfold send
  split
  · simp
  · exact last_put _ _ _

theorem last_del (st : Ls) (n : Int) : (del st n).2.last = st.last := by
  unfold del
  split <;> rfl

theorem last_twi (st : Ls) (n : Int) : (twi st n).2.last ≤ st.last + 1 := by
  unfold twi
  split
  · exact last_put _ _ _
  · simp

end Lm

end Go.Proofs.Ytadfbmglbaebiaa
