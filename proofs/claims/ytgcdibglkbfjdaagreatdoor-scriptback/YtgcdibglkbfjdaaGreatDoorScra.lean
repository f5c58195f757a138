/- Scripts (layer 25): the words of a line, the texts of numbers. No program. -/
import Derived.Test.YtgcdibglkbfjdaaGreatDoorWordm
import Derived.Test.YtgcdibglkbfjdaaGreatDoorBm
namespace Go.Proofs.YtgcdibglkbfjdaaGreatDoor
set_option linter.unusedVariables false
namespace Sct

/-- The words of a line, cur being read. -/
def wdsA : List UInt8 → List UInt8 → List (List UInt8)
  | cur, [] => if cur = [] then [] else [cur]
  | cur, c :: r => if c = 32 then (if cur = [] then wdsA [] r else cur :: wdsA [] r) else wdsA (cur ++ [c]) r

/-- The words of a line. -/
def wds (l : List UInt8) : List (List UInt8) := wdsA [] l

theorem wdsA_blank (cur r : List UInt8) : wdsA cur (32 :: r) = if cur = [] then wdsA [] r else cur :: wdsA [] r := by
  rw [wdsA, if_pos rfl]

theorem wdsA_on {c : UInt8} (h : c ≠ 32) (cur r : List UInt8) : wdsA cur (c :: r) = wdsA (cur ++ [c]) r := by
  rw [wdsA, if_neg h]

/-- Letters that are no blank. -/
theorem wdsA_run : ∀ (w cur r : List UInt8), 32 ∉ w → wdsA cur (w ++ r) = wdsA (cur ++ w) r
  | [], cur, r, _ => by simp
  | c :: w, cur, r, h => by
    rw [List.cons_append, wdsA_on (fun e => h (by simp [e])), wdsA_run w (cur ++ [c]) r fun e => h (by simp [e])]
    simp

theorem wdsA_ne : ∀ (l cur : List UInt8), (32 ∉ cur) → ∀ w ∈ wdsA cur l, w ≠ [] ∧ 32 ∉ w
  | [], cur, hc, w, h => by
    rw [wdsA] at h
    split at h
    · simp at h
    · rename_i h0
      rw [List.mem_singleton.1 h]
      exact ⟨h0, hc⟩
  | c :: r, cur, hc, w, h => by
    by_cases h32 : c = 32
    · rw [h32, wdsA_blank] at h
      split at h
      · exact wdsA_ne r [] (by simp) w h
      · rename_i h0
        rcases List.mem_cons.1 h with rfl | h
        · exact ⟨h0, hc⟩
        · exact wdsA_ne r [] (by simp) w h
    · rw [wdsA_on h32] at h
      refine wdsA_ne r (cur ++ [c]) (fun e => ?_) w h
      rcases List.mem_append.1 e with e | e
      · exact hc e
      · exact h32 (List.mem_singleton.1 e).symm

theorem wds_ne {l : List UInt8} : ∀ w ∈ wds l, w ≠ [] ∧ 32 ∉ w := wdsA_ne l [] (by simp)

/-- Words with one blank between each two. -/
def jn : List (List UInt8) → List UInt8
  | [] => []
  | [w] => w
  | w :: x :: r => w ++ 32 :: jn (x :: r)

theorem wds_jn : ∀ (ws : List (List UInt8)), (∀ w ∈ ws, w ≠ [] ∧ 32 ∉ w) → wds (jn ws) = ws
  | [], _ => rfl
  | [w], h => by
    have h1 := h w (by simp)
    show wdsA [] w = [w]
    have := wdsA_run w [] [] h1.2
    rw [List.append_nil, List.nil_append] at this
    rw [this, wdsA, if_neg h1.1]
  | w :: x :: r, h => by
    have h1 := h w (by simp)
    have ih := wds_jn (x :: r) fun v hv => h v (by simp [hv])
    show wdsA [] (w ++ 32 :: jn (x :: r)) = w :: x :: r
    rw [wdsA_run w [] _ h1.2, List.nil_append, wdsA_blank, if_neg h1.1]
    exact congrArg (w :: ·) ih

theorem jn_cons (w : List UInt8) {ws : List (List UInt8)} (h : ws ≠ []) : jn (w :: ws) = w ++ 32 :: jn ws := by
  cases ws with
  | nil => exact absurd rfl h
  | cons x r => rfl

theorem jn_snoc : ∀ (ws : List (List UInt8)) (w : List UInt8), ws ≠ [] → jn (ws ++ [w]) = jn ws ++ 32 :: w
  | [], _, h => absurd rfl h
  | [x], w, _ => rfl
  | x :: y :: r, w, _ => by
    have := jn_snoc (y :: r) w (by simp)
    show x ++ 32 :: jn (y :: r ++ [w]) = _
    rw [this]
    show _ = (x ++ 32 :: jn (y :: r)) ++ 32 :: w
    simp

/-- A digit. -/
def dig (n : Nat) : UInt8 := UInt8.ofNat (48 + n)
theorem dig_val {n : Nat} (h : n < 10) : (dig n).toNat = 48 + n := by
  unfold dig
  rw [UInt8.toNat_ofNat']
  omega
theorem dig_of {c : UInt8} (h : 48 ≤ c.toNat) (h2 : c.toNat ≤ 57) : dig (c.toNat - 48) = c := by
  apply UInt8.toNat.inj
  rw [dig_val (by omega)]
  omega

/-- A number's digits, at most so many and one. -/
def dgf : Nat → Nat → List UInt8
  | 0, n => [dig (n % 10)]
  | k + 1, n => if n < 10 then [dig n] else dgf k (n / 10) ++ [dig (n % 10)]
/-- A number's digits. -/
def dg (n : Nat) : List UInt8 := dgf 20 n

/-- What digits come to. -/
def val (l : List UInt8) : Nat := l.foldl (fun a c => 10 * a + (c.toNat - 48)) 0
theorem val_snoc (l : List UInt8) (c : UInt8) : val (l ++ [c]) = 10 * val l + (c.toNat - 48) := by simp [val]

def isDig (c : UInt8) : Prop := 48 ≤ c.toNat ∧ c.toNat ≤ 57

theorem head_app {α : Type} {r x : List α} (h : r ≠ []) : (r ++ x).head? = r.head? := by
  cases r with
  | nil => exact absurd rfl h
  | cons a b => rfl

theorem dgf_all : ∀ (k n : Nat), n < 10 ^ (k + 1) → (∀ c ∈ dgf k n, isDig c) ∧ val (dgf k n) = n ∧ 1 ≤ (dgf k n).length ∧ ((dgf k n).head? = some 48 → (dgf k n).length = 1)
  | 0, n, h => by
    have h : n < 10 := h
    have e := dig_val h
    rw [dgf, Nat.mod_eq_of_lt h]
    refine ⟨fun c hc => ?_, ?_, by simp, by simp⟩
    · rw [List.mem_singleton.1 hc]
      exact ⟨by omega, by omega⟩
    · simp [val, e]
  | k + 1, n, h => by
    rw [dgf]
    split
    · rename_i h
      have e := dig_val h
      refine ⟨fun c hc => ?_, ?_, by simp, by simp⟩
      · rw [List.mem_singleton.1 hc]
        exact ⟨by omega, by omega⟩
      · simp [val, e]
    · rename_i h10
      have hp : (10 : Nat) ^ (k + 2) = 10 * 10 ^ (k + 1) := by rw [Nat.pow_succ, Nat.mul_comm]
      obtain ⟨i1, i2, i3, i4⟩ := dgf_all k (n / 10) (by rw [hp] at h; omega)
      have e := dig_val (n := n % 10) (by omega)
      refine ⟨fun c hc => ?_, ?_, by simp, fun hh => ?_⟩
      · rcases List.mem_append.1 hc with hc | hc
        · exact i1 c hc
        · rw [List.mem_singleton.1 hc]
          exact ⟨by omega, by omega⟩
      · rw [val_snoc, i2, e]
        omega
      · exfalso
        have hne : dgf k (n / 10) ≠ [] := fun e => by rw [e] at i3; simp at i3
        rw [head_app hne] at hh
        have h1 := i4 hh
        obtain ⟨c, hc⟩ : ∃ c, dgf k (n / 10) = [c] := List.length_eq_one_iff.1 h1
        rw [hc] at hh i2
        have : c = 48 := by simpa using hh
        rw [this] at i2
        have : n / 10 = 0 := by rw [← i2]; rfl
        omega

theorem dgf_len : ∀ (k n m : Nat), n < 10 ^ m → 1 ≤ m → (dgf k n).length ≤ m
  | 0, n, m, _, hm => by simpa [dgf] using hm
  | k + 1, n, m, h, hm => by
    rw [dgf]
    split
    · simpa using hm
    · rename_i h10
      obtain ⟨m', rfl⟩ : ∃ m', m = m' + 1 := ⟨m - 1, by omega⟩
      have hm' : 1 ≤ m' := by
        rcases Nat.eq_zero_or_pos m' with rfl | h1
        · simp at h; omega
        · exact h1
      have hp : (10 : Nat) ^ (m' + 1) = 10 * 10 ^ m' := by rw [Nat.pow_succ, Nat.mul_comm]
      have := dgf_len k (n / 10) m' (by rw [hp] at h; omega) hm'
      rw [List.length_append]
      simp only [List.length_cons, List.length_nil]
      omega

theorem val_top : ∀ (l : List UInt8) (a : Nat), (∀ c ∈ l, isDig c) → l.foldl (fun a c => 10 * a + (c.toNat - 48)) a + 1 ≤ (a + 1) * 10 ^ l.length
  | [], a, _ => by simp
  | c :: r, a, h => by
    have h1 := val_top r (10 * a + (c.toNat - 48)) fun d hd => h d (by simp [hd])
    have h2 := h c (by simp)
    unfold isDig at h2
    rw [List.foldl_cons, List.length_cons, Nat.pow_succ]
    refine Nat.le_trans h1 ?_
    rw [Nat.mul_comm (10 ^ r.length) 10, ← Nat.mul_assoc]
    exact Nat.mul_le_mul_right _ (by omega)
theorem val_lt (l : List UInt8) (h : ∀ c ∈ l, isDig c) : val l < 10 ^ l.length := by
  have := val_top l 0 h
  unfold val
  omega

/-- Digits without noughts ahead are told by what they come to. -/
theorem dgf_val : ∀ (k : Nat) (l : List UInt8), (∀ c ∈ l, isDig c) → 1 ≤ l.length → l.length ≤ k + 1 → (l.head? = some 48 → l.length = 1) → dgf k (val l) = l := by
  intro k
  induction k with
  | zero =>
    intro l h h1 h2 _
    obtain ⟨c, rfl⟩ := List.length_eq_one_iff.1 (show l.length = 1 by omega)
    have hc := h c (by simp)
    unfold isDig at hc
    have : val [c] = c.toNat - 48 := by simp [val]
    rw [dgf, this, Nat.mod_eq_of_lt (by omega), dig_of hc.1 hc.2]
  | succ k ih =>
    intro l h h1 h2 h3
    rcases List.eq_nil_or_concat l with rfl | ⟨r, c, rfl⟩
    · simp at h1
    · rw [List.concat_eq_append] at *
      have hc := h c (by simp)
      unfold isDig at hc
      rw [val_snoc, dgf]
      rcases Nat.eq_zero_or_pos r.length with h0 | h0
      · have hr : r = [] := List.length_eq_zero_iff.1 h0
        subst hr
        have : val [] = 0 := rfl
        rw [this, if_pos (by omega)]
        rw [show 10 * 0 + (c.toNat - 48) = c.toNat - 48 by omega, dig_of hc.1 hc.2]
        rfl
      · have hne : r ≠ [] := fun e => by rw [e] at h0; simp at h0
        rw [head_app hne] at h3
        have hn48 : r.head? ≠ some 48 := fun e => by
          have := h3 e
          rw [List.length_append] at this
          simp only [List.length_cons, List.length_nil] at this
          omega
        have hv := ih r (fun d hd => h d (by simp [hd])) h0 (by rw [List.length_append] at h2; simp only [List.length_cons, List.length_nil] at h2; omega) (fun e => absurd e hn48)
        have hpos : 1 ≤ val r := by
          rcases Nat.eq_zero_or_pos (val r) with e | e
          · exfalso
            rw [e] at hv
            have : dgf k 0 = [48] := by cases k <;> rfl
            rw [this] at hv
            exact hn48 (by rw [← hv]; rfl)
          · exact e
        rw [if_neg (by omega), show (10 * val r + (c.toNat - 48)) / 10 = val r by omega, show (10 * val r + (c.toNat - 48)) % 10 = c.toNat - 48 by omega, hv, dig_of hc.1 hc.2]

/-- A number of a script. -/
theorem dg_all {n : Nat} (h : n ≤ 999999999) : (∀ c ∈ dg n, isDig c) ∧ val (dg n) = n ∧ 1 ≤ (dg n).length ∧ (dg n).length ≤ 9 ∧ ((dg n).head? = some 48 → (dg n).length = 1) := by
  obtain ⟨a, b, c, d⟩ := dgf_all 20 n (by have : (10 : Nat) ^ 21 = 1000000000000000000000 := by decide
                                          omega)
  exact ⟨a, b, c, dgf_len 20 n 9 (by have : (10 : Nat) ^ 9 = 1000000000 := by decide
                                     omega) (by omega), d⟩
theorem dg_inj {n m : Nat} (hn : n ≤ 999999999) (hm : m ≤ 999999999) (h : dg n = dg m) : n = m := by
  rw [← (dg_all hn).2.1, ← (dg_all hm).2.1, h]

/-- What a word is read as: a number, or none. -/
def NRes (w : List UInt8) (n : Int) (ok : Bool) : Prop := (ok = true ∧ ∃ m : Nat, m ≤ 999999999 ∧ n = m ∧ dg m = w) ∨ (ok = false ∧ ∀ m, m ≤ 999999999 → dg m ≠ w)

theorem nres_yes {w : List UInt8} (h : ∀ c ∈ w, isDig c) (h1 : 1 ≤ w.length) (h9 : w.length ≤ 9) (h0 : w.head? = some 48 → w.length = 1) : NRes w (val w) true := by
  have hv := val_lt w h
  have : (10 : Nat) ^ w.length ≤ 10 ^ 9 := Nat.pow_le_pow_right (by decide) h9
  have e9 : (10 : Nat) ^ 9 = 1000000000 := by decide
  exact .inl ⟨rfl, val w, by omega, rfl, dgf_val 20 w h h1 (by omega) h0⟩
theorem nres_no {w : List UInt8} {n : Int} (h : ¬ ((∀ c ∈ w, isDig c) ∧ 1 ≤ w.length ∧ w.length ≤ 9 ∧ (w.head? = some 48 → w.length = 1))) : NRes w n false := by
  refine .inr ⟨rfl, fun m hm e => h ?_⟩
  rw [← e]
  obtain ⟨a, b, c, d, f⟩ := dg_all hm
  exact ⟨a, c, d, f⟩
theorem nres_one {w : List UInt8} {n m : Int} {a b : Bool} (h : NRes w n a) (k : NRes w m b) : a = b ∧ (a = true → n = m) := by
  rcases h with ⟨rfl, x, hx, rfl, ex⟩ | ⟨rfl, h⟩ <;> rcases k with ⟨rfl, y, hy, rfl, ey⟩ | ⟨rfl, k⟩
  · exact ⟨rfl, fun _ => by rw [dg_inj hx hy (ex.trans ey.symm)]⟩
  · exact absurd ex (k x hx)
  · exact absurd ey (h y hy)
  · exact ⟨rfl, fun h => by simp at h⟩

end Sct
end Go.Proofs.YtgcdibglkbfjdaaGreatDoor
