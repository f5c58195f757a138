/- Texts of one layer, one behind the other. -/
import Derived.Test.YtdlogcdpapknaaaGreatDoorZA
/- Scripts (layer 25): the words of a line, the texts of numbers. No program. -/
namespace Go.Proofs.YtdlogcdpapknaaaGreatDoor
set_option linter.unusedVariables false
namespace Sct

/-- The words of a line, cur being read. -/
def wdsA : List UInt8 → List UInt8 → List (List UInt8)
  | cur, [] => if cur = [] then [] else [cur]
  | cur, c :: r => if c = 32 then (if cur = [] then wdsA [] r else cur :: wdsA [] r) else wdsA (cur ++ [c]) r

/-- The words of a line. -/
def wds (l : List UInt8) : List (List UInt8) := wdsA [] l

theorem wdsA_blank (cur r : List UInt8) : wdsA cur (32 :: r) = if cur = [] then wdsA [] r else cur :: wdsA [] r := by
  rw [wdsA, if_pos rfl]

theorem wdsA_on {c : UInt8} (h : c ≠ 32) (cur r : List UInt8) : wdsA cur (c :: r) = wdsA (cur ++ [c]) r := by
  rw [wdsA, if_neg h]

/-- Letters that are no blank. -/
theorem wdsA_run : ∀ (w cur r : List UInt8), 32 ∉ w → wdsA cur (w ++ r) = wdsA (cur ++ w) r
  | [], cur, r, _ => by simp
  | c :: w, cur, r, h => by
    rw [List.cons_append, wdsA_on (fun e => h (by simp [e])), wdsA_run w (cur ++ [c]) r fun e => h (by simp [e])]
    simp

theorem wdsA_ne : ∀ (l cur : List UInt8), (32 ∉ cur) → ∀ w ∈ wdsA cur l, w ≠ [] ∧ 32 ∉ w
  | [], cur, hc, w, h => by
    rw [wdsA] at h
    split at h
    · simp at h
    · rename_i h0
      rw [List.mem_singleton.1 h]
      exact ⟨h0, hc⟩
  | c :: r, cur, hc, w, h => by
    by_cases h32 : c = 32
    · rw [h32, wdsA_blank] at h
      split at h
      · exact wdsA_ne r [] (by simp) w h
      · rename_i h0
        rcases List.mem_cons.1 h with rfl | h
        · exact ⟨h0, hc⟩
        · exact wdsA_ne r [] (by simp) w h
    · rw [wdsA_on h32] at h
      refine wdsA_ne r (cur ++ [c]) (fun e => ?_) w h
      rcases List.mem_append.1 e with e | e
      · exact hc e
      · exact h32 (List.mem_singleton.1 e).symm

theorem wds_ne {l : List UInt8} : ∀ w ∈ wds l, w ≠ [] ∧ 32 ∉ w := wdsA_ne l [] (by simp)

/-- Words with one blank between each two. -/
def jn : List (List UInt8) → List UInt8
  | [] => []
  | [w] => w
  | w :: x :: r => w ++ 32 :: jn (x :: r)

theorem wds_jn : ∀ (ws : List (List UInt8)), (∀ w ∈ ws, w ≠ [] ∧ 32 ∉ w) → wds (jn ws) = ws
  | [], _ => rfl
  | [w], h => by
    have h1 := h w (by simp)
    show wdsA [] w = [w]
    have := wdsA_run w [] [] h1.2
    rw [List.append_nil, List.nil_append] at this
    rw [this, wdsA, if_neg h1.1]
  | w :: x :: r, h => by
    have h1 := h w (by simp)
    have ih := wds_jn (x :: r) fun v hv => h v (by simp [hv])
    show wdsA [] (w ++ 32 :: jn (x :: r)) = w :: x :: r
    rw [wdsA_run w [] _ h1.2, List.nil_append, wdsA_blank, if_neg h1.1]
    exact congrArg (w :: ·) ih

theorem jn_cons (w : List UInt8) {ws : List (List UInt8)} (h : ws ≠ []) : jn (w :: ws) = w ++ 32 :: jn ws := by
  cases ws with
  | nil => exact absurd rfl h
  | cons x r => rfl

theorem jn_snoc : ∀ (ws : List (List UInt8)) (w : List UInt8), ws ≠ [] → jn (ws ++ [w]) = jn ws ++ 32 :: w
  | [], _, h => absurd rfl h
  | [x], w, _ => rfl
  | x :: y :: r, w, _ => by
    have := jn_snoc (y :: r) w (by simp)
    show x ++ 32 :: jn (y :: r ++ [w]) = _
    rw [this]
    show _ = (x ++ 32 :: jn (y :: r)) ++ 32 :: w
    simp

/-- A digit. -/
def dig (n : Nat) : UInt8 := UInt8.ofNat (48 + n)
theorem dig_val {n : Nat} (h : n < 10) : (dig n).toNat = 48 + n := by
  unfold dig
  rw [UInt8.toNat_ofNat']
  omega
theorem dig_of {c : UInt8} (h : 48 ≤ c.toNat) (h2 : c.toNat ≤ 57) : dig (c.toNat - 48) = c := by
  apply UInt8.toNat.inj
  rw [dig_val (by omega)]
  omega

/-- A number's digits, at most so many and one. -/
def dgf : Nat → Nat → List UInt8
  | 0, n => [dig (n % 10)]
  | k + 1, n => if n < 10 then [dig n] else dgf k (n / 10) ++ [dig (n % 10)]
/-- A number's digits. -/
def dg (n : Nat) : List UInt8 := dgf 20 n

/-- What digits come to. -/
def val (l : List UInt8) : Nat := l.foldl (fun a c => 10 * a + (c.toNat - 48)) 0
theorem val_snoc (l : List UInt8) (c : UInt8) : val (l ++ [c]) = 10 * val l + (c.toNat - 48) := by simp [val]

def isDig (c : UInt8) : Prop := 48 ≤ c.toNat ∧ c.toNat ≤ 57

theorem head_app {α : Type} {r x : List α} (h : r ≠ []) : (r ++ x).head? = r.head? := by
  cases r with
  | nil => exact absurd rfl h
  | cons a b => rfl

theorem dgf_all : ∀ (k n : Nat), n < 10 ^ (k + 1) → (∀ c ∈ dgf k n, isDig c) ∧ val (dgf k n) = n ∧ 1 ≤ (dgf k n).length ∧ ((dgf k n).head? = some 48 → (dgf k n).length = 1)
  | 0, n, h => by
    have h : n < 10 := h
    have e := dig_val h
    rw [dgf, Nat.mod_eq_of_lt h]
    refine ⟨fun c hc => ?_, ?_, by simp, by simp⟩
    · rw [List.mem_singleton.1 hc]
      exact ⟨by omega, by omega⟩
    · simp [val, e]
  | k + 1, n, h => by
    rw [dgf]
    split
    · rename_i h
      have e := dig_val h
      refine ⟨fun c hc => ?_, ?_, by simp, by simp⟩
      · rw [List.mem_singleton.1 hc]
        exact ⟨by omega, by omega⟩
      · simp [val, e]
    · rename_i h10
      have hp : (10 : Nat) ^ (k + 2) = 10 * 10 ^ (k + 1) := by rw [Nat.pow_succ, Nat.mul_comm]
      obtain ⟨i1, i2, i3, i4⟩ := dgf_all k (n / 10) (by rw [hp] at h; omega)
      have e := dig_val (n := n % 10) (by omega)
      refine ⟨fun c hc => ?_, ?_, by simp, fun hh => ?_⟩
      · rcases List.mem_append.1 hc with hc | hc
        · exact i1 c hc
        · rw [List.mem_singleton.1 hc]
          exact ⟨by omega, by omega⟩
      · rw [val_snoc, i2, e]
        omega
      · exfalso
        have hne : dgf k (n / 10) ≠ [] := fun e => by rw [e] at i3; simp at i3
        rw [head_app hne] at hh
        have h1 := i4 hh
        obtain ⟨c, hc⟩ : ∃ c, dgf k (n / 10) = [c] := List.length_eq_one_iff.1 h1
        rw [hc] at hh i2
        have : c = 48 := by simpa using hh
        rw [this] at i2
        have : n / 10 = 0 := by rw [← i2]; rfl
        omega

theorem dgf_len : ∀ (k n m : Nat), n < 10 ^ m → 1 ≤ m → (dgf k n).length ≤ m
  | 0, n, m, _, hm => by simpa [dgf] using hm
  | k + 1, n, m, h, hm => by
    rw [dgf]
    split
    · simpa using hm
    · rename_i h10
      obtain ⟨m', rfl⟩ : ∃ m', m = m' + 1 := ⟨m - 1, by omega⟩
      have hm' : 1 ≤ m' := by
        rcases Nat.eq_zero_or_pos m' with rfl | h1
        · simp at h; omega
        · exact h1
      have hp : (10 : Nat) ^ (m' + 1) = 10 * 10 ^ m' := by rw [Nat.pow_succ, Nat.mul_comm]
      have := dgf_len k (n / 10) m' (by rw [hp] at h; omega) hm'
      rw [List.length_append]
      simp only [List.length_cons, List.length_nil]
      omega

theorem val_top : ∀ (l : List UInt8) (a : Nat), (∀ c ∈ l, isDig c) → l.foldl (fun a c => 10 * a + (c.toNat - 48)) a + 1 ≤ (a + 1) * 10 ^ l.length
  | [], a, _ => by simp
  | c :: r, a, h => by
    have h1 := val_top r (10 * a + (c.toNat - 48)) fun d hd => h d (by simp [hd])
    have h2 := h c (by simp)
    unfold isDig at h2
    rw [List.foldl_cons, List.length_cons, Nat.pow_succ]
    refine Nat.le_trans h1 ?_
    rw [Nat.mul_comm (10 ^ r.length) 10, ← Nat.mul_assoc]
    exact Nat.mul_le_mul_right _ (by omega)
theorem val_lt (l : List UInt8) (h : ∀ c ∈ l, isDig c) : val l < 10 ^ l.length := by
  have := val_top l 0 h
  unfold val
  omega

/-- Digits without noughts ahead are told by what they come to. -/
theorem dgf_val : ∀ (k : Nat) (l : List UInt8), (∀ c ∈ l, isDig c) → 1 ≤ l.length → l.length ≤ k + 1 → (l.head? = some 48 → l.length = 1) → dgf k (val l) = l := by
  intro k
  induction k with
  | zero =>
    intro l h h1 h2 _
    obtain ⟨c, rfl⟩ := List.length_eq_one_iff.1 (show l.length = 1 by omega)
    have hc := h c (by simp)
    unfold isDig at hc
    have : val [c] = c.toNat - 48 := by simp [val]
    rw [dgf, this, Nat.mod_eq_of_lt (by omega), dig_of hc.1 hc.2]
  | succ k ih =>
    intro l h h1 h2 h3
    rcases List.eq_nil_or_concat l with rfl | ⟨r, c, rfl⟩
    · simp at h1
    · rw [List.concat_eq_append] at *
      have hc := h c (by simp)
      unfold isDig at hc
      rw [val_snoc, dgf]
      rcases Nat.eq_zero_or_pos r.length with h0 | h0
      · have hr : r = [] := List.length_eq_zero_iff.1 h0
        subst hr
        have : val [] = 0 := rfl
        rw [this, if_pos (by omega)]
        rw [show 10 * 0 + (c.toNat - 48) = c.toNat - 48 by omega, dig_of hc.1 hc.2]
        rfl
      · have hne : r ≠ [] := fun e => by rw [e] at h0; simp at h0
        rw [head_app hne] at h3
        have hn48 : r.head? ≠ some 48 := fun e => by
          have := h3 e
          rw [List.length_append] at this
          simp only [List.length_cons, List.length_nil] at this
          omega
        have hv := ih r (fun d hd => h d (by simp [hd])) h0 (by rw [List.length_append] at h2; simp only [List.length_cons, List.length_nil] at h2; omega) (fun e => absurd e hn48)
        have hpos : 1 ≤ val r := by
          rcases Nat.eq_zero_or_pos (val r) with e | e
          · exfalso
            rw [e] at hv
            have : dgf k 0 = [48] := by cases k <;> rfl
            rw [this] at hv
            exact hn48 (by rw [← hv]; rfl)
          · exact e
        rw [if_neg (by omega), show (10 * val r + (c.toNat - 48)) / 10 = val r by omega, show (10 * val r + (c.toNat - 48)) % 10 = c.toNat - 48 by omega, hv, dig_of hc.1 hc.2]

/-- A number of a script. -/
theorem dg_all {n : Nat} (h : n ≤ 999999999) : (∀ c ∈ dg n, isDig c) ∧ val (dg n) = n ∧ 1 ≤ (dg n).length ∧ (dg n).length ≤ 9 ∧ ((dg n).head? = some 48 → (dg n).length = 1) := by
  obtain ⟨a, b, c, d⟩ := dgf_all 20 n (by have : (10 : Nat) ^ 21 = 1000000000000000000000 := by decide
                                          omega)
  exact ⟨a, b, c, dgf_len 20 n 9 (by have : (10 : Nat) ^ 9 = 1000000000 := by decide
                                     omega) (by omega), d⟩
theorem dg_inj {n m : Nat} (hn : n ≤ 999999999) (hm : m ≤ 999999999) (h : dg n = dg m) : n = m := by
  rw [← (dg_all hn).2.1, ← (dg_all hm).2.1, h]

/-- What a word is read as: a number, or none. -/
def NRes (w : List UInt8) (n : Int) (ok : Bool) : Prop := (ok = true ∧ ∃ m : Nat, m ≤ 999999999 ∧ n = m ∧ dg m = w) ∨ (ok = false ∧ ∀ m, m ≤ 999999999 → dg m ≠ w)

theorem nres_yes {w : List UInt8} (h : ∀ c ∈ w, isDig c) (h1 : 1 ≤ w.length) (h9 : w.length ≤ 9) (h0 : w.head? = some 48 → w.length = 1) : NRes w (val w) true := by
  have hv := val_lt w h
  have : (10 : Nat) ^ w.length ≤ 10 ^ 9 := Nat.pow_le_pow_right (by decide) h9
  have e9 : (10 : Nat) ^ 9 = 1000000000 := by decide
  exact .inl ⟨rfl, val w, by omega, rfl, dgf_val 20 w h h1 (by omega) h0⟩
theorem nres_no {w : List UInt8} {n : Int} (h : ¬ ((∀ c ∈ w, isDig c) ∧ 1 ≤ w.length ∧ w.length ≤ 9 ∧ (w.head? = some 48 → w.length = 1))) : NRes w n false := by
  refine .inr ⟨rfl, fun m hm e => h ?_⟩
  rw [← e]
  obtain ⟨a, b, c, d, f⟩ := dg_all hm
  exact ⟨a, c, d, f⟩
theorem nres_one {w : List UInt8} {n m : Int} {a b : Bool} (h : NRes w n a) (k : NRes w m b) : a = b ∧ (a = true → n = m) := by
  rcases h with ⟨rfl, x, hx, rfl, ex⟩ | ⟨rfl, h⟩ <;> rcases k with ⟨rfl, y, hy, rfl, ey⟩ | ⟨rfl, k⟩
  · exact ⟨rfl, fun _ => by rw [dg_inj hx hy (ex.trans ey.symm)]⟩
  · exact absurd ex (k x hx)
  · exact absurd ey (h y hy)
  · exact ⟨rfl, fun h => by simp at h⟩

end Sct
end Go.Proofs.YtdlogcdpapknaaaGreatDoor

/- Scripts (layer 25): an act, its text, the acts of a text. No program. -/
namespace Go.Proofs.YtdlogcdpapknaaaGreatDoor
set_option linter.unusedVariables false
namespace Sct
open Bm (Ov chkL)

/-- An act. -/
structure Av where
  k : Int
  u : Int
  n : Int
  t : Int
  key : ByteArray
  ops : List Ov

def no : Av := ⟨0, 0, 0, 0, ⟨#[]⟩, []⟩

theorem ba_ext {a b : ByteArray} (h : a.data.toList = b.data.toList) : a = b := by
  cases a; cases b
  simp only [ByteArray.mk.injEq]
  exact Array.toList_inj.1 h

/-- The words of ops. -/
def opw : List Ov → List (List UInt8)
  | [] => []
  | o :: r => (if o.p then [[112, 117, 116], Wm.wd o.kl, Wm.wd o.vl] else [[100, 101, 108], Wm.wd o.kl]) ++ opw r

/-- A kind's first word. -/
def nm (k : Int) : List UInt8 :=
  if k = 1 then [99, 111, 109, 109, 105, 116] else if k = 2 then [114, 101, 97, 100] else if k = 3 then [116, 105, 99, 107] else if k = 4 then [112, 114, 111, 109, 111, 116, 101] else
  if k = 5 then [102, 108, 117, 115, 104] else if k = 6 then [100, 101, 108, 105, 118, 101, 114] else if k = 7 then [116, 119, 105, 99, 101] else if k = 8 then [100, 114, 111, 112] else
  if k = 9 then [102, 117, 115, 101] else if k = 10 then [112, 117, 108, 108] else if k = 11 then [115, 116, 97, 114, 116] else [114, 111, 117, 110, 100]

/-- What stands behind it: a node, a key, a number, a second one, ops. -/
def hu (k : Int) : Bool := decide (k = 1 ∨ k = 2 ∨ k = 3 ∨ k = 4 ∨ k = 5 ∨ k = 9 ∨ k = 10 ∨ k = 11)
def hk (k : Int) : Bool := decide (k = 2)
def hn (k : Int) : Bool := decide (k = 6 ∨ k = 7 ∨ k = 8 ∨ k = 9 ∨ k = 11)
def ht (k : Int) : Bool := decide (k = 11)
def ho (k : Int) : Bool := decide (k = 1)

/-- The words of an act's text. -/
def tail (a : Av) : List (List UInt8) :=
  (if hu a.k then [dg a.u.toNat] else []) ++ ((if hk a.k then [Wm.wd a.key.data.toList] else []) ++ ((if hn a.k then [dg a.n.toNat] else []) ++ ((if ht a.k then [dg a.t.toNat] else []) ++ (if ho a.k then opw a.ops else []))))
def txt (a : Av) : List (List UInt8) := nm a.k :: tail a

/-- An act that may be. -/
structure Ok (a : Av) : Prop where
  k : 1 ≤ a.k ∧ a.k ≤ 12
  u : 0 ≤ a.u ∧ a.u ≤ 1
  n : 0 ≤ a.n ∧ a.n ≤ 999999999
  t : 0 ≤ a.t ∧ a.t ≤ 999999999
  u0 : hu a.k = false → a.u = 0
  n0 : hn a.k = false → a.n = 0
  t0 : ht a.k = false → a.t = 0
  key : if hk a.k then Om.chk false a.key.data.toList [] = 0 else a.key = ⟨#[]⟩
  ops : if ho a.k then chkL a.ops = 0 else a.ops = []

theorem nm_inj {a b : Int} (ha : 1 ≤ a ∧ a ≤ 12) (hb : 1 ≤ b ∧ b ≤ 12) (h : nm a = nm b) : a = b := by
  obtain rfl | rfl | rfl | rfl | rfl | rfl | rfl | rfl | rfl | rfl | rfl | rfl : a = 1 ∨ a = 2 ∨ a = 3 ∨ a = 4 ∨ a = 5 ∨ a = 6 ∨ a = 7 ∨ a = 8 ∨ a = 9 ∨ a = 10 ∨ a = 11 ∨ a = 12 := by omega
  all_goals
    obtain rfl | rfl | rfl | rfl | rfl | rfl | rfl | rfl | rfl | rfl | rfl | rfl : b = 1 ∨ b = 2 ∨ b = 3 ∨ b = 4 ∨ b = 5 ∨ b = 6 ∨ b = 7 ∨ b = 8 ∨ b = 9 ∨ b = 10 ∨ b = 11 ∨ b = 12 := by omega
    all_goals first
      | rfl
      | exact absurd h (by decide)

theorem opw_inj : ∀ {l m : List Ov}, (∀ o ∈ l, o.p = false → o.v = ⟨#[]⟩) → (∀ o ∈ m, o.p = false → o.v = ⟨#[]⟩) → opw l = opw m → l = m
  | [], [], _, _, _ => rfl
  | [], o :: m, _, _, h => by
    exfalso
    simp only [opw] at h
    split at h <;> simp at h
  | o :: l, [], _, _, h => by
    exfalso
    simp only [opw] at h
    split at h <;> simp at h
  | o :: l, q :: m, h1, h2, h => by
    simp only [opw] at h
    obtain ⟨p, k, v⟩ := o
    obtain ⟨p', k', v'⟩ := q
    cases p <;> cases p' <;> simp only [if_pos, if_neg, Bool.false_eq_true, not_false_eq_true, List.cons_append, List.nil_append, List.cons.injEq] at h
    · obtain ⟨_, e1, e2⟩ := h
      have ek : k = k' := ba_ext (Wm.wd_inj e1)
      have ev : v = ⟨#[]⟩ := h1 _ (List.mem_cons_self ..) rfl
      have ev' : v' = ⟨#[]⟩ := h2 _ (List.mem_cons_self ..) rfl
      rw [ek, ev, ev', opw_inj (fun o ho => h1 o (List.mem_cons_of_mem _ ho)) (fun o ho => h2 o (List.mem_cons_of_mem _ ho)) e2]
    · exact absurd h.1 (by decide)
    · exact absurd h.1 (by decide)
    · obtain ⟨_, e1, e3, e2⟩ := h
      have ek : k = k' := ba_ext (Wm.wd_inj e1)
      have ev : v = v' := ba_ext (Wm.wd_inj e3)
      rw [ek, ev, opw_inj (fun o ho => h1 o (List.mem_cons_of_mem _ ho)) (fun o ho => h2 o (List.mem_cons_of_mem _ ho)) e2]

theorem chk_del {l : List Ov} (h : chkL l = 0) : ∀ o ∈ l, o.p = false → o.v = ⟨#[]⟩ := fun o ho hp => by
  obtain ⟨_, _, hc⟩ := Bm.chkL_zero h
  have h2 : Om.chk o.p o.kl o.vl = 0 := hc o ho
  obtain ⟨_, _, _, h3⟩ := Om.chk_ok' h2
  rcases h3 with h3 | h3
  · rw [hp] at h3; simp at h3
  · exact ba_ext h3

/-- An act's text tells it. -/
theorem txt_inj {a b : Av} (ha : Ok a) (hb : Ok b) (h : txt a = txt b) : a = b := by
  simp only [txt, List.cons.injEq] at h
  obtain ⟨hk', hr⟩ := h
  have ek := nm_inj ha.k hb.k hk'
  obtain ⟨k, u, n, t, key, ops⟩ := a
  obtain ⟨k', u', n', t', key', ops'⟩ := b
  have ek : k = k' := ek
  subst ek
  obtain ⟨a1, a2, a3, a4, a5, a6, a7, a8, a9⟩ := ha
  obtain ⟨b1, b2, b3, b4, b5, b6, b7, b8, b9⟩ := hb
  simp only [tail] at hr a1 a2 a3 a4 a5 a6 a7 a8 a9 b2 b3 b4 b5 b6 b7 b8 b9
  have hU : u = u' ∧ (if hk k then [Wm.wd key.data.toList] else []) ++ ((if hn k then [dg n.toNat] else []) ++ ((if ht k then [dg t.toNat] else []) ++ (if ho k then opw ops else []))) = (if hk k then [Wm.wd key'.data.toList] else []) ++ ((if hn k then [dg n'.toNat] else []) ++ ((if ht k then [dg t'.toNat] else []) ++ (if ho k then opw ops' else []))) := by
    cases hx : hu k
    · rw [hx] at hr
      exact ⟨(a5 hx).trans (b5 hx).symm, by simpa using hr⟩
    · rw [hx, if_pos rfl, if_pos rfl, List.cons_append, List.cons_append, List.cons.injEq] at hr
      exact ⟨by have := dg_inj (by omega) (by omega) hr.1; omega, by simpa using hr.2⟩
  obtain ⟨eu, hr⟩ := hU
  have hK : key = key' ∧ ((if hn k then [dg n.toNat] else []) ++ ((if ht k then [dg t.toNat] else []) ++ (if ho k then opw ops else []))) = ((if hn k then [dg n'.toNat] else []) ++ ((if ht k then [dg t'.toNat] else []) ++ (if ho k then opw ops' else []))) := by
    cases hx : hk k
    · rw [hx] at hr a8 b8
      exact ⟨a8.trans b8.symm, by simpa using hr⟩
    · rw [hx, if_pos rfl, if_pos rfl, List.cons_append, List.cons_append, List.cons.injEq] at hr
      exact ⟨ba_ext (Wm.wd_inj hr.1), by simpa using hr.2⟩
  obtain ⟨ekk, hr⟩ := hK
  have hN : n = n' ∧ ((if ht k then [dg t.toNat] else []) ++ (if ho k then opw ops else [])) = ((if ht k then [dg t'.toNat] else []) ++ (if ho k then opw ops' else [])) := by
    cases hx : hn k
    · rw [hx] at hr
      exact ⟨(a6 hx).trans (b6 hx).symm, by simpa using hr⟩
    · rw [hx, if_pos rfl, if_pos rfl, List.cons_append, List.cons_append, List.cons.injEq] at hr
      exact ⟨by have := dg_inj (by omega) (by omega) hr.1; omega, by simpa using hr.2⟩
  obtain ⟨en, hr⟩ := hN
  have hT : t = t' ∧ (if ho k then opw ops else []) = (if ho k then opw ops' else []) := by
    cases hx : ht k
    · rw [hx] at hr
      exact ⟨(a7 hx).trans (b7 hx).symm, by simpa using hr⟩
    · rw [hx, if_pos rfl, if_pos rfl, List.cons_append, List.cons_append, List.cons.injEq] at hr
      exact ⟨by have := dg_inj (by omega) (by omega) hr.1; omega, by simpa using hr.2⟩
  obtain ⟨et, hr⟩ := hT
  have hO : ops = ops' := by
    cases hx : ho k
    · rw [hx] at a9 b9
      exact a9.trans b9.symm
    · rw [hx, if_pos rfl] at a9 b9 hr
      rw [if_pos rfl] at hr
      exact opw_inj (chk_del a9) (chk_del b9) hr
  rw [eu, ekk, en, et, hO]

/-- The words of such a text are words. -/
theorem dg_word {n : Nat} (h : n ≤ 999999999) : dg n ≠ [] ∧ 32 ∉ dg n ∧ 10 ∉ dg n := by
  obtain ⟨a, _, c, _⟩ := dg_all h
  refine ⟨fun e => by rw [e] at c; simp at c, fun e => ?_, fun e => ?_⟩
  · have := (a _ e).1
    simp at this
  · have := (a _ e).1
    simp at this
theorem nm_word (k : Int) : nm k ≠ [] ∧ 32 ∉ nm k ∧ 10 ∉ nm k ∧ (nm k).head? ≠ some 35 := by
  unfold nm
  repeat' split
  all_goals decide

/-- What a line comes to. -/
def Rem (s : List UInt8) : Prop := wds s = [] ∨ ∃ w r, wds s = w :: r ∧ w.head? = some 35
def LRes (s : List UInt8) (a : Av) (there : Bool) (e : Int) : Prop :=
  (65536 < s.length ∧ a = no ∧ there = false ∧ e = 3) ∨
  (s.length ≤ 65536 ∧ 10 ∉ s ∧ Rem s ∧ a = no ∧ there = false ∧ e = 0) ∨
  (s.length ≤ 65536 ∧ 10 ∉ s ∧ ¬ Rem s ∧ Ok a ∧ txt a = wds s ∧ there = true ∧ e = 0) ∨
  (s.length ≤ 65536 ∧ (10 ∈ s ∨ (¬ Rem s ∧ ∀ b, Ok b → txt b ≠ wds s)) ∧ a = no ∧ there = false ∧ e = 350)

theorem lres_one {s : List UInt8} {a b : Av} {x y : Bool} {e f : Int} (h : LRes s a x e) (k : LRes s b y f) : a = b ∧ x = y ∧ e = f := by
  rcases h with ⟨h1, rfl, rfl, rfl⟩ | ⟨h1, h2, h3, rfl, rfl, rfl⟩ | ⟨h1, h2, h3, h4, h5, rfl, rfl⟩ | ⟨h1, h2, rfl, rfl, rfl⟩ <;>
    rcases k with ⟨k1, rfl, rfl, rfl⟩ | ⟨k1, k2, k3, rfl, rfl, rfl⟩ | ⟨k1, k2, k3, k4, k5, rfl, rfl⟩ | ⟨k1, k2, rfl, rfl, rfl⟩
  all_goals first
    | exact ⟨rfl, rfl, rfl⟩
    | (exfalso; omega)
    | (exfalso; exact absurd ‹Rem s› ‹¬ Rem s›)
    | exact ⟨txt_inj ‹Ok a› ‹Ok b› (h5.trans k5.symm), rfl, rfl⟩
    | skip
  · exfalso
    rcases k2 with k2 | k2
    · exact h2 k2
    · exact k2.1 h3
  · exfalso
    rcases k2 with k2 | k2
    · exact h2 k2
    · exact k2.2 a h4 h5
  · exfalso
    rcases h2 with h2 | h2
    · exact k2 h2
    · exact h2.1 k3
  · exfalso
    rcases h2 with h2 | h2
    · exact k2 h2
    · exact h2.2 b k4 k5

/-- The lines of a text, cur being read. -/
def lnsA : List UInt8 → List UInt8 → List (List UInt8)
  | cur, [] => if cur = [] then [] else [cur]
  | cur, c :: r => if c = 10 then cur :: lnsA [] r else lnsA (cur ++ [c]) r
def lns (l : List UInt8) : List (List UInt8) := lnsA [] l

/-- The acts of lines, some read already. -/
def PGo : List (List UInt8) → Nat → List Av → List Av → Int → Int → Prop
  | [], i, acc, out, at', e => out = acc ∧ at' = 0 ∧ e = 0
  | x :: r, i, acc, out, at', e => ∃ a th f, LRes x a th f ∧ ((f ≠ 0 ∧ out = [] ∧ at' = i ∧ e = f) ∨ (f = 0 ∧ th = true ∧ acc.length = 200 ∧ out = [] ∧ at' = i ∧ e = 3) ∨ (f = 0 ∧ th = true ∧ acc.length ≠ 200 ∧ PGo r (i + 1) (acc ++ [a]) out at' e) ∨ (f = 0 ∧ th = false ∧ PGo r (i + 1) acc out at' e))

theorem pgo_one : ∀ (ls : List (List UInt8)) (i : Nat) (acc o o' : List Av) (p p' e e' : Int), PGo ls i acc o p e → PGo ls i acc o' p' e' → o = o' ∧ p = p' ∧ e = e'
  | [], i, acc, o, o', p, p', e, e', h, k => by
    obtain ⟨rfl, rfl, rfl⟩ := h
    obtain ⟨rfl, rfl, rfl⟩ := k
    exact ⟨rfl, rfl, rfl⟩
  | x :: r, i, acc, o, o', p, p', e, e', ⟨a, th, f, hl, h⟩, ⟨b, th', f', kl, k⟩ => by
    obtain ⟨rfl, rfl, rfl⟩ := lres_one hl kl
    rcases h with ⟨h1, rfl, rfl, rfl⟩ | ⟨h1, h2, h3, rfl, rfl, rfl⟩ | ⟨h1, h2, h3, h⟩ | ⟨h1, h2, h⟩ <;>
      rcases k with ⟨k1, rfl, rfl, rfl⟩ | ⟨k1, k2, k3, rfl, rfl, rfl⟩ | ⟨k1, k2, k3, k⟩ | ⟨k1, k2, k⟩
    all_goals first
      | exact ⟨rfl, rfl, rfl⟩
      | exact absurd ‹f = 0› ‹f ≠ 0›
      | exact absurd ‹e = 0› ‹e ≠ 0›
      | exact absurd ‹e' = 0› ‹e' ≠ 0›
      | exact absurd ‹acc.length = 200› ‹acc.length ≠ 200›
      | exact pgo_one r _ _ _ _ _ _ _ _ h k
      | exact Bool.noConfusion (‹th = true›.symm.trans ‹th = false›)

/-- What Parse comes to. -/
def PRes (s : List UInt8) (out : List Av) (at' e : Int) : Prop :=
  (65536 < s.length ∧ out = [] ∧ at' = -1 ∧ e = 3) ∨ (s.length ≤ 65536 ∧ PGo (lns s) 0 [] out at' e)
theorem pres_one {s : List UInt8} {o o' : List Av} {p p' e e' : Int} (h : PRes s o p e) (k : PRes s o' p' e') : o = o' ∧ p = p' ∧ e = e' := by
  rcases h with ⟨h1, rfl, rfl, rfl⟩ | ⟨h1, h⟩ <;> rcases k with ⟨k1, rfl, rfl, rfl⟩ | ⟨k1, k⟩
  · exact ⟨rfl, rfl, rfl⟩
  · omega
  · omega
  · exact pgo_one _ _ _ _ _ _ _ _ _ h k

/-- The text of acts. -/
def prn : List Av → List UInt8
  | [] => []
  | a :: r => jn (txt a) ++ 10 :: prn r
/-- What Print comes to. -/
def PrRes (l : List Av) (s : List UInt8) (at' e : Int) : Prop :=
  (200 < l.length ∧ s = [] ∧ at' = -1 ∧ e = 3) ∨
  (l.length ≤ 200 ∧ s = [] ∧ e = 2 ∧ ∃ i : Nat, at' = i ∧ (∀ a ∈ l.take i, Ok a) ∧ ∃ a, l[i]? = some a ∧ ¬ Ok a) ∨
  (l.length ≤ 200 ∧ (∀ a ∈ l, Ok a) ∧ 65536 < (prn l).length ∧ s = [] ∧ at' = -1 ∧ e = 3) ∨
  (l.length ≤ 200 ∧ (∀ a ∈ l, Ok a) ∧ (prn l).length ≤ 65536 ∧ s = prn l ∧ at' = 0 ∧ e = 0)

end Sct
end Go.Proofs.YtdlogcdpapknaaaGreatDoor
