/- Plain facts on a batch's bytes (how many ops; each op's kind, how much of its key it shares with the one ahead, the rest, its value): no program, no walk. -/
import Derived.Test.YtgcdibglkbfjdaaGreatDoorOpm
namespace Go.Proofs.YtgcdibglkbfjdaaGreatDoor.Bm
open Vm Om

/-- An op. -/
structure Ov where
  p : Bool
  k : ByteArray
  v : ByteArray

def Ov.kl (o : Ov) : List UInt8 := o.k.data.toList
def Ov.vl (o : Ov) : List UInt8 := o.v.data.toList
def Ov.c (o : Ov) : Int := chk o.p o.kl o.vl
def Ov.bit (o : Ov) : Nat := if o.p then 1 else 0

theorem ba_eq {a b : ByteArray} (h : a.data.toList = b.data.toList) : a = b := by
  obtain ⟨⟨a⟩⟩ := a
  obtain ⟨⟨b⟩⟩ := b
  simp at h
  rw [h]

theorem Ov.eq {o q : Ov} (h1 : o.p = q.p) (h2 : o.kl = q.kl) (h3 : o.vl = q.vl) : o = q := by
  obtain ⟨p, k, v⟩ := o
  obtain ⟨p', k', v'⟩ := q
  have e2 : k = k' := ba_eq h2
  have e3 : v = v' := ba_eq h3
  have e1 : p = p' := h1
  rw [e1, e2, e3]

theorem Ov.two (o : Ov) : o.c = 0 ∨ o.c = 2 := chk_two _ _ _

/-- How many first bytes two texts have in common. -/
def com : List UInt8 → List UInt8 → Nat
  | x :: a, y :: b => if x = y then com a b + 1 else 0
  | _, _ => 0

theorem com_le : ∀ (a b : List UInt8), com a b ≤ a.length ∧ com a b ≤ b.length ∧ b.take (com a b) = a.take (com a b)
  | [], b => by simp [com]
  | x :: a, [] => by simp [com]
  | x :: a, y :: b => by
    have := com_le a b
    unfold com
    split
    · rename_i h
      subst h
      simp [this.1, this.2.1, this.2.2]
    · simp

theorem com_is : ∀ (a b : List UInt8) (n : Nat), n ≤ a.length → n ≤ b.length → a.take n = b.take n → (n = a.length ∨ n = b.length ∨ a[n]? ≠ b[n]?) → com a b = n
  | [], b, n, h1, h2, h3, h4 => by simp at h1; subst h1; simp [com]
  | x :: a, [], n, h1, h2, h3, h4 => by simp at h2; subst h2; simp [com]
  | x :: a, y :: b, 0, h1, h2, h3, h4 => by
    simp at h4
    unfold com
    rw [if_neg h4]
  | x :: a, y :: b, n + 1, h1, h2, h3, h4 => by
    simp at h1 h2 h3 h4
    obtain ⟨rfl, h3⟩ := h3
    unfold com
    rw [if_pos rfl, com_is a b n h1 h2 h3 h4]

theorem com_self (a : List UInt8) : com a a = a.length := com_is a a _ (Nat.le_refl _) (Nat.le_refl _) rfl (.inl rfl)

/-- What Check answers of ops, without their count. -/
def first : List Ov → Int
  | [] => 0
  | o :: r => if o.c = 0 then first r else 2

theorem first_two : ∀ (l : List Ov), first l = 0 ∨ first l = 2
  | [] => .inl rfl
  | o :: r => by unfold first; split; exact first_two r; exact .inr rfl

theorem first_zero : ∀ {l : List Ov}, first l = 0 → ∀ o ∈ l, o.c = 0
  | [], _, o, ho => by simp at ho
  | q :: r, h, o, ho => by
    unfold first at h
    split at h
    · rcases List.mem_cons.1 ho with rfl | ho
      · assumption
      · exact first_zero h o ho
    · simp at h

theorem first_all : ∀ {l : List Ov}, (∀ o ∈ l, o.c = 0) → first l = 0
  | [], _ => rfl
  | q :: r, h => by
    unfold first
    rw [if_pos (h q (by simp)), first_all fun o ho => h o (by simp [ho])]

theorem first_bad {l : List Ov} {o : Ov} (ho : o ∈ l) (h : o.c ≠ 0) : first l = 2 := by
  rcases first_two l with h' | h'
  · exact absurd (first_zero h' o ho) h
  · exact h'

/-- What Check answers. -/
def chkL (l : List Ov) : Int := if l.length = 0 then 2 else if 8 < l.length then 3 else first l

theorem chkL_nil : chkL [] = 2 := rfl
theorem chkL_long {l : List Ov} (h : 8 < l.length) : chkL l = 3 := by unfold chkL; rw [if_neg (by omega), if_pos h]
theorem chkL_mid {l : List Ov} (h : l.length ≠ 0) (h' : ¬ 8 < l.length) : chkL l = first l := by unfold chkL; rw [if_neg h, if_neg h']
theorem chkL_zero {l : List Ov} (h : chkL l = 0) : 1 ≤ l.length ∧ l.length ≤ 8 ∧ ∀ o ∈ l, o.c = 0 := by
  unfold chkL at h
  split at h
  · simp at h
  · split at h
    · simp at h
    · exact ⟨by omega, by omega, first_zero h⟩
theorem chkL_four (l : List Ov) : chkL l = 0 ∨ chkL l = 2 ∨ chkL l = 3 := by
  unfold chkL
  split
  · simp
  · split
    · simp
    · rcases first_two l with h | h <;> simp [h]

/-- Kind, how much is shared, the rest behind its count. -/
def pre4 (kind sh : Nat) (rest : List UInt8) : List Int := enc kind ++ (enc sh ++ (enc rest.length ++ ints rest))

/-- An op's bytes behind a key. -/
def encO (ah : List UInt8) (o : Ov) : List Int := pre4 o.bit (com ah o.kl) (o.kl.drop (com ah o.kl)) ++ if o.p then cnt o.vl else []

def encL (ah : List UInt8) : List Ov → List Int
  | [] => []
  | o :: r => encO ah o ++ encL o.kl r

def encB (l : List Ov) : List Int := enc l.length ++ encL [] l

def appB (bs : List Int) (l : List Ov) : List Int := if chkL l = 0 then bs ++ encB l else []

theorem appB_ok {bs : List Int} {l : List Ov} (h : chkL l = 0) : appB bs l = bs ++ encB l := by unfold appB; rw [if_pos h]
theorem appB_no {bs : List Int} {l : List Ov} (h : chkL l ≠ 0) : appB bs l = [] := by unfold appB; rw [if_neg h]

theorem pre_app {A X bs : List Int} : A ++ X <+: bs ↔ A <+: bs ∧ X <+: bs.drop A.length := by
  constructor
  · intro h
    refine ⟨(List.prefix_append _ _).trans h, ?_⟩
    obtain ⟨r, rfl⟩ := h
    rw [List.append_assoc, List.drop_left]
    exact List.prefix_append _ _
  · rintro ⟨⟨r, rfl⟩, h⟩
    rw [List.drop_left] at h
    exact (List.prefix_append_right_inj _).2 h

theorem ints_pre {s t : List UInt8} {bs : List Int} (h : ints s <+: bs) (k : ints t <+: bs) (hl : s.length = t.length) : s = t := by
  rw [List.prefix_iff_eq_take] at h k
  apply ints_inj
  rw [h, k, ints_len, ints_len, hl]

theorem pre4_free {a b c d : Nat} {r s : List UInt8} {bs : List Int} (h : pre4 a b r <+: bs) (g : pre4 c d s <+: bs) : a = c ∧ b = d ∧ r = s := by
  unfold pre4 at h g
  rw [pre_app, pre_app, pre_app] at h g
  obtain ⟨h1, h2, h3, h4⟩ := h
  obtain ⟨g1, g2, g3, g4⟩ := g
  obtain rfl := pre_one _ _ _ h1 g1
  obtain rfl := pre_one _ _ _ h2 g2
  have e := pre_one _ _ _ h3 g3
  rw [e] at h4
  exact ⟨rfl, rfl, ints_pre h4 g4 e⟩

/-- A delete has no value. -/
def Ov.shape (o : Ov) : Prop := o.p = true ∨ o.vl = []

theorem Ov.shape_of {o : Ov} (h : o.c = 0) : o.shape := (chk_ok' h).2.2.2

theorem key_of (ah : List UInt8) (k : List UInt8) : ah.take (com ah k) ++ k.drop (com ah k) = k := by
  rw [← (com_le ah k).2.2, List.take_append_drop]

theorem bit_eq {o q : Ov} (h : o.bit = q.bit) : o.p = q.p := by
  unfold Ov.bit at h
  cases h1 : o.p <;> cases h2 : q.p <;> simp_all

theorem encO_free {ah : List UInt8} {o q : Ov} {bs : List Int} (h : encO ah o <+: bs) (g : encO ah q <+: bs) (ho : o.shape) (hq : q.shape) : o = q := by
  unfold encO at h g
  rw [pre_app] at h g
  obtain ⟨h1, h2⟩ := h
  obtain ⟨g1, g2⟩ := g
  obtain ⟨e1, e2, e3⟩ := pre4_free h1 g1
  have ek : o.kl = q.kl := by
    rw [← key_of ah o.kl, ← key_of ah q.kl, e2]
    rw [e2] at e3
    rw [e3]
  have ep := bit_eq e1
  refine Ov.eq ep ek ?_
  have el : o.kl.length = q.kl.length := by rw [ek]
  rw [e1, ek] at h2
  cases hp : o.p
  · have := ho
    have := hq
    unfold Ov.shape at *
    rw [← ep] at *
    simp_all
  · rw [hp] at h2
    rw [← ep, hp] at g2
    simp only [if_true] at h2 g2
    exact cnt_free h2 g2

theorem encL_free : ∀ (ah : List UInt8) (l m : List Ov) (bs : List Int), l.length = m.length → (∀ o ∈ l, o.shape) → (∀ o ∈ m, o.shape) → encL ah l <+: bs → encL ah m <+: bs → l = m
  | _, [], [], _, _, _, _, _, _ => rfl
  | _, [], _ :: _, _, h, _, _, _, _ => by simp at h
  | _, _ :: _, [], _, h, _, _, _, _ => by simp at h
  | ah, o :: l, q :: m, bs, hl, h1, h2, h, g => by
    unfold encL at h g
    rw [pre_app] at h g
    obtain rfl := encO_free h.1 g.1 (h1 o (by simp)) (h2 q (by simp))
    rw [encL_free o.kl l m _ (by simpa using hl) (fun x hx => h1 x (by simp [hx])) (fun x hx => h2 x (by simp [hx])) h.2 g.2]

theorem encB_free {l m : List Ov} {bs : List Int} (h : encB l <+: bs) (g : encB m <+: bs) (hl : ∀ o ∈ l, o.shape) (hm : ∀ o ∈ m, o.shape) : l = m := by
  unfold encB at h g
  rw [pre_app] at h g
  have e := pre_one _ _ _ h.1 g.1
  rw [e] at h
  exact encL_free [] l m _ e hl hm h.2 g.2

/-- The last key. -/
def lst (ah : List UInt8) : List Ov → List UInt8
  | [] => ah
  | o :: r => lst o.kl r

theorem lst_snoc : ∀ (ah : List UInt8) (l : List Ov) (o : Ov), lst ah (l ++ [o]) = o.kl
  | _, [], _ => rfl
  | _, q :: l, o => lst_snoc q.kl l o

theorem encL_snoc : ∀ (ah : List UInt8) (l : List Ov) (o : Ov), encL ah (l ++ [o]) = encL ah l ++ encO (lst ah l) o
  | _, [], _ => by simp [encL, lst]
  | ah, q :: l, o => by
    show encO ah q ++ encL q.kl (l ++ [o]) = encO ah q ++ encL q.kl l ++ encO (lst q.kl l) o
    rw [encL_snoc q.kl l o, List.append_assoc]

theorem encL_app : ∀ (ah : List UInt8) (l m : List Ov), encL ah (l ++ m) = encL ah l ++ encL (lst ah l) m
  | _, [], _ => rfl
  | ah, q :: l, m => by
    show encO ah q ++ encL q.kl (l ++ m) = encO ah q ++ encL q.kl l ++ encL (lst q.kl l) m
    rw [encL_app q.kl l m, List.append_assoc]

/-- What Read comes to. -/
def BRes (bs : List Int) (l : List Ov) (n e : Int) : Prop :=
  (e = 0 ∧ chkL l = 0 ∧ encB l <+: bs ∧ n = (encB l).length) ∨ (e = 5 ∧ l = [] ∧ n = 0 ∧ ∀ m, chkL m = 0 → ¬ encB m <+: bs)

theorem shapes {l : List Ov} (h : chkL l = 0) : ∀ o ∈ l, o.shape := fun o ho => Ov.shape_of ((chkL_zero h).2.2 o ho)

theorem bres_one {bs : List Int} {l m : List Ov} {n i e f : Int} (h : BRes bs l n e) (g : BRes bs m i f) : l = m ∧ n = i ∧ e = f := by
  rcases h with ⟨rfl, h1, h2, rfl⟩ | ⟨rfl, rfl, rfl, h⟩ <;> rcases g with ⟨rfl, g1, g2, rfl⟩ | ⟨rfl, rfl, rfl, g⟩
  · obtain rfl := encB_free h2 g2 (shapes h1) (shapes g1)
    exact ⟨rfl, rfl, rfl⟩
  · exact absurd h2 (g _ h1)
  · exact absurd g2 (h _ g1)
  · exact ⟨rfl, rfl, rfl⟩

theorem bres_good {bs : List Int} {l m : List Ov} {i f : Int} (hc : chkL l = 0) (h : encB l <+: bs) (g : BRes bs m i f) : m = l ∧ i = (encB l).length ∧ f = 0 := by
  obtain ⟨rfl, rfl, rfl⟩ := bres_one (.inl ⟨rfl, hc, h, rfl⟩ : BRes bs l _ 0) g
  exact ⟨rfl, rfl, rfl⟩

theorem bres_e {bs : List Int} {l : List Ov} {n e : Int} (h : BRes bs l n e) : e = 0 ∨ e = 5 := by
  rcases h with ⟨h, _⟩ | ⟨h, _⟩
  · exact .inl h
  · exact .inr h

/-- What a reader's number does. -/
def SS (bs : List Int) (most a : Nat) (bad : Bool) (u a' : Nat) (bad' : Bool) : Prop :=
  (bad = true ∧ bad' = true ∧ u = 0 ∧ a' = a) ∨ (bad = false ∧ bad' = true ∧ u = 0 ∧ a' = a ∧ ∀ x : Nat, x ≤ most → ¬ enc x <+: bs.drop a) ∨ (bad = false ∧ bad' = false ∧ u ≤ most ∧ enc u <+: bs.drop a ∧ a' = a + sz u)

/-- What a reader's bytes do. -/
def BS (bs : List Int) (n a : Nat) (bad : Bool) (zs : List Int) (a' : Nat) (bad' : Bool) : Prop :=
  ((bad = true ∨ bs.length - a < n) ∧ bad' = true ∧ zs = [] ∧ a' = a) ∨ (bad = false ∧ n ≤ bs.length - a ∧ bad' = false ∧ zs = (bs.drop a).take n ∧ a' = a + n)

theorem ss_le {bs : List Int} {most a u a' : Nat} {bad bad' : Bool} (h : SS bs most a bad u a' bad') : u ≤ most := by
  rcases h with ⟨_, _, h, _⟩ | ⟨_, _, h, _⟩ | ⟨_, _, h, _⟩ <;> omega

theorem bs_le {bs zs : List Int} {n a a' : Nat} {bad bad' : Bool} (h : BS bs n a bad zs a' bad') : zs.length ≤ n := by
  rcases h with ⟨_, _, h, _⟩ | ⟨_, _, _, h, _⟩
  · simp [h]
  · rw [h, List.length_take]; omega

theorem ss_bad {bs : List Int} {most a u a' : Nat} {bad bad' : Bool} (h : SS bs most a bad u a' bad') (hb : bad = true) : bad' = true := by
  rcases h with ⟨_, h, _⟩ | ⟨_, h, _⟩ | ⟨h, _⟩
  · exact h
  · exact h
  · rw [hb] at h; simp at h

theorem bs_bad {bs zs : List Int} {n a a' : Nat} {bad bad' : Bool} (h : BS bs n a bad zs a' bad') (hb : bad = true) : bad' = true := by
  rcases h with ⟨_, h, _⟩ | ⟨h, _⟩
  · exact h
  · rw [hb] at h; simp at h

/-- No op that may be stands there. -/
def No (bs : List Int) (a : Nat) (ah : List UInt8) : Prop := ∀ q : Ov, q.c = 0 → ¬ encO ah q <+: bs.drop a

theorem encO_parts {ah : List UInt8} {q : Ov} {bs : List Int} {a : Nat} (h : encO ah q <+: bs.drop a) :
    enc q.bit <+: bs.drop a ∧ enc (com ah q.kl) <+: bs.drop (a + sz q.bit) ∧ enc (q.kl.length - com ah q.kl) <+: bs.drop (a + sz q.bit + sz (com ah q.kl)) ∧
    ints (q.kl.drop (com ah q.kl)) <+: bs.drop (a + sz q.bit + sz (com ah q.kl) + sz (q.kl.length - com ah q.kl)) := by
  unfold encO pre4 at h
  rw [pre_app, pre_app, pre_app, pre_app] at h
  obtain ⟨⟨h1, h2, h3, h4⟩, _⟩ := h
  simp only [List.drop_drop, List.length_drop] at h2 h3 h4
  exact ⟨h1, h2, h3, h4⟩

/-- What the four steps of a key come to. -/
def PS (bs : List Int) (a : Nat) (bad : Bool) (ah : List UInt8) (kind sh n : Nat) (zs : List Int) (a4 : Nat) (bad4 : Bool) : Prop :=
  (bad4 = false ∧ bad = false ∧ kind ≤ 1 ∧ sh ≤ ah.length ∧ zs.length = n ∧ pre4 kind sh (byts zs) <+: bs.drop a ∧ a4 = a + (pre4 kind sh (byts zs)).length) ∨ (bad4 = true ∧ (bad = false → No bs a ah))

theorem bit_le (q : Ov) : q.bit ≤ 1 := by unfold Ov.bit; split <;> omega

theorem pstep {bs : List Int} (hb : ∀ z ∈ bs, 0 ≤ z ∧ z < 256) {a a1 a2 a3 a4 kind sh n M : Nat} {bad bad1 bad2 bad3 bad4 : Bool} {ah : List UInt8} {zs : List Int}
    (h1 : SS bs 1 a bad kind a1 bad1) (h2 : SS bs ah.length a1 bad1 sh a2 bad2) (h3 : SS bs M a2 bad2 n a3 bad3) (h4 : BS bs n a3 bad3 zs a4 bad4) (hM : M = 16 ∨ M = 16 - sh) : PS bs a bad ah kind sh n zs a4 bad4 := by
  rcases h1 with ⟨b1, c1, _⟩ | ⟨b1, c1, _, _, h1⟩ | ⟨b1, c1, u1, p1, e1⟩
  · exact .inr ⟨bs_bad h4 (ss_bad h3 (ss_bad h2 c1)), fun h => by rw [b1] at h; simp at h⟩
  · refine .inr ⟨bs_bad h4 (ss_bad h3 (ss_bad h2 c1)), fun _ q _ hp => h1 q.bit (bit_le q) (encO_parts hp).1⟩
  · rcases h2 with ⟨b2, c2, _⟩ | ⟨b2, c2, _, _, h2⟩ | ⟨b2, c2, u2, p2, e2⟩
    · rw [c1] at b2; simp at b2
    · refine .inr ⟨bs_bad h4 (ss_bad h3 c2), fun _ q _ hp => ?_⟩
      obtain ⟨g1, g2, _⟩ := encO_parts hp
      have := pre_one _ _ _ p1 g1
      rw [← this, ← e1] at g2
      exact h2 _ (com_le ah q.kl).1 g2
    · rcases h3 with ⟨b3, c3, _⟩ | ⟨b3, c3, _, _, h3⟩ | ⟨b3, c3, u3, p3, e3⟩
      · rw [c2] at b3; simp at b3
      · refine .inr ⟨bs_bad h4 c3, fun _ q hq hp => ?_⟩
        obtain ⟨g1, g2, g3, _⟩ := encO_parts hp
        have w1 := pre_one _ _ _ p1 g1
        rw [← w1, ← e1] at g2 g3
        have w2 := pre_one _ _ _ p2 g2
        rw [← w2, ← e2] at g3
        have := (chk_ok' hq).2.1
        exact h3 _ (by omega) g3
      · rcases h4 with ⟨b4, c4, _⟩ | ⟨b4, c4, d4, e4, f4⟩
        · refine .inr ⟨c4, fun _ q hq hp => ?_⟩
          obtain ⟨g1, g2, g3, g4⟩ := encO_parts hp
          have w1 := pre_one _ _ _ p1 g1
          rw [← w1, ← e1] at g2 g3 g4
          have w2 := pre_one _ _ _ p2 g2
          rw [← w2, ← e2] at g3 g4
          have w3 := pre_one _ _ _ p3 g3
          rw [← w3, ← e3] at g4
          have hl := g4.length_le
          rw [ints_len, List.length_drop, List.length_drop] at hl
          rcases b4 with b4 | b4
          · rw [c3] at b4; simp at b4
          · omega
        · have hl : zs.length = n := by rw [e4, List.length_take, List.length_drop]; omega
          have hbz : ints (byts zs) = zs := ints_byts fun z hz => hb z (by rw [e4] at hz; exact List.mem_of_mem_drop (List.mem_of_mem_take hz))
          refine .inl ⟨d4, b1, u1, u2, hl, ?_, ?_⟩
          · unfold pre4
            rw [pre_app, pre_app, pre_app, hbz, byts_len, hl]
            simp only [List.drop_drop]
            refine ⟨p1, ?_, ?_, ?_⟩
            · rw [e1] at p2; exact p2
            · rw [e2, e1] at p3; exact p3
            · rw [e3, e2, e1] at e4
              rw [e4]
              exact List.take_prefix _ _
          · unfold pre4
            simp only [List.length_append, ints_len, byts_len, hl]
            unfold sz at e1 e2 e3
            omega

/-- What an op of a reader comes to. -/
def OS (bs : List Int) (a : Nat) (bad : Bool) (ah : List UInt8) (o : Ov) (a' : Nat) (bad' : Bool) : Prop :=
  (bad = false ∧ bad' = false ∧ encO ah o <+: bs.drop a ∧ a' = a + (encO ah o).length ∧ o.shape) ∨ (bad' = true ∧ (bad = false → No bs a ah))

theorem os_bad {bs : List Int} {a a' : Nat} {bad bad' : Bool} {ah : List UInt8} {o : Ov} (h : bad' = true) (k : bad = false → No bs a ah) : OS bs a bad ah o a' bad' := .inr ⟨h, k⟩

theorem rest_of {sh : Nat} {ah rest : List UInt8} (h : sh ≤ ah.length) : (ah.take sh ++ rest).drop sh = rest := by
  have : (ah.take sh).length = sh := by rw [List.length_take]; omega
  rw [List.drop_append_of_le_length (by omega), List.drop_of_length_le (by omega), List.nil_append]

theorem os_com {bs : List Int} {a a4 kind sh n : Nat} {bad : Bool} {ah : List UInt8} {zs : List Int} (h : PS bs a bad ah kind sh n zs a4 false) (hc : com ah (ah.take sh ++ byts zs) ≠ sh) : No bs a ah := by
  rcases h with ⟨_, _, _, _, _, h, _⟩ | ⟨h, _⟩
  · intro q hq hp
    unfold encO at hp
    rw [pre_app] at hp
    obtain ⟨_, e2, e3⟩ := pre4_free h hp.1
    apply hc
    rw [e3, e2, key_of]
  · simp at h

theorem os_del {bs : List Int} {a a4 sh n : Nat} {bad : Bool} {ah : List UInt8} {zs : List Int} {o : Ov} (h : PS bs a bad ah 0 sh n zs a4 false) (hp : o.p = false) (hk : o.kl = ah.take sh ++ byts zs) (hv : o.vl = []) (hc : com ah o.kl = sh) : OS bs a bad ah o a4 false := by
  rcases h with ⟨_, h1, _, h2, h3, h4, h5⟩ | ⟨h, _⟩
  · have e : encO ah o = pre4 0 sh (byts zs) := by
      unfold encO Ov.bit
      rw [hp, hc, hk, rest_of h2]
      simp
    exact .inl ⟨h1, rfl, by rw [e]; exact h4, by rw [e]; exact h5, .inr hv⟩
  · simp at h

theorem os_put {bs : List Int} (hb : ∀ z ∈ bs, 0 ≤ z ∧ z < 256) {a a4 a5 a6 sh n m : Nat} {bad bad5 bad6 : Bool} {ah : List UInt8} {zs ys : List Int} {o : Ov} (h : PS bs a bad ah 1 sh n zs a4 false) (hp : o.p = true) (hk : o.kl = ah.take sh ++ byts zs) (hv : o.vl = byts ys) (hc : com ah o.kl = sh)
    (g1 : SS bs 32 a4 false m a5 bad5) (g2 : BS bs m a5 bad5 ys a6 bad6) : OS bs a bad ah o a6 bad6 := by
  rcases h with ⟨_, h1, _, h2, h3, h4, h5⟩ | ⟨h, _⟩
  · have e : encO ah o = pre4 1 sh (byts zs) ++ cnt (byts ys) := by
      unfold encO Ov.bit
      rw [hp, hc, hk, rest_of h2, hv]
      simp
    have none : (∀ t : List UInt8, t.length ≤ 32 → ¬ cnt t <+: bs.drop a4) → No bs a ah := by
      intro hn q hq hpq
      have hpq0 := hpq
      unfold encO at hpq
      rw [pre_app] at hpq
      obtain ⟨e1, e2, e3⟩ := pre4_free h4 hpq.1
      have hpp : q.p = true := by
        unfold Ov.bit at e1
        cases hh : q.p
        · rw [hh] at e1; simp at e1
        · rfl
      have hq2 := hpq.2
      rw [hpp, List.drop_drop, ← e1, ← e3, ← e2] at hq2
      rw [if_pos rfl, ← h5] at hq2
      exact hn q.vl (chk_ok' hq).2.2.1 hq2
    rcases g1 with ⟨b1, _⟩ | ⟨b1, c1, _, _, g1⟩ | ⟨b1, c1, u1, p1, e1⟩
    · simp at b1
    · refine .inr ⟨bs_bad g2 c1, fun _ => none fun t ht hp => ?_⟩
      unfold cnt at hp
      rw [pre_app] at hp
      exact g1 _ ht hp.1
    · rcases g2 with ⟨b2, c2, _⟩ | ⟨b2, c2, d2, e2, f2⟩
      · refine .inr ⟨c2, fun _ => none fun t ht hp => ?_⟩
        unfold cnt at hp
        rw [pre_app, List.drop_drop] at hp
        have w := pre_one _ _ _ p1 hp.1
        have hl := hp.2.length_le
        rw [ints_len, List.length_drop] at hl
        rcases b2 with b2 | b2
        · rw [c1] at b2; simp at b2
        · unfold sz at e1
          rw [w] at e1 b2
          omega
      · have hl : ys.length = m := by rw [e2, List.length_take, List.length_drop]; omega
        have hby : ints (byts ys) = ys := ints_byts fun z hz => hb z (by rw [e2] at hz; exact List.mem_of_mem_drop (List.mem_of_mem_take hz))
        refine .inl ⟨h1, d2, ?_, ?_, .inl hp⟩
        · rw [e, pre_app, List.drop_drop, ← h5]
          refine ⟨h4, ?_⟩
          unfold cnt
          rw [pre_app, List.drop_drop, byts_len, hl, hby]
          refine ⟨p1, ?_⟩
          unfold sz at e1
          rw [← e1, e2]
          exact List.take_prefix _ _
        · rw [e, List.length_append, ← Nat.add_assoc, ← h5, f2, e1, cnt_len, byts_len, hl]
          omega
  · simp at h

/-- What the program's reader does of a key. -/
def KS (bs : List Int) (a1 : Nat) (bad1 : Bool) (ah key : List UInt8) (a' : Nat) (bad' : Bool) : Prop :=
  ∃ sh n zs a2 bad2 a3 bad3 bad4, SS bs ah.length a1 bad1 sh a2 bad2 ∧ SS bs (16 - sh) a2 bad2 n a3 bad3 ∧ BS bs n a3 bad3 zs a' bad4 ∧ key = ah.take sh ++ byts zs ∧ bad' = (bad4 || decide (com ah key ≠ sh))

theorem ks_bad {bs : List Int} {a1 a' : Nat} {bad1 bad' : Bool} {ah key : List UInt8} (h : KS bs a1 bad1 ah key a' bad') (hb : bad1 = true) : bad' = true := by
  obtain ⟨sh, n, zs, a2, bad2, a3, bad3, bad4, h2, h3, h4, _, e⟩ := h
  rw [e, bs_bad h4 (ss_bad h3 (ss_bad h2 hb))]
  rfl

/-- What the key's steps come to. -/
theorem ks_os {bs : List Int} (hb : ∀ z ∈ bs, 0 ≤ z ∧ z < 256) {a a1 a' kind : Nat} {bad bad1 bad' : Bool} {ah key : List UInt8} (h1 : SS bs 1 a bad kind a1 bad1) (h : KS bs a1 bad1 ah key a' bad') :
    (bad' = true ∧ (bad = false → No bs a ah)) ∨ (bad' = false ∧ ∃ sh n zs, PS bs a bad ah kind sh n zs a' false ∧ key = ah.take sh ++ byts zs ∧ com ah key = sh) := by
  obtain ⟨sh, n, zs, a2, bad2, a3, bad3, bad4, h2, h3, h4, hk, e⟩ := h
  have hp := pstep hb h1 h2 h3 h4 (.inr rfl)
  cases bad4
  · by_cases hc : com ah key = sh
    · exact .inr ⟨by rw [e]; simpa using hc, sh, n, zs, hp, hk, hc⟩
    · refine .inl ⟨by rw [e]; simpa using hc, fun _ => os_com hp (by rw [← hk]; exact hc)⟩
  · rcases hp with ⟨h, _⟩ | ⟨_, h⟩
    · simp at h
    · exact .inl ⟨by rw [e]; rfl, h⟩

theorem ks_del {bs : List Int} (hb : ∀ z ∈ bs, 0 ≤ z ∧ z < 256) {a a1 a' : Nat} {bad bad1 bad' : Bool} {ah key : List UInt8} {o : Ov} (h1 : SS bs 1 a bad 0 a1 bad1) (h : KS bs a1 bad1 ah key a' bad') (hp : o.p = false) (hk : o.kl = key) (hv : o.vl = []) : OS bs a bad ah o a' bad' := by
  rcases ks_os hb h1 h with ⟨g1, g2⟩ | ⟨g1, sh, n, zs, g2, g3, g4⟩
  · exact .inr ⟨g1, g2⟩
  · rw [g1]
    exact os_del g2 hp (hk.trans g3) hv (by rw [hk]; exact g4)

theorem ks_put {bs : List Int} (hb : ∀ z ∈ bs, 0 ≤ z ∧ z < 256) {a a1 a4 a5 a6 m : Nat} {bad bad1 bad4 bad5 bad6 : Bool} {ah key : List UInt8} {ys : List Int} {o : Ov} (h1 : SS bs 1 a bad 1 a1 bad1) (h : KS bs a1 bad1 ah key a4 bad4) (hp : o.p = true) (hk : o.kl = key) (hv : o.vl = byts ys)
    (g1 : SS bs 32 a4 bad4 m a5 bad5) (g2 : BS bs m a5 bad5 ys a6 bad6) : OS bs a bad ah o a6 bad6 := by
  rcases ks_os hb h1 h with ⟨k1, k2⟩ | ⟨k1, sh, n, zs, k2, k3, k4⟩
  · exact .inr ⟨bs_bad g2 (ss_bad g1 k1), k2⟩
  · rw [k1] at g1
    exact os_put hb k2 hp (hk.trans k3) hv (by rw [hk]; exact k4) g1 g2

theorem ks_len {bs : List Int} {a1 a' : Nat} {bad1 bad' : Bool} {ah key : List UInt8} (h : KS bs a1 bad1 ah key a' bad') (hah : ah.length ≤ 16) : key.length ≤ 16 := by
  obtain ⟨sh, n, zs, a2, bad2, a3, bad3, bad4, h2, h3, h4, hk, _⟩ := h
  have e1 := ss_le h2
  have e2 := ss_le h3
  have e3 := bs_le h4
  rw [hk, List.length_append, byts_len, List.length_take]
  omega

/-- No batch that may be stands there. -/
def NB (bs : List Int) : Prop := ∀ m : List Ov, chkL m = 0 → ¬ encB m <+: bs

/-- What a reader has come to, so many ops being told. -/
def LS (bs : List Int) (c : Nat) (l : List Ov) (a : Nat) (bad : Bool) (ah : List UInt8) : Prop :=
  (bad = false ∧ c ≤ 8 ∧ enc c <+: bs ∧ encL [] l <+: bs.drop (sz c) ∧ a = sz c + (encL [] l).length ∧ ah = lst [] l ∧ ∀ o ∈ l, o.shape) ∨ (bad = true ∧ NB bs)

theorem ls_start {bs : List Int} {c a : Nat} {bad : Bool} (h : SS bs 8 0 false c a bad) : LS bs c [] a bad [] := by
  rcases h with ⟨h, _⟩ | ⟨_, h1, _, _, h⟩ | ⟨_, h1, h2, h3, h4⟩
  · simp at h
  · refine .inr ⟨h1, fun m hm hp => ?_⟩
    unfold encB at hp
    rw [pre_app] at hp
    exact h _ (chkL_zero hm).2.1 (by simpa using hp.1)
  · refine .inl ⟨h1, h2, by simpa using h3, by simp [encL], by simp [encL, h4], rfl, by simp⟩

theorem ls_step {bs : List Int} {c a a' : Nat} {bad bad' : Bool} {l : List Ov} {ah : List UInt8} {o : Ov} (h : LS bs c l a bad ah) (hl : l.length < c) (g : OS bs a bad ah o a' bad') : LS bs c (l ++ [o]) a' bad' o.kl := by
  rcases h with ⟨rfl, h1, h2, h3, h4, h5, h6⟩ | ⟨rfl, h⟩
  · rcases g with ⟨_, g1, g2, g3, g4⟩ | ⟨g1, g2⟩
    · refine .inl ⟨g1, h1, h2, ?_, ?_, (lst_snoc _ _ _).symm, ?_⟩
      · rw [encL_snoc, pre_app, List.drop_drop, ← h4, ← h5]
        exact ⟨h3, g2⟩
      · rw [encL_snoc, List.length_append, ← h5, g3, h4, Nat.add_assoc]
      · intro x hx
        rcases List.mem_append.1 hx with hx | hx
        · exact h6 x hx
        · rw [List.mem_singleton.1 hx]; exact g4
    · refine .inr ⟨g1, fun m hm hp => ?_⟩
      unfold encB at hp
      rw [pre_app] at hp
      have e := pre_one _ _ _ h2 hp.1
      have hp2 := hp.2
      have hlm : l.length < m.length := by omega
      have hsplit : m = m.take l.length ++ m[l.length] :: m.drop (l.length + 1) := by
        rw [List.getElem_cons_drop, List.take_append_drop]
      rw [hsplit, encL_app, pre_app] at hp2
      have hmem : ∀ x ∈ m.take l.length, x.shape := fun x hx => shapes hm x (List.mem_of_mem_take hx)
      have hsz : (enc m.length).length = sz c := by rw [← e]; rfl
      rw [← hsplit, hsz] at hp2
      have e2 := encL_free [] l (m.take l.length) _ (by rw [List.length_take]; omega) h6 hmem h3 hp2.1
      have hp3 := hp2.2
      rw [← e2, List.drop_drop, ← h4, ← h5] at hp3
      show False
      unfold encL at hp3
      rw [pre_app] at hp3
      exact g2 rfl _ ((chkL_zero hm).2.2 _ (List.getElem_mem _)) hp3.1
  · rcases g with ⟨g, _⟩ | ⟨g1, _⟩
    · simp at g
    · exact .inr ⟨g1, h⟩

theorem ls_end {bs : List Int} {c a : Nat} {l : List Ov} {ah : List UInt8} (h : LS bs c l a false ah) (hl : l.length = c) (hc : chkL l = 0) : BRes bs l a 0 := by
  rcases h with ⟨_, h1, h2, h3, h4, _⟩ | ⟨h, _⟩
  · have e : encB l = enc c ++ encL [] l := by unfold encB; rw [hl]
    refine .inl ⟨rfl, hc, ?_, ?_⟩
    · rw [e, pre_app]; exact ⟨h2, h3⟩
    · rw [e, List.length_append, h4]; rfl
  · simp at h

theorem ls_bad {bs : List Int} {c a : Nat} {l : List Ov} {ah : List UInt8} {bad : Bool} (h : LS bs c l a bad ah) (hl : bad = false → l.length = c) (hc : bad = true ∨ chkL l ≠ 0) : BRes bs [] 0 5 := by
  refine .inr ⟨rfl, rfl, rfl, ?_⟩
  rcases h with ⟨hb, h1, h2, h3, h4, _, h6⟩ | ⟨_, h⟩
  · rcases hc with hc | hc
    · rw [hc] at hb; simp at hb
    · intro m hm hp
      have e : encB l <+: bs := by
        unfold encB
        rw [hl hb, pre_app]
        exact ⟨h2, h3⟩
      have := encB_free e hp h6 (shapes hm)
      rw [this] at hc
      exact hc hm
  · exact h

/-- No first part of a batch's bytes is a batch. -/
theorem bres_cut {l m : List Ov} {n e : Int} {j : Nat} (hc : chkL l = 0) (hj : j < (encB l).length) (h : BRes ((encB l).take j) m n e) : e = 5 ∧ m = [] ∧ n = 0 := by
  rcases h with ⟨_, h1, h2, _⟩ | ⟨h1, h2, h3, _⟩
  · have := encB_free (h2.trans (List.take_prefix _ _)) (List.prefix_refl (encB l)) (shapes h1) (shapes hc)
    have hl := h2.length_le
    rw [this, List.length_take] at hl
    omega
  · exact ⟨h1, h2, h3⟩

/-- The ops' bytes, one behind the other. -/
def sum : List Ov → Nat
  | [] => 0
  | o :: r => (opEnc o.p o.kl o.vl).length + sum r

theorem encO_le (ah : List UInt8) {o : Ov} (h : o.c = 0) : (encO ah o).length ≤ (opEnc o.p o.kl o.vl).length + 1 := by
  have hh := chk_ok' h
  have hc := com_le ah o.kl
  have hb := bit_le o
  unfold encO pre4 opEnc
  have e1 : (enc o.bit).length = 1 := by have := sz_lo (x := o.bit) (by omega); exact this
  have e2 : (enc (com ah o.kl)).length = 1 := by have := sz_lo (x := com ah o.kl) (by omega); exact this
  have e3 : (enc (o.kl.length - com ah o.kl)).length = 1 := by have := sz_lo (x := o.kl.length - com ah o.kl) (by omega); exact this
  have e4 := cnt_len o.kl
  rw [sz_lo (by omega)] at e4
  simp only [List.length_append, List.length_cons, List.length_drop, e1, e2, e3, e4, ints_len]
  split <;> simp <;> omega

theorem encL_le : ∀ (ah : List UInt8) (l : List Ov), (∀ o ∈ l, o.c = 0) → (encL ah l).length ≤ sum l + l.length
  | _, [], _ => by simp [encL, sum]
  | ah, o :: l, h => by
    have h1 := encO_le ah (h o (by simp))
    have h2 := encL_le o.kl l fun x hx => h x (by simp [hx])
    simp only [encL, sum, List.length_append, List.length_cons]
    omega

theorem encB_le {l : List Ov} (h : chkL l = 0) : (encB l).length ≤ 9 + sum l := by
  obtain ⟨h1, h2, h3⟩ := chkL_zero h
  have := encL_le [] l h3
  have e : (enc l.length).length = 1 := by have := sz_lo (x := l.length) (by omega); exact this
  unfold encB
  rw [List.length_append, e]
  omega

theorem sum_le : ∀ {l : List Ov}, (∀ o ∈ l, o.c = 0) → sum l ≤ 51 * l.length
  | [], _ => by simp [sum]
  | o :: l, h => by
    have h1 := opEnc_le (h o (by simp))
    have h2 := sum_le (l := l) fun x hx => h x (by simp [hx])
    simp only [sum, List.length_cons]
    unfold Ov.kl Ov.vl at *
    omega

theorem encB_small {l : List Ov} (h : chkL l = 0) : (encB l).length ≤ 420 := by
  have := encB_le h
  obtain ⟨h1, h2, h3⟩ := chkL_zero h
  have := sum_le h3
  omega

theorem encB_pos (l : List Ov) : 1 ≤ (encB l).length := by
  unfold encB
  have := sz_pos l.length
  unfold sz at this
  rw [List.length_append]
  omega

theorem sum_snoc : ∀ (l : List Ov) (o : Ov), sum (l ++ [o]) = sum l + (opEnc o.p o.kl o.vl).length
  | [], o => by simp [sum]
  | q :: l, o => by simp only [List.cons_append, sum, sum_snoc l o]; omega

/-- Whether two ops are one. -/
def eqO (o q : Ov) : Bool := (o.p == q.p) && (decide (o.kl = q.kl) && decide (o.vl = q.vl))

theorem eqO_iff {o q : Ov} : eqO o q = true ↔ o = q := by
  unfold eqO
  constructor
  · intro h
    simp at h
    exact Ov.eq h.1 h.2.1 h.2.2
  · rintro rfl
    simp

def sameL : List Ov → List Ov → Bool
  | [], [] => true
  | o :: l, q :: m => eqO o q && sameL l m
  | _, _ => false

theorem sameL_iff : ∀ {l m : List Ov}, sameL l m = true ↔ l = m
  | [], [] => by simp [sameL]
  | [], _ :: _ => by simp [sameL]
  | _ :: _, [] => by simp [sameL]
  | o :: l, q :: m => by simp [sameL, eqO_iff, sameL_iff (l := l) (m := m)]

theorem sameL_self (l : List Ov) : sameL l l = true := sameL_iff.2 rfl
theorem sameL_no {l m : List Ov} (h : l ≠ m) : sameL l m = false := by
  cases hs : sameL l m
  · rfl
  · exact absurd (sameL_iff.1 hs) h

end Go.Proofs.YtgcdibglkbfjdaaGreatDoor.Bm
