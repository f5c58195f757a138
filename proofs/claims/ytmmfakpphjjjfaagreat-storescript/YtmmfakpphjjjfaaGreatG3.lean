/- Texts of one layer, one behind the other. -/
import Derived.Test.YtmmfakpphjjjfaaGreatG2
/- Disks, by mathematics. No program. -/
namespace Go.Proofs.YtmmfakpphjjjfaaGreat.Dm
set_option linter.unusedVariables false

structure Rw where
 file : Nat
 cut : Bool
 to : Nat
 bytes : List Int

structure Ds where
 sure : Nat → List Int
 wait : List Rw
 on : Bool
 has : Bool
 left : Nat
 count : Nat

def upd (s : Nat → List Int) (f : Nat) (x : List Int) : Nat → List Int := fun j => if j = f then x else s j

theorem upd_same (s : Nat → List Int) (f : Nat) (x : List Int) : upd s f x f = x := by simp [upd]
theorem upd_other {s : Nat → List Int} {f j : Nat} {x : List Int} (h : j ≠ f) : upd s f x j = s j := by simp [upd, h]

def wth (b : List Int) (r : Rw) : List Int := if r.cut then b.take r.to else b ++ r.bytes

def one (s : Nat → List Int) (r : Rw) : Nat → List Int := upd s r.file (wth (s r.file) r)

def dof (s : Nat → List Int) : List Rw → Nat → List Int
 | [] => s
 | r :: l => dof (one s r) l

theorem dof_app : ∀ (l m : List Rw) (s : Nat → List Int), dof s (l ++ m) = dof (dof s l) m
 | [], _, _ => rfl
 | r :: l, m, s => dof_app l m (one s r)

theorem dof_snoc (l : List Rw) (r : Rw) (s : Nat → List Int) : dof s (l ++ [r]) = one (dof s l) r := dof_app l [r] s

def hold (f : Nat) (b : List Int) : List Rw → List Int
 | [] => b
 | r :: l => hold f (if r.file = f then wth b r else b) l

theorem hold_dof : ∀ (l : List Rw) (s : Nat → List Int) (f : Nat), hold f (s f) l = dof s l f
 | [], _, _ => rfl
 | r :: l, s, f => by
  rw [hold, dof, ← hold_dof l (one s r) f]
  congr 1
  by_cases h : r.file = f
  ·subst h; rw [if_pos rfl, one, upd_same]
  ·rw [if_neg h, one, upd_other (Ne.symm h)]

theorem hold_app : ∀ (l m : List Rw) (b : List Int) (f : Nat), hold f b (l ++ m) = hold f (hold f b l) m
 | [], _, _, _ => rfl
 | r :: l, m, b, f => hold_app l m _ f

theorem hold_snoc (l : List Rw) (r : Rw) (b : List Int) (f : Nat) : hold f b (l ++ [r]) = if r.file = f then wth (hold f b l) r else hold f b l := hold_app l [r] b f

def fits (s : Nat → List Int) (r : Rw) : Prop := r.file < 4 ∧ (r.cut = true → r.to ≤ (s r.file).length) ∧ (r.cut = false → 1 ≤ r.bytes.length ∧ r.bytes.length ≤ 64)

def valid (s : Nat → List Int) : List Rw → Prop
 | [] => True
 | r :: l => fits s r ∧ valid (one s r) l

theorem valid_app : ∀ (l m : List Rw) (s : Nat → List Int), valid s (l ++ m) ↔ valid s l ∧ valid (dof s l) m
 | [], _, _ => by simp [valid, dof]
 | r :: l, m, s => by simp [valid, dof, valid_app l m, and_assoc]

theorem valid_at {l : List Rw} {s : Nat → List Int} (h : valid s l) {k : Nat} {r : Rw} (hk : l[k]? = some r) : fits (dof s (l.take k)) r := by
 obtain ⟨hlt, rfl⟩ := List.getElem?_eq_some_iff.1 hk
 rw [← List.take_append_drop k l, valid_app, List.drop_eq_getElem_cons hlt] at h
 exact h.2.1

def bulk : List Rw → Nat
 | [] => 0
 | r :: l => r.bytes.length + bulk l

theorem bulk_app : ∀ (l m : List Rw), bulk (l ++ m) = bulk l + bulk m
 | [], _ => by simp [bulk]
 | r :: l, m => by simp [bulk, bulk_app l m]; omega

theorem wth_len (b : List Int) (r : Rw) : (wth b r).length ≤ b.length + r.bytes.length := by
 unfold wth
 split
 ·rw [List.length_take]; omega
 ·simp

theorem hold_len : ∀ (l : List Rw) (b : List Int) (f : Nat), (hold f b l).length ≤ b.length + bulk l
 | [], _, _ => by simp [hold, bulk]
 | r :: l, b, f => by
  have h1 := hold_len l (if r.file = f then wth b r else b) f
  have h2 := wth_len b r
  simp only [hold, bulk]
  split at h1 <;> simp_all <;> omega

def Sz (t u : Nat) (st : Ds) : Prop := (∀ f, (st.sure f).length + bulk st.wait ≤ t) ∧ st.wait.length ≤ u ∧ st.count ≤ u

def Ok (st : Ds) : Prop := valid st.sure st.wait

def off (st : Ds) : Bool := st.has && st.left == 0
def burn (st : Ds) : Ds := { st with left := if st.has then st.left - 1 else st.left, count := st.count + 1 }
def dark (st : Ds) : Ds := { st with on := false }
def push (st : Ds) (r : Rw) : Ds := { st with wait := st.wait ++ [r] }

def wrt (file : Nat) : Nat → Ds → List Int → Int × Ds
 | 0, st, _ => (0, st)
 | n + 1, st, bs => if bs = [] then (0, st) else if off st then (6, dark st) else wrt file n (push (burn st) ⟨file, false, 0, bs.take 64⟩) (bs.drop 64)

def inF (file : Int) : Bool := decide (0 ≤ file) && decide (file < 4)

def write (st : Ds) (file : Int) (bs : List Int) : Int × Ds := if st.on = false then (6, st) else if inF file = false then (2, st) else wrt file.toNat bs.length st bs
def cutD (st : Ds) (file len : Int) : Int × Ds := if st.on = false then (6, st) else if inF file = false then (2, st) else if len < 0 ∨ (hold file.toNat (st.sure file.toNat) st.wait).length < len then (2, st) else if off st then (6, dark st) else (0, push (burn st) ⟨file.toNat, true, len.toNat, []⟩)
def flush (st : Ds) : Ds := { st with sure := dof st.sure st.wait, wait := [] }
def sync (st : Ds) : Int × Ds := if st.on = false then (6, st) else if off st then (6, dark st) else (0, flush (burn st))
def fuse (st : Ds) (n : Int) : Int × Ds := if st.on = false then (6, st) else if n < 0 then (2, st) else (0, { st with has := true, left := n.toNat })

def kept (st : Ds) (k t : Nat) : Nat → List Int :=
 match st.wait[k]? with
 | some r => if r.cut then dof st.sure (st.wait.take k) else one (dof st.sure (st.wait.take k)) ⟨r.file, false, 0, r.bytes.take (min t (r.bytes.length - 1))⟩
 | none => dof st.sure (st.wait.take k)

def new : Ds := ⟨fun _ => [], [], true, false, 0, 0⟩

end Go.Proofs.YtmmfakpphjjjfaaGreat.Dm

/- Runs on a disk, by mathematics: their frames in file 2, what Scan answers, what a Flush leaves, what a power cut leaves. No program. -/
namespace Go.Proofs.YtmmfakpphjjjfaaGreat
set_option linter.unusedVariables false
namespace Rl
open Dm
open Cm (Cv lastN)

def Good (nu : Int) : List Cv → Prop
 | [] => True
 | c :: r => Rn.chk c.e c.n c.l = 0 ∧ c.e - 1 = nu ∧ Good c.n r

theorem good_app : ∀ (l m : List Cv) (nu : Int), Good nu (l ++ m) ↔ Good nu l ∧ Good (lastN nu l) m
 | [], m, _ => by simp [Good, lastN]
 | c :: r, m, nu => by
  simp only [List.cons_append, Good, lastN, good_app r m]
  constructor
  ·rintro ⟨h1, h2, h4, h5⟩; exact ⟨⟨h1, h2, h4⟩, h5⟩
  ·rintro ⟨⟨h1, h2, h4⟩, h5⟩; exact ⟨h1, h2, h4, h5⟩

theorem last_snoc : ∀ (l : List Cv) (c : Cv) (nu : Int), lastN nu (l ++ [c]) = c.n
 | [], _, _ => rfl
 | d :: r, c, nu => by simpa [lastN] using last_snoc r c d.n

theorem good_snoc {l : List Cv} {c : Cv} {nu : Int} (h : Good nu l) : Good nu (l ++ [c]) ↔ Rn.chk c.e c.n c.l = 0 ∧ c.e - 1 = lastN nu l := by
 rw [good_app]
 simp [Good, h]

theorem good_all : ∀ {l : List Cv} {nu : Int}, Good nu l → ∀ c ∈ l, Rn.chk c.e c.n c.l = 0
 | [], _, _, c, hc => by simp at hc
 | d :: r, nu, h, c, hc => by
  rcases List.mem_cons.1 hc with rfl | hc
  ·exact h.1
  ·exact good_all h.2.2 c hc

theorem good_last : ∀ {l : List Cv} {nu : Int}, Good nu l → nu + l.length ≤ lastN nu l ∧ (l = [] ∨ lastN nu l ≤ 1048576)
 | [], _, _ => by simp [lastN]
 | c :: r, nu, ⟨h1, h2, h3⟩ => by
  obtain ⟨_, g1, g2, g3, _⟩ := Rn.chk_zero h1
  obtain ⟨k1, k2⟩ := good_last h3
  refine ⟨?_, .inr ?_⟩
  ·simp only [lastN, List.length_cons]
   omega
  ·rcases k2 with rfl | k2
   ·exact g3
   ·exact k2

theorem good_len {l : List Cv} (h : Good 0 l) : l.length ≤ 1048576 ∧ 0 ≤ lastN 0 l ∧ lastN 0 l ≤ 1048576 := by
 obtain ⟨h1, h2⟩ := good_last h
 rcases h2 with rfl | h2
 ·simp [lastN]
 ·omega

def rec (c : Cv) : List Int := Rn.encR c.e c.n c.l
def fr (c : Cv) : List Int := Fm.frm (rec c)
def lgb (l : List Cv) : List Int := Fm.cat (l.map rec)

theorem lgb_cons (c : Cv) (l : List Cv) : lgb (c :: l) = fr c ++ lgb l := rfl
theorem lgb_app (l m : List Cv) : lgb (l ++ m) = lgb l ++ lgb m := by unfold lgb; rw [List.map_append, Fm.cat_app]
theorem lgb_one (c : Cv) : lgb [c] = fr c := by unfold lgb fr; exact Fm.cat_one _
theorem fr_pos (c : Cv) : 1 ≤ (fr c).length := Fm.frm_pos _

theorem rec_small {c : Cv} (h : Rn.chk c.e c.n c.l = 0) : (rec c).length ≤ 52233 := Rn.encR_small h
theorem fr_small {c : Cv} (h : Rn.chk c.e c.n c.l = 0) : (fr c).length ≤ 52236 := by
 have := rec_small h
 unfold fr
 rw [Fm.frm_len]
 have := Fm.sz3 (n := (rec c).length) (by omega)
 omega

theorem fr_one {c d : Cv} {bs : List Int} (hc : Rn.chk c.e c.n c.l = 0) (hd : Rn.chk d.e d.n d.l = 0) (h : fr c <+: bs) (h' : fr d <+: bs) : c = d := by
 obtain ⟨e1, e2, e3⟩ := Rn.encR_one hd hc (bs := rec c) (Fm.frm_one h' h ▸ List.prefix_rfl) List.prefix_rfl
 cases c
 cases d
 simp only at e1 e2 e3
 rw [e1, e2, e3]

def Lg (nu : Int) (bs : List Int) (l : List Cv) : Prop :=
 Good nu l ∧ lgb l <+: bs ∧ ∀ c, Good (lastN nu l) [c] → ¬ fr c <+: bs.drop (lgb l).length

theorem good_cons {nu : Int} {c : Cv} {l : List Cv} : Good nu (c :: l) ↔ Good nu [c] ∧ Good c.n l := by
 have := good_app [c] l nu
 rw [List.singleton_append] at this
 exact this

theorem good_chk {nu : Int} {c : Cv} {l : List Cv} (h : Good nu (c :: l)) : Rn.chk c.e c.n c.l = 0 := h.1

theorem lg_tail {nu : Int} {bs : List Int} {c : Cv} {l : List Cv} (h : Lg nu bs (c :: l)) : Good nu [c] ∧ fr c <+: bs ∧ Lg c.n (bs.drop (fr c).length) l := by
 obtain ⟨h1, h2, h3⟩ := h
 rw [lgb_cons] at h2
 obtain ⟨g1, g2⟩ := good_cons.1 h1
 refine ⟨g1, (List.prefix_append _ _).trans h2, g2, Fm.drop_pre h2, fun d hd => ?_⟩
 rw [List.drop_drop, ← List.length_append, ← lgb_cons]
 exact h3 d hd

theorem lg_one : ∀ {l m : List Cv} {nu : Int} {bs : List Int}, Lg nu bs l → Lg nu bs m → l = m
 | [], [], _, _, _, _ => rfl
 | [], c :: m, nu, bs, h, h' => by
  obtain ⟨h1, h2, _⟩ := lg_tail h'
  exact absurd h2 (h.2.2 c h1)
 | c :: l, [], nu, bs, h, h' => by
  obtain ⟨h1, h2, _⟩ := lg_tail h
  exact absurd h2 (h'.2.2 c h1)
 | c :: l, d :: m, nu, bs, h, h' => by
  obtain ⟨h1, h2, h3⟩ := lg_tail h
  obtain ⟨g1, g2, g3⟩ := lg_tail h'
  have e := fr_one (good_chk h1) (good_chk g1) h2 g2
  subst e
  rw [lg_one h3 g3]

theorem lg_cons {nu : Int} {bs : List Int} {c : Cv} {l : List Cv} (h1 : Good nu [c]) (h2 : fr c <+: bs) (h3 : Lg c.n (bs.drop (fr c).length) l) : Lg nu bs (c :: l) := by
 obtain ⟨g1, g2, g3⟩ := h3
 refine ⟨good_cons.2 ⟨h1, g1⟩, Fm.pre_drop h2 g2, fun d hd => ?_⟩
 have := g3 d hd
 rw [List.drop_drop, ← List.length_append, ← lgb_cons] at this
 exact this

theorem lg_is (nu : Int) (bs : List Int) : ∃ l, Lg nu bs l := by
 suffices h : ∀ n (nu : Int) (bs : List Int), bs.length ≤ n → ∃ l, Lg nu bs l from h _ nu bs (Nat.le_refl _)
 intro n
 induction n with
 | zero =>
  intro nu bs hb
  refine ⟨[], trivial, List.nil_prefix, fun c _ h => ?_⟩
  have h1 := h.length_le
  have h2 := fr_pos c
  rw [List.length_drop] at h1
  omega
 | succ n ih =>
  intro nu bs hb
  by_cases h : ∃ c, Good nu [c] ∧ fr c <+: bs
  ·obtain ⟨c, h1, h2⟩ := h
   have hp := fr_pos c
   obtain ⟨l, hl⟩ := ih c.n (bs.drop (fr c).length) (by rw [List.length_drop]; omega)
   exact ⟨c :: l, lg_cons h1 h2 hl⟩
  ·exact ⟨[], trivial, List.nil_prefix, fun c h1 h2 => h ⟨c, h1, h2⟩⟩

theorem lg_self {nu : Int} {l : List Cv} (h : Good nu l) : Lg nu (lgb l) l := by
 refine ⟨h, List.prefix_rfl, fun c _ k => ?_⟩
 have h1 := k.length_le
 have h2 := fr_pos c
 rw [List.drop_length, List.length_nil] at h1
 omega

def hld (st : Ds) : List Int := hold 2 (st.sure 2) st.wait

def App (l : List Rw) : Prop := ∀ r ∈ l, r.cut = false

theorem app_snoc {l : List Rw} {r : Rw} (h : App l) (hr : r.cut = false) : App (l ++ [r]) := fun x hx => by
 rcases List.mem_append.1 hx with hx | hx
 ·exact h x hx
 ·rw [List.mem_singleton.1 hx]; exact hr

structure Rs where
 d : Ds
 l : List Cv
 bk : Bool

def trm (d : Ds) (good : Nat) : Int × Ds :=
 if (hld d).length = good then (0, d) else if (cutD d 2 good).1 ≠ 0 then (6, (cutD d 2 good).2) else if (sync (cutD d 2 good).2).1 ≠ 0 then (6, (sync (cutD d 2 good).2).2) else (0, (sync (cutD d 2 good).2).2)

def ask (s : Rs) : Bool := s.bk || !s.d.on
def brk (s : Rs) : Rs := ⟨s.d, s.l, true⟩

def ext (d : Ds) (bs : List Int) : Int × Ds := if (write d 2 bs).1 ≠ 0 then write d 2 bs else sync (write d 2 bs).2

def flu (s : Rs) (c : Cv) : Int × Rs :=
 if ask s then (6, brk s) else if Rn.chk c.e c.n c.l ≠ 0 then (Rn.chk c.e c.n c.l, s) else if c.e - 1 ≠ lastN 0 s.l then (15, s)
 else if (ext s.d (fr c)).1 ≠ 0 then ((ext s.d (fr c)).1, ⟨(ext s.d (fr c)).2, s.l, true⟩) else (0, ⟨(ext s.d (fr c)).2, s.l ++ [c], false⟩)

theorem sync_e (st : Ds) : (sync st).1 = 0 ∨ (sync st).1 = 6 := by
 unfold sync
 split
 ·exact .inr rfl
 split
 ·exact .inr rfl
 ·exact .inl rfl

theorem wrt_e : ∀ (n : Nat) (st : Ds) (bs : List Int), (wrt 2 n st bs).1 = 0 ∨ (wrt 2 n st bs).1 = 6
 | 0, _, _ => .inl rfl
 | n + 1, st, bs => by
  unfold wrt
  split
  ·exact .inl rfl
  split
  ·exact .inr rfl
  ·exact wrt_e n _ _

theorem write_e {st : Ds} (bs : List Int) : (write st 2 bs).1 = 0 ∨ (write st 2 bs).1 = 6 := by
 unfold write
 split
 ·exact .inr rfl
 split
 ·rename_i h
  simp [inF] at h
 ·exact wrt_e _ _ _

theorem ext_e (st : Ds) (bs : List Int) : (ext st bs).1 = 0 ∨ (ext st bs).1 = 6 := by
 unfold ext
 split
 ·exact write_e bs
 ·exact sync_e _

structure Kin (s : Rs) (all : List Cv) : Prop where
 on : s.d.on = true
 bk : s.bk = false
 l : s.l = all
 good : Good 0 all
 wait : s.d.wait = []
 sure : s.d.sure 2 = lgb all

structure Kend (d : Ds) (sure all : List Cv) : Prop where
 good : Good 0 all
 app : App d.wait
 hld : hld d <+: lgb all
 dur : lgb sure <+: d.sure 2
 gs : Good 0 sure

end Rl
end Go.Proofs.YtmmfakpphjjjfaaGreat

/- What the last op on a key among runs is: what a table tells to which all ops were applied. No program. -/
namespace Go.Proofs.YtmmfakpphjjjfaaGreat
set_option linter.unusedVariables false
namespace Rl
open Bm
open Cm (Cv)

theorem get_one {t : List Ov} (o : Ov) (k : ByteArray) (h : Tm.Up t) : Tm.get (Tm.one t o) k = if o.k = k then some o else Tm.get t k := by
 have hu := Tm.up_one o h
 by_cases hk : o.k = k
 ·rw [if_pos hk, ← hk]
  exact Tm.get_mem hu ((Tm.mem_one o o h).2 (.inl rfl))
 ·rw [if_neg hk]
  cases hg : Tm.get t k with
  | none =>
   refine List.find?_eq_none.2 fun x hx => ?_
   rcases (Tm.mem_one o x h).1 hx with rfl | ⟨hx, _⟩
   ·simpa using hk
   ·simpa using Tm.get_none hg x hx
  | some x =>
   obtain ⟨hx, rfl⟩ := Tm.get_some hg
   exact Tm.get_mem hu ((Tm.mem_one o x h).2 (.inr ⟨hx, fun e => hk e.symm⟩))

theorem get_cons (o : Ov) (l : List Ov) (k : ByteArray) : Tm.get (o :: l) k = if o.k = k then some o else Tm.get l k := by
 unfold Tm.get
 rw [List.find?_cons]
 by_cases h : o.k = k <;> simp [h]

theorem get_app : ∀ (l t : List Ov) (k : ByteArray), Tm.Up t → Tm.Up l → Tm.get (Tm.app t l) k = match Tm.get l k with | some o => some o | none => Tm.get t k
 | [], t, k, _, _ => rfl
 | o :: l, t, k, ht, hl => by
  obtain ⟨h1, h2⟩ := List.pairwise_cons.1 hl
  rw [Tm.app_cons, get_app l (Tm.one t o) k (Tm.up_one o ht) h2, get_cons, get_one o k ht]
  by_cases hk : o.k = k
  ·rw [if_pos hk, if_pos hk]
   have : Tm.get l k = none := List.find?_eq_none.2 fun x hx => by
    have := Tm.lt_ne (h1 x hx)
    simp
    intro e
    exact this (hk.trans e.symm)
   rw [this]
  ·rw [if_neg hk, if_neg hk]

def ops (l : List Cv) : List Ov := l.flatMap Cv.l
def tab (l : List Cv) : List Ov := Tm.app [] (ops l)

theorem ops_snoc (l : List Cv) (c : Cv) : ops (l ++ [c]) = ops l ++ c.l := by simp [ops]
theorem up_nil : Tm.Up [] := List.Pairwise.nil
theorem up_tab (l : List Cv) : Tm.Up (tab l) := Tm.up_app _ up_nil
theorem tab_snoc (l : List Cv) (c : Cv) : tab (l ++ [c]) = Tm.app (tab l) c.l := by unfold tab; rw [ops_snoc, Tm.app_app]

theorem good_up {l : List Cv} {nu : Int} (h : Good nu l) : ∀ c ∈ l, Tm.Up c.l ∧ (∀ o ∈ c.l, o.c = 0) ∧ c.l.length ≤ 1024 := fun c hc => by
 obtain ⟨h1, _, _, _, h5⟩ := Rn.chk_zero (good_all h c hc)
 exact ⟨(Rn.may_up h5).1, Rn.may_c h5, h1⟩

theorem tab_next {l : List Cv} {c : Cv} {n : Nat} (k : ByteArray) (hu : Tm.Up c.l) (hc : l[n]? = some c) : Tm.get (tab (l.take (n + 1))) k = match Tm.get c.l k with | some o => some o | none => Tm.get (tab (l.take n)) k := by
 have e : l.take (n + 1) = l.take n ++ [c] := by
  obtain ⟨h1, h2⟩ := List.getElem?_eq_some_iff.1 hc
  rw [List.take_add_one, hc]
  rfl
 rw [e, tab_snoc, get_app _ _ _ (up_tab _) hu]

theorem ops_c {l : List Cv} {nu : Int} (h : Good nu l) : ∀ o ∈ ops l, o.c = 0 := fun o ho => by
 obtain ⟨c, hc, ho⟩ := List.mem_flatMap.1 ho
 exact (good_up h c hc).2.1 o ho

theorem ops_len : ∀ {l : List Cv} {n : Nat}, (∀ c ∈ l, c.l.length ≤ n) → (ops l).length ≤ l.length * n
 | [], _, _ => by simp [ops]
 | c :: l, n, h => by
  have h1 := ops_len fun d hd => h d (List.mem_cons_of_mem _ hd)
  have h2 := h c List.mem_cons_self
  have e : ops (c :: l) = c.l ++ ops l := by simp [ops]
  rw [e, List.length_append, List.length_cons, Nat.succ_mul]
  omega

end Rl
end Go.Proofs.YtmmfakpphjjjfaaGreat

/- A store, by mathematics: its runs and its rest, the fold of both, what Apply and Flush leave. No program. -/
namespace Go.Proofs.YtmmfakpphjjjfaaGreat
set_option linter.unusedVariables false
namespace Sto
open Bm
open Cm (Cv lastN lastE)

theorem good_low : ∀ {l : List Cv} {e e' nu : Int}, Cm.Good e nu l → e' ≤ e → Cm.Good e' nu l
 | [], _, _, _, _, _ => trivial
 | c :: r, e, e', nu, h, he => by
  simp only [Cm.Good] at h ⊢
  obtain ⟨h1, h2, h3, h4⟩ := h
  exact ⟨h1, h2, by omega, h4⟩

theorem last_len : ∀ {l : List Cv} {e nu : Int}, Cm.Good e nu l → lastN nu l = nu + l.length
 | [], _, _, _ => by simp [lastN]
 | c :: r, e, nu, h => by
  simp only [Cm.Good] at h
  obtain ⟨h1, h2, h3, h4⟩ := h
  have := last_len h4
  simp only [lastN, List.length_cons]
  omega

theorem last_epo : ∀ {l : List Cv} {e nu : Int}, Cm.Good e nu l → e ≤ lastE e l
 | [], _, _, _ => by simp [lastE]
 | c :: r, e, nu, h => by
  simp only [Cm.Good] at h
  obtain ⟨h1, h2, h3, h4⟩ := h
  have := last_epo h4
  simp only [lastE]
  omega

theorem good_drop {l : List Cv} {nu : Int} (h : Cm.Good 1 nu l) (k : Nat) (hk : k ≤ l.length) : Cm.Good 1 (nu + k) (l.drop k) := by
 have h' : Cm.Good 1 nu (l.take k ++ l.drop k) := by rw [List.take_append_drop]; exact h
 obtain ⟨h1, h2⟩ := (Cm.good_app _ _ _ _).1 h'
 have e := last_len h1
 rw [List.length_take, Nat.min_eq_left hk] at e
 rw [e] at h2
 exact good_low h2 (last_epo h1)

theorem good_all {l : List Cv} {e nu : Int} (h : Cm.Good e nu l) : ∀ c ∈ l, Cm.chk c.e c.n c.l = 0 ∧ nu + 1 ≤ c.n ∧ c.n ≤ nu + l.length ∧ c.n ≤ 1048576 := fun c hc => by
 obtain ⟨k, hk⟩ := List.getElem?_of_mem hc
 obtain ⟨h1, h2, _, _⟩ := Cm.good_at _ _ _ _ _ h hk
 have hl := (List.getElem?_eq_some_iff.1 hk).1
 have := (Cm.chk_zero h1).2.2.2.1
 exact ⟨h1, by omega, by omega, this⟩

theorem good_fin {l : List Cv} {nu : Int} (h : Cm.Good 1 nu l) (h0 : nu ≤ 1048576) : nu + l.length ≤ 1048576 := by
 rcases List.eq_nil_or_concat l with rfl | ⟨r, c, rfl⟩
 ·simpa using h0
 ·rw [List.concat_eq_append] at h ⊢
  have e := last_len h
  rw [Rl.last_snoc] at e
  have := (good_all h c (by simp)).2.2.2
  omega

theorem good_ops {l : List Cv} {e nu : Int} (h : Cm.Good e nu l) : ∀ c ∈ l, 1 ≤ c.l.length ∧ c.l.length ≤ 8 ∧ ∀ o ∈ c.l, o.c = 0 := fun c hc => chkL_zero (Cm.chk_zero (good_all h c hc).1).2.2.2.2

theorem ops_ok {l : List Cv} {e nu : Int} (h : Cm.Good e nu l) : ∀ o ∈ Rl.ops l, o.c = 0 := fun o ho => by
 obtain ⟨c, hc, ho⟩ := List.mem_flatMap.1 ho
 exact (good_ops h c hc).2.2 o ho

theorem ops_app (l m : List Cv) : Rl.ops (l ++ m) = Rl.ops l ++ Rl.ops m := by simp [Rl.ops]

theorem up_get {a b : List Ov} (ha : Tm.Up a) (hb : Tm.Up b) (h : ∀ k, Tm.get a k = Tm.get b k) : a = b := by
 refine Tm.up_ext ha hb fun x => ⟨fun hx => ?_, fun hx => ?_⟩
 ·have := Tm.get_mem ha hx
  rw [h] at this
  exact (Tm.get_some this).1
 ·have := Tm.get_mem hb hx
  rw [← h] at this
  exact (Tm.get_some this).1

theorem snoc_ind {P : List Ov → Prop} (h0 : P []) (h1 : ∀ l o, P l → P (l ++ [o])) : ∀ l, P l := fun l => by
 suffices h : ∀ n (l : List Ov), l.length = n → P l from h _ l rfl
 intro n
 induction n with
 | zero => intro l hl; rw [List.eq_nil_of_length_eq_zero hl]; exact h0
 | succ n ih =>
  intro l hl
  rcases List.eq_nil_or_concat l with rfl | ⟨r, o, rfl⟩
  ·simp at hl
  ·rw [List.concat_eq_append] at hl ⊢
   refine h1 r o (ih r ?_)
   rw [List.length_append, List.length_singleton] at hl
   omega

theorem get_more {t : List Ov} (ht : Tm.Up t) (k : ByteArray) : ∀ l : List Ov, Tm.get (Tm.app t l) k = match Tm.get (Tm.app [] l) k with | some o => some o | none => Tm.get t k := by
 refine snoc_ind rfl fun l o ih => ?_
 rw [Tm.app_snoc, Tm.app_snoc, Rl.get_one o k (Tm.up_app l ht), Rl.get_one o k (Tm.up_app l Rl.up_nil), ih]
 by_cases h : o.k = k
 ·rw [if_pos h, if_pos h]
 ·rw [if_neg h, if_neg h]

theorem app_tab {t : List Ov} (ht : Tm.Up t) (l : List Ov) : Tm.app t (Tm.app [] l) = Tm.app t l := by
 refine up_get (Tm.up_app _ ht) (Tm.up_app _ ht) fun k => ?_
 rw [Rl.get_app _ _ _ ht (Tm.up_app l Rl.up_nil), get_more ht k l]
 all_goals (cases Tm.get (Tm.app [] l) k <;> rfl)

structure Ss where
 r : Rl.Rs
 l : List Cv

def fold (s : Ss) : List Ov := Tm.app (Rl.tab s.r.l) (Rl.ops s.l)
def fin (s : Ss) : Int := lastN 0 s.r.l + s.l.length

structure Ok (s : Ss) : Prop where
 run : Rl.Good 0 s.r.l
 rest : Cm.Good 1 (lastN 0 s.r.l) s.l

theorem fold_get (s : Ss) (k : ByteArray) : Tm.get (fold s) k = match Tm.get (Rl.tab s.l) k with | some o => some o | none => Tm.get (Rl.tab s.r.l) k := get_more (Rl.up_tab _) k _

theorem fold_app (s : Ss) : fold s = Tm.app (Rl.tab s.r.l) (Rl.tab s.l) := (app_tab (Rl.up_tab _) _).symm

theorem Ok.bound {s : Ss} (h : Ok s) : 0 ≤ lastN 0 s.r.l ∧ lastN 0 s.r.l ≤ 1048576 ∧ fin s ≤ 1048576 ∧ s.l.length ≤ 1048576 := by
 obtain ⟨_, h2, h3⟩ := Rl.good_len h.run
 have := good_fin h.rest h3
 unfold fin
 omega

theorem tab_c {l : List Cv} {e nu : Int} (h : Cm.Good e nu l) : ∀ o ∈ Rl.tab l, o.c = 0 := fun o ho => by
 rcases Tm.mem_app _ o Rl.up_nil ho with h1 | h1
 ·simp at h1
 ·exact ops_ok h o h1

theorem tab_len {l : List Cv} {e nu : Int} (h : Cm.Good e nu l) : (Rl.tab l).length ≤ l.length * 8 := by
 have h1 := Tm.app_len (Rl.ops l) []
 have h2 := Rl.ops_len (l := l) (n := 8) fun c hc => (good_ops h c hc).2.1
 unfold Rl.tab
 simp only [List.length_nil, Nat.zero_add] at h1
 omega

def apl (s : Ss) (c : Cv) : Int × Ss := if (Cm.fol (lastE 1 s.l) (fin s) 0 [c]).1 ≠ 0 then ((Cm.fol (lastE 1 s.l) (fin s) 0 [c]).1, s) else (0, ⟨s.r, s.l ++ [c]⟩)

theorem apl_ok {s : Ss} (h : Ok s) (c : Cv) : Ok (apl s c).2 := by
 unfold apl
 split
 ·exact h
 ·rename_i hf
  refine ⟨h.run, (Cm.good_app _ _ _ _).2 ⟨h.rest, ?_⟩⟩
  rw [last_len h.rest]
  exact (Cm.fol_good _ _ _ 0).1 (by simpa [fin] using hf)

def rnn (s : Ss) (u : Int) : Cv := ⟨lastN 0 s.r.l + 1, u, Rl.tab (s.l.take (u - lastN 0 s.r.l).toNat)⟩

def flu (s : Ss) (u : Int) : Int × Ss :=
 if u < lastN 0 s.r.l ∨ fin s < u then (2, s) else if u = lastN 0 s.r.l then (0, s) else if 1024 < (rnn s u).l.length then (3, s)
 else if (Rl.flu s.r (rnn s u)).1 ≠ 0 then ((Rl.flu s.r (rnn s u)).1, ⟨(Rl.flu s.r (rnn s u)).2, s.l⟩) else (0, ⟨(Rl.flu s.r (rnn s u)).2, s.l.drop (u - lastN 0 s.r.l).toNat⟩)

theorem rnn_ok {s : Ss} (h : Ok s) {u : Int} (h1 : ¬ (u < lastN 0 s.r.l ∨ fin s < u)) (h2 : ¬ u = lastN 0 s.r.l) (h3 : ¬ 1024 < (rnn s u).l.length) : Rn.chk (rnn s u).e (rnn s u).n (rnn s u).l = 0 ∧ (rnn s u).e - 1 = lastN 0 s.r.l := by
 obtain ⟨b1, b2, b3, b4⟩ := h.bound
 refine ⟨Rn.chk_ok (by omega) ⟨?_, ?_, ?_, ?_⟩, ?_⟩
 ·show 1 ≤ lastN 0 s.r.l + 1; omega
 ·show lastN 0 s.r.l + 1 ≤ u; omega
 ·show u ≤ 1048576; omega
 ·exact Rn.may_of (tab_c (Cm.good_take h.rest _)) (Rl.up_tab _)
 ·show lastN 0 s.r.l + 1 - 1 = lastN 0 s.r.l; omega

theorem rflu_l {s : Rl.Rs} {c : Cv} : (Rl.flu s c).1 = 0 → (Rl.flu s c).2.l = s.l ++ [c] := by
 unfold Rl.flu
 split
 ·intro h; simp at h
 split
 ·intro h; rename_i h1; exact absurd h h1
 split
 ·intro h; simp at h
 split
 ·intro h; rename_i h1; exact absurd h h1
 ·intro _; rfl

theorem rflu_n {s : Rl.Rs} {c : Cv} : (Rl.flu s c).1 ≠ 0 → (Rl.flu s c).2.l = s.l := by
 unfold Rl.flu
 split
 ·intro h; rfl
 split
 ·intro h; rfl
 split
 ·intro h; rfl
 split
 ·intro h; rfl
 ·intro h; simp at h

theorem flu_ok {s : Ss} (h : Ok s) (u : Int) : Ok (flu s u).2 ∧ fold (flu s u).2 = fold s ∧ fin (flu s u).2 = fin s := by
 unfold flu
 split
 ·exact ⟨h, rfl, rfl⟩
 rename_i h1
 split
 ·exact ⟨h, rfl, rfl⟩
 rename_i h2
 split
 ·exact ⟨h, rfl, rfl⟩
 rename_i h3
 obtain ⟨k1, k2⟩ := rnn_ok h h1 h2 h3
 split
 ·rename_i h4
  have e := rflu_n h4
  refine ⟨⟨?_, ?_⟩, ?_, ?_⟩
  ·show Rl.Good 0 (Rl.flu s.r (rnn s u)).2.l
   rw [e]; exact h.run
  ·show Cm.Good 1 (lastN 0 (Rl.flu s.r (rnn s u)).2.l) s.l
   rw [e]; exact h.rest
  ·unfold fold
   simp only
   rw [e]
  ·unfold fin
   simp only
   rw [e]
 ·rename_i h4
  have e := rflu_l (s := s.r) (c := rnn s u) (by simpa using h4)
  have en : lastN 0 (s.r.l ++ [rnn s u]) = u := Rl.last_snoc _ _ _
  have hkl : (u - lastN 0 s.r.l).toNat ≤ s.l.length := by unfold fin at h1; omega
  refine ⟨⟨?_, ?_⟩, ?_, ?_⟩
  ·show Rl.Good 0 (Rl.flu s.r (rnn s u)).2.l
   rw [e]
   exact (Rl.good_snoc h.run).2 ⟨k1, k2⟩
  ·show Cm.Good 1 (lastN 0 (Rl.flu s.r (rnn s u)).2.l) (s.l.drop (u - lastN 0 s.r.l).toNat)
   rw [e, en]
   have := good_drop h.rest (u - lastN 0 s.r.l).toNat hkl
   rwa [show lastN 0 s.r.l + ((u - lastN 0 s.r.l).toNat : Int) = u by omega] at this
  ·unfold fold
   simp only
   rw [e, Rl.tab_snoc]
   show Tm.app (Tm.app (Rl.tab s.r.l) (Rl.tab (s.l.take (u - lastN 0 s.r.l).toNat))) _ = _
   have e2 : Rl.ops s.l = Rl.ops (s.l.take (u - lastN 0 s.r.l).toNat) ++ Rl.ops (s.l.drop (u - lastN 0 s.r.l).toNat) := by rw [← ops_app, List.take_append_drop]
   rw [show Rl.tab (s.l.take (u - lastN 0 s.r.l).toNat) = Tm.app [] (Rl.ops (s.l.take (u - lastN 0 s.r.l).toNat)) from rfl, app_tab (Rl.up_tab _), ← Tm.app_app, ← e2]
  ·unfold fin
   simp only
   rw [e, en, List.length_drop]
   unfold fin at h1
   omega

theorem fold_apl (s : Ss) (c : Cv) : fold ⟨s.r, s.l ++ [c]⟩ = Tm.app (fold s) c.l := by
 unfold fold
 simp only
 rw [Rl.ops_snoc, Tm.app_app]

end Sto
end Go.Proofs.YtmmfakpphjjjfaaGreat
