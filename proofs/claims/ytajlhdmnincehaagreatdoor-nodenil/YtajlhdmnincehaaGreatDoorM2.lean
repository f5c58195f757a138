/- Texts of one layer, one behind the other. -/
import Derived.Test.YtajlhdmnincehaaGreatDoorM1
import Derived.Test.YtajlhdmnincehaaGreatDoorG1
/- Runs on a disk, by mathematics: their frames in file 2, what Scan answers, what a Flush leaves, what a power cut leaves. No program. -/
namespace Go.Proofs.YtajlhdmnincehaaGreatDoor
set_option linter.unusedVariables false
namespace Rl
open Dm
open Cm (Cv lastN)

/-- Runs that follow one another, the first one behind nu. -/
def Good (nu : Int) : List Cv → Prop
  | [] => True
  | c :: r => Rn.chk c.e c.n c.l = 0 ∧ c.e - 1 = nu ∧ Good c.n r

theorem good_app : ∀ (l m : List Cv) (nu : Int), Good nu (l ++ m) ↔ Good nu l ∧ Good (lastN nu l) m
  | [], m, _ => by simp [Good, lastN]
  | c :: r, m, nu => by
    simp only [List.cons_append, Good, lastN, good_app r m]
    constructor
    · rintro ⟨h1, h2, h4, h5⟩; exact ⟨⟨h1, h2, h4⟩, h5⟩
    · rintro ⟨⟨h1, h2, h4⟩, h5⟩; exact ⟨h1, h2, h4, h5⟩

theorem last_snoc : ∀ (l : List Cv) (c : Cv) (nu : Int), lastN nu (l ++ [c]) = c.n
  | [], _, _ => rfl
  | d :: r, c, nu => by simpa [lastN] using last_snoc r c d.n

theorem good_snoc {l : List Cv} {c : Cv} {nu : Int} (h : Good nu l) : Good nu (l ++ [c]) ↔ Rn.chk c.e c.n c.l = 0 ∧ c.e - 1 = lastN nu l := by
  rw [good_app]
  simp [Good, h]

theorem good_all : ∀ {l : List Cv} {nu : Int}, Good nu l → ∀ c ∈ l, Rn.chk c.e c.n c.l = 0
  | [], _, _, c, hc => by simp at hc
  | d :: r, nu, h, c, hc => by
    rcases List.mem_cons.1 hc with rfl | hc
    · exact h.1
    · exact good_all h.2.2 c hc

/-- There are no more runs than numbers. -/
theorem good_last : ∀ {l : List Cv} {nu : Int}, Good nu l → nu + l.length ≤ lastN nu l ∧ (l = [] ∨ lastN nu l ≤ 1048576)
  | [], _, _ => by simp [lastN]
  | c :: r, nu, ⟨h1, h2, h3⟩ => by
    obtain ⟨_, g1, g2, g3, _⟩ := Rn.chk_zero h1
    obtain ⟨k1, k2⟩ := good_last h3
    refine ⟨?_, .inr ?_⟩
    · simp only [lastN, List.length_cons]
      omega
    · rcases k2 with rfl | k2
      · exact g3
      · exact k2

theorem good_len {l : List Cv} (h : Good 0 l) : l.length ≤ 1048576 ∧ 0 ≤ lastN 0 l ∧ lastN 0 l ≤ 1048576 := by
  obtain ⟨h1, h2⟩ := good_last h
  rcases h2 with rfl | h2
  · simp [lastN]
  · omega

/-- A run's record, its frame, a log's bytes. -/
def rec (c : Cv) : List Int := Rn.encR c.e c.n c.l
def fr (c : Cv) : List Int := Fm.frm (rec c)
def lgb (l : List Cv) : List Int := Fm.cat (l.map rec)

theorem lgb_cons (c : Cv) (l : List Cv) : lgb (c :: l) = fr c ++ lgb l := rfl
theorem lgb_app (l m : List Cv) : lgb (l ++ m) = lgb l ++ lgb m := by unfold lgb; rw [List.map_append, Fm.cat_app]
theorem lgb_one (c : Cv) : lgb [c] = fr c := by unfold lgb fr; exact Fm.cat_one _
theorem fr_pos (c : Cv) : 1 ≤ (fr c).length := Fm.frm_pos _

theorem rec_small {c : Cv} (h : Rn.chk c.e c.n c.l = 0) : (rec c).length ≤ 52233 := Rn.encR_small h
theorem fr_small {c : Cv} (h : Rn.chk c.e c.n c.l = 0) : (fr c).length ≤ 52236 := by
  have := rec_small h
  unfold fr
  rw [Fm.frm_len]
  have := Fm.sz3 (n := (rec c).length) (by omega)
  omega

theorem fr_one {c d : Cv} {bs : List Int} (hc : Rn.chk c.e c.n c.l = 0) (hd : Rn.chk d.e d.n d.l = 0) (h : fr c <+: bs) (h' : fr d <+: bs) : c = d := by
  obtain ⟨e1, e2, e3⟩ := Rn.encR_one hd hc (bs := rec c) (Fm.frm_one h' h ▸ List.prefix_rfl) List.prefix_rfl
  cases c
  cases d
  simp only at e1 e2 e3
  rw [e1, e2, e3]

/-- What Scan answers behind a number: runs that follow, one behind the other, and none behind them. -/
def Lg (nu : Int) (bs : List Int) (l : List Cv) : Prop :=
  Good nu l ∧ lgb l <+: bs ∧ ∀ c, Good (lastN nu l) [c] → ¬ fr c <+: bs.drop (lgb l).length

theorem good_cons {nu : Int} {c : Cv} {l : List Cv} : Good nu (c :: l) ↔ Good nu [c] ∧ Good c.n l := by
  have := good_app [c] l nu
  rw [List.singleton_append] at this
  exact this

theorem good_chk {nu : Int} {c : Cv} {l : List Cv} (h : Good nu (c :: l)) : Rn.chk c.e c.n c.l = 0 := h.1

theorem lg_tail {nu : Int} {bs : List Int} {c : Cv} {l : List Cv} (h : Lg nu bs (c :: l)) : Good nu [c] ∧ fr c <+: bs ∧ Lg c.n (bs.drop (fr c).length) l := by
  obtain ⟨h1, h2, h3⟩ := h
  rw [lgb_cons] at h2
  obtain ⟨g1, g2⟩ := good_cons.1 h1
  refine ⟨g1, (List.prefix_append _ _).trans h2, g2, Fm.drop_pre h2, fun d hd => ?_⟩
  rw [List.drop_drop, ← List.length_append, ← lgb_cons]
  exact h3 d hd





/-- What begins with a log is read as one that begins with it. -/
theorem lg_has : ∀ {l m : List Cv} {nu : Int} {bs : List Int}, Good nu l → lgb l <+: bs → Lg nu bs m → l <+: m
  | [], _, _, _, _, _, _ => List.nil_prefix
  | c :: l, [], nu, bs, h, h2, hm => by
    exact absurd ((List.prefix_append _ _).trans h2) (hm.2.2 c (good_cons.1 h).1)
  | c :: l, d :: m, nu, bs, h, h2, hm => by
    obtain ⟨g1, g2, g3⟩ := lg_tail hm
    rw [lgb_cons] at h2
    have e := fr_one (good_chk h) (good_chk g1) ((List.prefix_append _ _).trans h2) g2
    subst e
    have := lg_has (good_cons.1 h).2 (Fm.drop_pre h2) g3
    exact List.cons_prefix_cons.2 ⟨rfl, this⟩

/-- A first part of a log's bytes is read as a first part of it. -/
theorem lg_in : ∀ {l m : List Cv} {nu : Int} {bs : List Int}, Good nu l → bs <+: lgb l → Lg nu bs m → m <+: l
  | _, [], _, _, _, _, _ => List.nil_prefix
  | [], d :: m, nu, bs, h, h2, hm => by
    obtain ⟨_, g2, _⟩ := lg_tail hm
    have h1 := (g2.trans h2).length_le
    have h3 := fr_pos d
    have h4 : (lgb []).length = 0 := rfl
    omega
  | c :: l, d :: m, nu, bs, h, h2, hm => by
    obtain ⟨g1, g2, g3⟩ := lg_tail hm
    rw [lgb_cons] at h2
    have e := fr_one (good_chk h) (good_chk g1) (List.prefix_append _ _) (g2.trans h2)
    subst e
    obtain ⟨t, rfl⟩ := g2
    rw [List.drop_left] at g3
    have ht : t <+: lgb l := by
      obtain ⟨u, hu⟩ := h2
      rw [List.append_assoc] at hu
      exact ⟨u, List.append_cancel_left hu⟩
    exact List.cons_prefix_cons.2 ⟨rfl, lg_in (good_cons.1 h).2 ht g3⟩



/-- What file 2 holds. -/
def hld (st : Ds) : List Int := hold 2 (st.sure 2) st.wait

/-- Nothing is cut in what is pending. -/
def App (l : List Rw) : Prop := ∀ r ∈ l, r.cut = false

theorem app_nil : App [] := fun r h => by simp at h
theorem app_snoc {l : List Rw} {r : Rw} (h : App l) (hr : r.cut = false) : App (l ++ [r]) := fun x hx => by
  rcases List.mem_append.1 hx with hx | hx
  · exact h x hx
  · rw [List.mem_singleton.1 hx]; exact hr

theorem hold_grows : ∀ (l : List Rw) (b : List Int) (f : Nat), App l → b <+: hold f b l
  | [], b, _, _ => List.prefix_rfl
  | r :: l, b, f, h => by
    have ih := hold_grows l (if r.file = f then wth b r else b) f (fun x hx => h x (List.mem_cons_of_mem _ hx))
    refine List.IsPrefix.trans ?_ ih
    split
    · unfold wth
      rw [h r List.mem_cons_self]
      exact List.prefix_append _ _
    · exact List.prefix_rfl

/-- A pull leaves what is durable, and of what is pending a first part. -/
theorem kept_in {st : Ds} (h : App st.wait) (k t : Nat) : st.sure 2 <+: kept st k t 2 ∧ kept st k t 2 <+: hld st := by
  have h1 : App (st.wait.take k) := fun r hr => h r (List.mem_of_mem_take hr)
  have a1 := hold_grows (st.wait.take k) (st.sure 2) 2 h1
  have e1 : hld st = hold 2 (hold 2 (st.sure 2) (st.wait.take k)) (st.wait.drop k) := by
    unfold hld
    rw [← hold_app, List.take_append_drop]
  unfold kept
  cases hr : st.wait[k]? with
  | none =>
    simp only
    rw [← hold_dof]
    refine ⟨a1, ?_⟩
    rw [e1]
    exact hold_grows _ _ _ (fun r hr => h r (List.mem_of_mem_drop hr))
  | some r =>
    have hlt := (List.getElem?_eq_some_iff.1 hr).1
    have hrr := (List.getElem?_eq_some_iff.1 hr).2
    have hc := h r (List.mem_of_getElem? hr)
    have e2 : st.wait.drop k = r :: st.wait.drop (k + 1) := by rw [List.drop_eq_getElem_cons hlt, hrr]
    have h2 : App (st.wait.drop (k + 1)) := fun x hx => h x (List.mem_of_mem_drop hx)
    simp only [hc, Bool.false_eq_true, if_false]
    rw [e2, hold] at e1
    unfold one
    by_cases hf : r.file = 2
    · rw [hf, upd_same, ← hold_dof]
      rw [if_pos hf] at e1
      have e3 : wth (hold 2 (st.sure 2) (st.wait.take k)) ⟨2, false, 0, r.bytes.take (min t (r.bytes.length - 1))⟩ = hold 2 (st.sure 2) (st.wait.take k) ++ r.bytes.take (min t (r.bytes.length - 1)) := rfl
      have e4 : wth (hold 2 (st.sure 2) (st.wait.take k)) r = hold 2 (st.sure 2) (st.wait.take k) ++ r.bytes := by
        unfold wth
        rw [hc]
        rfl
      rw [e3]
      refine ⟨a1.trans (List.prefix_append _ _), ?_⟩
      rw [e1, e4]
      refine List.IsPrefix.trans ?_ (hold_grows _ _ _ h2)
      exact (List.prefix_append_right_inj _).2 (List.take_prefix _ _)
    · rw [upd_other (fun e => hf e.symm), ← hold_dof]
      rw [if_neg hf] at e1
      refine ⟨a1, ?_⟩
      rw [e1]
      exact hold_grows _ _ _ h2






/-- The state of runs: the disk, what is known, is it broken? -/
structure Rs where
  d : Ds
  l : List Cv
  bk : Bool

/-- What trim answers, and what it leaves. -/
def trm (d : Ds) (good : Nat) : Int × Ds :=
  if (hld d).length = good then (0, d) else if (cutD d 2 good).1 ≠ 0 then (6, (cutD d 2 good).2) else if (sync (cutD d 2 good).2).1 ≠ 0 then (6, (sync (cutD d 2 good).2).2) else (0, (sync (cutD d 2 good).2).2)

def ask (s : Rs) : Bool := s.bk || !s.d.on
def brk (s : Rs) : Rs := ⟨s.d, s.l, true⟩




theorem sync_e (st : Ds) : (sync st).1 = 0 ∨ (sync st).1 = 6 := by
  unfold sync
  split
  · exact .inr rfl
  split
  · exact .inr rfl
  · exact .inl rfl

theorem wrt_e : ∀ (n : Nat) (st : Ds) (bs : List Int), (wrt 2 n st bs).1 = 0 ∨ (wrt 2 n st bs).1 = 6
  | 0, _, _ => .inl rfl
  | n + 1, st, bs => by
    unfold wrt
    split
    · exact .inl rfl
    split
    · exact .inr rfl
    · exact wrt_e n _ _

theorem write_e {st : Ds} (bs : List Int) : (write st 2 bs).1 = 0 ∨ (write st 2 bs).1 = 6 := by
  unfold write
  split
  · exact .inr rfl
  split
  · rename_i h
    simp [inF] at h
  · exact wrt_e _ _ _


/-- While the disk is on: all was flushed. -/
structure Kin (s : Rs) (all : List Cv) : Prop where
  on : s.d.on = true
  bk : s.bk = false
  l : s.l = all
  good : Good 0 all
  wait : s.d.wait = []
  sure : s.d.sure 2 = lgb all

/-- At the end. -/
structure Kend (d : Ds) (sure all : List Cv) : Prop where
  good : Good 0 all
  app : App d.wait
  hld : hld d <+: lgb all
  dur : lgb sure <+: d.sure 2
  gs : Good 0 sure












end Rl
end Go.Proofs.YtajlhdmnincehaaGreatDoor

/- What the last op on a key among runs is: what a table tells to which all ops were applied. No program. -/
namespace Go.Proofs.YtajlhdmnincehaaGreatDoor
set_option linter.unusedVariables false
namespace Rl
open Bm
open Cm (Cv)

theorem get_one {t : List Ov} (o : Ov) (k : ByteArray) (h : Tm.Up t) : Tm.get (Tm.one t o) k = if o.k = k then some o else Tm.get t k := by
  have hu := Tm.up_one o h
  by_cases hk : o.k = k
  · rw [if_pos hk, ← hk]
    exact Tm.get_mem hu ((Tm.mem_one o o h).2 (.inl rfl))
  · rw [if_neg hk]
    cases hg : Tm.get t k with
    | none =>
      refine List.find?_eq_none.2 fun x hx => ?_
      rcases (Tm.mem_one o x h).1 hx with rfl | ⟨hx, _⟩
      · simpa using hk
      · simpa using Tm.get_none hg x hx
    | some x =>
      obtain ⟨hx, rfl⟩ := Tm.get_some hg
      exact Tm.get_mem hu ((Tm.mem_one o x h).2 (.inr ⟨hx, fun e => hk e.symm⟩))

theorem get_cons (o : Ov) (l : List Ov) (k : ByteArray) : Tm.get (o :: l) k = if o.k = k then some o else Tm.get l k := by
  unfold Tm.get
  rw [List.find?_cons]
  by_cases h : o.k = k <;> simp [h]

theorem get_app : ∀ (l t : List Ov) (k : ByteArray), Tm.Up t → Tm.Up l → Tm.get (Tm.app t l) k = match Tm.get l k with | some o => some o | none => Tm.get t k
  | [], t, k, _, _ => rfl
  | o :: l, t, k, ht, hl => by
    obtain ⟨h1, h2⟩ := List.pairwise_cons.1 hl
    rw [Tm.app_cons, get_app l (Tm.one t o) k (Tm.up_one o ht) h2, get_cons, get_one o k ht]
    by_cases hk : o.k = k
    · rw [if_pos hk, if_pos hk]
      have : Tm.get l k = none := List.find?_eq_none.2 fun x hx => by
        have := Tm.lt_ne (h1 x hx)
        simp
        intro e
        exact this (hk.trans e.symm)
      rw [this]
    · rw [if_neg hk, if_neg hk]

/-- All runs' ops, and the table of them. -/
def ops (l : List Cv) : List Ov := l.flatMap Cv.l
def tab (l : List Cv) : List Ov := Tm.app [] (ops l)

theorem ops_snoc (l : List Cv) (c : Cv) : ops (l ++ [c]) = ops l ++ c.l := by simp [ops]
theorem up_nil : Tm.Up [] := List.Pairwise.nil
theorem up_tab (l : List Cv) : Tm.Up (tab l) := Tm.up_app _ up_nil
theorem tab_snoc (l : List Cv) (c : Cv) : tab (l ++ [c]) = Tm.app (tab l) c.l := by unfold tab; rw [ops_snoc, Tm.app_app]

theorem good_up {l : List Cv} {nu : Int} (h : Good nu l) : ∀ c ∈ l, Tm.Up c.l ∧ (∀ o ∈ c.l, o.c = 0) ∧ c.l.length ≤ 1024 := fun c hc => by
  obtain ⟨h1, _, _, _, h5⟩ := Rn.chk_zero (good_all h c hc)
  exact ⟨(Rn.may_up h5).1, Rn.may_c h5, h1⟩

theorem tab_next {l : List Cv} {c : Cv} {n : Nat} (k : ByteArray) (hu : Tm.Up c.l) (hc : l[n]? = some c) : Tm.get (tab (l.take (n + 1))) k = match Tm.get c.l k with | some o => some o | none => Tm.get (tab (l.take n)) k := by
  have e : l.take (n + 1) = l.take n ++ [c] := by
    obtain ⟨h1, h2⟩ := List.getElem?_eq_some_iff.1 hc
    rw [List.take_add_one, hc]
    rfl
  rw [e, tab_snoc, get_app _ _ _ (up_tab _) hu]


theorem ops_len : ∀ {l : List Cv} {n : Nat}, (∀ c ∈ l, c.l.length ≤ n) → (ops l).length ≤ l.length * n
  | [], _, _ => by simp [ops]
  | c :: l, n, h => by
    have h1 := ops_len fun d hd => h d (List.mem_cons_of_mem _ hd)
    have h2 := h c List.mem_cons_self
    have e : ops (c :: l) = c.l ++ ops l := by simp [ops]
    rw [e, List.length_append, List.length_cons, Nat.succ_mul]
    omega

end Rl
end Go.Proofs.YtajlhdmnincehaaGreatDoor

/- A store, by mathematics: its runs and its rest, the fold of both, what Apply and Flush leave. No program. -/
namespace Go.Proofs.YtajlhdmnincehaaGreatDoor
set_option linter.unusedVariables false
namespace Sto
open Bm
open Cm (Cv lastN lastE)

theorem good_low : ∀ {l : List Cv} {e e' nu : Int}, Cm.Good e nu l → e' ≤ e → Cm.Good e' nu l
  | [], _, _, _, _, _ => trivial
  | c :: r, e, e', nu, h, he => by
    simp only [Cm.Good] at h ⊢
    obtain ⟨h1, h2, h3, h4⟩ := h
    exact ⟨h1, h2, by omega, h4⟩

theorem last_len : ∀ {l : List Cv} {e nu : Int}, Cm.Good e nu l → lastN nu l = nu + l.length
  | [], _, _, _ => by simp [lastN]
  | c :: r, e, nu, h => by
    simp only [Cm.Good] at h
    obtain ⟨h1, h2, h3, h4⟩ := h
    have := last_len h4
    simp only [lastN, List.length_cons]
    omega

theorem last_epo : ∀ {l : List Cv} {e nu : Int}, Cm.Good e nu l → e ≤ lastE e l
  | [], _, _, _ => by simp [lastE]
  | c :: r, e, nu, h => by
    simp only [Cm.Good] at h
    obtain ⟨h1, h2, h3, h4⟩ := h
    have := last_epo h4
    simp only [lastE]
    omega

theorem good_drop {l : List Cv} {nu : Int} (h : Cm.Good 1 nu l) (k : Nat) (hk : k ≤ l.length) : Cm.Good 1 (nu + k) (l.drop k) := by
  have h' : Cm.Good 1 nu (l.take k ++ l.drop k) := by rw [List.take_append_drop]; exact h
  obtain ⟨h1, h2⟩ := (Cm.good_app _ _ _ _).1 h'
  have e := last_len h1
  rw [List.length_take, Nat.min_eq_left hk] at e
  rw [e] at h2
  exact good_low h2 (last_epo h1)

theorem good_all {l : List Cv} {e nu : Int} (h : Cm.Good e nu l) : ∀ c ∈ l, Cm.chk c.e c.n c.l = 0 ∧ nu + 1 ≤ c.n ∧ c.n ≤ nu + l.length ∧ c.n ≤ 1048576 := fun c hc => by
  obtain ⟨k, hk⟩ := List.getElem?_of_mem hc
  obtain ⟨h1, h2, _, _⟩ := Cm.good_at _ _ _ _ _ h hk
  have hl := (List.getElem?_eq_some_iff.1 hk).1
  have := (Cm.chk_zero h1).2.2.2.1
  exact ⟨h1, by omega, by omega, this⟩

/-- No number is passed. -/
theorem good_fin {l : List Cv} {nu : Int} (h : Cm.Good 1 nu l) (h0 : nu ≤ 1048576) : nu + l.length ≤ 1048576 := by
  rcases List.eq_nil_or_concat l with rfl | ⟨r, c, rfl⟩
  · simpa using h0
  · rw [List.concat_eq_append] at h ⊢
    have e := last_len h
    rw [Rl.last_snoc] at e
    have := (good_all h c (by simp)).2.2.2
    omega

theorem good_ops {l : List Cv} {e nu : Int} (h : Cm.Good e nu l) : ∀ c ∈ l, 1 ≤ c.l.length ∧ c.l.length ≤ 8 ∧ ∀ o ∈ c.l, o.c = 0 := fun c hc => chkL_zero (Cm.chk_zero (good_all h c hc).1).2.2.2.2




theorem snoc_ind {P : List Ov → Prop} (h0 : P []) (h1 : ∀ l o, P l → P (l ++ [o])) : ∀ l, P l := fun l => by
  suffices h : ∀ n (l : List Ov), l.length = n → P l from h _ l rfl
  intro n
  induction n with
  | zero => intro l hl; rw [List.eq_nil_of_length_eq_zero hl]; exact h0
  | succ n ih =>
    intro l hl
    rcases List.eq_nil_or_concat l with rfl | ⟨r, o, rfl⟩
    · simp at hl
    · rw [List.concat_eq_append] at hl ⊢
      refine h1 r o (ih r ?_)
      rw [List.length_append, List.length_singleton] at hl
      omega

theorem get_more {t : List Ov} (ht : Tm.Up t) (k : ByteArray) : ∀ l : List Ov, Tm.get (Tm.app t l) k = match Tm.get (Tm.app [] l) k with | some o => some o | none => Tm.get t k := by
  refine snoc_ind rfl fun l o ih => ?_
  rw [Tm.app_snoc, Tm.app_snoc, Rl.get_one o k (Tm.up_app l ht), Rl.get_one o k (Tm.up_app l Rl.up_nil), ih]
  by_cases h : o.k = k
  · rw [if_pos h, if_pos h]
  · rw [if_neg h, if_neg h]


/-- A store: its runs, and the commits behind them. -/
structure Ss where
  r : Rl.Rs
  l : List Cv

def fold (s : Ss) : List Ov := Tm.app (Rl.tab s.r.l) (Rl.ops s.l)
def fin (s : Ss) : Int := lastN 0 s.r.l + s.l.length

structure Ok (s : Ss) : Prop where
  run : Rl.Good 0 s.r.l
  rest : Cm.Good 1 (lastN 0 s.r.l) s.l


theorem fold_get (s : Ss) (k : ByteArray) : Tm.get (fold s) k = match Tm.get (Rl.tab s.l) k with | some o => some o | none => Tm.get (Rl.tab s.r.l) k := get_more (Rl.up_tab _) k _



theorem Ok.bound {s : Ss} (h : Ok s) : 0 ≤ lastN 0 s.r.l ∧ lastN 0 s.r.l ≤ 1048576 ∧ fin s ≤ 1048576 ∧ s.l.length ≤ 1048576 := by
  obtain ⟨_, h2, h3⟩ := Rl.good_len h.run
  have := good_fin h.rest h3
  unfold fin
  omega



theorem tab_len {l : List Cv} {e nu : Int} (h : Cm.Good e nu l) : (Rl.tab l).length ≤ l.length * 8 := by
  have h1 := Tm.app_len (Rl.ops l) []
  have h2 := Rl.ops_len (l := l) (n := 8) fun c hc => (good_ops h c hc).2.1
  unfold Rl.tab
  simp only [List.length_nil, Nat.zero_add] at h1
  omega

/-- Apply. -/
def apl (s : Ss) (c : Cv) : Int × Ss := if (Cm.fol (lastE 1 s.l) (fin s) 0 [c]).1 ≠ 0 then ((Cm.fol (lastE 1 s.l) (fin s) 0 [c]).1, s) else (0, ⟨s.r, s.l ++ [c]⟩)

theorem apl_ok {s : Ss} (h : Ok s) (c : Cv) : Ok (apl s c).2 := by
  unfold apl
  split
  · exact h
  · rename_i hf
    refine ⟨h.run, (Cm.good_app _ _ _ _).2 ⟨h.rest, ?_⟩⟩
    rw [last_len h.rest]
    exact (Cm.fol_good _ _ _ 0).1 (by simpa [fin] using hf)








end Sto
end Go.Proofs.YtajlhdmnincehaaGreatDoor
