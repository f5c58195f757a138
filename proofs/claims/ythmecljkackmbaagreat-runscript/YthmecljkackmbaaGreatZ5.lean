/- Texts of one layer, one behind the other. -/
import Derived.Test.YthmecljkackmbaaGreatZ4
import Derived.Laws.AppendOwn
import Derived.Laws.AppendOwnNone
/- Runs on a disk, by mathematics: their frames in file 2, what Scan answers, what a Flush leaves, what a power cut leaves. No program. -/
namespace Go.Proofs.YthmecljkackmbaaGreat
set_option linter.unusedVariables false
namespace Rl
open Dm
open Cm (Cv lastN)

/-- Runs that follow one another, the first one behind nu. -/
def Good (nu : Int) : List Cv → Prop
  | [] => True
  | c :: r => Rn.chk c.e c.n c.l = 0 ∧ c.e - 1 = nu ∧ Good c.n r

theorem good_app : ∀ (l m : List Cv) (nu : Int), Good nu (l ++ m) ↔ Good nu l ∧ Good (lastN nu l) m
  | [], m, _ => by simp [Good, lastN]
  | c :: r, m, nu => by
    simp only [List.cons_append, Good, lastN, good_app r m]
    constructor
    · rintro ⟨h1, h2, h4, h5⟩; exact ⟨⟨h1, h2, h4⟩, h5⟩
    · rintro ⟨⟨h1, h2, h4⟩, h5⟩; exact ⟨h1, h2, h4, h5⟩

theorem last_snoc : ∀ (l : List Cv) (c : Cv) (nu : Int), lastN nu (l ++ [c]) = c.n
  | [], _, _ => rfl
  | d :: r, c, nu => by simpa [lastN] using last_snoc r c d.n

theorem good_snoc {l : List Cv} {c : Cv} {nu : Int} (h : Good nu l) : Good nu (l ++ [c]) ↔ Rn.chk c.e c.n c.l = 0 ∧ c.e - 1 = lastN nu l := by
  rw [good_app]
  simp [Good, h]

theorem good_all : ∀ {l : List Cv} {nu : Int}, Good nu l → ∀ c ∈ l, Rn.chk c.e c.n c.l = 0
  | [], _, _, c, hc => by simp at hc
  | d :: r, nu, h, c, hc => by
    rcases List.mem_cons.1 hc with rfl | hc
    · exact h.1
    · exact good_all h.2.2 c hc

/-- There are no more runs than numbers. -/
theorem good_last : ∀ {l : List Cv} {nu : Int}, Good nu l → nu + l.length ≤ lastN nu l ∧ (l = [] ∨ lastN nu l ≤ 1048576)
  | [], _, _ => by simp [lastN]
  | c :: r, nu, ⟨h1, h2, h3⟩ => by
    obtain ⟨_, g1, g2, g3, _⟩ := Rn.chk_zero h1
    obtain ⟨k1, k2⟩ := good_last h3
    refine ⟨?_, .inr ?_⟩
    · simp only [lastN, List.length_cons]
      omega
    · rcases k2 with rfl | k2
      · exact g3
      · exact k2

theorem good_len {l : List Cv} (h : Good 0 l) : l.length ≤ 1048576 ∧ 0 ≤ lastN 0 l ∧ lastN 0 l ≤ 1048576 := by
  obtain ⟨h1, h2⟩ := good_last h
  rcases h2 with rfl | h2
  · simp [lastN]
  · omega

/-- A run's record, its frame, a log's bytes. -/
def rec (c : Cv) : List Int := Rn.encR c.e c.n c.l
def fr (c : Cv) : List Int := Fm.frm (rec c)
def lgb (l : List Cv) : List Int := Fm.cat (l.map rec)

theorem lgb_cons (c : Cv) (l : List Cv) : lgb (c :: l) = fr c ++ lgb l := rfl
theorem lgb_app (l m : List Cv) : lgb (l ++ m) = lgb l ++ lgb m := by unfold lgb; rw [List.map_append, Fm.cat_app]
theorem lgb_one (c : Cv) : lgb [c] = fr c := by unfold lgb fr; exact Fm.cat_one _
theorem fr_pos (c : Cv) : 1 ≤ (fr c).length := Fm.frm_pos _
theorem lgb_len (l : List Cv) : l.length ≤ (lgb l).length := by have := Fm.cat_len (l.map rec); rwa [List.length_map] at this

theorem rec_small {c : Cv} (h : Rn.chk c.e c.n c.l = 0) : (rec c).length ≤ 52233 := Rn.encR_small h
theorem fr_small {c : Cv} (h : Rn.chk c.e c.n c.l = 0) : (fr c).length ≤ 52236 := by
  have := rec_small h
  unfold fr
  rw [Fm.frm_len]
  have := Fm.sz3 (n := (rec c).length) (by omega)
  omega

theorem fr_one {c d : Cv} {bs : List Int} (hc : Rn.chk c.e c.n c.l = 0) (hd : Rn.chk d.e d.n d.l = 0) (h : fr c <+: bs) (h' : fr d <+: bs) : c = d := by
  obtain ⟨e1, e2, e3⟩ := Rn.encR_one hd hc (bs := rec c) (Fm.frm_one h' h ▸ List.prefix_rfl) List.prefix_rfl
  cases c
  cases d
  simp only at e1 e2 e3
  rw [e1, e2, e3]

/-- What Scan answers behind a number: runs that follow, one behind the other, and none behind them. -/
def Lg (nu : Int) (bs : List Int) (l : List Cv) : Prop :=
  Good nu l ∧ lgb l <+: bs ∧ ∀ c, Good (lastN nu l) [c] → ¬ fr c <+: bs.drop (lgb l).length

theorem good_cons {nu : Int} {c : Cv} {l : List Cv} : Good nu (c :: l) ↔ Good nu [c] ∧ Good c.n l := by
  have := good_app [c] l nu
  rw [List.singleton_append] at this
  exact this

theorem good_chk {nu : Int} {c : Cv} {l : List Cv} (h : Good nu (c :: l)) : Rn.chk c.e c.n c.l = 0 := h.1

theorem lg_tail {nu : Int} {bs : List Int} {c : Cv} {l : List Cv} (h : Lg nu bs (c :: l)) : Good nu [c] ∧ fr c <+: bs ∧ Lg c.n (bs.drop (fr c).length) l := by
  obtain ⟨h1, h2, h3⟩ := h
  rw [lgb_cons] at h2
  obtain ⟨g1, g2⟩ := good_cons.1 h1
  refine ⟨g1, (List.prefix_append _ _).trans h2, g2, Fm.drop_pre h2, fun d hd => ?_⟩
  rw [List.drop_drop, ← List.length_append, ← lgb_cons]
  exact h3 d hd

theorem lg_one : ∀ {l m : List Cv} {nu : Int} {bs : List Int}, Lg nu bs l → Lg nu bs m → l = m
  | [], [], _, _, _, _ => rfl
  | [], c :: m, nu, bs, h, h' => by
    obtain ⟨h1, h2, _⟩ := lg_tail h'
    exact absurd h2 (h.2.2 c h1)
  | c :: l, [], nu, bs, h, h' => by
    obtain ⟨h1, h2, _⟩ := lg_tail h
    exact absurd h2 (h'.2.2 c h1)
  | c :: l, d :: m, nu, bs, h, h' => by
    obtain ⟨h1, h2, h3⟩ := lg_tail h
    obtain ⟨g1, g2, g3⟩ := lg_tail h'
    have e := fr_one (good_chk h1) (good_chk g1) h2 g2
    subst e
    rw [lg_one h3 g3]

theorem lg_cons {nu : Int} {bs : List Int} {c : Cv} {l : List Cv} (h1 : Good nu [c]) (h2 : fr c <+: bs) (h3 : Lg c.n (bs.drop (fr c).length) l) : Lg nu bs (c :: l) := by
  obtain ⟨g1, g2, g3⟩ := h3
  refine ⟨good_cons.2 ⟨h1, g1⟩, Fm.pre_drop h2 g2, fun d hd => ?_⟩
  have := g3 d hd
  rw [List.drop_drop, ← List.length_append, ← lgb_cons] at this
  exact this

theorem lg_is (nu : Int) (bs : List Int) : ∃ l, Lg nu bs l := by
  suffices h : ∀ n (nu : Int) (bs : List Int), bs.length ≤ n → ∃ l, Lg nu bs l from h _ nu bs (Nat.le_refl _)
  intro n
  induction n with
  | zero =>
    intro nu bs hb
    refine ⟨[], trivial, List.nil_prefix, fun c _ h => ?_⟩
    have h1 := h.length_le
    have h2 := fr_pos c
    rw [List.length_drop] at h1
    omega
  | succ n ih =>
    intro nu bs hb
    by_cases h : ∃ c, Good nu [c] ∧ fr c <+: bs
    · obtain ⟨c, h1, h2⟩ := h
      have hp := fr_pos c
      obtain ⟨l, hl⟩ := ih c.n (bs.drop (fr c).length) (by rw [List.length_drop]; omega)
      exact ⟨c :: l, lg_cons h1 h2 hl⟩
    · exact ⟨[], trivial, List.nil_prefix, fun c h1 h2 => h ⟨c, h1, h2⟩⟩

/-- Runs' own bytes. -/
theorem lg_self {nu : Int} {l : List Cv} (h : Good nu l) : Lg nu (lgb l) l := by
  refine ⟨h, List.prefix_rfl, fun c _ k => ?_⟩
  have h1 := k.length_le
  have h2 := fr_pos c
  rw [List.drop_length, List.length_nil] at h1
  omega

/-- What begins with a log is read as one that begins with it. -/
theorem lg_has : ∀ {l m : List Cv} {nu : Int} {bs : List Int}, Good nu l → lgb l <+: bs → Lg nu bs m → l <+: m
  | [], _, _, _, _, _, _ => List.nil_prefix
  | c :: l, [], nu, bs, h, h2, hm => by
    exact absurd ((List.prefix_append _ _).trans h2) (hm.2.2 c (good_cons.1 h).1)
  | c :: l, d :: m, nu, bs, h, h2, hm => by
    obtain ⟨g1, g2, g3⟩ := lg_tail hm
    rw [lgb_cons] at h2
    have e := fr_one (good_chk h) (good_chk g1) ((List.prefix_append _ _).trans h2) g2
    subst e
    have := lg_has (good_cons.1 h).2 (Fm.drop_pre h2) g3
    exact List.cons_prefix_cons.2 ⟨rfl, this⟩

/-- A first part of a log's bytes is read as a first part of it. -/
theorem lg_in : ∀ {l m : List Cv} {nu : Int} {bs : List Int}, Good nu l → bs <+: lgb l → Lg nu bs m → m <+: l
  | _, [], _, _, _, _, _ => List.nil_prefix
  | [], d :: m, nu, bs, h, h2, hm => by
    obtain ⟨_, g2, _⟩ := lg_tail hm
    have h1 := (g2.trans h2).length_le
    have h3 := fr_pos d
    have h4 : (lgb []).length = 0 := rfl
    omega
  | c :: l, d :: m, nu, bs, h, h2, hm => by
    obtain ⟨g1, g2, g3⟩ := lg_tail hm
    rw [lgb_cons] at h2
    have e := fr_one (good_chk h) (good_chk g1) (List.prefix_append _ _) (g2.trans h2)
    subst e
    obtain ⟨t, rfl⟩ := g2
    rw [List.drop_left] at g3
    have ht : t <+: lgb l := by
      obtain ⟨u, hu⟩ := h2
      rw [List.append_assoc] at hu
      exact ⟨u, List.append_cancel_left hu⟩
    exact List.cons_prefix_cons.2 ⟨rfl, lg_in (good_cons.1 h).2 ht g3⟩

/-- Its first runs. -/
theorem lgb_take (l : List Cv) (k : Nat) : lgb (l.take k) = (lgb l).take (lgb (l.take k)).length := by
  have : lgb l = lgb (l.take k) ++ lgb (l.drop k) := by rw [← lgb_app, List.take_append_drop]
  rw [this, List.take_left]

/-- Read again, cut to its good length: the same. -/
theorem lg_again {nu : Int} {bs : List Int} {l : List Cv} (h : Lg nu bs l) : bs.take (lgb l).length = lgb l ∧ Lg nu (bs.take (lgb l).length) l := by
  have e : bs.take (lgb l).length = lgb l := by
    obtain ⟨t, ht⟩ := h.2.1
    rw [← ht, List.take_left]
  rw [e]
  exact ⟨rfl, lg_self h.1⟩

/-- What file 2 holds. -/
def hld (st : Ds) : List Int := hold 2 (st.sure 2) st.wait

/-- Nothing is cut in what is pending. -/
def App (l : List Rw) : Prop := ∀ r ∈ l, r.cut = false

theorem app_nil : App [] := fun r h => by simp at h
theorem app_snoc {l : List Rw} {r : Rw} (h : App l) (hr : r.cut = false) : App (l ++ [r]) := fun x hx => by
  rcases List.mem_append.1 hx with hx | hx
  · exact h x hx
  · rw [List.mem_singleton.1 hx]; exact hr

theorem hold_grows : ∀ (l : List Rw) (b : List Int) (f : Nat), App l → b <+: hold f b l
  | [], b, _, _ => List.prefix_rfl
  | r :: l, b, f, h => by
    have ih := hold_grows l (if r.file = f then wth b r else b) f (fun x hx => h x (List.mem_cons_of_mem _ hx))
    refine List.IsPrefix.trans ?_ ih
    split
    · unfold wth
      rw [h r List.mem_cons_self]
      exact List.prefix_append _ _
    · exact List.prefix_rfl

/-- A pull leaves what is durable, and of what is pending a first part. -/
theorem kept_in {st : Ds} (h : App st.wait) (k t : Nat) : st.sure 2 <+: kept st k t 2 ∧ kept st k t 2 <+: hld st := by
  have h1 : App (st.wait.take k) := fun r hr => h r (List.mem_of_mem_take hr)
  have a1 := hold_grows (st.wait.take k) (st.sure 2) 2 h1
  have e1 : hld st = hold 2 (hold 2 (st.sure 2) (st.wait.take k)) (st.wait.drop k) := by
    unfold hld
    rw [← hold_app, List.take_append_drop]
  unfold kept
  cases hr : st.wait[k]? with
  | none =>
    simp only
    rw [← hold_dof]
    refine ⟨a1, ?_⟩
    rw [e1]
    exact hold_grows _ _ _ (fun r hr => h r (List.mem_of_mem_drop hr))
  | some r =>
    have hlt := (List.getElem?_eq_some_iff.1 hr).1
    have hrr := (List.getElem?_eq_some_iff.1 hr).2
    have hc := h r (List.mem_of_getElem? hr)
    have e2 : st.wait.drop k = r :: st.wait.drop (k + 1) := by rw [List.drop_eq_getElem_cons hlt, hrr]
    have h2 : App (st.wait.drop (k + 1)) := fun x hx => h x (List.mem_of_mem_drop hx)
    simp only [hc, Bool.false_eq_true, if_false]
    rw [e2, hold] at e1
    unfold one
    by_cases hf : r.file = 2
    · rw [hf, upd_same, ← hold_dof]
      rw [if_pos hf] at e1
      have e3 : wth (hold 2 (st.sure 2) (st.wait.take k)) ⟨2, false, 0, r.bytes.take (min t (r.bytes.length - 1))⟩ = hold 2 (st.sure 2) (st.wait.take k) ++ r.bytes.take (min t (r.bytes.length - 1)) := rfl
      have e4 : wth (hold 2 (st.sure 2) (st.wait.take k)) r = hold 2 (st.sure 2) (st.wait.take k) ++ r.bytes := by
        unfold wth
        rw [hc]
        rfl
      rw [e3]
      refine ⟨a1.trans (List.prefix_append _ _), ?_⟩
      rw [e1, e4]
      refine List.IsPrefix.trans ?_ (hold_grows _ _ _ h2)
      exact (List.prefix_append_right_inj _).2 (List.take_prefix _ _)
    · rw [upd_other (fun e => hf e.symm), ← hold_dof]
      rw [if_neg hf] at e1
      refine ⟨a1, ?_⟩
      rw [e1]
      exact hold_grows _ _ _ h2

theorem hld_push {st : Ds} (bs : List Int) : hld (push (burn st) ⟨2, false, 0, bs⟩) = hld st ++ bs := by
  unfold hld push burn
  simp only
  rw [hold_snoc]
  simp [wth]

/-- What a Write to file 2 leaves. -/
theorem wrt_is : ∀ (n : Nat) (st : Ds) (bs : List Int), bs.length ≤ n → App st.wait → st.on = true →
    ((wrt 2 n st bs).1 = 0 ∧ (wrt 2 n st bs).2.on = true ∧ hld (wrt 2 n st bs).2 = hld st ++ bs ∨
      (wrt 2 n st bs).1 = 6 ∧ (wrt 2 n st bs).2.on = false ∧ hld st <+: hld (wrt 2 n st bs).2 ∧ hld (wrt 2 n st bs).2 <+: hld st ++ bs) ∧
    (wrt 2 n st bs).2.sure = st.sure ∧ App (wrt 2 n st bs).2.wait
  | 0, st, bs, hb, ha, ho => by
    have : bs = [] := List.eq_nil_of_length_eq_zero (by omega)
    subst this
    exact ⟨.inl ⟨rfl, ho, by simp [wrt]⟩, rfl, ha⟩
  | n + 1, st, bs, hb, ha, ho => by
    unfold wrt
    by_cases h0 : bs = []
    · subst h0
      rw [if_pos rfl]
      exact ⟨.inl ⟨rfl, ho, by simp⟩, rfl, ha⟩
    · rw [if_neg h0]
      have hp : 1 ≤ bs.length := by
        rcases bs with _ | ⟨x, bs⟩
        · exact absurd rfl h0
        · simp
      cases hoff : off st with
      | true => exact ⟨.inr ⟨rfl, rfl, List.prefix_rfl, List.prefix_append _ _⟩, rfl, ha⟩
      | false =>
        have ih := wrt_is n (push (burn st) ⟨2, false, 0, bs.take 64⟩) (bs.drop 64) (by rw [List.length_drop]; omega) (app_snoc ha rfl) ho
        rw [hld_push, List.append_assoc, List.take_append_drop] at ih
        obtain ⟨h1, h2, h3⟩ := ih
        refine ⟨?_, h2, h3⟩
        rcases h1 with h1 | ⟨g1, g2, g3, g4⟩
        · exact .inl h1
        · exact .inr ⟨g1, g2, (List.prefix_append _ _).trans g3, g4⟩

theorem write_is {st : Ds} (bs : List Int) (ha : App st.wait) (ho : st.on = true) :
    ((write st 2 bs).1 = 0 ∧ (write st 2 bs).2.on = true ∧ hld (write st 2 bs).2 = hld st ++ bs ∨
      (write st 2 bs).1 = 6 ∧ (write st 2 bs).2.on = false ∧ hld st <+: hld (write st 2 bs).2 ∧ hld (write st 2 bs).2 <+: hld st ++ bs) ∧
    (write st 2 bs).2.sure = st.sure ∧ App (write st 2 bs).2.wait := by
  have e : write st 2 bs = wrt 2 bs.length st bs := by
    unfold write
    rw [if_neg (by simp [ho]), if_neg (by decide)]
    rfl
  rw [e]
  exact wrt_is _ st bs (Nat.le_refl _) ha ho

/-- What a Sync leaves. -/
theorem sync_is {st : Ds} (ha : App st.wait) (ho : st.on = true) :
    (sync st).1 = 0 ∧ (sync st).2.on = true ∧ (sync st).2.sure 2 = hld st ∧ hld (sync st).2 = hld st ∧ (sync st).2.wait = [] ∨
      (sync st).1 = 6 ∧ (sync st).2.on = false ∧ (sync st).2.sure = st.sure ∧ hld (sync st).2 = hld st ∧ App (sync st).2.wait := by
  unfold sync
  rw [if_neg (by simp [ho])]
  cases hoff : off st with
  | true => exact .inr ⟨rfl, rfl, rfl, rfl, ha⟩
  | false =>
    have e : (flush (burn st)).sure 2 = hld st := by
      show dof st.sure st.wait 2 = hld st
      rw [← hold_dof]
      rfl
    exact .inl ⟨rfl, ho, e, e, rfl⟩


/-- The state of runs: the disk, what is known, is it broken? -/
structure Rs where
  d : Ds
  l : List Cv
  bk : Bool

/-- What trim answers, and what it leaves. -/
def trm (d : Ds) (good : Nat) : Int × Ds :=
  if (hld d).length = good then (0, d) else if (cutD d 2 good).1 ≠ 0 then (6, (cutD d 2 good).2) else if (sync (cutD d 2 good).2).1 ≠ 0 then (6, (sync (cutD d 2 good).2).2) else (0, (sync (cutD d 2 good).2).2)

def ask (s : Rs) : Bool := s.bk || !s.d.on
def brk (s : Rs) : Rs := ⟨s.d, s.l, true⟩

/-- What is written and synced. -/
def ext (d : Ds) (bs : List Int) : Int × Ds := if (write d 2 bs).1 ≠ 0 then write d 2 bs else sync (write d 2 bs).2

/-- Flush. -/
def flu (s : Rs) (c : Cv) : Int × Rs :=
  if ask s then (6, brk s) else if Rn.chk c.e c.n c.l ≠ 0 then (Rn.chk c.e c.n c.l, s) else if c.e - 1 ≠ lastN 0 s.l then (15, s)
  else if (ext s.d (fr c)).1 ≠ 0 then ((ext s.d (fr c)).1, ⟨(ext s.d (fr c)).2, s.l, true⟩) else (0, ⟨(ext s.d (fr c)).2, s.l ++ [c], false⟩)

theorem flu_good {s : Rs} {c : Cv} (h : Good 0 s.l) : Good 0 (flu s c).2.l := by
  unfold flu
  split
  · exact h
  split
  · exact h
  split
  · exact h
  split
  · exact h
  · rename_i h1 h2 _
    exact (good_snoc h).2 ⟨by simpa using h1, by simpa using h2⟩

theorem sync_e (st : Ds) : (sync st).1 = 0 ∨ (sync st).1 = 6 := by
  unfold sync
  split
  · exact .inr rfl
  split
  · exact .inr rfl
  · exact .inl rfl

theorem wrt_e : ∀ (n : Nat) (st : Ds) (bs : List Int), (wrt 2 n st bs).1 = 0 ∨ (wrt 2 n st bs).1 = 6
  | 0, _, _ => .inl rfl
  | n + 1, st, bs => by
    unfold wrt
    split
    · exact .inl rfl
    split
    · exact .inr rfl
    · exact wrt_e n _ _

theorem write_e {st : Ds} (bs : List Int) : (write st 2 bs).1 = 0 ∨ (write st 2 bs).1 = 6 := by
  unfold write
  split
  · exact .inr rfl
  split
  · rename_i h
    simp [inF] at h
  · exact wrt_e _ _ _

theorem ext_e (st : Ds) (bs : List Int) : (ext st bs).1 = 0 ∨ (ext st bs).1 = 6 := by
  unfold ext
  split
  · exact write_e bs
  · exact sync_e _

/-- While the disk is on: all was flushed. -/
structure Kin (s : Rs) (all : List Cv) : Prop where
  on : s.d.on = true
  bk : s.bk = false
  l : s.l = all
  good : Good 0 all
  wait : s.d.wait = []
  sure : s.d.sure 2 = lgb all

/-- At the end. -/
structure Kend (d : Ds) (sure all : List Cv) : Prop where
  good : Good 0 all
  app : App d.wait
  hld : hld d <+: lgb all
  dur : lgb sure <+: d.sure 2
  gs : Good 0 sure

theorem Kin.hld {s : Rs} {all : List Cv} (h : Kin s all) : hld s.d = lgb all := by unfold Rl.hld; rw [h.wait, h.sure]; rfl

theorem Kin.fin {s : Rs} {all : List Cv} (h : Kin s all) : Kend s.d all all := ⟨h.good, by rw [h.wait]; exact app_nil, by rw [h.hld]; exact List.prefix_rfl, by rw [h.sure]; exact List.prefix_rfl, h.good⟩

theorem kin_ask {s : Rs} {all : List Cv} (h : Kin s all) : ask s = false := by unfold ask; rw [h.bk, h.on]; rfl

/-- A Flush of a run that follows. -/
theorem kin_flu {s : Rs} {all : List Cv} (h : Kin s all) (c : Cv) (h1 : Rn.chk c.e c.n c.l = 0) (h2 : c.e - 1 = lastN 0 all) :
    ((flu s c).1 = 0 ∧ Kin (flu s c).2 (all ++ [c])) ∨ ((flu s c).1 = 6 ∧ (flu s c).2.d.on = false ∧ (flu s c).2.l = all ∧ Kend (flu s c).2.d all (all ++ [c])) := by
  have hl := h.l
  have hg : Good 0 (all ++ [c]) := (good_snoc h.good).2 ⟨h1, h2⟩
  have hb : lgb (all ++ [c]) = Rl.hld s.d ++ fr c := by rw [lgb_app, lgb_one, h.hld]
  have ha : App s.d.wait := by rw [h.wait]; exact app_nil
  unfold flu
  rw [kin_ask h]
  simp only [Bool.false_eq_true, if_false]
  rw [if_neg (by simp [h1]), if_neg (by rw [hl]; simp [h2])]
  unfold ext
  obtain ⟨w1, w2, w3⟩ := write_is (fr c) ha h.on
  rcases w1 with ⟨g1, g2, g3⟩ | ⟨g1, g2, g3, g4⟩
  · rw [if_neg (by simp [g1] : ¬ (write s.d 2 (fr c)).1 ≠ 0)]
    rcases sync_is w3 g2 with ⟨k1, k2, k3, k4, k5⟩ | ⟨k1, k2, k3, k4, k5⟩
    · rw [if_neg (by simp [k1])]
      exact .inl ⟨rfl, k2, rfl, by rw [hl], hg, k5, by rw [k3, g3, hb]⟩
    · rw [if_pos (by simp [k1])]
      exact .inr ⟨k1, k2, hl, hg, k5, by rw [k4, g3, hb]; exact List.prefix_rfl, by rw [k3, w2, h.sure]; exact List.prefix_rfl, h.good⟩
  · rw [if_pos (by simp [g1] : (write s.d 2 (fr c)).1 ≠ 0), if_pos (by simp [g1])]
    exact .inr ⟨g1, g2, hl, hg, w3, by rw [hb]; exact g4, by rw [w2, h.sure]; exact List.prefix_rfl, h.good⟩

/-- Pulled and started: what is read then. -/
theorem kend_start {d : Ds} {sure all m : List Cv} {k t : Nat} (h : Kend d sure all) (hm : Lg 0 (kept d k t 2) m) : sure <+: m ∧ m <+: all := by
  obtain ⟨a, b⟩ := kept_in h.app k t
  exact ⟨lg_has h.gs (h.dur.trans a) hm, lg_in h.good (b.trans h.hld) hm⟩

theorem kend_same {d : Ds} {all m : List Cv} {k t : Nat} (h : Kend d all all) (hm : Lg 0 (kept d k t 2) m) : m = all := by
  obtain ⟨a, b⟩ := kend_start h hm
  exact b.eq_of_length (Nat.le_antisymm b.length_le a.length_le)

theorem kend_two {d : Ds} {all m : List Cv} {c : Cv} {k t : Nat} (h : Kend d all (all ++ [c])) (hm : Lg 0 (kept d k t 2) m) : m = all ∨ m = all ++ [c] := by
  obtain ⟨a, b⟩ := kend_start h hm
  obtain ⟨r, rfl⟩ := a
  have hr := (List.prefix_append_right_inj all).1 b
  rcases r with _ | ⟨x, r⟩
  · exact .inl (by simp)
  · have := hr.length_le
    simp at this
    subst this
    have := hr.eq_of_length rfl
    exact .inr (by rw [this])

/-- Without a fuse nothing goes wrong. -/
theorem wrt_safe : ∀ (n : Nat) (st : Ds) (bs : List Int), st.has = false → (wrt 2 n st bs).1 = 0 ∧ (wrt 2 n st bs).2.has = false ∧ (wrt 2 n st bs).2.on = st.on
  | 0, _, _, h => ⟨rfl, h, rfl⟩
  | n + 1, st, bs, h => by
    unfold wrt
    split
    · exact ⟨rfl, h, rfl⟩
    · rw [if_neg (by simp [off, h])]
      exact wrt_safe n _ _ h

theorem ext_safe {st : Ds} (bs : List Int) (ho : st.on = true) (hf : st.has = false) : (ext st bs).1 = 0 ∧ (ext st bs).2.has = false := by
  have e : write st 2 bs = wrt 2 bs.length st bs := by
    unfold write
    rw [if_neg (by simp [ho]), if_neg (by decide)]
    rfl
  obtain ⟨h1, h2, h3⟩ := wrt_safe bs.length st bs hf
  unfold ext
  rw [e, if_neg (by simp [h1])]
  unfold sync
  rw [if_neg (by simp [h3, ho]), if_neg (by simp [off, h2])]
  exact ⟨rfl, h2⟩

theorem flu_safe {s : Rs} {all : List Cv} (h : Kin s all) (hf : s.d.has = false) (c : Cv) (h1 : Rn.chk c.e c.n c.l = 0) (h2 : c.e - 1 = lastN 0 all) : (flu s c).1 = 0 ∧ Kin (flu s c).2 (all ++ [c]) ∧ (flu s c).2.d.has = false := by
  obtain ⟨g1, g2⟩ := ext_safe (fr c) h.on hf
  have e : flu s c = (0, ⟨(ext s.d (fr c)).2, s.l ++ [c], false⟩) := by
    unfold flu
    rw [kin_ask h]
    simp only [Bool.false_eq_true, if_false]
    rw [if_neg (by simp [h1]), if_neg (by rw [h.l]; simp [h2]), if_neg (by simp [g1])]
  have hk := kin_flu h c h1 h2
  rw [e] at hk ⊢
  rcases hk with ⟨_, hk⟩ | ⟨hk, _⟩
  · exact ⟨rfl, hk, g2⟩
  · simp at hk

/-- Without a fuse the torn end is cut off. -/
theorem trm_is {st : Ds} {m : List Cv} (ho : st.on = true) (hf : st.has = false) (h : Lg 0 (hld st) m) : (trm st (lgb m).length).1 = 0 ∧ hld (trm st (lgb m).length).2 = lgb m ∧ (trm st (lgb m).length).2.on = true ∧ (trm st (lgb m).length).2.has = false := by
  have e := (lg_again h).1
  unfold trm
  by_cases hl : (hld st).length = (lgb m).length
  · rw [if_pos hl]
    refine ⟨rfl, ?_, ho, hf⟩
    rw [← e, ← hl, List.take_length]
  · rw [if_neg hl]
    have hle := h.2.1.length_le
    have hc : cutD st 2 (lgb m).length = (0, push (burn st) ⟨2, true, (lgb m).length, []⟩) := by
      unfold cutD
      rw [if_neg (by simp [ho]), if_neg (by decide), if_neg ?_, if_neg (by simp [off, hf])]
      · rfl
      · unfold hld at hle
        simp
        omega
    have hh : hld (push (burn st) ⟨2, true, (lgb m).length, []⟩) = lgb m := by
      have : hld (push (burn st) ⟨2, true, (lgb m).length, []⟩) = (hld st).take (lgb m).length := by
        unfold hld push burn
        simp only
        rw [hold_snoc]
        simp [wth]
      rw [this, e]
    have hs : sync (push (burn st) ⟨2, true, (lgb m).length, []⟩) = (0, flush (burn (push (burn st) ⟨2, true, (lgb m).length, []⟩))) := by
      unfold sync
      rw [if_neg (by simp [push, burn, ho]), if_neg (by simp [off, push, burn, hf])]
    rw [hc]
    simp only
    rw [hs]
    have hfl : ∀ s : Ds, hld (flush s) = hld s := fun s => by
      show dof s.sure s.wait 2 = hold 2 (s.sure 2) s.wait
      rw [hold_dof]
    have hbu : ∀ s : Ds, hld (burn s) = hld s := fun _ => rfl
    exact ⟨rfl, (hfl _).trans ((hbu _).trans hh), ho, hf⟩

end Rl
end Go.Proofs.YthmecljkackmbaaGreat

/- What the last op on a key among runs is: what a table tells to which all ops were applied. No program. -/
namespace Go.Proofs.YthmecljkackmbaaGreat
set_option linter.unusedVariables false
namespace Rl
open Bm
open Cm (Cv)

theorem get_one {t : List Ov} (o : Ov) (k : ByteArray) (h : Tm.Up t) : Tm.get (Tm.one t o) k = if o.k = k then some o else Tm.get t k := by
  have hu := Tm.up_one o h
  by_cases hk : o.k = k
  · rw [if_pos hk, ← hk]
    exact Tm.get_mem hu ((Tm.mem_one o o h).2 (.inl rfl))
  · rw [if_neg hk]
    cases hg : Tm.get t k with
    | none =>
      refine List.find?_eq_none.2 fun x hx => ?_
      rcases (Tm.mem_one o x h).1 hx with rfl | ⟨hx, _⟩
      · simpa using hk
      · simpa using Tm.get_none hg x hx
    | some x =>
      obtain ⟨hx, rfl⟩ := Tm.get_some hg
      exact Tm.get_mem hu ((Tm.mem_one o x h).2 (.inr ⟨hx, fun e => hk e.symm⟩))

theorem get_cons (o : Ov) (l : List Ov) (k : ByteArray) : Tm.get (o :: l) k = if o.k = k then some o else Tm.get l k := by
  unfold Tm.get
  rw [List.find?_cons]
  by_cases h : o.k = k <;> simp [h]

theorem get_app : ∀ (l t : List Ov) (k : ByteArray), Tm.Up t → Tm.Up l → Tm.get (Tm.app t l) k = match Tm.get l k with | some o => some o | none => Tm.get t k
  | [], t, k, _, _ => rfl
  | o :: l, t, k, ht, hl => by
    obtain ⟨h1, h2⟩ := List.pairwise_cons.1 hl
    rw [Tm.app_cons, get_app l (Tm.one t o) k (Tm.up_one o ht) h2, get_cons, get_one o k ht]
    by_cases hk : o.k = k
    · rw [if_pos hk, if_pos hk]
      have : Tm.get l k = none := List.find?_eq_none.2 fun x hx => by
        have := Tm.lt_ne (h1 x hx)
        simp
        intro e
        exact this (hk.trans e.symm)
      rw [this]
    · rw [if_neg hk, if_neg hk]

/-- All runs' ops, and the table of them. -/
def ops (l : List Cv) : List Ov := l.flatMap Cv.l
def tab (l : List Cv) : List Ov := Tm.app [] (ops l)

theorem ops_snoc (l : List Cv) (c : Cv) : ops (l ++ [c]) = ops l ++ c.l := by simp [ops]
theorem up_nil : Tm.Up [] := List.Pairwise.nil
theorem up_tab (l : List Cv) : Tm.Up (tab l) := Tm.up_app _ up_nil
theorem tab_snoc (l : List Cv) (c : Cv) : tab (l ++ [c]) = Tm.app (tab l) c.l := by unfold tab; rw [ops_snoc, Tm.app_app]

theorem good_up {l : List Cv} {nu : Int} (h : Good nu l) : ∀ c ∈ l, Tm.Up c.l ∧ (∀ o ∈ c.l, o.c = 0) ∧ c.l.length ≤ 1024 := fun c hc => by
  obtain ⟨h1, _, _, _, h5⟩ := Rn.chk_zero (good_all h c hc)
  exact ⟨(Rn.may_up h5).1, Rn.may_c h5, h1⟩

theorem tab_next {l : List Cv} {c : Cv} {n : Nat} (k : ByteArray) (hu : Tm.Up c.l) (hc : l[n]? = some c) : Tm.get (tab (l.take (n + 1))) k = match Tm.get c.l k with | some o => some o | none => Tm.get (tab (l.take n)) k := by
  have e : l.take (n + 1) = l.take n ++ [c] := by
    obtain ⟨h1, h2⟩ := List.getElem?_eq_some_iff.1 hc
    rw [List.take_add_one, hc]
    rfl
  rw [e, tab_snoc, get_app _ _ _ (up_tab _) hu]

theorem ops_c {l : List Cv} {nu : Int} (h : Good nu l) : ∀ o ∈ ops l, o.c = 0 := fun o ho => by
  obtain ⟨c, hc, ho⟩ := List.mem_flatMap.1 ho
  exact (good_up h c hc).2.1 o ho

theorem ops_len : ∀ {l : List Cv} {n : Nat}, (∀ c ∈ l, c.l.length ≤ n) → (ops l).length ≤ l.length * n
  | [], _, _ => by simp [ops]
  | c :: l, n, h => by
    have h1 := ops_len fun d hd => h d (List.mem_cons_of_mem _ hd)
    have h2 := h c List.mem_cons_self
    have e : ops (c :: l) = c.l ++ ops l := by simp [ops]
    rw [e, List.length_append, List.length_cons, Nat.succ_mul]
    omega

end Rl
end Go.Proofs.YthmecljkackmbaaGreat

/- 'append' to a row of the call's own, where the sum passes the library's bound a little. -/
namespace Go.Proofs.YthmecljkackmbaaGreat
set_option linter.unusedVariables false

theorem nsc_le {need old : Nat} (h : old < need) : Builtin.nextslicecap need old ≤ need + need / 4 + 512 := by
  unfold Builtin.nextslicecap
  split
  · omega
  · split
    · omega
    · rw [growBy_four]
      repeat' split
      all_goals omega

theorem nsc_fits {need old bytes : Nat} (h : old < need) (h1 : bytes ≤ 65536) (hb : need * bytes ≤ 150000000000000) : Builtin.nextslicecap need old * bytes ≤ 281474976710656 := by
  refine Nat.le_trans (Nat.mul_le_mul_right bytes (nsc_le h)) ?_
  have e1 : (need + need / 4 + 512) * bytes = need * bytes + need / 4 * bytes + 512 * bytes := by rw [Nat.add_mul, Nat.add_mul]
  have e2 : 4 * (need / 4 * bytes) ≤ need * bytes := by
    rw [← Nat.mul_assoc]
    exact Nat.mul_le_mul_right bytes (Nat.mul_div_le need 4)
  omega

/-- A new array that holds the row, with what spare places the tape gives. -/
theorem own_new (w : World) {base : Nat} {e : TypeId} {size : Nat} (z : Array Value) (hz : z.size = size) (ys : List Value) (n cap : Nat) (hl : ys.length = n * size) (hc : n ≤ cap) (hm : cap ≤ maxLen) (hb : base ≤ w.heap.size) (cs : Array Value) (hcs : cs = ys.toArray ++ Builtin.zeroCells z (cap - n)) :
    (w.drew.alloc (.cells cs e)).ownsRow base e size (.slice (some ⟨w.heap.size, 0, none⟩) n cap) n ys := by
  subst hcs
  refine ⟨hl, .inr ⟨w.heap.size, cap, _, rfl, hb, heap_alloc_new w.drew _, hc, hm, ?_, ?_⟩⟩
  · rw [Array.size_append, List.size_toArray, size_zeroCells, hz, hl, ← Nat.add_mul]
    congr 1
    omega
  · rw [Array.toList_append, ← hl]
    exact List.take_left

theorem grown_new (w : World) (o : Obj) (row : Option Nat) : w.grownBy (w.drew.alloc o) row := ⟨rfl, rfl, rfl, by simp, fun k hk _ => heap_alloc_old w.drew o k hk⟩

theorem run_append_wide {P : Program} (w : World) (base : Nat) (t ty e : TypeId) (i : TypeInfo) (z : Value) (size bytes : Nat) (ht : P.underlying t = some (.slice e)) (hi : P.info? e = some i) (hz : i.zero = some z)
    (hsize : i.size = size) (hby : i.bytes = bytes) (hzs : z.cells.size = size) (hsz : 0 < size) (h16 : bytes ≤ 65536) (hb0 : 0 < bytes)
    (v : Value) (n : Nat) (xs : List Value) (hown : w.ownsRow base e size v n xs)
    (a : Addr) (m c : Nat) (news : List Value) (hl : news.length = m * size) (hnews : ∀ j u, news[j]? = some u → w.cell? (a.add j) = some u) (h1 : ∀ u ∈ news, u.oneCell' = true)
    (hbytes : (n + m) * bytes ≤ 150000000000000) (hbase : base ≤ w.heap.size) :
    ∃ v' w', (Builtin.append_ #[t, t] ty #[v, .slice (some a) m c]).run P w = .ok v' w' ∧ w'.ownsRow base e size v' (n + m) (xs ++ news) ∧ w.grownBy w' v.ownBlock := by
  have hnm : n + m ≤ 150000000000000 := Nat.le_trans (Nat.le_mul_of_pos_right _ hb0) hbytes
  have h63 : n + m ≤ maxLen := by unfold maxLen; omega
  by_cases hs : (n + m) * bytes ≤ 140737488355328
  · obtain ⟨v', w', r1, r2, r3, _⟩ := run_append_own (P := P) w base t ty e i z size bytes ht hi hz hsize hby hzs hsz v n xs hown a m c news hl hnews h1 h63 hs hbase
    exact ⟨v', w', r1, r2, r3⟩
  subst hsize
  subst hby
  have hlen : (xs ++ news).length = (n + m) * i.size := by rw [List.length_append, hown.1, hl, Nat.add_mul]
  rcases hown.2 with ⟨rfl, rfl⟩ | ⟨g, cap, cur, rfl, hbg, hg, hnc, hcm, hcs, htake⟩
  · have hx : xs = [] := List.eq_nil_of_length_eq_zero (by simpa using hown.1)
    subst hx
    rcases Nat.eq_zero_or_pos m with rfl | hm
    · simp at hs
    · have hr := run_append_nil (P := P) w t ty e i z ht hi hz a m c news hl hnews hm (by omega) (by rw [Nat.zero_add] at hbytes; omega)
      have e1 : 0 + m = m := Nat.zero_add m
      rw [e1, List.nil_append] at *
      exact ⟨_, _, hr, own_new w z.cells hzs news m _ hl (grownCap_ge w m 0 e) (grownCap_le_maxLen w m 0 e (by omega)) hbase _ rfl, grown_new _ _ _⟩
  · by_cases hroom : n + m ≤ cap
    · have hfit : n * i.size + news.length ≤ cur.size := by rw [hl, hcs, ← Nat.add_mul]; exact Nat.mul_le_mul_right _ hroom
      have hr := run_append_room (P := P) w t ty e i ht hi g n cap cur hg a m c news hl hnews h1 hroom hfit
      refine ⟨_, _, hr, ⟨hlen, .inr ⟨g, cap, _, rfl, hbg, setRow_heap w g cur _ e _ hg, hroom, hcm, ?_, ?_⟩⟩, ⟨rfl, rfl, rfl, by simp, fun k _ hk => setRow_other w g k _ fun ek => hk (by rw [ek]; rfl)⟩⟩
      · have : cur.toList.length = cap * i.size := by rw [Array.length_toList, hcs]
        have h3 : n * i.size ≤ cap * i.size := Nat.mul_le_mul_right _ hnc
        simp only [List.size_toArray, List.length_append, List.length_take, List.length_drop]
        omega
      · rw [htake, ← hlen]
        exact List.take_left
    · have hold := hown.cells (g := g) rfl
      have hr := run_append_grow (P := P) w t ty e i z ht hi hz ⟨g, 0, none⟩ n cap xs hown.1 hold a m c news hl hnews (by omega) (by omega) (nsc_fits (by omega) h16 hbytes)
      exact ⟨_, _, hr, own_new w z.cells hzs (xs ++ news) (n + m) _ hlen (grownCap_ge w (n + m) cap e) (grownCap_le_maxLen w (n + m) cap e h63) hbase _ (by simp), grown_new _ _ _⟩

theorem wp_append_wide {P : Program} (w : World) {o : Oper} {a : Act} {K : Act → World → Prop} {Q : Exit → Act → World → Prop} (s x : Operand) (t : TypeId)
    (ho : o.op = .call { callee := .builtin .append, args := #[s, x], argTypes := #[t, t] })
    (base : Nat) (e : TypeId) (i : TypeInfo) (z : Value) (size bytes : Nat) (ht : P.underlying t = some (.slice e)) (hi : P.info? e = some i) (hz : i.zero = some z)
    (hsize : i.size = size) (hby : i.bytes = bytes) (hzs : z.cells.size = size) (hsz : 0 < size) (h16 : 0 < bytes ∧ bytes ≤ 65536)
    (v : Value) (n : Nat) (xs : List Value) (hs : a.eval s = v) (hown : w.ownsRow base e size v n xs)
    (ad : Addr) (m c : Nat) (news : List Value) (hx : a.eval x = .slice (some ad) m c) (hl : news.length = m * size) (hnews : ∀ j u, news[j]? = some u → w.cell? (ad.add j) = some u) (h1 : ∀ u ∈ news, u.oneCell' = true)
    (hbytes : (n + m) * bytes ≤ 150000000000000) (hbase : base ≤ w.heap.size)
    (h : ∀ v' w', w'.ownsRow base e size v' (n + m) (xs ++ news) → w.grownBy w' v.ownBlock → K (a.put o.dst v') w') : o.wp P a w K Q := by
  obtain ⟨v', w', hr, h2, h3⟩ := run_append_wide (P := P) w base t o.type e i z size bytes ht hi hz hsize hby hzs hsz h16.2 h16.1 v n xs hown ad m c news hl hnews h1 hbytes hbase
  unfold Oper.wp execOp
  simp only [ho, resolve, invoke, builtin, Sem.run_bind, Sem.run_pure, Result.andThen_ok, List.map_toArray, List.map_cons, List.map_nil, hs, hx, hr]
  exact h v' w' h2 h3
end Go.Proofs.YthmecljkackmbaaGreat
