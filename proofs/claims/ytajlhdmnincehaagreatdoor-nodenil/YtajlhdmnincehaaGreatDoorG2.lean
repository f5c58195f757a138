/- Texts of one layer, one behind the other. -/
import Derived.Test.YtajlhdmnincehaaGreatDoorG1
/- The mathematics of a section that is written to a disk. No program. -/
namespace Go.Proofs.YtajlhdmnincehaaGreatDoor
set_option linter.unusedVariables false
namespace Orp
open Dm

/-- What file 3 holds. -/
def hl (st : Ds) : List Int := hold 3 (st.sure 3) st.wait

/-- Write. -/
def wr2 (st : Ds) (s : Se) : Int × Ds :=
  if (write st 3 (sec s)).1 ≠ 0 then (6, (write st 3 (sec s)).2) else if (sync (write st 3 (sec s)).2).1 ≠ 0 then (6, (sync (write st 3 (sec s)).2).2) else (0, (sync (write st 3 (sec s)).2).2)
def wr1 (st : Ds) (base : Int) (s : Se) : Int × Ds :=
  if base < (hl st).length then (if (cutD st 3 base).1 ≠ 0 then (6, (cutD st 3 base).2) else wr2 (cutD st 3 base).2 s) else wr2 st s
def wrS (st : Ds) (base : Int) (s : Se) : Int × Ds :=
  if st.on = false then (6, st) else if chk s ≠ 0 then (chk s, st) else if base < 0 ∨ ((hl st).length : Int) < base then (2, st) else wr1 st base s

theorem wrS_go {st : Ds} {base : Int} {s : Se} (h : st.on = true) (h2 : chk s = 0) (h3 : ¬ (base < 0 ∨ ((hl st).length : Int) < base)) : wrS st base s = wr1 st base s := by unfold wrS; rw [if_neg (by simp [h]), if_neg (by simp [h2]), if_neg h3]

theorem hl_push {st : Ds} (bs : List Int) : hl (push (burn st) ⟨3, false, 0, bs⟩) = hl st ++ bs := by
  unfold hl push burn
  simp only
  rw [hold_snoc]
  simp [wth]

theorem hl_cut {st : Ds} (n : Nat) : hl (push (burn st) ⟨3, true, n, []⟩) = (hl st).take n := by
  unfold hl push burn
  simp only
  rw [hold_snoc]
  simp [wth]


theorem wrt3 : ∀ (n : Nat) (st : Ds) (bs : List Int), bs.length ≤ n → st.on = true →
    ((wrt 3 n st bs).1 = 0 ∧ (wrt 3 n st bs).2.on = true ∧ hl (wrt 3 n st bs).2 = hl st ++ bs ∨ (wrt 3 n st bs).1 = 6 ∧ (wrt 3 n st bs).2.on = false) ∧
    (wrt 3 n st bs).2.sure = st.sure ∧ (∀ r ∈ (wrt 3 n st bs).2.wait, r ∈ st.wait ∨ r.cut = false) ∧ (st.has = false → (wrt 3 n st bs).1 = 0 ∧ (wrt 3 n st bs).2.has = false)
  | 0, st, bs, hb, ho => by
    have : bs = [] := List.eq_nil_of_length_eq_zero (by omega)
    subst this
    exact ⟨.inl ⟨rfl, ho, by simp [wrt]⟩, rfl, fun r hr => .inl hr, fun h => ⟨rfl, h⟩⟩
  | n + 1, st, bs, hb, ho => by
    unfold wrt
    by_cases h0 : bs = []
    · subst h0
      rw [if_pos rfl]
      exact ⟨.inl ⟨rfl, ho, by simp⟩, rfl, fun r hr => .inl hr, fun h => ⟨rfl, h⟩⟩
    · rw [if_neg h0]
      have hp : 1 ≤ bs.length := by
        rcases bs with _ | ⟨x, bs⟩
        · exact absurd rfl h0
        · simp
      cases hoff : off st with
      | true => exact ⟨.inr ⟨rfl, rfl⟩, rfl, fun r hr => .inl hr, fun h => by simp [off, h] at hoff⟩
      | false =>
        have ih := wrt3 n (push (burn st) ⟨3, false, 0, bs.take 64⟩) (bs.drop 64) (by rw [List.length_drop]; omega) ho
        rw [hl_push, List.append_assoc, List.take_append_drop] at ih
        obtain ⟨h1, h2, h3, h4⟩ := ih
        refine ⟨h1, h2, fun r hr => ?_, h4⟩
        rcases h3 r hr with h | h
        · rcases List.mem_append.1 (show r ∈ st.wait ++ [_] from h) with h | h
          · exact .inl h
          · rw [List.mem_singleton.1 h]; exact .inr rfl
        · exact .inr h

theorem write3 {st : Ds} (bs : List Int) (ho : st.on = true) : write st 3 bs = wrt 3 bs.length st bs := by
  unfold write
  rw [if_neg (by simp [ho]), if_neg (by decide)]
  rfl

/-- What the bytes of file 3 that stand ahead of all are, and that no cut goes into them. -/
structure Q (b0 : List Int) (st : Ds) : Prop where
  su : b0 <+: st.sure 3
  cu : ∀ r ∈ st.wait, r.file = 3 → r.cut = true → r.to = b0.length














/-- A section is written behind what stands, with or without a fuse. -/
theorem wr2_is {st : Ds} {s : Se} (ho : st.on = true) : ((wr2 st s).1 = 0 ∧ (wr2 st s).2.on = true ∧ (wr2 st s).2.sure 3 = hl st ++ sec s ∧ (wr2 st s).2.wait = [] ∨ (wr2 st s).1 = 6 ∧ (wr2 st s).2.on = false) ∧ (st.has = false → (wr2 st s).1 = 0 ∧ (wr2 st s).2.has = false) := by
  obtain ⟨h1, h2, h3, h4⟩ := wrt3 (sec s).length st (sec s) (Nat.le_refl _) ho
  unfold wr2
  rw [write3 _ ho]
  rcases h1 with ⟨g1, g2, g3⟩ | ⟨g1, g2⟩
  · rw [if_neg (by simp [g1])]
    cases hoff : off (wrt 3 (sec s).length st (sec s)).2 with
    | true =>
      have e : sync (wrt 3 (sec s).length st (sec s)).2 = (6, dark (wrt 3 (sec s).length st (sec s)).2) := by
        unfold sync
        rw [if_neg (by simp [g2]), if_pos hoff]
      rw [e, if_pos (by simp)]
      refine ⟨.inr ⟨rfl, rfl⟩, fun hh => ?_⟩
      have := (h4 hh).2
      simp [off, this] at hoff
    | false =>
      have e : sync (wrt 3 (sec s).length st (sec s)).2 = (0, flush (burn (wrt 3 (sec s).length st (sec s)).2)) := by
        unfold sync
        rw [if_neg (by simp [g2]), if_neg (by simp [hoff])]
      rw [e, if_neg (by simp)]
      refine ⟨.inl ⟨rfl, g2, ?_, rfl⟩, fun hh => ⟨rfl, (h4 hh).2⟩⟩
      rw [← g3]
      show dof _ _ 3 = _
      rw [← hold_dof]
      rfl
  · rw [if_pos (by simp [g1])]
    exact ⟨.inr ⟨rfl, g2⟩, fun hh => by rw [(h4 hh).1] at g1; simp at g1⟩

theorem wrS_is {st : Ds} {s : Se} {b0 : List Int} (ho : st.on = true) (hc : chk s = 0) (hb : b0 <+: hl st) :
    ((wrS st b0.length s).1 = 0 ∧ (wrS st b0.length s).2.on = true ∧ (wrS st b0.length s).2.sure 3 = b0 ++ sec s ∧ (wrS st b0.length s).2.wait = [] ∨ (wrS st b0.length s).1 = 6 ∧ (wrS st b0.length s).2.on = false) ∧
      (st.has = false → (wrS st b0.length s).1 = 0 ∧ (wrS st b0.length s).2.has = false) := by
  have hle := hb.length_le
  rw [wrS_go ho hc (by omega)]
  unfold wr1
  by_cases hlt : (b0.length : Int) < (hl st).length
  · rw [if_pos hlt]
    have hh : hl (push (burn st) ⟨3, true, b0.length, []⟩) = b0 := by
      rw [hl_cut]
      exact (List.prefix_iff_eq_take.1 hb).symm
    cases hoff : off st with
    | true =>
      have e : cutD st 3 b0.length = (6, dark st) := by
        unfold cutD
        rw [if_neg (by simp [ho]), if_neg (by decide), if_neg ?_, if_pos hoff]
        unfold hl at hlt
        simp
        omega
      rw [e, if_pos (by simp)]
      exact ⟨.inr ⟨rfl, rfl⟩, fun h => by simp [off, h] at hoff⟩
    | false =>
      have e : cutD st 3 b0.length = (0, push (burn st) ⟨3, true, b0.length, []⟩) := by
        unfold cutD
        rw [if_neg (by simp [ho]), if_neg (by decide), if_neg ?_, if_neg (by simp [hoff])]
        · rfl
        · unfold hl at hlt
          simp
          omega
      rw [e, if_neg (by simp)]
      have := wr2_is (st := push (burn st) ⟨3, true, b0.length, []⟩) (s := s) ho
      rw [hh] at this
      exact this
  · rw [if_neg hlt]
    have e : b0 = hl st := hb.eq_of_length (by omega)
    have := wr2_is (s := s) ho
    rw [← e] at this
    exact this

end Orp
end Go.Proofs.YtajlhdmnincehaaGreatDoor

/- A disk that is only written to, by mathematics: what its file 0 holds, what a pull leaves of it. No program. -/
namespace Go.Proofs.YtajlhdmnincehaaGreatDoor
set_option linter.unusedVariables false
namespace Wl
open Dm

/-- What file 0 holds. -/
def hld (st : Ds) : List Int := hold 0 (st.sure 0) st.wait

/-- Nothing is cut in what is pending. -/
def App (l : List Rw) : Prop := ∀ r ∈ l, r.cut = false

theorem app_nil : App [] := fun r h => by simp at h
theorem app_snoc {l : List Rw} {r : Rw} (h : App l) (hr : r.cut = false) : App (l ++ [r]) := fun x hx => by
  rcases List.mem_append.1 hx with hx | hx
  · exact h x hx
  · rw [List.mem_singleton.1 hx]; exact hr

theorem hold_grows : ∀ (l : List Rw) (b : List Int) (f : Nat), App l → b <+: hold f b l
  | [], b, _, _ => List.prefix_rfl
  | r :: l, b, f, h => by
    have ih := hold_grows l (if r.file = f then wth b r else b) f (fun x hx => h x (List.mem_cons_of_mem _ hx))
    refine List.IsPrefix.trans ?_ ih
    split
    · unfold wth
      rw [h r List.mem_cons_self]
      exact List.prefix_append _ _
    · exact List.prefix_rfl

/-- A pull leaves what is durable, and of what is pending a first part. -/
theorem kept_in {st : Ds} (h : App st.wait) (k t : Nat) : st.sure 0 <+: kept st k t 0 ∧ kept st k t 0 <+: hld st := by
  have h1 : App (st.wait.take k) := fun r hr => h r (List.mem_of_mem_take hr)
  have a1 := hold_grows (st.wait.take k) (st.sure 0) 0 h1
  have e1 : hld st = hold 0 (hold 0 (st.sure 0) (st.wait.take k)) (st.wait.drop k) := by
    unfold hld
    rw [← hold_app, List.take_append_drop]
  unfold kept
  cases hr : st.wait[k]? with
  | none =>
    simp only
    rw [← hold_dof]
    refine ⟨a1, ?_⟩
    rw [e1]
    exact hold_grows _ _ _ (fun r hr => h r (List.mem_of_mem_drop hr))
  | some r =>
    have hlt := (List.getElem?_eq_some_iff.1 hr).1
    have hrr := (List.getElem?_eq_some_iff.1 hr).2
    have hc := h r (List.mem_of_getElem? hr)
    have e2 : st.wait.drop k = r :: st.wait.drop (k + 1) := by rw [List.drop_eq_getElem_cons hlt, hrr]
    have h2 : App (st.wait.drop (k + 1)) := fun x hx => h x (List.mem_of_mem_drop hx)
    simp only [hc, Bool.false_eq_true, if_false]
    rw [e2, hold] at e1
    unfold one
    by_cases hf : r.file = 0
    · rw [hf, upd_same, ← hold_dof]
      rw [if_pos hf] at e1
      have e3 : wth (hold 0 (st.sure 0) (st.wait.take k)) ⟨0, false, 0, r.bytes.take (min t (r.bytes.length - 1))⟩ = hold 0 (st.sure 0) (st.wait.take k) ++ r.bytes.take (min t (r.bytes.length - 1)) := rfl
      have e4 : wth (hold 0 (st.sure 0) (st.wait.take k)) r = hold 0 (st.sure 0) (st.wait.take k) ++ r.bytes := by
        unfold wth
        rw [hc]
        rfl
      rw [e3]
      refine ⟨a1.trans (List.prefix_append _ _), ?_⟩
      rw [e1, e4]
      refine List.IsPrefix.trans ?_ (hold_grows _ _ _ h2)
      exact (List.prefix_append_right_inj _).2 (List.take_prefix _ _)
    · rw [upd_other (fun e => hf e.symm), ← hold_dof]
      rw [if_neg hf] at e1
      refine ⟨a1, ?_⟩
      rw [e1]
      exact hold_grows _ _ _ h2





end Wl
end Go.Proofs.YtajlhdmnincehaaGreatDoor

/- A wal over a disk, by mathematics: what its calls answer and leave, as the document says; what was synced is there again. No program. -/
namespace Go.Proofs.YtajlhdmnincehaaGreatDoor
set_option linter.unusedVariables false
namespace Wl
open Dm Cm

/-- A wal: its disk, the log that it knows, is it broken? -/
structure Ws where
  d : Ds
  l : List Cv
  bk : Bool

/-- The torn end is cut off, and synced. -/
def trm (d : Ds) (good : Nat) : Int × Ds :=
  if (hld d).length = good then (0, d) else if (cutD d 0 good).1 ≠ 0 then (6, (cutD d 0 good).2) else if (sync (cutD d 0 good).2).1 ≠ 0 then (6, (sync (cutD d 0 good).2).2) else (0, (sync (cutD d 0 good).2).2)

/-- Why nothing is done. -/
def ask (s : Ws) : Bool := s.bk || !s.d.on

def brk (s : Ws) : Ws := ⟨s.d, s.l, true⟩

def wapp (s : Ws) (c : Cv) : Int × Ws :=
  if ask s then (6, brk s) else if chk c.e c.n c.l ≠ 0 then (chk c.e c.n c.l, s) else if c.n - 1 ≠ s.l.length ∨ c.e < lastE 0 s.l then (15, s)
  else if (write s.d 0 (fr c)).1 ≠ 0 then ((write s.d 0 (fr c)).1, ⟨(write s.d 0 (fr c)).2, s.l, true⟩) else (0, ⟨(write s.d 0 (fr c)).2, s.l ++ [c], false⟩)

def wsyn (s : Ws) : Int × Ws := if ask s then (6, brk s) else ((sync s.d).1, ⟨(sync s.d).2, s.l, decide ((sync s.d).1 ≠ 0)⟩)


theorem good_lastN {l : List Cv} (h : Cm.Good 0 0 l) : lastN 0 l = l.length := by
  rcases List.eq_nil_or_concat l with rfl | ⟨r, c, rfl⟩
  · rfl
  · have hk : (r.concat c)[r.length]? = some c := by rw [List.concat_eq_append]; simp
    have := good_at (r.concat c) 0 0 r.length c h hk
    rw [List.concat_eq_append, (last_snoc r c 0 0).2, List.length_append, List.length_singleton]
    omega

theorem good_snoc {l : List Cv} {c : Cv} (h : Cm.Good 0 0 l) : Cm.Good 0 0 (l ++ [c]) ↔ chk c.e c.n c.l = 0 ∧ ¬ (c.n - 1 ≠ l.length ∨ c.e < lastE 0 l) := by
  rw [good_app]
  constructor
  · rintro ⟨_, h1, h2, h3, _⟩
    rw [good_lastN h] at h2
    exact ⟨h1, by omega⟩
  · rintro ⟨h1, h2⟩
    refine ⟨h, h1, ?_, ?_, trivial⟩
    · rw [good_lastN h]; omega
    · omega




theorem lgb_small : ∀ {l : List Cv} {ep nu : Int}, Cm.Good ep nu l → (lgb l).length ≤ 433 * l.length
  | [], _, _, _ => Nat.le_refl _
  | c :: l, ep, nu, h => by
    have h1 := fr_small (good_chk h)
    have h2 := lgb_small (good_cons.1 h).2
    rw [lgb_cons, List.length_append, List.length_cons]
    omega

/-- What was synced is there again, and what is there was appended. -/
theorem keeps {st : Ds} {all sure m : List Cv} {k t : Nat} (ha : App st.wait) (h1 : Cm.Good 0 0 all) (h2 : Cm.Good 0 0 sure) (h3 : lgb sure <+: st.sure 0) (h4 : hld st <+: lgb all) (h5 : Lg 0 0 (kept st k t 0) m) : sure <+: m ∧ m <+: all := by
  obtain ⟨a, b⟩ := kept_in ha k t
  exact ⟨lg_has h2 (h3.trans a) h5, lg_in h1 (b.trans h4) h5⟩


end Wl
end Go.Proofs.YtajlhdmnincehaaGreatDoor

/- Appends and syncs, with a fuse or not, by mathematics: what holds till the disk goes off, and then. No program. -/
namespace Go.Proofs.YtajlhdmnincehaaGreatDoor
set_option linter.unusedVariables false
namespace Wl
open Dm Cm

/-- While the disk is on: all was appended, sure was synced. -/
structure Kin (s : Ws) (all sure : List Cv) : Prop where
  on : s.d.on = true
  bk : s.bk = false
  l : s.l = all
  good : Cm.Good 0 0 all
  app : App s.d.wait
  hld : hld s.d = lgb all
  dur : lgb sure <+: s.d.sure 0
  gs : Cm.Good 0 0 sure

/-- At the end. -/
structure Kend (d : Ds) (all sure : List Cv) : Prop where
  good : Cm.Good 0 0 all
  app : App d.wait
  hld : hld d <+: lgb all
  dur : lgb sure <+: d.sure 0
  gs : Cm.Good 0 0 sure







end Wl
end Go.Proofs.YtajlhdmnincehaaGreatDoor

/- Pages as numbers: which may be, their bytes, what Decode answers, what Last answers. No program. -/
namespace Go.Proofs.YtajlhdmnincehaaGreatDoor
set_option linter.unusedVariables false
namespace Pm

/-- A page: epoch, role, acked, phase, fork, base. -/
structure Pg where
  e : Int
  r : Int
  a : Int
  p : Int
  f : Int
  b : Int


/-- Nothing in it. -/
def no : Pg := ⟨0, 0, 0, 0, 0, 0⟩

/-- The numbers lie where a page's may. -/
abbrev Bnd (x : Pg) : Prop := 1 ≤ x.e ∧ x.e ≤ 1048576 ∧ 0 ≤ x.a ∧ x.a ≤ 1048576 ∧ 0 ≤ x.f ∧ x.f ≤ 1048576 ∧ 0 ≤ x.b ∧ x.b ≤ 1073741824

/-- Role and phase go together, and what such a page does not have is 0. -/
abbrev Own (x : Pg) : Prop :=
  (x.r = 1 ∧ x.p = 0 ∧ x.f = 0 ∧ x.b = 0) ∨ (x.r = 2 ∧ x.a = 0 ∧ x.p = 0 ∧ x.f = 0 ∧ x.b = 0) ∨ (x.r = 3 ∧ x.a = 0 ∧ x.p = 1 ∧ x.f = 0 ∧ x.b = 0) ∨ (x.r = 3 ∧ x.a = 0 ∧ 2 ≤ x.p ∧ x.p ≤ 4)

/-- A page that may be. -/
abbrev Ok (x : Pg) : Prop := Bnd x ∧ Own x

/-- Check. -/
def chk (x : Pg) : Int := if Ok x then 0 else 2

theorem chk_ok {x : Pg} (h : Ok x) : chk x = 0 := if_pos h
theorem chk_no {x : Pg} (h : ¬ Ok x) : chk x = 2 := if_neg h
theorem chk_iff {x : Pg} : chk x = 0 ↔ Ok x := by
  by_cases h : Ok x
  · exact ⟨fun _ => h, fun _ => chk_ok h⟩
  · exact ⟨fun k => by rw [chk_no h] at k; exact absurd k (by decide), fun k => absurd k h⟩

/-- Each number of a page that may be. -/
theorem ok_nums {x : Pg} (h : Ok x) : 1 ≤ x.e ∧ x.e ≤ 1048576 ∧ 1 ≤ x.r ∧ x.r ≤ 3 ∧ 0 ≤ x.a ∧ x.a ≤ 1048576 ∧ 0 ≤ x.p ∧ x.p ≤ 4 ∧ 0 ≤ x.f ∧ x.f ≤ 1048576 ∧ 0 ≤ x.b ∧ x.b ≤ 1073741824 := by
  obtain ⟨⟨h1, h2, h3, h4, h5, h6, h7, h8⟩, h9⟩ := h
  unfold Own at h9
  omega


/-- The numbers, in the order of their bytes. -/
def nums (x : Pg) : List Int := [x.e, x.r, x.a, x.p, x.f, x.b]

/-- Numbers' bytes, one behind the other. -/
def encs : List Int → List Int
  | [] => []
  | z :: l => Vm.enc z.toNat ++ encs l


/-- A page's bytes. -/
def enc (x : Pg) : List Int := encs (nums x)








/-- What Decode answers. -/
def Dc (bs : List Int) (x : Pg) (e : Int) : Prop :=
  (e = 0 ∧ Ok x ∧ bs = enc x) ∨ (e = 5 ∧ x = no ∧ ∀ y, Ok y → bs ≠ enc y)



/-- Numbers that stand one behind the other at the front: none of them above its own greatest. -/
def Run (bs : List Int) (l : List Int) : Prop := encs l <+: bs



/-- What Last answers, z being the first page. -/
def Ls (bs : List Int) (z x : Pg) (n : Nat) : Prop :=
  ∃ l : List Pg, (∀ y ∈ l, Ok y) ∧ Fm.cat (l.map enc) <+: bs ∧ n = (Fm.cat (l.map enc)).length ∧ x = l.getLast?.getD z ∧ ∀ y, Ok y → ¬ Fm.frm (enc y) <+: bs.drop n



/-- Going on: pages so far, the last of them, where their frames end. -/
def Go (bs : List Int) (z x : Pg) (n : Nat) : Prop :=
  ∃ l : List Pg, (∀ y ∈ l, Ok y) ∧ Fm.cat (l.map enc) <+: bs ∧ n = (Fm.cat (l.map enc)).length ∧ x = l.getLast?.getD z







end Pm
end Go.Proofs.YtajlhdmnincehaaGreatDoor

/- Starts, by mathematics: where epochs begin, which epoch a number has, where two logs part. No program. -/
namespace Go.Proofs.YtajlhdmnincehaaGreatDoor.Sm
set_option linter.unusedVariables false

/-- A start: an epoch, its first number. -/
abbrev S := Int × Int

/-- They rise from (e, f) on, within their bounds. -/
def Up (en : Int) : Int → Int → List S → Prop
  | _, _, [] => True
  | e, f, s :: r => e < s.1 ∧ s.1 ≤ 1048576 ∧ f < s.2 ∧ s.2 ≤ en ∧ Up en s.1 s.2 r

def upb (en : Int) : Int → Int → List S → Bool
  | _, _, [] => true
  | e, f, s :: r => (decide (e < s.1) && decide (s.1 ≤ 1048576)) && ((decide (f < s.2) && decide (s.2 ≤ en)) && upb en s.1 s.2 r)

theorem upb_iff (en : Int) : ∀ (e f : Int) (l : List S), upb en e f l = true ↔ Up en e f l
  | _, _, [] => ⟨fun _ => trivial, fun _ => rfl⟩
  | e, f, s :: r => by
    unfold upb Up
    rw [Bool.and_eq_true, Bool.and_eq_true, Bool.and_eq_true, Bool.and_eq_true, upb_iff en s.1 s.2 r, decide_eq_true_iff, decide_eq_true_iff, decide_eq_true_iff, decide_eq_true_iff]
    constructor
    · rintro ⟨⟨h1, h2⟩, ⟨h3, h4⟩, h5⟩
      exact ⟨h1, h2, h3, h4, h5⟩
    · rintro ⟨h1, h2, h3, h4, h5⟩
      exact ⟨⟨h1, h2⟩, ⟨h3, h4⟩, h5⟩

def Ok (l : List S) (en : Int) : Prop := 0 ≤ en ∧ en ≤ 1048576 ∧ (l.length = 0 ↔ en = 0) ∧ Up en 0 0 l ∧ ((l.map Prod.snd).headD 1 = 1)

def okb (l : List S) (en : Int) : Bool := (decide (0 ≤ en) && decide (en ≤ 1048576)) && (decide (l.length = 0 ↔ en = 0) && (upb en 0 0 l && decide ((l.map Prod.snd).headD 1 = 1)))

theorem okb_iff {l : List S} {en : Int} : okb l en = true ↔ Ok l en := by
  unfold okb Ok
  rw [Bool.and_eq_true, Bool.and_eq_true, Bool.and_eq_true, Bool.and_eq_true, upb_iff, decide_eq_true_iff, decide_eq_true_iff, decide_eq_true_iff, decide_eq_true_iff]
  constructor
  · rintro ⟨⟨h1, h2⟩, h3, h4, h5⟩
    exact ⟨h1, h2, h3, h4, h5⟩
  · rintro ⟨h1, h2, h3, h4, h5⟩
    exact ⟨⟨h1, h2⟩, h3, h4, h5⟩

def chk (l : List S) (en : Int) : Int := if okb l en = true then 0 else 5

theorem chk_ok {l : List S} {en : Int} (h : Ok l en) : chk l en = 0 := if_pos (okb_iff.2 h)
theorem chk_no {l : List S} {en : Int} (h : ¬ Ok l en) : chk l en = 5 := if_neg fun k => h (okb_iff.1 k)
theorem chk_zero {l : List S} {en : Int} : chk l en = 0 ↔ Ok l en := by
  constructor
  · intro h
    by_cases k : Ok l en
    · exact k
    · rw [chk_no k] at h; simp at h
  · exact chk_ok

/-- The epoch of a number. -/
def epo (n : Int) : Int → List S → Int
  | e, [] => e
  | e, s :: r => if s.2 ≤ n then epo n s.1 r else e


def lst (l : List S) : Int := ((l.map Prod.fst).getLast?).getD 0

theorem lst_snoc (l : List S) (s : S) : lst (l ++ [s]) = s.1 := by simp [lst]

/-- Places of a rising row. -/
theorem up_at : ∀ (l : List S) (en e f : Int), Up en e f l → ∀ (i : Nat) (s : S), l[i]? = some s → e < s.1 ∧ s.1 ≤ 1048576 ∧ f < s.2 ∧ s.2 ≤ en
  | [], _, _, _, _, _, _, h => by simp at h
  | t :: r, en, e, f, h, 0, s, hs => by
    simp at hs
    subst hs
    exact ⟨h.1, h.2.1, h.2.2.1, h.2.2.2.1⟩
  | t :: r, en, e, f, h, i + 1, s, hs => by
    have := up_at r en t.1 t.2 h.2.2.2.2 i s (by simpa using hs)
    have := h.1
    have := h.2.2.1
    omega

















/-- The fork: the greatest number with one epoch. -/
def Fk (a : List S) (ae : Int) (b : List S) (be n : Int) : Prop :=
  0 ≤ n ∧ n ≤ ae ∧ n ≤ be ∧ epo n 0 a = epo n 0 b ∧ ∀ m, n < m → m ≤ ae → m ≤ be → epo m 0 a ≠ epo m 0 b



/-- Going back from both ends: p starts are left of a, with the last number x; q of b, with y. -/
structure Bk (a : List S) (ae : Int) (b : List S) (be : Int) (p : Nat) (x : Int) (q : Nat) (y : Int) : Prop where
  pa : p ≤ a.length
  qb : q ≤ b.length
  xa : (p = a.length ∧ x = ae) ∨ ∃ s : S, a[p]? = some s ∧ x = s.2 - 1
  yb : (q = b.length ∧ y = be) ∨ ∃ s : S, b[q]? = some s ∧ y = s.2 - 1
  no : ∀ m, m ≤ ae → m ≤ be → (x < m ∨ y < m) → epo m 0 a ≠ epo m 0 b














/-- The starts of a log behind the epoch ep. -/
def told (ep : Int) : List Cm.Cv → List S
  | [] => []
  | c :: r => if c.e = ep then told c.e r else (c.e, c.n) :: told c.e r







theorem good_len {l : List Cm.Cv} (h : Cm.Good 0 0 l) : (l.length : Int) ≤ 1048576 := by
  cases hl : l.length with
  | zero => simp
  | succ k =>
    have hc : l[k]? = some l[k] := List.getElem?_eq_getElem (by omega)
    obtain ⟨g1, g2, _⟩ := Cm.good_at l 0 0 k _ h hc
    have := Cm.chk_zero g1
    simp
    omega








end Go.Proofs.YtajlhdmnincehaaGreatDoor.Sm

/- Messages, by mathematics: which may be, their bytes, what Decode answers. No program. -/
namespace Go.Proofs.YtajlhdmnincehaaGreatDoor.Mm
set_option linter.unusedVariables false

/-- A message: kind, epoch, role, end, starts, from, prev, commits. -/
structure Msg where
  k : Int
  e : Int
  r : Int
  n : Int
  ss : List Sm.S
  f : Int
  p : Int
  cs : List Cm.Cv

/-- Nothing in it. -/
def no : Msg := ⟨0, 0, 0, 0, [], 0, 0, []⟩

def Hel (m : Msg) : Prop := 1 ≤ m.r ∧ m.r ≤ 3 ∧ Sm.Ok m.ss m.n ∧ Sm.lst m.ss ≤ m.e ∧ m.f = 0 ∧ m.p = 0 ∧ m.cs = []
def Shp (m : Msg) : Prop := 1 ≤ m.f ∧ m.f ≤ 1048576 ∧ 0 ≤ m.p ∧ m.p ≤ m.e ∧ (m.p = 0 ↔ m.f = 1) ∧ m.cs.length ≤ 4 ∧ (∀ c ∈ m.cs, c.e ≤ m.e) ∧ Cm.Good m.p (m.f - 1) m.cs ∧ m.r = 0 ∧ m.n = 0 ∧ m.ss = []
def Ack (m : Msg) : Prop := 0 ≤ m.n ∧ m.n ≤ 1048576 ∧ m.r = 0 ∧ m.ss = [] ∧ m.f = 0 ∧ m.p = 0 ∧ m.cs = []

/-- A message that may be. -/
def Ok (m : Msg) : Prop := 1 ≤ m.e ∧ m.e ≤ 1048576 ∧ ((m.k = 1 ∧ Hel m) ∨ (m.k = 2 ∧ Shp m) ∨ (m.k = 3 ∧ Ack m))




/-- Starts as numbers. -/
def fl : List Sm.S → List Int
  | [] => []
  | s :: l => s.1 :: s.2 :: fl l




/-- The numbers ahead of a message's commits. -/
def hd (m : Msg) : List Int :=
  if m.k = 1 then [m.k, m.e, m.r, m.n, (m.ss.length : Int)] ++ fl m.ss else if m.k = 2 then [m.k, m.e, m.f, m.p, (m.cs.length : Int)] else [m.k, m.e, m.n]


/-- A commit's bytes. -/
def cb (c : Cm.Cv) : List Int := Cm.encC c.e c.n c.l

/-- A message's bytes. -/
def enc (m : Msg) : List Int := Pm.encs (hd m) ++ Fm.cat (m.cs.map cb)





theorem up_len : ∀ (l : List Sm.S) (en e f : Int), 0 ≤ f → Sm.Up en e f l → (l.length : Int) ≤ max 0 (en - f)
  | [], _, _, _, _, _ => by simp; omega
  | (a, b) :: l, en, e, f, hf, ⟨h1, h2, h3, h4, h5⟩ => by
    have := up_len l en a b (by simp at h3; omega) h5
    simp at h3 h4 ⊢
    omega






theorem good_chk : ∀ {l : List Cm.Cv} {ep nu : Int}, Cm.Good ep nu l → ∀ c ∈ l, Cm.chk c.e c.n c.l = 0
  | [], _, _, _, c, hc => by simp at hc
  | d :: l, _, _, ⟨h1, _, _, h4⟩, c, hc => by
    rcases List.mem_cons.1 hc with rfl | hc
    · exact h1
    · exact good_chk h4 c hc




/-- What Decode answers. -/
def Dc (bs : List Int) (m : Msg) (g : Int) : Prop :=
  (g = 0 ∧ Ok m ∧ bs = enc m) ∨ (g = 5 ∧ m = no ∧ ∀ m', Ok m' → bs ≠ enc m')






end Go.Proofs.YtajlhdmnincehaaGreatDoor.Mm

/- The mathematics of roles: how one page follows another one. No program. -/
namespace Go.Proofs.YtajlhdmnincehaaGreatDoor
set_option linter.unusedVariables false
namespace Rol
open Pm (Pg chk no Ok)

/-- Promote. -/
def prE (x : Pg) (n : Int) : Int := if chk x = 0 then (if n < 0 ∨ 1048576 < n then 2 else if x.r = 1 then 10 else if x.r = 3 then 9 else if x.e = 1048576 then 2 else 0) else chk x
def pr (x : Pg) (n : Int) : Pg := if prE x n = 0 then ⟨x.e + 1, 1, n, 0, 0, 0⟩ else no

/-- Hear. -/
def heE (x : Pg) (n : Int) : Int := if chk x = 0 then (if n < 1 ∨ 1048576 < n then 2 else 0) else chk x
def he (x : Pg) (n : Int) : Pg := if heE x n = 0 then (if x.e < n then ⟨n, 3, 0, 1, 0, 0⟩ else x) else no




/-- Acked. -/
def akE (x : Pg) (n : Int) : Int := if chk x = 0 then (if n < 0 ∨ 1048576 < n then 2 else if x.r = 1 then 0 else 15) else chk x
def ak (x : Pg) (n : Int) : Pg := if akE x n = 0 then (if x.a < n then ⟨x.e, x.r, n, x.p, x.f, x.b⟩ else x) else no

/-- Writes, Reads. -/
def wrE (x : Pg) : Int := if chk x = 0 then (if x.r = 2 then 11 else if x.r = 3 then 9 else 0) else chk x
def rdE (x : Pg) : Int := if chk x = 0 then (if x.r = 3 then 9 else 0) else chk x







/-- May a page follow another one? -/
def Way (x y : Pg) : Prop :=
  y = x ∨ (y.r = 1 ∧ (x.r = 2 ∧ y.e = x.e + 1 ∨ x.r = 1 ∧ y.e = x.e ∧ x.a < y.a)) ∨ (y.r = 2 ∧ x.r = 3 ∧ x.p = 4 ∧ y.e = x.e) ∨ (y.r = 3 ∧ y.p = 1 ∧ x.e < y.e) ∨ (y.r = 3 ∧ y.p ≠ 1 ∧ x.r = 3 ∧ y.e = x.e ∧ y.p = x.p + 1 ∧ (x.p = 1 ∨ y.f = x.f ∧ y.b = x.b))







end Rol
end Go.Proofs.YtajlhdmnincehaaGreatDoor
