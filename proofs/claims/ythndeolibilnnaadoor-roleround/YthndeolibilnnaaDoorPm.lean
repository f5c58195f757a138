/- Pages as numbers: which may be, their bytes, what Decode answers, what Last answers. No program. -/
import Derived.Test.YthndeolibilnnaaDoorFm
namespace Go.Proofs.YthndeolibilnnaaDoor
set_option linter.unusedVariables false
namespace Pm

/-- A page: epoch, role, acked, phase, fork, base. -/
structure Pg where
  e : Int
  r : Int
  a : Int
  p : Int
  f : Int
  b : Int

theorem Pg.eq {x y : Pg} (h1 : x.e = y.e) (h2 : x.r = y.r) (h3 : x.a = y.a) (h4 : x.p = y.p) (h5 : x.f = y.f) (h6 : x.b = y.b) : x = y := by
  cases x; cases y; simp at *; exact ⟨h1, h2, h3, h4, h5, h6⟩

/-- Nothing in it. -/
def no : Pg := ⟨0, 0, 0, 0, 0, 0⟩

/-- The numbers lie where a page's may. -/
abbrev Bnd (x : Pg) : Prop := 1 ≤ x.e ∧ x.e ≤ 1048576 ∧ 0 ≤ x.a ∧ x.a ≤ 1048576 ∧ 0 ≤ x.f ∧ x.f ≤ 1048576 ∧ 0 ≤ x.b ∧ x.b ≤ 1073741824

/-- Role and phase go together, and what such a page does not have is 0. -/
abbrev Own (x : Pg) : Prop :=
  (x.r = 1 ∧ x.p = 0 ∧ x.f = 0 ∧ x.b = 0) ∨ (x.r = 2 ∧ x.a = 0 ∧ x.p = 0 ∧ x.f = 0 ∧ x.b = 0) ∨ (x.r = 3 ∧ x.a = 0 ∧ x.p = 1 ∧ x.f = 0 ∧ x.b = 0) ∨ (x.r = 3 ∧ x.a = 0 ∧ 2 ≤ x.p ∧ x.p ≤ 4)

/-- A page that may be. -/
abbrev Ok (x : Pg) : Prop := Bnd x ∧ Own x

/-- Check. -/
def chk (x : Pg) : Int := if Ok x then 0 else 2

theorem chk_ok {x : Pg} (h : Ok x) : chk x = 0 := if_pos h
theorem chk_no {x : Pg} (h : ¬ Ok x) : chk x = 2 := if_neg h
theorem chk_iff {x : Pg} : chk x = 0 ↔ Ok x := by
  by_cases h : Ok x
  · exact ⟨fun _ => h, fun _ => chk_ok h⟩
  · exact ⟨fun k => by rw [chk_no h] at k; exact absurd k (by decide), fun k => absurd k h⟩

/-- Each number of a page that may be. -/
theorem ok_nums {x : Pg} (h : Ok x) : 1 ≤ x.e ∧ x.e ≤ 1048576 ∧ 1 ≤ x.r ∧ x.r ≤ 3 ∧ 0 ≤ x.a ∧ x.a ≤ 1048576 ∧ 0 ≤ x.p ∧ x.p ≤ 4 ∧ 0 ≤ x.f ∧ x.f ≤ 1048576 ∧ 0 ≤ x.b ∧ x.b ≤ 1073741824 := by
  obtain ⟨⟨h1, h2, h3, h4, h5, h6, h7, h8⟩, h9⟩ := h
  unfold Own at h9
  omega

theorem not_no : ¬ Ok no := fun h => by have := (ok_nums h).1; simp [no] at this

/-- The numbers, in the order of their bytes. -/
def nums (x : Pg) : List Int := [x.e, x.r, x.a, x.p, x.f, x.b]

/-- Numbers' bytes, one behind the other. -/
def encs : List Int → List Int
  | [] => []
  | z :: l => Vm.enc z.toNat ++ encs l

theorem encs_app : ∀ l m : List Int, encs (l ++ m) = encs l ++ encs m
  | [], m => rfl
  | z :: l, m => by simp [encs, encs_app l m]

/-- A page's bytes. -/
def enc (x : Pg) : List Int := encs (nums x)

theorem encs_pre : ∀ {l m : List Int} {bs : List Int}, l.length = m.length → (∀ z ∈ l, 0 ≤ z) → (∀ z ∈ m, 0 ≤ z) → encs l <+: bs → encs m <+: bs → l = m
  | [], [], _, _, _, _, _, _ => rfl
  | [], _ :: _, _, h, _, _, _, _ => by simp at h
  | _ :: _, [], _, h, _, _, _, _ => by simp at h
  | x :: l, y :: m, bs, h, hx, hy, h1, h2 => by
    have e := Vm.pre_one bs _ _ ((List.prefix_append _ _).trans h1) ((List.prefix_append _ _).trans h2)
    have ex : x = y := by
      have := hx x (by simp)
      have := hy y (by simp)
      omega
    subst ex
    have := encs_pre (by simpa using h) (fun z hz => hx z (by simp [hz])) (fun z hz => hy z (by simp [hz])) (Fm.drop_pre h1) (Fm.drop_pre h2)
    rw [this]

theorem nums_pos {x : Pg} (h : Ok x) : ∀ z ∈ nums x, 0 ≤ z := by
  have := ok_nums h
  intro z hz
  simp [nums] at hz
  omega

theorem nums_one {x y : Pg} (h : nums x = nums y) : x = y := by
  unfold nums at h
  simp at h
  exact Pg.eq h.1 h.2.1 h.2.2.1 h.2.2.2.1 h.2.2.2.2.1 h.2.2.2.2.2

/-- Two pages whose bytes begin one list are one. -/
theorem enc_pre {x y : Pg} {bs : List Int} (h : Ok x) (h' : Ok y) (h1 : enc x <+: bs) (h2 : enc y <+: bs) : x = y :=
  nums_one (encs_pre rfl (nums_pos h) (nums_pos h') h1 h2)

theorem encs_len : ∀ {l : List Int}, (∀ z ∈ l, z < 18446744073709551616) → (encs l).length ≤ 10 * l.length ∧ l.length ≤ (encs l).length
  | [], _ => by simp [encs]
  | z :: l, h => by
    have h1 := encs_len (l := l) (fun y hy => h y (by simp [hy]))
    have h2 := h z (by simp)
    have h3 := Vm.sz_le10 (x := z.toNat) (by omega)
    have h4 := Vm.sz_pos z.toNat
    unfold Vm.sz at h3 h4
    simp [encs]
    omega

theorem enc_len {x : Pg} (h : Ok x) : (enc x).length ≤ 60 := by
  have := ok_nums h
  have := (encs_len (l := nums x) (fun z hz => by simp [nums] at hz; omega)).1
  exact this

/-- Two pages are one just where the shorter's bytes begin the other's. -/
theorem enc_cut {x y : Pg} (h : Ok x) (h' : Ok y) : (x = y) ↔ (enc x).take (min (enc x).length (enc y).length) = (enc y).take (min (enc x).length (enc y).length) := by
  constructor
  · rintro rfl; rfl
  · intro g
    by_cases hl : (enc x).length ≤ (enc y).length
    · rw [Nat.min_eq_left hl, List.take_length] at g
      exact enc_pre h h' (bs := enc y) (by rw [g]; exact List.take_prefix _ _) (List.prefix_refl _)
    · rw [Nat.min_eq_right (by omega), List.take_length] at g
      exact enc_pre h h' (bs := enc x) (List.prefix_refl _) (by rw [← g]; exact List.take_prefix _ _)

/-- What Decode answers. -/
def Dc (bs : List Int) (x : Pg) (e : Int) : Prop :=
  (e = 0 ∧ Ok x ∧ bs = enc x) ∨ (e = 5 ∧ x = no ∧ ∀ y, Ok y → bs ≠ enc y)

theorem dc_one {bs : List Int} {x y : Pg} {e f : Int} (h : Dc bs x e) (h' : Dc bs y f) : x = y ∧ e = f := by
  rcases h with ⟨rfl, h1, h2⟩ | ⟨rfl, rfl, h2⟩ <;> rcases h' with ⟨rfl, g1, g2⟩ | ⟨rfl, rfl, g2⟩
  · exact ⟨enc_pre h1 g1 (bs := bs) (by rw [h2]; exact List.prefix_refl _) (by rw [g2]; exact List.prefix_refl _), rfl⟩
  · exact absurd h2 (g2 x h1)
  · exact absurd g2 (h2 y g1)
  · exact ⟨rfl, rfl⟩

theorem dc_enc {x : Pg} (h : Ok x) : Dc (enc x) x 0 := .inl ⟨rfl, h, rfl⟩

/-- Numbers that stand one behind the other at the front: none of them above its own greatest. -/
def Run (bs : List Int) (l : List Int) : Prop := encs l <+: bs

/-- Behind some numbers: the next is none that a page has. -/
theorem dc_stop {bs l : List Int} {k : Nat} {m : Nat} (hk : k < 6) (hl : l.length = k) (hp : ∀ z ∈ l, 0 ≤ z) (h : encs l <+: bs) (hm : ∀ x : Pg, Ok x → (nums x).getD k 0 ≤ m)
    (hn : ∀ u : Nat, u ≤ m → ¬ Vm.enc u <+: bs.drop (encs l).length) : Dc bs no 5 := by
  refine .inr ⟨rfl, rfl, fun y hy e => ?_⟩
  have hlen : (nums y).length = 6 := rfl
  have es : nums y = (nums y).take k ++ ((nums y).getD k 0 :: (nums y).drop (k + 1)) := by
    have h1 : k < (nums y).length := by omega
    rw [List.getD_eq_getElem?_getD, List.getElem?_eq_getElem h1, Option.getD_some, ← List.drop_eq_getElem_cons h1, List.take_append_drop]
  have hpy := nums_pos hy
  have h1 : encs ((nums y).take k) <+: bs := by
    rw [e]
    unfold enc
    have : nums y = (nums y).take k ++ (nums y).drop k := (List.take_append_drop _ _).symm
    conv => rhs; rw [this, encs_app]
    exact List.prefix_append _ _
  have h2 : l = (nums y).take k := encs_pre (by rw [List.length_take]; omega) hp (fun z hz => hpy z (List.mem_of_mem_take hz)) h h1
  have h3 := hm y hy
  have h4 : 0 ≤ (nums y).getD k 0 := by
    have h1 : k < (nums y).length := by omega
    rw [List.getD_eq_getElem?_getD, List.getElem?_eq_getElem h1, Option.getD_some]
    exact hpy _ (List.getElem_mem h1)
  refine hn ((nums y).getD k 0).toNat (by omega) ?_
  have h5 : bs = encs l ++ (Vm.enc ((nums y).getD k 0).toNat ++ encs ((nums y).drop (k + 1))) := by
    rw [e]
    unfold enc
    conv => lhs; rw [es, encs_app, ← h2]
    rfl
  rw [h5, List.drop_left]
  exact List.prefix_append _ _

/-- All six stand there: a page where it may be and nothing is behind. -/
theorem dc_six {bs : List Int} {x : Pg} (hp : ∀ z ∈ nums x, 0 ≤ z) (h : enc x <+: bs) : (Ok x → (enc x).length = bs.length → Dc bs x 0) ∧ ((¬ Ok x ∨ (enc x).length ≠ bs.length) → Dc bs no 5) := by
  refine ⟨fun h1 h2 => .inl ⟨rfl, h1, (h.eq_of_length h2).symm⟩, fun h1 => .inr ⟨rfl, rfl, fun y hy e => ?_⟩⟩
  have : nums x = nums y := encs_pre rfl hp (nums_pos hy) (bs := bs) h (by rw [e]; exact List.prefix_refl _)
  have := nums_one this
  subst this
  rcases h1 with h1 | h1
  · exact h1 hy
  · exact h1 (by rw [e])

/-- What Last answers, z being the first page. -/
def Ls (bs : List Int) (z x : Pg) (n : Nat) : Prop :=
  ∃ l : List Pg, (∀ y ∈ l, Ok y) ∧ Fm.cat (l.map enc) <+: bs ∧ n = (Fm.cat (l.map enc)).length ∧ x = l.getLast?.getD z ∧ ∀ y, Ok y → ¬ Fm.frm (enc y) <+: bs.drop n

theorem ls_list : ∀ {l m : List Pg} {bs : List Int}, (∀ y ∈ l, Ok y) → (∀ y ∈ m, Ok y) → Fm.cat (l.map enc) <+: bs → Fm.cat (m.map enc) <+: bs →
    (∀ y, Ok y → ¬ Fm.frm (enc y) <+: bs.drop (Fm.cat (l.map enc)).length) → (∀ y, Ok y → ¬ Fm.frm (enc y) <+: bs.drop (Fm.cat (m.map enc)).length) → l = m
  | [], [], _, _, _, _, _, _, _ => rfl
  | [], y :: m, bs, h1, h2, h3, h4, h5, h6 => by
    have := h5 y (h2 y (by simp))
    simp [Fm.cat] at this
    exact absurd ((List.prefix_append _ _).trans h4) this
  | x :: l, [], bs, h1, h2, h3, h4, h5, h6 => by
    have := h6 x (h1 x (by simp))
    simp [Fm.cat] at this
    exact absurd ((List.prefix_append _ _).trans h3) this
  | x :: l, y :: m, bs, h1, h2, h3, h4, h5, h6 => by
    have e := Fm.frm_one ((List.prefix_append _ _).trans h3) ((List.prefix_append _ _).trans h4)
    have ox := h1 x (by simp)
    have oy := h2 y (by simp)
    have ex : x = y := enc_pre ox oy (bs := enc y) (by rw [e]; exact List.prefix_refl _) (List.prefix_refl _)
    subst ex
    have := ls_list (l := l) (m := m) (bs := bs.drop (Fm.frm (enc x)).length) (fun z hz => h1 z (by simp [hz])) (fun z hz => h2 z (by simp [hz])) (Fm.drop_pre h3) (Fm.drop_pre h4)
      (fun z hz => by have := h5 z hz; simp only [List.map_cons, Fm.cat, List.length_append] at this; rw [List.drop_drop]; exact this)
      (fun z hz => by have := h6 z hz; simp only [List.map_cons, Fm.cat, List.length_append] at this; rw [List.drop_drop]; exact this)
    rw [this]

theorem ls_one {bs : List Int} {z x y : Pg} {n m : Nat} (h : Ls bs z x n) (h' : Ls bs z y m) : x = y ∧ n = m := by
  obtain ⟨l, h1, h2, h3, h4, h5⟩ := h
  obtain ⟨k, g1, g2, g3, g4, g5⟩ := h'
  have : l = k := ls_list h1 g1 h2 g2 (by rw [← h3]; exact h5) (by rw [← g3]; exact g5)
  subst this
  exact ⟨h4.trans g4.symm, h3.trans g3.symm⟩

/-- Going on: pages so far, the last of them, where their frames end. -/
def Go (bs : List Int) (z x : Pg) (n : Nat) : Prop :=
  ∃ l : List Pg, (∀ y ∈ l, Ok y) ∧ Fm.cat (l.map enc) <+: bs ∧ n = (Fm.cat (l.map enc)).length ∧ x = l.getLast?.getD z

theorem go_start (bs : List Int) (z : Pg) : Go bs z z 0 := ⟨[], by simp, by simp [Fm.cat], by simp [Fm.cat], rfl⟩

theorem go_le {bs : List Int} {z x : Pg} {n : Nat} (h : Go bs z x n) : n ≤ bs.length := by
  obtain ⟨l, h1, h2, h3, h4⟩ := h
  rw [h3]
  exact h2.length_le

theorem go_next {bs r : List Int} {z x y : Pg} {n m : Nat} (h : Go bs z x n) (hr : Fm.Rd (bs.drop n) r m 0) (hd : Dc r y 0) : Go bs z y (n + m) ∧ 1 ≤ m := by
  obtain ⟨l, h1, h2, h3, h4⟩ := h
  rcases hr with ⟨_, g1, g2, g3⟩ | ⟨h0, _⟩
  · rcases hd with ⟨_, k1, k2⟩ | ⟨h0, _⟩
    · subst h3 k2
      obtain ⟨e1, e2⟩ := Fm.sc_next h2 g3
      refine ⟨⟨l ++ [y], ?_, by simpa using e1, by rw [List.map_append, List.map_cons, List.map_nil, e2, g2], by simp⟩, ?_⟩
      · intro q hq
        rcases List.mem_append.1 hq with hq | hq
        · exact h1 q hq
        · simp at hq; subst hq; exact k1
      · have := Vm.sz_pos (enc y).length
        omega
    · cases h0
  · cases h0

theorem go_stop {bs r : List Int} {z x : Pg} {n m : Nat} (h : Go bs z x n) (hr : Fm.Rd (bs.drop n) r m 5) : Ls bs z x n := by
  obtain ⟨l, h1, h2, h3, h4⟩ := h
  refine ⟨l, h1, h2, h3, h4, fun y hy => ?_⟩
  rcases hr with ⟨h0, _⟩ | ⟨_, _, _, h5⟩
  · cases h0
  · exact h5 _ (by have := enc_len hy; omega)

theorem go_else {bs r : List Int} {z x y : Pg} {n m : Nat} (h : Go bs z x n) (hr : Fm.Rd (bs.drop n) r m 0) (hd : Dc r y 5) : Ls bs z x n := by
  obtain ⟨l, h1, h2, h3, h4⟩ := h
  refine ⟨l, h1, h2, h3, h4, fun q hq hp => ?_⟩
  rcases hr with ⟨_, _, _, g3⟩ | ⟨h0, _⟩
  · rcases hd with ⟨h0, _⟩ | ⟨_, _, k2⟩
    · cases h0
    · exact k2 q hq (Fm.frm_one g3 hp)
  · cases h0

/-- A first part of pages' frames: those that lie in it whole. -/
theorem ls_cut {l : List Pg} {z : Pg} {k n : Nat} (hw : ∀ y ∈ l, Ok y) (hn : n ≤ l.length) (hk : (Fm.cat ((l.take n).map enc)).length ≤ k) (hk' : n < l.length → k < (Fm.cat ((l.take (n + 1)).map enc)).length) (hkl : k ≤ (Fm.cat (l.map enc)).length) :
    Ls ((Fm.cat (l.map enc)).take k) z ((l.take n).getLast?.getD z) (Fm.cat ((l.take n).map enc)).length := by
  have := Fm.sc_cut (l := l.map enc) (k := k) (n := n) (by
    intro r hr
    obtain ⟨y, hy, rfl⟩ := List.mem_map.1 hr
    have := enc_len (hw y hy)
    omega) (by simpa using hn) (by rw [← List.map_take]; exact hk) (by intro h; rw [← List.map_take]; exact hk' (by simpa using h)) hkl
  obtain ⟨_, h2, h3⟩ := this
  rw [← List.map_take] at h2 h3
  exact ⟨l.take n, fun y hy => hw y (List.mem_of_mem_take hy), h2, rfl, rfl, fun y hy => h3 _ (by have := enc_len hy; omega)⟩

end Pm
end Go.Proofs.YthndeolibilnnaaDoor
