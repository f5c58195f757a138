/- Frames as lists of numbers: what a frame is, what Read answers, what Scan answers. No program. -/
import Derived.Test.YthndeolibilnnaaDoorMath
namespace Go.Proofs.YthndeolibilnnaaDoor
set_option linter.unusedVariables false
namespace Fm

/-- A record's frame. -/
def frm (r : List Int) : List Int := Vm.enc r.length ++ r

theorem frm_len (r : List Int) : (frm r).length = Vm.sz r.length + r.length := by unfold frm Vm.sz; rw [List.length_append]
theorem frm_pos (r : List Int) : 1 ≤ (frm r).length := by have := Vm.sz_pos r.length; rw [frm_len]; omega

theorem sz3 {n : Nat} (h : n ≤ 131072) : Vm.sz n ≤ 3 := Vm.sz_le 2 n (by omega)

theorem frm_one {r s bs : List Int} (h : frm r <+: bs) (h' : frm s <+: bs) : r = s := by
  obtain ⟨t, ht⟩ := h
  obtain ⟨u, hu⟩ := h'
  unfold frm at ht hu
  have hl : r.length = s.length := Vm.pre_one bs _ _ ⟨r ++ t, by rw [← List.append_assoc]; exact ht⟩ ⟨s ++ u, by rw [← List.append_assoc]; exact hu⟩
  rw [← hu, hl, List.append_assoc, List.append_assoc] at ht
  have := List.append_cancel_left ht
  exact (List.append_inj this hl).1

/-- What Read answers: the record, the frame's length, the error. -/
def Rd (bs r : List Int) (n : Nat) (e : Int) : Prop :=
  (e = 0 ∧ r.length ≤ 131072 ∧ n = Vm.sz r.length + r.length ∧ frm r <+: bs) ∨ (e = 5 ∧ r = [] ∧ n = 0 ∧ ∀ s : List Int, s.length ≤ 131072 → ¬ frm s <+: bs)

theorem rd_one {bs r s : List Int} {n m : Nat} {e f : Int} (h : Rd bs r n e) (h' : Rd bs s m f) : r = s ∧ n = m ∧ e = f := by
  rcases h with ⟨rfl, h1, h2, h3⟩ | ⟨rfl, rfl, rfl, h3⟩ <;> rcases h' with ⟨rfl, g1, g2, g3⟩ | ⟨rfl, rfl, rfl, g3⟩
  · have := frm_one h3 g3
    subst this
    exact ⟨rfl, by omega, rfl⟩
  · exact absurd h3 (g3 _ h1)
  · exact absurd g3 (h3 _ g1)
  · exact ⟨rfl, rfl, rfl⟩

theorem rd_is (bs : List Int) : ∃ r n e, Rd bs r n e := by
  by_cases h : ∃ s : List Int, s.length ≤ 131072 ∧ frm s <+: bs
  · obtain ⟨s, h1, h2⟩ := h
    exact ⟨s, _, 0, .inl ⟨rfl, h1, rfl, h2⟩⟩
  · exact ⟨[], 0, 5, .inr ⟨rfl, rfl, rfl, fun s h1 h2 => h ⟨s, h1, h2⟩⟩⟩

/-- The count's bytes stand ahead, and then enough. -/
theorem frm_of {bs : List Int} {x : Nat} (h : Vm.enc x <+: bs) (hx : x ≤ bs.length - Vm.sz x) : ((bs.drop (Vm.sz x)).take x).length = x ∧ frm ((bs.drop (Vm.sz x)).take x) <+: bs := by
  have hl : ((bs.drop (Vm.sz x)).take x).length = x := by rw [List.length_take, List.length_drop]; omega
  refine ⟨hl, ?_⟩
  obtain ⟨t, ht⟩ := h
  have hd : bs.drop (Vm.sz x) = t := by rw [← ht]; exact List.drop_left
  unfold frm
  rw [hl]
  rw [hd] at *
  exact ⟨t.drop x, by rw [List.append_assoc, List.take_append_drop]; exact ht⟩

theorem frm_pre {bs r : List Int} (h : frm r <+: bs) : Vm.enc r.length <+: bs ∧ r.length ≤ bs.length - Vm.sz r.length ∧ Vm.sz r.length + r.length ≤ bs.length := by
  have hl := h.length_le
  rw [frm_len] at hl
  refine ⟨(List.prefix_append _ _).trans h, by omega, hl⟩

/-- Frames one behind the other. -/
def cat : List (List Int) → List Int
  | [] => []
  | r :: l => frm r ++ cat l

theorem cat_app : ∀ (l m : List (List Int)), cat (l ++ m) = cat l ++ cat m
  | [], m => rfl
  | r :: l, m => by simp [cat, cat_app l m]

theorem cat_one (r : List Int) : cat [r] = frm r := by simp [cat]

theorem cat_len : ∀ l : List (List Int), l.length ≤ (cat l).length
  | [] => Nat.zero_le _
  | r :: l => by
    have := cat_len l
    have := frm_pos r
    simp [cat]
    omega

/-- What Scan answers: whole frames one behind the other, and none behind them. -/
def Sc (bs : List Int) (l : List (List Int)) : Prop :=
  (∀ r ∈ l, r.length ≤ 131072) ∧ cat l <+: bs ∧ ∀ s : List Int, s.length ≤ 131072 → ¬ frm s <+: bs.drop (cat l).length

theorem drop_pre {a b c : List Int} (h : a ++ b <+: c) : b <+: c.drop a.length := by
  obtain ⟨t, ht⟩ := h
  rw [← ht, List.append_assoc, List.drop_left]
  exact List.prefix_append _ _

theorem pre_drop {a b c : List Int} (h : a <+: c) (h' : b <+: c.drop a.length) : a ++ b <+: c := by
  obtain ⟨t, rfl⟩ := h
  rw [List.drop_left] at h'
  obtain ⟨u, rfl⟩ := h'
  exact ⟨u, by rw [List.append_assoc]⟩

theorem sc_tail {bs r : List Int} {l : List (List Int)} (h : Sc bs (r :: l)) : r.length ≤ 131072 ∧ frm r <+: bs ∧ Sc (bs.drop (frm r).length) l := by
  obtain ⟨h1, h2, h3⟩ := h
  refine ⟨h1 r (by simp), (List.prefix_append _ _).trans h2, fun s hs => h1 s (by simp [hs]), drop_pre h2, fun s hs => ?_⟩
  rw [List.drop_drop, ← List.length_append]
  exact h3 s hs

theorem sc_one : ∀ {l m : List (List Int)} {bs : List Int}, Sc bs l → Sc bs m → l = m
  | [], [], _, _, _ => rfl
  | [], r :: m, bs, h, h' => by
    obtain ⟨h1, h2, _⟩ := sc_tail h'
    exact absurd h2 (by simpa [cat] using h.2.2 r h1)
  | r :: l, [], bs, h, h' => by
    obtain ⟨h1, h2, _⟩ := sc_tail h
    exact absurd h2 (by simpa [cat] using h'.2.2 r h1)
  | r :: l, s :: m, bs, h, h' => by
    obtain ⟨_, h2, h3⟩ := sc_tail h
    obtain ⟨_, g2, g3⟩ := sc_tail h'
    have e := frm_one h2 g2
    subst e
    rw [sc_one h3 g3]

theorem sc_is (bs : List Int) : ∃ l, Sc bs l := by
  suffices h : ∀ n (bs : List Int), bs.length ≤ n → ∃ l, Sc bs l from h _ bs (Nat.le_refl _)
  intro n
  induction n with
  | zero =>
    intro bs hb
    refine ⟨[], by simp, by simp [cat], fun s _ h => ?_⟩
    have h1 := h.length_le
    have h2 := frm_pos s
    rw [List.length_drop] at h1
    omega
  | succ n ih =>
    intro bs hb
    by_cases h : ∃ s : List Int, s.length ≤ 131072 ∧ frm s <+: bs
    · obtain ⟨s, h1, h2⟩ := h
      have hp := frm_pos s
      obtain ⟨l, g1, g2, g3⟩ := ih (bs.drop (frm s).length) (by rw [List.length_drop]; omega)
      refine ⟨s :: l, ?_, pre_drop h2 g2, fun t ht => ?_⟩
      · intro r hr
        rcases List.mem_cons.1 hr with rfl | hr
        · exact h1
        · exact g1 r hr
      · have := g3 t ht
        rw [List.drop_drop, ← List.length_append] at this
        exact this
    · exact ⟨[], by simp, by simp [cat], fun s h1 h2 => h ⟨s, h1, by simpa [cat] using h2⟩⟩

/-- One frame more. -/
theorem sc_next {bs r : List Int} {l : List (List Int)} (h : cat l <+: bs) (h' : frm r <+: bs.drop (cat l).length) : cat (l ++ [r]) <+: bs ∧ (cat (l ++ [r])).length = (cat l).length + (Vm.sz r.length + r.length) := by
  rw [cat_app, cat_one]
  exact ⟨pre_drop h h', by rw [List.length_append, frm_len]⟩

/-- Where the frames begin. -/
def plc (a : Nat) : List (List Int) → List Nat
  | [] => []
  | r :: l => a :: plc (a + (Vm.sz r.length + r.length)) l

theorem plc_len : ∀ (l : List (List Int)) (a : Nat), (plc a l).length = l.length
  | [], _ => rfl
  | r :: l, a => by simp [plc, plc_len l]

theorem plc_at : ∀ (l : List (List Int)) (a k : Nat), k < l.length → (plc a l)[k]? = some (a + (cat (l.take k)).length)
  | [], _, _, h => by simp at h
  | r :: l, a, 0, _ => by simp [plc, cat]
  | r :: l, a, k + 1, h => by
    simp only [plc, List.getElem?_cons_succ, List.take_succ_cons, cat, List.length_append]
    rw [plc_at l _ k (by simpa using h), frm_len]
    congr 1
    omega

theorem plc_snoc : ∀ (l : List (List Int)) (r : List Int) (a : Nat), plc a (l ++ [r]) = plc a l ++ [a + (cat l).length]
  | [], r, a => by simp [plc, cat]
  | s :: l, r, a => by
    simp only [List.cons_append, plc, plc_snoc l, cat, List.length_append, frm_len]
    rw [Nat.add_assoc a]

theorem cat_take_le (l : List (List Int)) (k : Nat) : (cat (l.take k)).length ≤ (cat l).length := by
  have : cat l = cat (l.take k) ++ cat (l.drop k) := by rw [← cat_app, List.take_append_drop]
  rw [this, List.length_append]
  omega

/-- A first part of frames: those that lie in it whole are what Scan answers. -/
theorem sc_cut : ∀ {l : List (List Int)} {k n : Nat}, (∀ r ∈ l, r.length ≤ 131072) → n ≤ l.length → (cat (l.take n)).length ≤ k → (n < l.length → k < (cat (l.take (n + 1))).length) → k ≤ (cat l).length → Sc ((cat l).take k) (l.take n) := by
  intro l k n hw hn hk hk' hkl
  have e1 : cat l = cat (l.take n) ++ cat (l.drop n) := by rw [← cat_app, List.take_append_drop]
  have e2 : (cat l).take k = cat (l.take n) ++ (cat (l.drop n)).take (k - (cat (l.take n)).length) := by
    rw [e1, List.take_append]
    rw [List.take_of_length_le hk]
  refine ⟨fun r hr => hw r (List.mem_of_mem_take hr), by rw [e2]; exact List.prefix_append _ _, fun s hs h => ?_⟩
  rw [e2, List.drop_left] at h
  by_cases hlt : n < l.length
  · have hd : l.drop n = l[n] :: l.drop (n + 1) := List.drop_eq_getElem_cons hlt
    have h2 := h.trans (List.take_prefix _ _)
    rw [hd, cat] at h2
    have e3 : s = l[n] := frm_one h2 (List.prefix_append _ _)
    have h3 := h.length_le
    rw [List.length_take] at h3
    have h4 := hk' hlt
    rw [List.take_succ_eq_append_getElem hlt, cat_app, cat_one, List.length_append, ← e3] at h4
    omega
  · have hd : l.drop n = [] := List.drop_eq_nil_of_le (by omega)
    rw [hd, cat, List.take_nil] at h
    have h1 := h.length_le
    have h2 := frm_pos s
    rw [List.length_nil] at h1
    omega

theorem sc_all {l : List (List Int)} (hw : ∀ r ∈ l, r.length ≤ 131072) : Sc (cat l) l := by
  refine ⟨hw, List.prefix_refl _, fun s hs h => ?_⟩
  rw [List.drop_length] at h
  have h1 := h.length_le
  have h2 := frm_pos s
  rw [List.length_nil] at h1
  omega

end Fm
end Go.Proofs.YthndeolibilnnaaDoor
