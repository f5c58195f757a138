/- Texts of one layer, one behind the other. -/
import Derived.Test.YthmecljkackmbaaGreatZ1
import Derived.Maps.Ext
import Derived.Sort.KeysCollected
import Derived.Lib.SlMapEqual
/- Plain facts on a table: its ops by rising key, an op done to it, the map that reads so: no program, no walk. -/
namespace Go.Proofs.YthmecljkackmbaaGreat.Tm
open Bm Go.Sort

/-- One text stands before another. -/
def lt (a b : ByteArray) : Bool := bytesBefore a.data.toList b.data.toList

theorem lt_irr (a : ByteArray) : lt a a = false := WideAt.bytes_irrefl _
theorem lt_trans {a b c : ByteArray} (h : lt a b = true) (k : lt b c = true) : lt a c = true := WideShapes.bytes_trans _ _ _ h k
theorem lt_asy {a b : ByteArray} (h : lt a b = true) : lt b a = false := by
  cases e : lt b a
  · rfl
  · have := lt_trans h e
    rw [lt_irr] at this
    cases this
theorem lt_ne {a b : ByteArray} (h : lt a b = true) : a ≠ b := fun e => by rw [e, lt_irr] at h; cases h
theorem lt_tot {a b : ByteArray} (h : lt a b = false) (k : lt b a = false) : a = b := by
  by_cases e : a.data.toList = b.data.toList
  · exact ba_eq e
  · rcases WideAt.bytes_total _ _ e with h1 | h1
    · unfold lt at h
      rw [h1] at h
      cases h
    · unfold lt at k
      rw [h1] at k
      cases k

theorem less_before : ∀ (a b : List UInt8), Op.bytesLess a b = bytesBefore a b
  | _, [] => by rename_i a; cases a <;> rfl
  | [], _ :: _ => rfl
  | x :: a, y :: b => by rw [Op.bytesLess, bytesBefore, less_before a b]

theorem less_lt (a b : ByteArray) : Op.bytesLess a.toList b.toList = lt a b := by
  rw [ByteArray.toList_eq, ByteArray.toList_eq, less_before]
  rfl

theorem eqk (a b : ByteArray) : (a.toList == b.toList) = decide (a = b) := by
  rw [ByteArray.toList_eq, ByteArray.toList_eq]
  by_cases h : a = b
  · subst h; simp
  · have : a.data.toList ≠ b.data.toList := fun e => h (ba_eq e)
    rw [decide_eq_false h]
    simpa using fun e : a.data = b.data => this (by rw [e])

/-- The keys rise. -/
def Up (t : List Ov) : Prop := t.Pairwise fun x y => lt x.k y.k = true

/-- An op is done. -/
def one : List Ov → Ov → List Ov
  | [], o => [o]
  | x :: r, o => if lt x.k o.k then x :: one r o else if lt o.k x.k then o :: x :: r else o :: r

theorem mem_one : ∀ {t : List Ov} (o x : Ov), Up t → (x ∈ one t o ↔ x = o ∨ (x ∈ t ∧ x.k ≠ o.k))
  | [], o, x, _ => by simp [one]
  | y :: r, o, x, h => by
    obtain ⟨h1, h2⟩ := List.pairwise_cons.1 h
    rw [one]
    split
    · rename_i hy
      rw [List.mem_cons, mem_one o x h2, List.mem_cons]
      constructor
      · rintro (rfl | h | ⟨h, k⟩)
        · exact .inr ⟨.inl rfl, lt_ne hy⟩
        · exact .inl h
        · exact .inr ⟨.inr h, k⟩
      · rintro (h | ⟨h | h, k⟩)
        · exact .inr (.inl h)
        · exact .inl h
        · exact .inr (.inr ⟨h, k⟩)
    · rename_i hy
      split
      · rename_i ho
        rw [List.mem_cons]
        constructor
        · rintro (h | h)
          · exact .inl h
          · refine .inr ⟨h, fun e => ?_⟩
            rcases List.mem_cons.1 h with rfl | h
            · rw [e, lt_irr] at ho; cases ho
            · have := lt_trans ho (h1 x h)
              rw [e, lt_irr] at this
              cases this
        · rintro (h | ⟨h, _⟩)
          · exact .inl h
          · exact .inr h
      · rename_i ho
        have e1 : y.k = o.k := lt_tot (by simpa using hy) (by simpa using ho)
        rw [List.mem_cons, List.mem_cons]
        constructor
        · rintro (h | h)
          · exact .inl h
          · refine .inr ⟨.inr h, fun e => ?_⟩
            have := h1 x h
            rw [e, e1, lt_irr] at this
            cases this
        · rintro (h | ⟨rfl | h, k⟩)
          · exact .inl h
          · exact absurd e1 k
          · exact .inr h

theorem up_one : ∀ {t : List Ov} (o : Ov), Up t → Up (one t o)
  | [], o, _ => by simp [one, Up]
  | y :: r, o, h => by
    obtain ⟨h1, h2⟩ := List.pairwise_cons.1 h
    rw [one]
    split
    · rename_i hy
      refine List.pairwise_cons.2 ⟨fun x hx => ?_, up_one o h2⟩
      rcases (mem_one o x h2).1 hx with rfl | ⟨hx, _⟩
      · exact hy
      · exact h1 x hx
    · rename_i hy
      split
      · rename_i ho
        refine List.pairwise_cons.2 ⟨fun x hx => ?_, h⟩
        rcases List.mem_cons.1 hx with rfl | hx
        · exact ho
        · exact lt_trans ho (h1 x hx)
      · rename_i ho
        have e1 : y.k = o.k := lt_tot (by simpa using hy) (by simpa using ho)
        refine List.pairwise_cons.2 ⟨fun x hx => ?_, h2⟩
        rw [← e1]
        exact h1 x hx

/-- Two tables of the same ops are one. -/
theorem up_ext : ∀ {a b : List Ov}, Up a → Up b → (∀ x, x ∈ a ↔ x ∈ b) → a = b
  | [], [], _, _, _ => rfl
  | [], y :: s, _, _, h => by have := (h y).2 (by simp); simp at this
  | x :: r, [], _, _, h => by have := (h x).1 (by simp); simp at this
  | x :: r, y :: s, ha, hb, h => by
    obtain ⟨a1, a2⟩ := List.pairwise_cons.1 ha
    obtain ⟨b1, b2⟩ := List.pairwise_cons.1 hb
    have hxy : x = y := by
      rcases List.mem_cons.1 ((h x).1 (by simp)) with e | hx
      · exact e
      · rcases List.mem_cons.1 ((h y).2 (by simp)) with e | hy
        · exact e.symm
        · have := lt_trans (a1 y hy) (b1 x hx)
          rw [lt_irr] at this
          cases this
    subst hxy
    have nr : ∀ z ∈ r, z ≠ x := fun z hz e => by
      have := a1 z hz
      rw [e, lt_irr] at this
      cases this
    have ns : ∀ z ∈ s, z ≠ x := fun z hz e => by
      have := b1 z hz
      rw [e, lt_irr] at this
      cases this
    rw [up_ext a2 b2 fun z => ⟨fun hz => by
      rcases List.mem_cons.1 ((h z).1 (by simp [hz])) with e | e
      · exact absurd e (nr z hz)
      · exact e, fun hz => by
      rcases List.mem_cons.1 ((h z).2 (by simp [hz])) with e | e
      · exact absurd e (ns z hz)
      · exact e⟩]

theorem one_comm {t : List Ov} (x y : Ov) (h : Up t) (hne : x.k ≠ y.k) : one (one t x) y = one (one t y) x := by
  refine up_ext (up_one _ (up_one _ h)) (up_one _ (up_one _ h)) fun z => ?_
  rw [mem_one _ _ (up_one _ h), mem_one _ _ h, mem_one _ _ (up_one _ h), mem_one _ _ h]
  constructor
  · rintro (rfl | ⟨rfl | ⟨h1, h2⟩, h3⟩)
    · exact .inr ⟨.inl rfl, fun e => hne e.symm⟩
    · exact .inl rfl
    · exact .inr ⟨.inr ⟨h1, h3⟩, h2⟩
  · rintro (rfl | ⟨rfl | ⟨h1, h2⟩, h3⟩)
    · exact .inr ⟨.inl rfl, hne⟩
    · exact .inl rfl
    · exact .inr ⟨.inr ⟨h1, h3⟩, h2⟩

theorem one_len : ∀ (t : List Ov) (o : Ov), (one t o).length ≤ t.length + 1
  | [], o => by simp [one]
  | x :: r, o => by
    have := one_len r o
    rw [one]
    split
    · simp only [List.length_cons]; omega
    · split <;> simp only [List.length_cons] <;> omega

/-- Ops are done, in order. -/
def app (t : List Ov) (l : List Ov) : List Ov := l.foldl one t

theorem app_nil (t : List Ov) : app t [] = t := rfl
theorem app_cons (t l : List Ov) (o : Ov) : app t (o :: l) = app (one t o) l := rfl
theorem app_app (t l m : List Ov) : app t (l ++ m) = app (app t l) m := List.foldl_append
theorem app_snoc (t l : List Ov) (o : Ov) : app t (l ++ [o]) = one (app t l) o := by rw [app_app]; rfl

theorem up_app : ∀ {t : List Ov} (l : List Ov), Up t → Up (app t l)
  | _, [], h => h
  | _, o :: l, h => up_app l (up_one o h)

theorem app_len : ∀ (l t : List Ov), (app t l).length ≤ t.length + l.length
  | [], t => by simp [app]
  | o :: l, t => by
    have h1 := app_len l (one t o)
    have h2 := one_len t o
    rw [app_cons, List.length_cons]
    omega

theorem mem_app : ∀ {t : List Ov} (l : List Ov) (x : Ov), Up t → x ∈ app t l → x ∈ t ∨ x ∈ l
  | _, [], x, _, h => .inl h
  | t, o :: l, x, hu, h => by
    rcases mem_app l x (up_one o hu) h with h | h
    · rcases (mem_one o x hu).1 h with h | ⟨h, _⟩
      · exact .inr (by rw [h]; simp)
      · exact .inl h
    · exact .inr (by simp [h])

theorem one_last : ∀ {t : List Ov} (o : Ov), (∀ x ∈ t, lt x.k o.k = true) → one t o = t ++ [o]
  | [], o, _ => rfl
  | x :: r, o, h => by
    rw [one, if_pos (h x (by simp)), one_last o fun y hy => h y (by simp [hy])]
    rfl

theorem app_up : ∀ (l t : List Ov), Up (t ++ l) → app t l = t ++ l
  | [], t, _ => by simp [app]
  | o :: l, t, h => by
    have h1 : ∀ x ∈ t, lt x.k o.k = true := fun x hx => (List.pairwise_append.1 h).2.2 x hx o (by simp)
    rw [app_cons, one_last o h1, app_up l (t ++ [o]) (by simpa using h)]
    simp

/-- What a table goes over makes it anew. -/
theorem app_self {t : List Ov} (h : Up t) : app [] t = t := by
  have := app_up t [] h
  simpa using this

theorem app_swap (t l m : List Ov) (x y : Ov) (h : Up t) (hne : x.k ≠ y.k) : app t (l ++ x :: y :: m) = app t (l ++ y :: x :: m) := by
  rw [app_app, app_app, app_cons, app_cons, app_cons, app_cons, one_comm x y (up_app l h) hne]

/-- What lies under a key. -/
def get (t : List Ov) (k : ByteArray) : Option Ov := t.find? fun x => decide (x.k = k)

theorem get_some {t : List Ov} {k : ByteArray} {o : Ov} (h : get t k = some o) : o ∈ t ∧ o.k = k := ⟨List.mem_of_find?_eq_some h, by simpa using List.find?_some h⟩

theorem get_none {t : List Ov} {k : ByteArray} (h : get t k = none) : ∀ x ∈ t, x.k ≠ k := fun x hx => by simpa using List.find?_eq_none.1 h x hx

theorem get_mem {t : List Ov} {o : Ov} (h : Up t) (ho : o ∈ t) : get t o.k = some o := by
  cases e : get t o.k with
  | none => exact absurd rfl (get_none e o ho)
  | some q =>
    obtain ⟨h1, h2⟩ := get_some e
    congr 1
    induction t with
    | nil => simp at ho
    | cons x r ih =>
      obtain ⟨a1, a2⟩ := List.pairwise_cons.1 h
      rcases List.mem_cons.1 ho with rfl | ho
      · rcases List.mem_cons.1 h1 with h1 | h1
        · exact h1
        · have := a1 q h1
          rw [h2, lt_irr] at this
          cases this
      · rcases List.mem_cons.1 h1 with h1 | h1
        · have := a1 o ho
          rw [← h1, h2, lt_irr] at this
          cases this
        · have e2 : get r o.k = some q := by
            unfold get at e ⊢
            rw [List.find?_cons] at e
            have : decide (x.k = o.k) = false := by
              have := lt_ne (a1 o ho)
              simpa using this
            rw [this] at e
            exact e
          exact ih a2 ho e2 h1

/-- Was there an op on that key? -/
def met (t : List Ov) (k : ByteArray) : Bool := t.any fun x => decide (x.k = k)

theorem met_iff {t : List Ov} {k : ByteArray} : met t k = true ↔ ∃ x ∈ t, x.k = k := by simp [met]

theorem met_get (t : List Ov) (k : ByteArray) : met t k = (get t k).isSome := by
  cases e : get t k with
  | none =>
    rw [Option.isSome_none, Bool.eq_false_iff]
    intro h
    obtain ⟨x, h1, h2⟩ := met_iff.1 h
    exact get_none e x h1 h2
  | some o =>
    obtain ⟨h1, h2⟩ := get_some e
    rw [Option.isSome_some]
    exact met_iff.2 ⟨o, h1, h2⟩

theorem met_one {t : List Ov} (o : Ov) (k : ByteArray) (h : Up t) : met (one t o) k = (met t k || decide (o.k = k)) := by
  rw [Bool.eq_iff_iff, met_iff, Bool.or_eq_true, met_iff, decide_eq_true_eq]
  constructor
  · rintro ⟨x, hx, e⟩
    rcases (mem_one o x h).1 hx with rfl | ⟨hx, _⟩
    · exact .inr e
    · exact .inl ⟨x, hx, e⟩
  · rintro (⟨x, hx, e⟩ | e)
    · by_cases he : x.k = o.k
      · exact ⟨o, (mem_one o o h).2 (.inl rfl), by rw [← he]; exact e⟩
      · exact ⟨x, (mem_one o x h).2 (.inr ⟨hx, he⟩), e⟩
    · exact ⟨o, (mem_one o o h).2 (.inl rfl), e⟩

theorem met_app : ∀ {t : List Ov} (l : List Ov) (k : ByteArray), Up t → met (app t l) k = (met t k || met l k)
  | t, [], k, _ => by simp [app, met]
  | t, o :: l, k, h => by
    rw [app_cons, met_app l k (up_one o h), met_one o k h, Bool.or_assoc]
    simp [met]

/-- The ones with a value. -/
def live (t : List Ov) : List Ov := t.filter Ov.p

/-- Of sorted ones: a part of the same length is the whole. -/
theorem sub_up : ∀ {a b : List Ov}, Up a → Up b → (∀ x ∈ a, x ∈ b) → a.Sublist b
  | [], b, _, _, _ => List.nil_sublist b
  | x :: r, [], _, _, h => by have := h x (by simp); simp at this
  | x :: r, y :: s, ha, hb, h => by
    obtain ⟨a1, a2⟩ := List.pairwise_cons.1 ha
    obtain ⟨b1, b2⟩ := List.pairwise_cons.1 hb
    by_cases e : x = y
    · subst e
      refine List.Sublist.cons_cons x (sub_up a2 b2 fun z hz => ?_)
      rcases List.mem_cons.1 (h z (by simp [hz])) with e | hz'
      · have := a1 z hz
        rw [e, lt_irr] at this
        cases this
      · exact hz'
    · have hx : x ∈ s := by
        rcases List.mem_cons.1 (h x (by simp)) with h1 | h1
        · exact absurd h1 e
        · exact h1
      refine List.Sublist.cons y (sub_up ha b2 fun z hz => ?_)
      rcases List.mem_cons.1 (h z hz) with e1 | h1
      · exfalso
        have hyx := b1 x hx
        rcases List.mem_cons.1 hz with e2 | h2
        · exact e (e2.symm.trans e1)
        · have h3 := lt_trans (a1 z h2) (by rw [e1]; exact hyx)
          rw [lt_irr] at h3
          cases h3
      · exact h1

theorem part_all {a b : List Ov} (ha : Up a) (hb : Up b) (hl : a.length = b.length) (h : ∀ x ∈ a, x ∈ b) : a = b := (sub_up ha hb h).eq_of_length hl

/-- What an entry of the map reads as. -/
def el (o : Ov) : DataW Unit := .agg [.lit (.string o.vl), .lit (.bool o.p)]
def en (o : Ov) : Lit × DataW Unit := (.string o.kl, el o)
/-- What the map reads as. -/
def dat (t : List Ov) : DataW Unit := .map (t.map en)

theorem kl_ne {a b : Ov} (h : a.k ≠ b.k) : a.kl ≠ b.kl := fun e => h (ba_eq e)

theorem keep_gt (o : Ov) : ∀ (r : List Ov), (∀ x ∈ r, lt o.k x.k = true) → (r.map en).filter (ChangeMaps.notKey (.string o.kl)) = r.map en := fun r h => by
  refine List.filter_eq_self.2 fun p hp => ?_
  obtain ⟨x, hx, rfl⟩ := List.mem_map.1 hp
  have := kl_ne (lt_ne (h x hx)).symm
  simp [ChangeMaps.notKey, en, Lit.sameKey, this]

theorem ins_gt (o : Ov) : ∀ (r : List Ov), (∀ x ∈ r, lt o.k x.k = true) → DataW.insert (en o) (r.map en) = (o :: r).map en
  | [], _ => rfl
  | x :: r, h => by
    have h1 : (en o).1.before (en x).1 = true := h x (by simp)
    rw [List.map_cons, DataW.insert, if_pos h1]
    rfl

theorem put_one : ∀ {t : List Ov} (o : Ov), Up t → ChangeMaps.putKey (.string o.kl) (el o) (t.map en) = (one t o).map en
  | [], o, _ => rfl
  | y :: r, o, h => by
    obtain ⟨h1, h2⟩ := List.pairwise_cons.1 h
    have ih := put_one o h2
    unfold ChangeMaps.putKey at ih ⊢
    rw [one]
    split
    · rename_i hy
      have e1 : ChangeMaps.notKey (.string o.kl) (en y) = true := by
        have := kl_ne (lt_ne hy)
        simp [ChangeMaps.notKey, en, Lit.sameKey, this]
      have e2 : ¬ (en o).1.before (en y).1 = true := by
        have := lt_asy hy
        show ¬ bytesBefore o.kl y.kl = true
        unfold lt at this
        unfold Ov.kl
        rw [this]
        simp
      rw [List.map_cons, List.filter_cons, if_pos e1]
      show DataW.insert (en o) _ = _
      rw [DataW.insert, if_neg e2, List.map_cons]
      congr 1
    · rename_i hy
      split
      · rename_i ho
        have h3 : ∀ x ∈ y :: r, lt o.k x.k = true := fun x hx => by
          rcases List.mem_cons.1 hx with rfl | hx
          · exact ho
          · exact lt_trans ho (h1 x hx)
        rw [keep_gt o _ h3]
        exact ins_gt o _ h3
      · rename_i ho
        have e1 : y.k = o.k := lt_tot (by simpa using hy) (by simpa using ho)
        have e2 : ChangeMaps.notKey (.string o.kl) (en y) = false := by
          have : y.kl = o.kl := by unfold Ov.kl; rw [e1]
          simp [ChangeMaps.notKey, en, Lit.sameKey, this]
        have h3 : ∀ x ∈ r, lt o.k x.k = true := fun x hx => by rw [← e1]; exact h1 x hx
        rw [List.map_cons, List.filter_cons, e2, keep_gt o r h3]
        exact ins_gt o r h3

theorem dat_put {t : List Ov} (o : Ov) (h : Up t) : (dat t).put (.string o.kl) (el o) = dat (one t o) := by
  unfold dat
  rw [DataW.put_eq, put_one o h]

theorem dat_size (t : List Ov) : Maps.size (dat t) = t.length := by simp [dat, Maps.size]

theorem find_en (k : ByteArray) : ∀ (t : List Ov), (t.map en).find? (fun p => p.1.sameKey (.string k.data.toList)) = (get t k).map en
  | [] => rfl
  | x :: r => by
    have ih := find_en k r
    unfold get at ih ⊢
    rw [List.map_cons, List.find?_cons, List.find?_cons, ih]
    by_cases e : x.k = k
    · have : (en x).1.sameKey (.string k.data.toList) = true := by simp [en, Lit.sameKey, Ov.kl, e]
      rw [this]
      simp [e]
    · have e2 : x.k.data.toList ≠ k.data.toList := fun h => e (ba_eq h)
      have : (en x).1.sameKey (.string k.data.toList) = false := by
        show (x.k.data.toList == k.data.toList) = false
        simpa using e2
      rw [this]
      simp [e]

theorem dat_at (t : List Ov) (k : ByteArray) (z : DataW Unit) : (dat t).atKey (.string k.data.toList) z = match get t k with | some o => el o | none => z := by
  simp only [dat, DataW.atKey, find_en]
  cases get t k <;> rfl

theorem dat_has (t : List Ov) (k : ByteArray) : Maps.has (dat t) (.string k.data.toList) = (get t k).isSome := by
  show (t.map en).any (fun p => p.1.sameKey (.string k.data.toList)) = _
  have h := find_en k t
  cases e : get t k with
  | none =>
    rw [e, Option.map_none, List.find?_eq_none] at h
    rw [Option.isSome_none, List.any_eq_false]
    exact h
  | some o =>
    rw [e, Option.map_some] at h
    rw [Option.isSome_some, List.any_eq_true]
    exact ⟨en o, List.mem_of_find?_eq_some h, by simpa using List.find?_some h⟩

theorem dat_keys (t : List Ov) : strKeys (dat t) = t.map Ov.kl := by
  show ((t.map en).map fun p => strOf p.1) = _
  rw [List.map_map]
  rfl

theorem lt_lt : ∀ (a b : List UInt8), bytesBefore a b = true → a ≤ b
  | [], _, _ => List.nil_le _
  | _ :: _, [], h => by cases h
  | x :: a, y :: b, h => by
    rw [bytesBefore, Bool.or_eq_true, Bool.and_eq_true, decide_eq_true_eq, beq_iff_eq] at h
    rcases h with h | ⟨rfl, h⟩
    · exact List.le_of_lt (List.cons_lt_cons_iff.2 (.inl h))
    · exact List.cons_le_cons_iff.2 (.inr ⟨rfl, lt_lt a b h⟩)

/-- The keys sorted are the keys as they lie. -/
theorem dat_sorted {t : List Ov} (h : Up t) {ss : List (List UInt8)} (hp : ss.Perm (strKeys (dat t))) : ss.mergeSort (fun x y => decide (x ≤ y)) = t.map Ov.kl := by
  rw [dat_keys] at hp
  rw [mergeSort_of_perm hp]
  refine List.mergeSort_of_pairwise ?_
  rw [List.pairwise_map]
  exact h.imp fun {x y} hxy => decide_eq_true (lt_lt _ _ hxy)

/-- Are two entries alike? -/
def eqe : DataW Unit → DataW Unit → Bool
  | .agg [.lit (.string a), .lit (.bool p)], .agg [.lit (.string b), .lit (.bool q)] => a == b && p == q
  | _, _ => false

theorem eqe_el (x y : Ov) : eqe (el x) (el y) = (x.vl == y.vl && x.p == y.p) := rfl

theorem same_dat {a b : List Ov} (ha : Up a) (hb : Up b) : Lib.equalFuncD eqe (dat a) (dat b) = true ↔ a = b := by
  unfold Lib.equalFuncD
  rw [Bool.and_eq_true, decide_eq_true_eq, dat_size, dat_size, List.all_eq_true]
  have hg : ∀ x ∈ a, (Lib.goodD eqe (dat b) (en x) = true ↔ x ∈ b) := fun x hx => by
    unfold Lib.goodD
    show (Maps.has (dat b) (.string x.k.data.toList) && eqe (el x) ((dat b).atKey (.string x.k.data.toList) .nil)) = true ↔ _
    rw [dat_has, dat_at]
    cases e : get b x.k with
    | none =>
      simp only [Option.isSome_none, Bool.false_and, Bool.false_eq_true, false_iff]
      exact fun h => get_none e x h rfl
    | some o =>
      obtain ⟨h1, h2⟩ := get_some e
      simp only [Option.isSome_some, Bool.true_and]
      rw [eqe_el, Bool.and_eq_true, beq_iff_eq, beq_iff_eq]
      constructor
      · rintro ⟨e1, e2⟩
        have : x = o := Ov.eq e2 (by unfold Ov.kl; rw [h2]) e1
        rw [this]
        exact h1
      · intro hm
        have := get_mem hb hm
        rw [e] at this
        cases this
        exact ⟨rfl, rfl⟩
  constructor
  · rintro ⟨hl, h⟩
    exact part_all ha hb hl fun x hx => (hg x hx).1 (h (en x) (List.mem_map.2 ⟨x, hx, rfl⟩))
  · rintro rfl
    refine ⟨rfl, fun p hp => ?_⟩
    obtain ⟨x, hx, rfl⟩ := List.mem_map.1 hp
    exact (hg x hx).2 hx

/-! The document's way. -/

/-- A round of the document's One. -/
def stp (o : Ov) (s : List Ov × Bool) (x : Ov) : List Ov × Bool :=
  if !s.2 && !lt x.k o.k then (if x.k = o.k then (s.1 ++ [o], true) else (s.1 ++ [o] ++ [x], true))
  else (if x.k = o.k then s else (s.1 ++ [x], s.2))

/-- Its end. -/
def fin (o : Ov) (s : List Ov × Bool) : List Ov := if s.2 then s.1 else s.1 ++ [o]

theorem stp_true (o : Ov) : ∀ (r : List Ov) (out : List Ov), (∀ x ∈ r, lt o.k x.k = true) → r.foldl (stp o) (out, true) = (out ++ r, true)
  | [], out, _ => by simp
  | x :: r, out, h => by
    have h1 : x.k ≠ o.k := (lt_ne (h x (by simp))).symm
    rw [List.foldl_cons]
    have : stp o (out, true) x = (out ++ [x], true) := by simp [stp, h1]
    rw [this, stp_true o r _ fun y hy => h y (by simp [hy])]
    simp

theorem stp_one (o : Ov) : ∀ (t : List Ov) (out : List Ov), Up t → fin o (t.foldl (stp o) (out, false)) = out ++ one t o
  | [], out, _ => by simp [fin, one]
  | x :: r, out, h => by
    obtain ⟨h1, h2⟩ := List.pairwise_cons.1 h
    rw [List.foldl_cons, one]
    split
    · rename_i hx
      have : stp o (out, false) x = (out ++ [x], false) := by simp [stp, hx, lt_ne hx]
      rw [this, stp_one o r _ h2]
      simp
    · rename_i hx
      have hx' : lt x.k o.k = false := by simpa using hx
      split
      · rename_i ho
        have hne : x.k ≠ o.k := (lt_ne ho).symm
        have : stp o (out, false) x = (out ++ [o] ++ [x], true) := by simp [stp, hx', hne]
        rw [this, stp_true o r _ fun y hy => lt_trans ho (h1 y hy)]
        simp [fin]
      · rename_i ho
        have e1 : x.k = o.k := lt_tot hx' (by simpa using ho)
        have : stp o (out, false) x = (out ++ [o], true) := by simp [stp, e1, lt_irr]
        rw [this, stp_true o r _ fun y hy => by rw [← e1]; exact h1 y hy]
        simp [fin]

end Go.Proofs.YthmecljkackmbaaGreat.Tm

/- Commits, by mathematics: what Check, Encode, Decode and Follows come to. No program. -/
namespace Go.Proofs.YthmecljkackmbaaGreat.Cm
open Vm Om Bm
set_option linter.unusedVariables false

/-- A commit. -/
structure Cv where
  e : Int
  n : Int
  l : List Ov

def chk (e n : Int) (l : List Ov) : Int := if 1 ≤ e ∧ e ≤ 1048576 ∧ 1 ≤ n ∧ n ≤ 1048576 then chkL l else 2

theorem chk_in {e n : Int} {l : List Ov} (h : 1 ≤ e ∧ e ≤ 1048576 ∧ 1 ≤ n ∧ n ≤ 1048576) : chk e n l = chkL l := by unfold chk; rw [if_pos h]
theorem chk_out {e n : Int} {l : List Ov} (h : ¬ (1 ≤ e ∧ e ≤ 1048576 ∧ 1 ≤ n ∧ n ≤ 1048576)) : chk e n l = 2 := by unfold chk; rw [if_neg h]

theorem chk_zero {e n : Int} {l : List Ov} (h : chk e n l = 0) : 1 ≤ e ∧ e ≤ 1048576 ∧ 1 ≤ n ∧ n ≤ 1048576 ∧ chkL l = 0 := by
  by_cases hb : 1 ≤ e ∧ e ≤ 1048576 ∧ 1 ≤ n ∧ n ≤ 1048576
  · rw [chk_in hb] at h
    exact ⟨hb.1, hb.2.1, hb.2.2.1, hb.2.2.2, h⟩
  · rw [chk_out hb] at h
    simp at h

theorem chk_three (e n : Int) (l : List Ov) : chk e n l = 0 ∨ chk e n l = 2 ∨ chk e n l = 3 := by
  unfold chk
  split
  · exact chkL_four l
  · exact .inr (.inl rfl)

/-- Its bytes. -/
def encC (e n : Int) (l : List Ov) : List Int := enc e.toNat ++ (enc n.toNat ++ encB l)
def out (e n : Int) (l : List Ov) : List Int := if chk e n l = 0 then encC e n l else []

theorem out_ok {e n : Int} {l : List Ov} (h : chk e n l = 0) : out e n l = encC e n l := by unfold out; rw [if_pos h]
theorem out_no {e n : Int} {l : List Ov} (h : chk e n l ≠ 0) : out e n l = [] := by unfold out; rw [if_neg h]

theorem enc_small {x : Int} (h : x ≤ 1048576) : (enc x.toNat).length ≤ 3 := sz_le 2 x.toNat (by omega)

theorem encC_small {e n : Int} {l : List Ov} (h : chk e n l = 0) : (encC e n l).length ≤ 430 := by
  obtain ⟨_, h1, _, h2, h3⟩ := chk_zero h
  have := enc_small h1
  have := enc_small h2
  have := encB_small h3
  unfold encC
  simp only [List.length_append]
  omega

theorem out_small (e n : Int) (l : List Ov) : (out e n l).length ≤ 430 := by
  by_cases h : chk e n l = 0
  · rw [out_ok h]; exact encC_small h
  · rw [out_no h]; simp

theorem encC_one {e n e' n' : Int} {l l' : List Ov} (h : chk e n l = 0) (h' : chk e' n' l' = 0) (he : encC e n l = encC e' n' l') : e = e' ∧ n = n' ∧ l = l' := by
  obtain ⟨h1, h2, h3, h4, h5⟩ := chk_zero h
  obtain ⟨g1, g2, g3, g4, g5⟩ := chk_zero h'
  unfold encC at he
  have p1 := pre_one (enc e.toNat ++ (enc n.toNat ++ encB l)) e.toNat e'.toNat (List.prefix_append _ _) (by rw [he]; exact List.prefix_append _ _)
  have e1 : e = e' := by omega
  subst e1
  have he2 := List.append_cancel_left he
  have p2 := pre_one (enc n.toNat ++ encB l) n.toNat n'.toNat (List.prefix_append _ _) (by rw [he2]; exact List.prefix_append _ _)
  have e2 : n = n' := by omega
  subst e2
  have he3 := List.append_cancel_left he2
  exact ⟨rfl, rfl, encB_free (List.prefix_refl _) (by rw [he3]; exact List.prefix_refl _) (shapes h5) (shapes g5)⟩

/-- What Decode comes to: the commit, the error. -/
def CRes (bs : List Int) (e n : Int) (l : List Ov) (g : Int) : Prop :=
  (g = 0 ∧ chk e n l = 0 ∧ encC e n l = bs) ∨ (g = 5 ∧ e = 0 ∧ n = 0 ∧ l = [] ∧ ∀ e' n' l', chk e' n' l' = 0 → encC e' n' l' ≠ bs)

theorem cres_one {bs : List Int} {e n e' n' g g' : Int} {l l' : List Ov} (h : CRes bs e n l g) (k : CRes bs e' n' l' g') : e = e' ∧ n = n' ∧ l = l' ∧ g = g' := by
  rcases h with ⟨rfl, h1, h2⟩ | ⟨rfl, rfl, rfl, rfl, h⟩ <;> rcases k with ⟨rfl, k1, k2⟩ | ⟨rfl, rfl, rfl, rfl, k⟩
  · obtain ⟨rfl, rfl, rfl⟩ := encC_one h1 k1 (h2.trans k2.symm)
    exact ⟨rfl, rfl, rfl, rfl⟩
  · exact absurd h2 (k _ _ _ h1)
  · exact absurd k2 (h _ _ _ k1)
  · exact ⟨rfl, rfl, rfl, rfl⟩

theorem cres_good {bs : List Int} {e n e' n' g' : Int} {l l' : List Ov} (hc : chk e n l = 0) (h : encC e n l = bs) (k : CRes bs e' n' l' g') : e' = e ∧ n' = n ∧ l' = l ∧ g' = 0 := by
  obtain ⟨rfl, rfl, rfl, rfl⟩ := cres_one (.inl ⟨rfl, hc, h⟩ : CRes bs e n l 0) k
  exact ⟨rfl, rfl, rfl, rfl⟩

theorem cres_no {bs : List Int} {e n g : Int} {l : List Ov} (h : ∀ e' n' l', chk e' n' l' = 0 → encC e' n' l' ≠ bs) (k : CRes bs e n l g) : e = 0 ∧ n = 0 ∧ l = [] ∧ g = 5 := by
  obtain ⟨rfl, rfl, rfl, rfl⟩ := cres_one (.inr ⟨rfl, rfl, rfl, rfl, h⟩ : CRes bs 0 0 [] 5) k
  exact ⟨rfl, rfl, rfl, rfl⟩

theorem cres_e {bs : List Int} {e n g : Int} {l : List Ov} (h : CRes bs e n l g) : g = 0 ∨ g = 5 := by
  rcases h with ⟨h, _⟩ | ⟨h, _⟩
  · exact .inl h
  · exact .inr h

theorem cres_bounds {bs : List Int} {e n g : Int} {l : List Ov} (h : CRes bs e n l g) : 0 ≤ e ∧ e ≤ 1048576 ∧ 0 ≤ n ∧ n ≤ 1048576 := by
  rcases h with ⟨_, h, _⟩ | ⟨_, rfl, rfl, _⟩
  · obtain ⟨h1, h2, h3, h4, _⟩ := chk_zero h
    omega
  · omega

/-- Bytes that no small number begins. -/
def NoNum (bs : List Int) : Prop := ∀ x : Nat, x ≤ 1048576 → ¬ enc x <+: bs

theorem no_epoch {bs : List Int} (h : NoNum bs) : ∀ e n l, chk e n l = 0 → encC e n l ≠ bs := by
  intro e n l hc he
  obtain ⟨h1, h2, _⟩ := chk_zero hc
  exact h e.toNat (by omega) (by rw [← he]; exact List.prefix_append _ _)

theorem enc_drop {x : Nat} {bs : List Int} (h : enc x <+: bs) : bs = enc x ++ bs.drop (sz x) := by
  obtain ⟨t, rfl⟩ := h
  simp [sz]

theorem no_number {bs : List Int} {x : Nat} (hx : enc x <+: bs) (h : NoNum (bs.drop (sz x))) : ∀ e n l, chk e n l = 0 → encC e n l ≠ bs := by
  intro e n l hc he
  obtain ⟨h1, h2, h3, h4, _⟩ := chk_zero hc
  have p : enc e.toNat <+: bs := by rw [← he]; exact List.prefix_append _ _
  obtain rfl := pre_one _ _ _ hx p
  refine h n.toNat (by omega) ?_
  rw [← he]
  simp [encC, sz]

/-- What follows the two numbers. -/
theorem both_drop {bs : List Int} {x y : Nat} (hx : enc x <+: bs) (hy : enc y <+: bs.drop (sz x)) : bs = enc x ++ (enc y ++ bs.drop (sz x + sz y)) := by
  have h1 := enc_drop hx
  have h2 := enc_drop hy
  rw [List.drop_drop] at h2
  rw [← h2]
  exact h1

theorem enc_pre {bs : List Int} {x y : Nat} {e n : Int} {l : List Ov} (hx : enc x <+: bs) (hy : enc y <+: bs.drop (sz x)) (hc : chk e n l = 0) (he : encC e n l = bs) : e = x ∧ n = y ∧ encB l = bs.drop (sz x + sz y) := by
  obtain ⟨h1, h2, h3, h4, h5⟩ := chk_zero hc
  have p : enc e.toNat <+: bs := by rw [← he]; exact List.prefix_append _ _
  have e1 := pre_one _ _ _ hx p
  have q : enc n.toNat <+: bs.drop (sz x) := by rw [← he, e1]; simp [encC, sz]
  have e2 := pre_one _ _ _ hy q
  refine ⟨by omega, by omega, ?_⟩
  have hb := both_drop hx hy
  rw [← he] at hb
  unfold encC at hb
  rw [e1, e2] at hb
  have := List.append_cancel_left (List.append_cancel_left hb)
  rw [this, ← he, e1, e2, encC]

/-- The batch behind the two numbers is none. -/
theorem no_batch {bs : List Int} {x y : Nat} (hx : enc x <+: bs) (hy : enc y <+: bs.drop (sz x)) (h : ∀ m, chkL m = 0 → ¬ encB m <+: bs.drop (sz x + sz y)) : ∀ e n l, chk e n l = 0 → encC e n l ≠ bs := by
  intro e n l hc he
  obtain ⟨_, _, h3⟩ := enc_pre hx hy hc he
  exact h l (chk_zero hc).2.2.2.2 (by rw [h3]; exact List.prefix_refl _)

/-- There is one, but the commit that it makes may not be, or bytes are left. -/
theorem no_left {bs : List Int} {x y : Nat} {m : List Ov} (hx : enc x <+: bs) (hy : enc y <+: bs.drop (sz x)) (hm : chkL m = 0) (hp : encB m <+: bs.drop (sz x + sz y)) (h : sz x + sz y + (encB m).length ≠ bs.length ∨ chk x y m ≠ 0) : ∀ e n l, chk e n l = 0 → encC e n l ≠ bs := by
  intro e n l hc he
  obtain ⟨rfl, rfl, h3⟩ := enc_pre hx hy hc he
  obtain rfl := encB_free hp (show encB l <+: _ by rw [h3]; exact List.prefix_refl _) (shapes hm) (shapes (chk_zero hc).2.2.2.2)
  rcases h with h | h
  · apply h
    have := congrArg List.length he
    simp only [encC, List.length_append, Int.toNat_natCast] at this
    unfold sz
    omega
  · exact h hc

theorem is_commit {bs : List Int} {x y : Nat} {m : List Ov} (hx : enc x <+: bs) (hy : enc y <+: bs.drop (sz x)) (hp : encB m <+: bs.drop (sz x + sz y)) (hl : sz x + sz y + (encB m).length = bs.length) : encC x y m = bs := by
  have h1 := both_drop hx hy
  have h2 : encB m = bs.drop (sz x + sz y) := by
    obtain ⟨t, ht⟩ := hp
    have := congrArg List.length ht
    simp only [List.length_append, List.length_drop] at this
    have : t = [] := List.eq_nil_of_length_eq_zero (by omega)
    subst this
    simpa using ht
  unfold encC
  rw [Int.toNat_natCast, Int.toNat_natCast, h2]
  exact h1.symm

/-- What Follows comes to: the error, the place. -/
def fol (ep nu : Int) (i : Nat) : List Cv → Int × Int
  | [] => (0, 0)
  | c :: r => if chk c.e c.n c.l ≠ 0 then (chk c.e c.n c.l, i) else if c.n - 1 ≠ nu ∨ c.e < ep then (15, i) else fol c.e c.n (i + 1) r

theorem fol_nil (ep nu : Int) (i : Nat) : fol ep nu i [] = (0, 0) := rfl
theorem fol_bad {ep nu : Int} {i : Nat} {c : Cv} {r : List Cv} (h : chk c.e c.n c.l ≠ 0) : fol ep nu i (c :: r) = (chk c.e c.n c.l, (i : Int)) := by simp [fol, h]
theorem fol_off {ep nu : Int} {i : Nat} {c : Cv} {r : List Cv} (h : chk c.e c.n c.l = 0) (h' : c.n - 1 ≠ nu ∨ c.e < ep) : fol ep nu i (c :: r) = (15, (i : Int)) := by rw [fol, if_neg (by simp [h]), if_pos h']
theorem fol_on {ep nu : Int} {i : Nat} {c : Cv} {r : List Cv} (h : chk c.e c.n c.l = 0) (h' : ¬ (c.n - 1 ≠ nu ∨ c.e < ep)) : fol ep nu i (c :: r) = fol c.e c.n (i + 1) r := by rw [fol, if_neg (by simp [h]), if_neg h']

/-- One fault: what is wrong with c. -/
def flt (at' : Int) (ep nu : Int) (c : Cv) : Int × Int := if chk c.e c.n c.l ≠ 0 then (chk c.e c.n c.l, at') else if c.n - 1 ≠ nu ∨ c.e < ep then (15, at') else (0, 0)

theorem flt_bad {a ep nu : Int} {c : Cv} (h : chk c.e c.n c.l ≠ 0) : flt a ep nu c = (chk c.e c.n c.l, a) := by simp [flt, h]
theorem flt_off {a ep nu : Int} {c : Cv} (h : chk c.e c.n c.l = 0) (h' : c.n - 1 ≠ nu ∨ c.e < ep) : flt a ep nu c = (15, a) := by rw [flt, if_neg (by simp [h]), if_pos h']
theorem flt_on {a ep nu : Int} {c : Cv} (h : chk c.e c.n c.l = 0) (h' : ¬ (c.n - 1 ≠ nu ∨ c.e < ep)) : flt a ep nu c = (0, 0) := by rw [flt, if_neg (by simp [h]), if_neg h']

theorem flt_zero {a ep nu : Int} {c : Cv} (h : (flt a ep nu c).1 = 0) : chk c.e c.n c.l = 0 ∧ ¬ (c.n - 1 ≠ nu ∨ c.e < ep) ∧ (flt a ep nu c).2 = 0 := by
  by_cases h1 : chk c.e c.n c.l = 0
  · by_cases h2 : c.n - 1 ≠ nu ∨ c.e < ep
    · rw [flt_off h1 h2] at h
      simp at h
    · refine ⟨h1, h2, ?_⟩
      rw [flt_on h1 h2]
  · rw [flt_bad h1] at h
    exact absurd h h1

theorem fol_stop {ep nu : Int} {i : Nat} {c : Cv} {r : List Cv} (h : (flt i ep nu c).1 ≠ 0) : fol ep nu i (c :: r) = flt i ep nu c := by
  by_cases h1 : chk c.e c.n c.l = 0
  · by_cases h2 : c.n - 1 ≠ nu ∨ c.e < ep
    · rw [flt_off h1 h2, fol_off h1 h2]
    · rw [flt_on h1 h2] at h
      simp at h
  · rw [flt_bad h1, fol_bad h1]

theorem fol_next {ep nu : Int} {i : Nat} {c : Cv} {r : List Cv} (h : (flt i ep nu c).1 = 0) : fol ep nu i (c :: r) = fol c.e c.n (i + 1) r := by
  obtain ⟨h1, h2, _⟩ := flt_zero h
  exact fol_on h1 h2

/-- All of them follow. -/
def Good (ep nu : Int) : List Cv → Prop
  | [] => True
  | c :: r => chk c.e c.n c.l = 0 ∧ c.n - 1 = nu ∧ ep ≤ c.e ∧ Good c.e c.n r

theorem fol_good : ∀ (l : List Cv) (ep nu : Int) (i : Nat), (fol ep nu i l).1 = 0 ↔ Good ep nu l
  | [], _, _, _ => by simp [fol, Good]
  | c :: r, ep, nu, i => by
    by_cases h1 : chk c.e c.n c.l = 0
    · by_cases h2 : c.n - 1 ≠ nu ∨ c.e < ep
      · rw [fol_off h1 h2]
        simp only [Good]
        constructor
        · intro h; simp at h
        · intro h; omega
      · rw [fol_on h1 h2, fol_good r]
        simp only [Good]
        constructor
        · intro h; exact ⟨h1, by omega, by omega, h⟩
        · intro h; exact h.2.2.2
    · rw [fol_bad h1]
      simp only [Good]
      constructor
      · intro h; exact absurd h h1
      · intro h; exact absurd h.1 h1

theorem fol_at : ∀ (l : List Cv) (ep nu : Int) (i : Nat), (fol ep nu i l).1 = 0 → (fol ep nu i l).2 = 0
  | [], _, _, _, _ => rfl
  | c :: r, ep, nu, i, h => by
    by_cases h1 : chk c.e c.n c.l = 0
    · by_cases h2 : c.n - 1 ≠ nu ∨ c.e < ep
      · rw [fol_off h1 h2] at h
        simp at h
      · rw [fol_on h1 h2] at h ⊢
        exact fol_at r _ _ _ h
    · rw [fol_bad h1] at h
      exact absurd h h1

theorem fol_bounds : ∀ (l : List Cv) (ep nu : Int) (i : Nat), 0 ≤ (fol ep nu i l).2 ∧ (fol ep nu i l).2 ≤ i + l.length ∧ ((fol ep nu i l).1 = 0 ∨ (fol ep nu i l).1 = 2 ∨ (fol ep nu i l).1 = 3 ∨ (fol ep nu i l).1 = 15)
  | [], _, _, _ => by simp [fol]
  | c :: r, ep, nu, i => by
    by_cases h1 : chk c.e c.n c.l = 0
    · by_cases h2 : c.n - 1 ≠ nu ∨ c.e < ep
      · rw [fol_off h1 h2]
        simp
        omega
      · rw [fol_on h1 h2]
        have := fol_bounds r c.e c.n (i + 1)
        simp only [List.length_cons]
        omega
    · rw [fol_bad h1]
      have := chk_three c.e c.n c.l
      simp only [List.length_cons]
      omega

/-- The end behind a list. -/
def lastE (ep : Int) : List Cv → Int
  | [] => ep
  | c :: r => lastE c.e r
def lastN (nu : Int) : List Cv → Int
  | [] => nu
  | c :: r => lastN c.n r

theorem good_app : ∀ (l m : List Cv) (ep nu : Int), Good ep nu (l ++ m) ↔ Good ep nu l ∧ Good (lastE ep l) (lastN nu l) m
  | [], m, _, _ => by simp [Good, lastE, lastN]
  | c :: r, m, ep, nu => by
    simp only [List.cons_append, Good, lastE, lastN, good_app r m]
    constructor
    · rintro ⟨h1, h2, h3, h4, h5⟩; exact ⟨⟨h1, h2, h3, h4⟩, h5⟩
    · rintro ⟨⟨h1, h2, h3, h4⟩, h5⟩; exact ⟨h1, h2, h3, h4, h5⟩

theorem last_snoc : ∀ (l : List Cv) (c : Cv) (ep nu : Int), lastE ep (l ++ [c]) = c.e ∧ lastN nu (l ++ [c]) = c.n
  | [], _, _, _ => ⟨rfl, rfl⟩
  | d :: r, c, ep, nu => by simpa [lastE, lastN] using last_snoc r c d.e d.n

theorem good_take {l : List Cv} {ep nu : Int} (h : Good ep nu l) (k : Nat) : Good ep nu (l.take k) := by
  rw [← List.take_append_drop k l, good_app] at h
  exact h.1

/-- What stands at a place of a list that follows. -/
theorem good_at : ∀ (l : List Cv) (ep nu : Int) (k : Nat) (c : Cv), Good ep nu l → l[k]? = some c → chk c.e c.n c.l = 0 ∧ c.n - 1 - k = nu ∧ lastE ep (l.take k) ≤ c.e ∧ lastN nu (l.take k) = nu + k
  | [], _, _, _, _, _, h => by simp at h
  | d :: r, ep, nu, 0, c, hg, h => by
    simp at h
    subst h
    obtain ⟨h1, h2, h3, _⟩ := hg
    exact ⟨h1, by omega, by simpa [lastE] using h3, by simp [lastN]⟩
  | d :: r, ep, nu, k + 1, c, hg, h => by
    obtain ⟨h1, h2, h3, h4⟩ := hg
    obtain ⟨g1, g2, g3, g4⟩ := good_at r d.e d.n k c h4 (by simpa using h)
    refine ⟨g1, by omega, by simpa [lastE] using g3, ?_⟩
    simp only [List.take_succ_cons, lastN]
    rw [g4]
    omega

theorem fol_app_good : ∀ (l m : List Cv) (ep nu : Int) (i : Nat), Good ep nu l → fol ep nu i (l ++ m) = fol (lastE ep l) (lastN nu l) (i + l.length) m
  | [], m, _, _, _, _ => by simp [lastE, lastN]
  | c :: r, m, ep, nu, i, h => by
    obtain ⟨h1, h2, h3, h4⟩ := h
    rw [List.cons_append, fol_on h1 (by omega), fol_app_good r m _ _ _ h4, List.length_cons, lastE, lastN, show i + 1 + r.length = i + (r.length + 1) by omega]

/-- A list that follows, one of its midst left out. -/
theorem fol_gap {l : List Cv} {ep nu : Int} (h : Good ep nu l) (k : Nat) (hk : k + 1 < l.length) : fol ep nu 0 (l.take k ++ l.drop (k + 1)) = (15, (k : Int)) := by
  rw [fol_app_good _ _ _ _ _ (good_take h k)]
  have e1 : l.drop (k + 1) = l[k + 1] :: l.drop (k + 2) := by rw [List.drop_eq_getElem_cons hk]
  obtain ⟨g1, g2, _, _⟩ := good_at l ep nu (k + 1) l[k + 1] h (by rw [List.getElem?_eq_getElem])
  obtain ⟨k1, k2, _, k4⟩ := good_at l ep nu k l[k] h (by rw [List.getElem?_eq_getElem])
  rw [e1, fol_off g1 (.inl (by omega)), List.length_take]
  congr 1
  omega

end Go.Proofs.YthmecljkackmbaaGreat.Cm
