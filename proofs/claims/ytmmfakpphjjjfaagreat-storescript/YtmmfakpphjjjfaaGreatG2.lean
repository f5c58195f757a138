/- Texts of one layer, one behind the other. -/
import Derived.Test.YtmmfakpphjjjfaaGreatG1
import Derived.Maps.Ext
import Derived.Sort.KeysCollected
import Derived.Lib.SlMapEqual
/- Plain facts on a table: its ops by rising key, an op done to it, the map that reads so: no program, no walk. -/
namespace Go.Proofs.YtmmfakpphjjjfaaGreat.Tm
open Bm Go.Sort

def lt (a b : ByteArray) : Bool := bytesBefore a.data.toList b.data.toList

theorem lt_irr (a : ByteArray) : lt a a = false := WideAt.bytes_irrefl _
theorem lt_trans {a b c : ByteArray} (h : lt a b = true) (k : lt b c = true) : lt a c = true := WideShapes.bytes_trans _ _ _ h k
theorem lt_asy {a b : ByteArray} (h : lt a b = true) : lt b a = false := by
 cases e : lt b a
 ·rfl
 ·have := lt_trans h e
  rw [lt_irr] at this
  cases this
theorem lt_ne {a b : ByteArray} (h : lt a b = true) : a ≠ b := fun e => by rw [e, lt_irr] at h; cases h
theorem lt_tot {a b : ByteArray} (h : lt a b = false) (k : lt b a = false) : a = b := by
 by_cases e : a.data.toList = b.data.toList
 ·exact ba_eq e
 ·rcases WideAt.bytes_total _ _ e with h1 | h1
  ·unfold lt at h
   rw [h1] at h
   cases h
  ·unfold lt at k
   rw [h1] at k
   cases k

theorem less_before : ∀ (a b : List UInt8), Op.bytesLess a b = bytesBefore a b
 | _, [] => by rename_i a; cases a <;> rfl
 | [], _ :: _ => rfl
 | x :: a, y :: b => by rw [Op.bytesLess, bytesBefore, less_before a b]

theorem less_lt (a b : ByteArray) : Op.bytesLess a.toList b.toList = lt a b := by
 rw [ByteArray.toList_eq, ByteArray.toList_eq, less_before]
 rfl

theorem eqk (a b : ByteArray) : (a.toList == b.toList) = decide (a = b) := by
 rw [ByteArray.toList_eq, ByteArray.toList_eq]
 by_cases h : a = b
 ·subst h; simp
 ·have : a.data.toList ≠ b.data.toList := fun e => h (ba_eq e)
  rw [decide_eq_false h]
  simpa using fun e : a.data = b.data => this (by rw [e])

def Up (t : List Ov) : Prop := t.Pairwise fun x y => lt x.k y.k = true

def one : List Ov → Ov → List Ov
 | [], o => [o]
 | x :: r, o => if lt x.k o.k then x :: one r o else if lt o.k x.k then o :: x :: r else o :: r

theorem mem_one : ∀ {t : List Ov} (o x : Ov), Up t → (x ∈ one t o ↔ x = o ∨ (x ∈ t ∧ x.k ≠ o.k))
 | [], o, x, _ => by simp [one]
 | y :: r, o, x, h => by
  obtain ⟨h1, h2⟩ := List.pairwise_cons.1 h
  rw [one]
  split
  ·rename_i hy
   rw [List.mem_cons, mem_one o x h2, List.mem_cons]
   constructor
   ·rintro (rfl | h | ⟨h, k⟩)
    ·exact .inr ⟨.inl rfl, lt_ne hy⟩
    ·exact .inl h
    ·exact .inr ⟨.inr h, k⟩
   ·rintro (h | ⟨h | h, k⟩)
    ·exact .inr (.inl h)
    ·exact .inl h
    ·exact .inr (.inr ⟨h, k⟩)
  ·rename_i hy
   split
   ·rename_i ho
    rw [List.mem_cons]
    constructor
    ·rintro (h | h)
     ·exact .inl h
     ·refine .inr ⟨h, fun e => ?_⟩
      rcases List.mem_cons.1 h with rfl | h
      ·rw [e, lt_irr] at ho; cases ho
      ·have := lt_trans ho (h1 x h)
       rw [e, lt_irr] at this
       cases this
    ·rintro (h | ⟨h, _⟩)
     ·exact .inl h
     ·exact .inr h
   ·rename_i ho
    have e1 : y.k = o.k := lt_tot (by simpa using hy) (by simpa using ho)
    rw [List.mem_cons, List.mem_cons]
    constructor
    ·rintro (h | h)
     ·exact .inl h
     ·refine .inr ⟨.inr h, fun e => ?_⟩
      have := h1 x h
      rw [e, e1, lt_irr] at this
      cases this
    ·rintro (h | ⟨rfl | h, k⟩)
     ·exact .inl h
     ·exact absurd e1 k
     ·exact .inr h

theorem up_one : ∀ {t : List Ov} (o : Ov), Up t → Up (one t o)
 | [], o, _ => by simp [one, Up]
 | y :: r, o, h => by
  obtain ⟨h1, h2⟩ := List.pairwise_cons.1 h
  rw [one]
  split
  ·rename_i hy
   refine List.pairwise_cons.2 ⟨fun x hx => ?_, up_one o h2⟩
   rcases (mem_one o x h2).1 hx with rfl | ⟨hx, _⟩
   ·exact hy
   ·exact h1 x hx
  ·rename_i hy
   split
   ·rename_i ho
    refine List.pairwise_cons.2 ⟨fun x hx => ?_, h⟩
    rcases List.mem_cons.1 hx with rfl | hx
    ·exact ho
    ·exact lt_trans ho (h1 x hx)
   ·rename_i ho
    have e1 : y.k = o.k := lt_tot (by simpa using hy) (by simpa using ho)
    refine List.pairwise_cons.2 ⟨fun x hx => ?_, h2⟩
    rw [← e1]
    exact h1 x hx

theorem up_ext : ∀ {a b : List Ov}, Up a → Up b → (∀ x, x ∈ a ↔ x ∈ b) → a = b
 | [], [], _, _, _ => rfl
 | [], y :: s, _, _, h => by have := (h y).2 (by simp); simp at this
 | x :: r, [], _, _, h => by have := (h x).1 (by simp); simp at this
 | x :: r, y :: s, ha, hb, h => by
  obtain ⟨a1, a2⟩ := List.pairwise_cons.1 ha
  obtain ⟨b1, b2⟩ := List.pairwise_cons.1 hb
  have hxy : x = y := by
   rcases List.mem_cons.1 ((h x).1 (by simp)) with e | hx
   ·exact e
   ·rcases List.mem_cons.1 ((h y).2 (by simp)) with e | hy
    ·exact e.symm
    ·have := lt_trans (a1 y hy) (b1 x hx)
     rw [lt_irr] at this
     cases this
  subst hxy
  have nr : ∀ z ∈ r, z ≠ x := fun z hz e => by
   have := a1 z hz
   rw [e, lt_irr] at this
   cases this
  have ns : ∀ z ∈ s, z ≠ x := fun z hz e => by
   have := b1 z hz
   rw [e, lt_irr] at this
   cases this
  rw [up_ext a2 b2 fun z => ⟨fun hz => by
   rcases List.mem_cons.1 ((h z).1 (by simp [hz])) with e | e
   ·exact absurd e (nr z hz)
   ·exact e, fun hz => by
   rcases List.mem_cons.1 ((h z).2 (by simp [hz])) with e | e
   ·exact absurd e (ns z hz)
   ·exact e⟩]

theorem one_len : ∀ (t : List Ov) (o : Ov), (one t o).length ≤ t.length + 1
 | [], o => by simp [one]
 | x :: r, o => by
  have := one_len r o
  rw [one]
  split
  ·simp only [List.length_cons]; omega
  ·split <;> simp only [List.length_cons] <;> omega

def app (t : List Ov) (l : List Ov) : List Ov := l.foldl one t

theorem app_cons (t l : List Ov) (o : Ov) : app t (o :: l) = app (one t o) l := rfl
theorem app_app (t l m : List Ov) : app t (l ++ m) = app (app t l) m := List.foldl_append
theorem app_snoc (t l : List Ov) (o : Ov) : app t (l ++ [o]) = one (app t l) o := by rw [app_app]; rfl

theorem up_app : ∀ {t : List Ov} (l : List Ov), Up t → Up (app t l)
 | _, [], h => h
 | _, o :: l, h => up_app l (up_one o h)

theorem app_len : ∀ (l t : List Ov), (app t l).length ≤ t.length + l.length
 | [], t => by simp [app]
 | o :: l, t => by
  have h1 := app_len l (one t o)
  have h2 := one_len t o
  rw [app_cons, List.length_cons]
  omega

theorem mem_app : ∀ {t : List Ov} (l : List Ov) (x : Ov), Up t → x ∈ app t l → x ∈ t ∨ x ∈ l
 | _, [], x, _, h => .inl h
 | t, o :: l, x, hu, h => by
  rcases mem_app l x (up_one o hu) h with h | h
  ·rcases (mem_one o x hu).1 h with h | ⟨h, _⟩
   ·exact .inr (by rw [h]; simp)
   ·exact .inl h
  ·exact .inr (by simp [h])

def get (t : List Ov) (k : ByteArray) : Option Ov := t.find? fun x => decide (x.k = k)

theorem get_some {t : List Ov} {k : ByteArray} {o : Ov} (h : get t k = some o) : o ∈ t ∧ o.k = k := ⟨List.mem_of_find?_eq_some h, by simpa using List.find?_some h⟩

theorem get_none {t : List Ov} {k : ByteArray} (h : get t k = none) : ∀ x ∈ t, x.k ≠ k := fun x hx => by simpa using List.find?_eq_none.1 h x hx

theorem get_mem {t : List Ov} {o : Ov} (h : Up t) (ho : o ∈ t) : get t o.k = some o := by
 cases e : get t o.k with
 | none => exact absurd rfl (get_none e o ho)
 | some q =>
  obtain ⟨h1, h2⟩ := get_some e
  congr 1
  induction t with
  | nil => simp at ho
  | cons x r ih =>
   obtain ⟨a1, a2⟩ := List.pairwise_cons.1 h
   rcases List.mem_cons.1 ho with rfl | ho
   ·rcases List.mem_cons.1 h1 with h1 | h1
    ·exact h1
    ·have := a1 q h1
     rw [h2, lt_irr] at this
     cases this
   ·rcases List.mem_cons.1 h1 with h1 | h1
    ·have := a1 o ho
     rw [← h1, h2, lt_irr] at this
     cases this
    ·have e2 : get r o.k = some q := by
      unfold get at e ⊢
      rw [List.find?_cons] at e
      have : decide (x.k = o.k) = false := by
       have := lt_ne (a1 o ho)
       simpa using this
      rw [this] at e
      exact e
     exact ih a2 ho e2 h1

def met (t : List Ov) (k : ByteArray) : Bool := t.any fun x => decide (x.k = k)

theorem met_iff {t : List Ov} {k : ByteArray} : met t k = true ↔ ∃ x ∈ t, x.k = k := by simp [met]

theorem met_get (t : List Ov) (k : ByteArray) : met t k = (get t k).isSome := by
 cases e : get t k with
 | none =>
  rw [Option.isSome_none, Bool.eq_false_iff]
  intro h
  obtain ⟨x, h1, h2⟩ := met_iff.1 h
  exact get_none e x h1 h2
 | some o =>
  obtain ⟨h1, h2⟩ := get_some e
  rw [Option.isSome_some]
  exact met_iff.2 ⟨o, h1, h2⟩

def live (t : List Ov) : List Ov := t.filter Ov.p

def el (o : Ov) : DataW Unit := .agg [.lit (.string o.vl), .lit (.bool o.p)]
def en (o : Ov) : Lit × DataW Unit := (.string o.kl, el o)
def dat (t : List Ov) : DataW Unit := .map (t.map en)

theorem kl_ne {a b : Ov} (h : a.k ≠ b.k) : a.kl ≠ b.kl := fun e => h (ba_eq e)

theorem keep_gt (o : Ov) : ∀ (r : List Ov), (∀ x ∈ r, lt o.k x.k = true) → (r.map en).filter (ChangeMaps.notKey (.string o.kl)) = r.map en := fun r h => by
 refine List.filter_eq_self.2 fun p hp => ?_
 obtain ⟨x, hx, rfl⟩ := List.mem_map.1 hp
 have := kl_ne (lt_ne (h x hx)).symm
 simp [ChangeMaps.notKey, en, Lit.sameKey, this]

theorem ins_gt (o : Ov) : ∀ (r : List Ov), (∀ x ∈ r, lt o.k x.k = true) → DataW.insert (en o) (r.map en) = (o :: r).map en
 | [], _ => rfl
 | x :: r, h => by
  have h1 : (en o).1.before (en x).1 = true := h x (by simp)
  rw [List.map_cons, DataW.insert, if_pos h1]
  rfl

theorem put_one : ∀ {t : List Ov} (o : Ov), Up t → ChangeMaps.putKey (.string o.kl) (el o) (t.map en) = (one t o).map en
 | [], o, _ => rfl
 | y :: r, o, h => by
  obtain ⟨h1, h2⟩ := List.pairwise_cons.1 h
  have ih := put_one o h2
  unfold ChangeMaps.putKey at ih ⊢
  rw [one]
  split
  ·rename_i hy
   have e1 : ChangeMaps.notKey (.string o.kl) (en y) = true := by
    have := kl_ne (lt_ne hy)
    simp [ChangeMaps.notKey, en, Lit.sameKey, this]
   have e2 : ¬ (en o).1.before (en y).1 = true := by
    have := lt_asy hy
    show ¬ bytesBefore o.kl y.kl = true
    unfold lt at this
    unfold Ov.kl
    rw [this]
    simp
   rw [List.map_cons, List.filter_cons, if_pos e1]
   show DataW.insert (en o) _ = _
   rw [DataW.insert, if_neg e2, List.map_cons]
   congr 1
  ·rename_i hy
   split
   ·rename_i ho
    have h3 : ∀ x ∈ y :: r, lt o.k x.k = true := fun x hx => by
     rcases List.mem_cons.1 hx with rfl | hx
     ·exact ho
     ·exact lt_trans ho (h1 x hx)
    rw [keep_gt o _ h3]
    exact ins_gt o _ h3
   ·rename_i ho
    have e1 : y.k = o.k := lt_tot (by simpa using hy) (by simpa using ho)
    have e2 : ChangeMaps.notKey (.string o.kl) (en y) = false := by
     have : y.kl = o.kl := by unfold Ov.kl; rw [e1]
     simp [ChangeMaps.notKey, en, Lit.sameKey, this]
    have h3 : ∀ x ∈ r, lt o.k x.k = true := fun x hx => by rw [← e1]; exact h1 x hx
    rw [List.map_cons, List.filter_cons, e2, keep_gt o r h3]
    exact ins_gt o r h3

theorem dat_put {t : List Ov} (o : Ov) (h : Up t) : (dat t).put (.string o.kl) (el o) = dat (one t o) := by
 unfold dat
 rw [DataW.put_eq, put_one o h]

theorem dat_size (t : List Ov) : Maps.size (dat t) = t.length := by simp [dat, Maps.size]

theorem find_en (k : ByteArray) : ∀ (t : List Ov), (t.map en).find? (fun p => p.1.sameKey (.string k.data.toList)) = (get t k).map en
 | [] => rfl
 | x :: r => by
  have ih := find_en k r
  unfold get at ih ⊢
  rw [List.map_cons, List.find?_cons, List.find?_cons, ih]
  by_cases e : x.k = k
  ·have : (en x).1.sameKey (.string k.data.toList) = true := by simp [en, Lit.sameKey, Ov.kl, e]
   rw [this]
   simp [e]
  ·have e2 : x.k.data.toList ≠ k.data.toList := fun h => e (ba_eq h)
   have : (en x).1.sameKey (.string k.data.toList) = false := by
    show (x.k.data.toList == k.data.toList) = false
    simpa using e2
   rw [this]
   simp [e]

theorem dat_at (t : List Ov) (k : ByteArray) (z : DataW Unit) : (dat t).atKey (.string k.data.toList) z = match get t k with | some o => el o | none => z := by
 simp only [dat, DataW.atKey, find_en]
 cases get t k <;> rfl

theorem dat_has (t : List Ov) (k : ByteArray) : Maps.has (dat t) (.string k.data.toList) = (get t k).isSome := by
 show (t.map en).any (fun p => p.1.sameKey (.string k.data.toList)) = _
 have h := find_en k t
 cases e : get t k with
 | none =>
  rw [e, Option.map_none, List.find?_eq_none] at h
  rw [Option.isSome_none, List.any_eq_false]
  exact h
 | some o =>
  rw [e, Option.map_some] at h
  rw [Option.isSome_some, List.any_eq_true]
  exact ⟨en o, List.mem_of_find?_eq_some h, by simpa using List.find?_some h⟩

theorem dat_keys (t : List Ov) : strKeys (dat t) = t.map Ov.kl := by
 show ((t.map en).map fun p => strOf p.1) = _
 rw [List.map_map]
 rfl

theorem lt_lt : ∀ (a b : List UInt8), bytesBefore a b = true → a ≤ b
 | [], _, _ => List.nil_le _
 | _ :: _, [], h => by cases h
 | x :: a, y :: b, h => by
  rw [bytesBefore, Bool.or_eq_true, Bool.and_eq_true, decide_eq_true_eq, beq_iff_eq] at h
  rcases h with h | ⟨rfl, h⟩
  ·exact List.le_of_lt (List.cons_lt_cons_iff.2 (.inl h))
  ·exact List.cons_le_cons_iff.2 (.inr ⟨rfl, lt_lt a b h⟩)

theorem dat_sorted {t : List Ov} (h : Up t) {ss : List (List UInt8)} (hp : ss.Perm (strKeys (dat t))) : ss.mergeSort (fun x y => decide (x ≤ y)) = t.map Ov.kl := by
 rw [dat_keys] at hp
 rw [mergeSort_of_perm hp]
 refine List.mergeSort_of_pairwise ?_
 rw [List.pairwise_map]
 exact h.imp fun {x y} hxy => decide_eq_true (lt_lt _ _ hxy)

/-! The document's way. -/

def stp (o : Ov) (s : List Ov × Bool) (x : Ov) : List Ov × Bool :=
 if !s.2 && !lt x.k o.k then (if x.k = o.k then (s.1 ++ [o], true) else (s.1 ++ [o] ++ [x], true))
 else (if x.k = o.k then s else (s.1 ++ [x], s.2))

def fin (o : Ov) (s : List Ov × Bool) : List Ov := if s.2 then s.1 else s.1 ++ [o]

theorem stp_true (o : Ov) : ∀ (r : List Ov) (out : List Ov), (∀ x ∈ r, lt o.k x.k = true) → r.foldl (stp o) (out, true) = (out ++ r, true)
 | [], out, _ => by simp
 | x :: r, out, h => by
  have h1 : x.k ≠ o.k := (lt_ne (h x (by simp))).symm
  rw [List.foldl_cons]
  have : stp o (out, true) x = (out ++ [x], true) := by simp [stp, h1]
  rw [this, stp_true o r _ fun y hy => h y (by simp [hy])]
  simp

theorem stp_one (o : Ov) : ∀ (t : List Ov) (out : List Ov), Up t → fin o (t.foldl (stp o) (out, false)) = out ++ one t o
 | [], out, _ => by simp [fin, one]
 | x :: r, out, h => by
  obtain ⟨h1, h2⟩ := List.pairwise_cons.1 h
  rw [List.foldl_cons, one]
  split
  ·rename_i hx
   have : stp o (out, false) x = (out ++ [x], false) := by simp [stp, hx, lt_ne hx]
   rw [this, stp_one o r _ h2]
   simp
  ·rename_i hx
   have hx' : lt x.k o.k = false := by simpa using hx
   split
   ·rename_i ho
    have hne : x.k ≠ o.k := (lt_ne ho).symm
    have : stp o (out, false) x = (out ++ [o] ++ [x], true) := by simp [stp, hx', hne]
    rw [this, stp_true o r _ fun y hy => lt_trans ho (h1 y hy)]
    simp [fin]
   ·rename_i ho
    have e1 : x.k = o.k := lt_tot hx' (by simpa using ho)
    have : stp o (out, false) x = (out ++ [o], true) := by simp [stp, e1, lt_irr]
    rw [this, stp_true o r _ fun y hy => by rw [← e1]; exact h1 y hy]
    simp [fin]

end Go.Proofs.YtmmfakpphjjjfaaGreat.Tm

/- Commits, by mathematics: what Check, Encode, Decode and Follows come to. No program. -/
namespace Go.Proofs.YtmmfakpphjjjfaaGreat.Cm
open Vm Om Bm
set_option linter.unusedVariables false

structure Cv where
 e : Int
 n : Int
 l : List Ov

def chk (e n : Int) (l : List Ov) : Int := if 1 ≤ e ∧ e ≤ 1048576 ∧ 1 ≤ n ∧ n ≤ 1048576 then chkL l else 2

theorem chk_in {e n : Int} {l : List Ov} (h : 1 ≤ e ∧ e ≤ 1048576 ∧ 1 ≤ n ∧ n ≤ 1048576) : chk e n l = chkL l := by unfold chk; rw [if_pos h]
theorem chk_out {e n : Int} {l : List Ov} (h : ¬ (1 ≤ e ∧ e ≤ 1048576 ∧ 1 ≤ n ∧ n ≤ 1048576)) : chk e n l = 2 := by unfold chk; rw [if_neg h]

theorem chk_zero {e n : Int} {l : List Ov} (h : chk e n l = 0) : 1 ≤ e ∧ e ≤ 1048576 ∧ 1 ≤ n ∧ n ≤ 1048576 ∧ chkL l = 0 := by
 by_cases hb : 1 ≤ e ∧ e ≤ 1048576 ∧ 1 ≤ n ∧ n ≤ 1048576
 ·rw [chk_in hb] at h
  exact ⟨hb.1, hb.2.1, hb.2.2.1, hb.2.2.2, h⟩
 ·rw [chk_out hb] at h
  simp at h

def encC (e n : Int) (l : List Ov) : List Int := enc e.toNat ++ (enc n.toNat ++ encB l)
def out (e n : Int) (l : List Ov) : List Int := if chk e n l = 0 then encC e n l else []

theorem out_ok {e n : Int} {l : List Ov} (h : chk e n l = 0) : out e n l = encC e n l := by unfold out; rw [if_pos h]
theorem out_no {e n : Int} {l : List Ov} (h : chk e n l ≠ 0) : out e n l = [] := by unfold out; rw [if_neg h]

theorem enc_small {x : Int} (h : x ≤ 1048576) : (enc x.toNat).length ≤ 3 := sz_le 2 x.toNat (by omega)

theorem encC_small {e n : Int} {l : List Ov} (h : chk e n l = 0) : (encC e n l).length ≤ 430 := by
 obtain ⟨_, h1, _, h2, h3⟩ := chk_zero h
 have := enc_small h1
 have := enc_small h2
 have := encB_small h3
 unfold encC
 simp only [List.length_append]
 omega

theorem out_small (e n : Int) (l : List Ov) : (out e n l).length ≤ 430 := by
 by_cases h : chk e n l = 0
 ·rw [out_ok h]; exact encC_small h
 ·rw [out_no h]; simp

theorem encC_one {e n e' n' : Int} {l l' : List Ov} (h : chk e n l = 0) (h' : chk e' n' l' = 0) (he : encC e n l = encC e' n' l') : e = e' ∧ n = n' ∧ l = l' := by
 obtain ⟨h1, h2, h3, h4, h5⟩ := chk_zero h
 obtain ⟨g1, g2, g3, g4, g5⟩ := chk_zero h'
 unfold encC at he
 have p1 := pre_one (enc e.toNat ++ (enc n.toNat ++ encB l)) e.toNat e'.toNat (List.prefix_append _ _) (by rw [he]; exact List.prefix_append _ _)
 have e1 : e = e' := by omega
 subst e1
 have he2 := List.append_cancel_left he
 have p2 := pre_one (enc n.toNat ++ encB l) n.toNat n'.toNat (List.prefix_append _ _) (by rw [he2]; exact List.prefix_append _ _)
 have e2 : n = n' := by omega
 subst e2
 have he3 := List.append_cancel_left he2
 exact ⟨rfl, rfl, encB_free (List.prefix_refl _) (by rw [he3]; exact List.prefix_refl _) (shapes h5) (shapes g5)⟩

def CRes (bs : List Int) (e n : Int) (l : List Ov) (g : Int) : Prop :=
 (g = 0 ∧ chk e n l = 0 ∧ encC e n l = bs) ∨ (g = 5 ∧ e = 0 ∧ n = 0 ∧ l = [] ∧ ∀ e' n' l', chk e' n' l' = 0 → encC e' n' l' ≠ bs)

theorem cres_one {bs : List Int} {e n e' n' g g' : Int} {l l' : List Ov} (h : CRes bs e n l g) (k : CRes bs e' n' l' g') : e = e' ∧ n = n' ∧ l = l' ∧ g = g' := by
 rcases h with ⟨rfl, h1, h2⟩ | ⟨rfl, rfl, rfl, rfl, h⟩ <;> rcases k with ⟨rfl, k1, k2⟩ | ⟨rfl, rfl, rfl, rfl, k⟩
 ·obtain ⟨rfl, rfl, rfl⟩ := encC_one h1 k1 (h2.trans k2.symm)
  exact ⟨rfl, rfl, rfl, rfl⟩
 ·exact absurd h2 (k _ _ _ h1)
 ·exact absurd k2 (h _ _ _ k1)
 ·exact ⟨rfl, rfl, rfl, rfl⟩

theorem cres_good {bs : List Int} {e n e' n' g' : Int} {l l' : List Ov} (hc : chk e n l = 0) (h : encC e n l = bs) (k : CRes bs e' n' l' g') : e' = e ∧ n' = n ∧ l' = l ∧ g' = 0 := by
 obtain ⟨rfl, rfl, rfl, rfl⟩ := cres_one (.inl ⟨rfl, hc, h⟩ : CRes bs e n l 0) k
 exact ⟨rfl, rfl, rfl, rfl⟩

def fol (ep nu : Int) (i : Nat) : List Cv → Int × Int
 | [] => (0, 0)
 | c :: r => if chk c.e c.n c.l ≠ 0 then (chk c.e c.n c.l, i) else if c.n - 1 ≠ nu ∨ c.e < ep then (15, i) else fol c.e c.n (i + 1) r

theorem fol_nil (ep nu : Int) (i : Nat) : fol ep nu i [] = (0, 0) := rfl
theorem fol_bad {ep nu : Int} {i : Nat} {c : Cv} {r : List Cv} (h : chk c.e c.n c.l ≠ 0) : fol ep nu i (c :: r) = (chk c.e c.n c.l, (i : Int)) := by simp [fol, h]
theorem fol_off {ep nu : Int} {i : Nat} {c : Cv} {r : List Cv} (h : chk c.e c.n c.l = 0) (h' : c.n - 1 ≠ nu ∨ c.e < ep) : fol ep nu i (c :: r) = (15, (i : Int)) := by rw [fol, if_neg (by simp [h]), if_pos h']
theorem fol_on {ep nu : Int} {i : Nat} {c : Cv} {r : List Cv} (h : chk c.e c.n c.l = 0) (h' : ¬ (c.n - 1 ≠ nu ∨ c.e < ep)) : fol ep nu i (c :: r) = fol c.e c.n (i + 1) r := by rw [fol, if_neg (by simp [h]), if_neg h']

def flt (at' : Int) (ep nu : Int) (c : Cv) : Int × Int := if chk c.e c.n c.l ≠ 0 then (chk c.e c.n c.l, at') else if c.n - 1 ≠ nu ∨ c.e < ep then (15, at') else (0, 0)

theorem flt_bad {a ep nu : Int} {c : Cv} (h : chk c.e c.n c.l ≠ 0) : flt a ep nu c = (chk c.e c.n c.l, a) := by simp [flt, h]
theorem flt_off {a ep nu : Int} {c : Cv} (h : chk c.e c.n c.l = 0) (h' : c.n - 1 ≠ nu ∨ c.e < ep) : flt a ep nu c = (15, a) := by rw [flt, if_neg (by simp [h]), if_pos h']
theorem flt_on {a ep nu : Int} {c : Cv} (h : chk c.e c.n c.l = 0) (h' : ¬ (c.n - 1 ≠ nu ∨ c.e < ep)) : flt a ep nu c = (0, 0) := by rw [flt, if_neg (by simp [h]), if_neg h']

theorem flt_zero {a ep nu : Int} {c : Cv} (h : (flt a ep nu c).1 = 0) : chk c.e c.n c.l = 0 ∧ ¬ (c.n - 1 ≠ nu ∨ c.e < ep) ∧ (flt a ep nu c).2 = 0 := by
 by_cases h1 : chk c.e c.n c.l = 0
 ·by_cases h2 : c.n - 1 ≠ nu ∨ c.e < ep
  ·rw [flt_off h1 h2] at h
   simp at h
  ·refine ⟨h1, h2, ?_⟩
   rw [flt_on h1 h2]
 ·rw [flt_bad h1] at h
  exact absurd h h1

theorem fol_stop {ep nu : Int} {i : Nat} {c : Cv} {r : List Cv} (h : (flt i ep nu c).1 ≠ 0) : fol ep nu i (c :: r) = flt i ep nu c := by
 by_cases h1 : chk c.e c.n c.l = 0
 ·by_cases h2 : c.n - 1 ≠ nu ∨ c.e < ep
  ·rw [flt_off h1 h2, fol_off h1 h2]
  ·rw [flt_on h1 h2] at h
   simp at h
 ·rw [flt_bad h1, fol_bad h1]

theorem fol_next {ep nu : Int} {i : Nat} {c : Cv} {r : List Cv} (h : (flt i ep nu c).1 = 0) : fol ep nu i (c :: r) = fol c.e c.n (i + 1) r := by
 obtain ⟨h1, h2, _⟩ := flt_zero h
 exact fol_on h1 h2

def Good (ep nu : Int) : List Cv → Prop
 | [] => True
 | c :: r => chk c.e c.n c.l = 0 ∧ c.n - 1 = nu ∧ ep ≤ c.e ∧ Good c.e c.n r

theorem fol_good : ∀ (l : List Cv) (ep nu : Int) (i : Nat), (fol ep nu i l).1 = 0 ↔ Good ep nu l
 | [], _, _, _ => by simp [fol, Good]
 | c :: r, ep, nu, i => by
  by_cases h1 : chk c.e c.n c.l = 0
  ·by_cases h2 : c.n - 1 ≠ nu ∨ c.e < ep
   ·rw [fol_off h1 h2]
    simp only [Good]
    constructor
    ·intro h; simp at h
    ·intro h; omega
   ·rw [fol_on h1 h2, fol_good r]
    simp only [Good]
    constructor
    ·intro h; exact ⟨h1, by omega, by omega, h⟩
    ·intro h; exact h.2.2.2
  ·rw [fol_bad h1]
   simp only [Good]
   constructor
   ·intro h; exact absurd h h1
   ·intro h; exact absurd h.1 h1

theorem fol_at : ∀ (l : List Cv) (ep nu : Int) (i : Nat), (fol ep nu i l).1 = 0 → (fol ep nu i l).2 = 0
 | [], _, _, _, _ => rfl
 | c :: r, ep, nu, i, h => by
  by_cases h1 : chk c.e c.n c.l = 0
  ·by_cases h2 : c.n - 1 ≠ nu ∨ c.e < ep
   ·rw [fol_off h1 h2] at h
    simp at h
   ·rw [fol_on h1 h2] at h ⊢
    exact fol_at r _ _ _ h
  ·rw [fol_bad h1] at h
   exact absurd h h1

def lastE (ep : Int) : List Cv → Int
 | [] => ep
 | c :: r => lastE c.e r
def lastN (nu : Int) : List Cv → Int
 | [] => nu
 | c :: r => lastN c.n r

theorem good_app : ∀ (l m : List Cv) (ep nu : Int), Good ep nu (l ++ m) ↔ Good ep nu l ∧ Good (lastE ep l) (lastN nu l) m
 | [], m, _, _ => by simp [Good, lastE, lastN]
 | c :: r, m, ep, nu => by
  simp only [List.cons_append, Good, lastE, lastN, good_app r m]
  constructor
  ·rintro ⟨h1, h2, h3, h4, h5⟩; exact ⟨⟨h1, h2, h3, h4⟩, h5⟩
  ·rintro ⟨⟨h1, h2, h3, h4⟩, h5⟩; exact ⟨h1, h2, h3, h4, h5⟩

theorem last_snoc : ∀ (l : List Cv) (c : Cv) (ep nu : Int), lastE ep (l ++ [c]) = c.e ∧ lastN nu (l ++ [c]) = c.n
 | [], _, _, _ => ⟨rfl, rfl⟩
 | d :: r, c, ep, nu => by simpa [lastE, lastN] using last_snoc r c d.e d.n

theorem good_take {l : List Cv} {ep nu : Int} (h : Good ep nu l) (k : Nat) : Good ep nu (l.take k) := by
 rw [← List.take_append_drop k l, good_app] at h
 exact h.1

theorem good_at : ∀ (l : List Cv) (ep nu : Int) (k : Nat) (c : Cv), Good ep nu l → l[k]? = some c → chk c.e c.n c.l = 0 ∧ c.n - 1 - k = nu ∧ lastE ep (l.take k) ≤ c.e ∧ lastN nu (l.take k) = nu + k
 | [], _, _, _, _, _, h => by simp at h
 | d :: r, ep, nu, 0, c, hg, h => by
  simp at h
  subst h
  obtain ⟨h1, h2, h3, _⟩ := hg
  exact ⟨h1, by omega, by simpa [lastE] using h3, by simp [lastN]⟩
 | d :: r, ep, nu, k + 1, c, hg, h => by
  obtain ⟨h1, h2, h3, h4⟩ := hg
  obtain ⟨g1, g2, g3, g4⟩ := good_at r d.e d.n k c h4 (by simpa using h)
  refine ⟨g1, by omega, by simpa [lastE] using g3, ?_⟩
  simp only [List.take_succ_cons, lastN]
  rw [g4]
  omega

end Go.Proofs.YtmmfakpphjjjfaaGreat.Cm

/- Sorted runs, by mathematics: which may be, their bytes, what Decode answers. No program. -/
namespace Go.Proofs.YtmmfakpphjjjfaaGreat.Rn
set_option linter.unusedVariables false
open Vm Om Bm

def may (ah : ByteArray) : List Ov → Bool
 | [] => true
 | o :: r => decide (o.c = 0) && (Tm.lt ah o.k && may o.k r)

def lstK (ah : ByteArray) : List Ov → ByteArray
 | [] => ah
 | o :: r => lstK o.k r

def chk (f u : Int) (l : List Ov) : Int := if 1024 < l.length then 3 else if 1 ≤ f ∧ f ≤ u ∧ u ≤ 1048576 ∧ may ⟨#[]⟩ l = true then 0 else 2

theorem chk_long {f u : Int} {l : List Ov} (h : 1024 < l.length) : chk f u l = 3 := if_pos h
theorem chk_ok {f u : Int} {l : List Ov} (h : ¬ 1024 < l.length) (k : 1 ≤ f ∧ f ≤ u ∧ u ≤ 1048576 ∧ may ⟨#[]⟩ l = true) : chk f u l = 0 := by unfold chk; rw [if_neg h, if_pos k]
theorem chk_no {f u : Int} {l : List Ov} (h : ¬ 1024 < l.length) (k : ¬ (1 ≤ f ∧ f ≤ u ∧ u ≤ 1048576 ∧ may ⟨#[]⟩ l = true)) : chk f u l = 2 := by unfold chk; rw [if_neg h, if_neg k]

theorem chk_zero {f u : Int} {l : List Ov} (h : chk f u l = 0) : l.length ≤ 1024 ∧ 1 ≤ f ∧ f ≤ u ∧ u ≤ 1048576 ∧ may ⟨#[]⟩ l = true := by
 unfold chk at h
 split at h
 ·simp at h
 ·rename_i h1
  split at h
  ·rename_i h2
   exact ⟨by omega, h2⟩
  ·simp at h

theorem may_app : ∀ (l m : List Ov) (ah : ByteArray), may ah (l ++ m) = (may ah l && may (lstK ah l) m)
 | [], m, ah => by simp [may, lstK]
 | o :: l, m, ah => by simp [may, lstK, may_app l m, Bool.and_assoc]

theorem lstK_snoc : ∀ (l : List Ov) (o : Ov) (ah : ByteArray), lstK ah (l ++ [o]) = o.k
 | [], _, _ => rfl
 | q :: l, o, _ => lstK_snoc l o q.k

theorem may_c : ∀ {l : List Ov} {ah : ByteArray}, may ah l = true → ∀ o ∈ l, o.c = 0
 | [], _, _, o, ho => by simp at ho
 | q :: l, ah, h, o, ho => by
  simp only [may, Bool.and_eq_true, decide_eq_true_eq] at h
  rcases List.mem_cons.1 ho with rfl | ho
  ·exact h.1
  ·exact may_c h.2.2 o ho

theorem may_up : ∀ {l : List Ov} {ah : ByteArray}, may ah l = true → Tm.Up l ∧ ∀ o ∈ l, Tm.lt ah o.k = true
 | [], _, _ => ⟨List.Pairwise.nil, fun o ho => by simp at ho⟩
 | q :: l, ah, h => by
  simp only [may, Bool.and_eq_true, decide_eq_true_eq] at h
  obtain ⟨h1, h2⟩ := may_up h.2.2
  refine ⟨List.pairwise_cons.2 ⟨fun o ho => h2 o ho, h1⟩, fun o ho => ?_⟩
  rcases List.mem_cons.1 ho with rfl | ho
  ·exact h.2.1
  ·exact Tm.lt_trans h.2.1 (h2 o ho)

theorem may_from : ∀ {l : List Ov} {ah : ByteArray}, (∀ o ∈ l, o.c = 0) → Tm.Up l → (∀ o ∈ l, Tm.lt ah o.k = true) → may ah l = true
 | [], _, _, _, _ => rfl
 | q :: l, ah, h1, h2, h3 => by
  obtain ⟨g1, g2⟩ := List.pairwise_cons.1 h2
  simp only [may, Bool.and_eq_true, decide_eq_true_eq]
  exact ⟨h1 q (by simp), h3 q (by simp), may_from (fun o ho => h1 o (by simp [ho])) g2 fun o ho => g1 o ho⟩

theorem lt_none {k : ByteArray} (h : 1 ≤ k.data.toList.length) : Tm.lt ⟨#[]⟩ k = true := by
 unfold Tm.lt
 rw [← Tm.less_before]
 cases hk : k.data.toList with
 | nil => rw [hk] at h; simp at h
 | cons x r => rfl

theorem key_pos {o : Ov} (h : o.c = 0) : 1 ≤ o.k.data.toList.length := (chk_ok' h).1

theorem may_of {l : List Ov} (h : ∀ o ∈ l, o.c = 0) (hu : Tm.Up l) : may ⟨#[]⟩ l = true := may_from h hu fun o ho => lt_none (key_pos (h o ho))

def ens : List Ov → List Int
 | [] => []
 | o :: r => opEnc o.p o.kl o.vl ++ ens r

theorem ens_app : ∀ (l m : List Ov), ens (l ++ m) = ens l ++ ens m
 | [], _ => rfl
 | o :: l, m => by
  show opEnc o.p o.kl o.vl ++ ens (l ++ m) = opEnc o.p o.kl o.vl ++ ens l ++ ens m
  rw [ens_app l m, List.append_assoc]

theorem ens_one (o : Ov) : ens [o] = opEnc o.p o.kl o.vl := by simp [ens]

theorem ens_snoc (l : List Ov) (o : Ov) : ens (l ++ [o]) = ens l ++ opEnc o.p o.kl o.vl := by rw [ens_app, ens_one]

theorem ens_free : ∀ (l m : List Ov) (bs : List Int), l.length = m.length → (∀ o ∈ l, o.c = 0) → (∀ o ∈ m, o.c = 0) → ens l <+: bs → ens m <+: bs → l = m
 | [], [], _, _, _, _, _, _ => rfl
 | [], _ :: _, _, h, _, _, _, _ => by simp at h
 | _ :: _, [], _, h, _, _, _, _ => by simp at h
 | o :: l, q :: m, bs, hl, h1, h2, h, g => by
  unfold ens at h g
  rw [pre_app] at h g
  obtain ⟨e1, e2, e3⟩ := opEnc_free h.1 g.1 (h1 o (by simp)) (h2 q (by simp))
  obtain rfl := Ov.eq e1 e2 e3
  rw [ens_free l m _ (by simpa using hl) (fun x hx => h1 x (by simp [hx])) (fun x hx => h2 x (by simp [hx])) h.2 g.2]

theorem ens_le : ∀ {l : List Ov}, (∀ o ∈ l, o.c = 0) → (ens l).length ≤ 51 * l.length
 | [], _ => by simp [ens]
 | o :: l, h => by
  have h1 := opEnc_le (h o (by simp))
  have h2 := ens_le (l := l) fun q hq => h q (List.mem_cons_of_mem _ hq)
  simp only [ens, List.length_append, List.length_cons]
  omega

def encR (f u : Int) (l : List Ov) : List Int := enc f.toNat ++ (enc u.toNat ++ (enc l.length ++ ens l))

def out (f u : Int) (l : List Ov) : List Int := if chk f u l = 0 then encR f u l else []

theorem out_ok {f u : Int} {l : List Ov} (h : chk f u l = 0) : out f u l = encR f u l := if_pos h
theorem out_no {f u : Int} {l : List Ov} (h : chk f u l ≠ 0) : out f u l = [] := if_neg h

theorem encR_le {f u : Int} {l : List Ov} (h : chk f u l = 0) : (encR f u l).length ≤ 9 + 51 * l.length := by
 obtain ⟨h1, h2, h3, h4, h5⟩ := chk_zero h
 have a := Cm.enc_small (x := f) (by omega)
 have b := Cm.enc_small (x := u) (by omega)
 have c : (enc l.length).length ≤ 3 := sz_le 2 l.length (by omega)
 have d := ens_le (may_c h5)
 unfold encR
 rw [List.length_append, List.length_append, List.length_append]
 omega

theorem encR_small {f u : Int} {l : List Ov} (h : chk f u l = 0) : (encR f u l).length ≤ 52233 := by
 have := encR_le h
 have := (chk_zero h).1
 omega

theorem out_small (f u : Int) (l : List Ov) : (out f u l).length ≤ 52233 := by
 unfold out
 split
 ·exact encR_small (by assumption)
 ·simp

theorem parts {f u : Int} {l : List Ov} {bs : List Int} (h : encR f u l <+: bs) : enc f.toNat <+: bs ∧ enc u.toNat <+: bs.drop (sz f.toNat) ∧ enc l.length <+: bs.drop (sz f.toNat + sz u.toNat) ∧
  ens l <+: bs.drop (sz f.toNat + sz u.toNat + sz l.length) := by
 unfold encR at h
 rw [pre_app, pre_app, pre_app, List.drop_drop, List.drop_drop] at h
 exact h

theorem joins {x y m : Nat} {l : List Ov} {bs : List Int} (h1 : enc x <+: bs) (h2 : enc y <+: bs.drop (sz x)) (h3 : enc m <+: bs.drop (sz x + sz y)) (h4 : ens l <+: bs.drop (sz x + sz y + sz m)) :
  enc x ++ (enc y ++ (enc m ++ ens l)) <+: bs := by
 rw [pre_app, pre_app, pre_app, List.drop_drop, List.drop_drop]
 exact ⟨h1, h2, h3, h4⟩

def No (bs : List Int) : Prop := ∀ f u l, chk f u l = 0 → encR f u l ≠ bs

theorem no1 {bs : List Int} (h : ∀ x : Nat, x ≤ 1048576 → ¬ enc x <+: bs) : No bs := fun f u l hc he => by
 obtain ⟨h1, h2, h3, h4, h5⟩ := chk_zero hc
 exact h f.toNat (by omega) (parts (he ▸ List.prefix_rfl : encR f u l <+: bs)).1

theorem no2 {bs : List Int} {x : Nat} (hx : enc x <+: bs) (h : ∀ y : Nat, y ≤ 1048576 → ¬ enc y <+: bs.drop (sz x)) : No bs := fun f u l hc he => by
 obtain ⟨h1, h2, h3, h4, h5⟩ := chk_zero hc
 obtain ⟨p1, p2, _⟩ := parts (he ▸ List.prefix_rfl : encR f u l <+: bs)
 rw [← pre_one _ _ _ hx p1] at p2
 exact h u.toNat (by omega) p2

theorem no3 {bs : List Int} {x y M : Nat} (hx : enc x <+: bs) (hy : enc y <+: bs.drop (sz x)) (hM : 1024 ≤ M) (h : ∀ m : Nat, m ≤ M → ¬ enc m <+: bs.drop (sz x + sz y)) : No bs := fun f u l hc he => by
 obtain ⟨h1, h2, h3, h4, h5⟩ := chk_zero hc
 obtain ⟨p1, p2, p3, _⟩ := parts (he ▸ List.prefix_rfl : encR f u l <+: bs)
 rw [← pre_one _ _ _ hx p1] at p2 p3
 rw [← pre_one _ _ _ hy p2] at p3
 exact h l.length (by omega) p3

theorem no4 {bs : List Int} {x y m : Nat} {l : List Ov} (hx : enc x <+: bs) (hy : enc y <+: bs.drop (sz x)) (hm : enc m <+: bs.drop (sz x + sz y)) (hl : ens l <+: bs.drop (sz x + sz y + sz m)) (hc : ∀ o ∈ l, o.c = 0) (hlt : l.length < m)
  (h : ∀ o : Ov, o.c = 0 → ¬ opEnc o.p o.kl o.vl <+: bs.drop (sz x + sz y + sz m + (ens l).length)) : No bs := fun f u r hr he => by
 obtain ⟨h1, h2, h3, h4, h5⟩ := chk_zero hr
 obtain ⟨p1, p2, p3, p4⟩ := parts (he ▸ List.prefix_rfl : encR f u r <+: bs)
 rw [← pre_one _ _ _ hx p1] at p2 p3 p4
 rw [← pre_one _ _ _ hy p2] at p3 p4
 have e := pre_one _ _ _ hm p3
 rw [← e] at p4
 have hlr : l.length < r.length := by omega
 have hs : r = r.take l.length ++ (r[l.length] :: r.drop (l.length + 1)) := by rw [← List.drop_eq_getElem_cons hlr, List.take_append_drop]
 have hrc := may_c h5
 rw [hs, ens_app, pre_app] at p4
 have ht := ens_free l (r.take l.length) _ (by rw [List.length_take]; omega) hc (fun o ho => hrc o (List.mem_of_mem_take ho)) hl p4.1
 have p5 := p4.2
 rw [← ht, List.drop_drop] at p5
 exact h r[l.length] (hrc _ (List.getElem_mem hlr)) ((List.prefix_append _ (ens (r.drop (l.length + 1)))).trans p5)

theorem same5 {bs : List Int} {x y : Nat} {l : List Ov} (hx : enc x <+: bs) (hy : enc y <+: bs.drop (sz x)) (hm : enc l.length <+: bs.drop (sz x + sz y)) (hl : ens l <+: bs.drop (sz x + sz y + sz l.length)) (hc : ∀ o ∈ l, o.c = 0)
  {f u : Int} {r : List Ov} (hr : chk f u r = 0) (he : encR f u r <+: bs) : f = x ∧ u = y ∧ r = l := by
 obtain ⟨h1, h2, h3, h4, h5⟩ := chk_zero hr
 obtain ⟨p1, p2, p3, p4⟩ := parts he
 have ex := pre_one _ _ _ hx p1
 rw [← ex] at p2 p3 p4
 have ey := pre_one _ _ _ hy p2
 rw [← ey] at p3 p4
 have em := pre_one _ _ _ hm p3
 rw [← em] at p4
 exact ⟨by omega, by omega, (ens_free l r _ em hc (may_c h5) hl p4).symm⟩

theorem no5 {bs : List Int} {x y : Nat} {l : List Ov} (hx : enc x <+: bs) (hy : enc y <+: bs.drop (sz x)) (hm : enc l.length <+: bs.drop (sz x + sz y)) (hl : ens l <+: bs.drop (sz x + sz y + sz l.length)) (hc : ∀ o ∈ l, o.c = 0)
  (h : sz x + sz y + sz l.length + (ens l).length ≠ bs.length ∨ chk x y l ≠ 0) : No bs := fun f u r hr he => by
 obtain ⟨rfl, rfl, rfl⟩ := same5 hx hy hm hl hc hr (he ▸ List.prefix_rfl)
 rcases h with h | h
 ·apply h
  rw [← he]
  unfold encR
  rw [List.length_append, List.length_append, List.length_append]
  simp [sz]
  omega
 ·exact h hr

theorem ok5 {bs : List Int} {x y : Nat} {l : List Ov} (hx : enc x <+: bs) (hy : enc y <+: bs.drop (sz x)) (hm : enc l.length <+: bs.drop (sz x + sz y)) (hl : ens l <+: bs.drop (sz x + sz y + sz l.length))
  (h : sz x + sz y + sz l.length + (ens l).length = bs.length) : encR x y l = bs := by
 refine (joins hx hy hm hl).eq_of_length ?_
 rw [List.length_append, List.length_append, List.length_append, ← h]
 unfold sz
 omega

theorem encR_one {f u f' u' : Int} {l l' : List Ov} {bs : List Int} (h : chk f u l = 0) (h' : chk f' u' l' = 0) (he : encR f u l <+: bs) (he' : encR f' u' l' <+: bs) : f' = f ∧ u' = u ∧ l' = l := by
 obtain ⟨h1, h2, h3, h4, h5⟩ := chk_zero h
 obtain ⟨p1, p2, p3, p4⟩ := parts he
 obtain ⟨e1, e2, e3⟩ := same5 p1 p2 p3 p4 (may_c h5) h' he'
 exact ⟨by omega, by omega, e3⟩

def Dc (bs : List Int) (f u : Int) (l : List Ov) (g : Int) : Prop := (g = 0 ∧ chk f u l = 0 ∧ encR f u l = bs) ∨ (g = 5 ∧ f = 0 ∧ u = 0 ∧ l = [] ∧ No bs)

theorem dc_e {bs : List Int} {f u g : Int} {l : List Ov} (h : Dc bs f u l g) : g = 0 ∨ g = 5 := by
 rcases h with ⟨rfl, _⟩ | ⟨rfl, _⟩
 ·exact .inl rfl
 ·exact .inr rfl

end Go.Proofs.YtmmfakpphjjjfaaGreat.Rn

/- Frames as lists of numbers: what a frame is, what Read answers, what Scan answers. No program. -/
namespace Go.Proofs.YtmmfakpphjjjfaaGreat
set_option linter.unusedVariables false
namespace Fm

def frm (r : List Int) : List Int := Vm.enc r.length ++ r

theorem frm_len (r : List Int) : (frm r).length = Vm.sz r.length + r.length := by unfold frm Vm.sz; rw [List.length_append]
theorem frm_pos (r : List Int) : 1 ≤ (frm r).length := by have := Vm.sz_pos r.length; rw [frm_len]; omega

theorem sz3 {n : Nat} (h : n ≤ 131072) : Vm.sz n ≤ 3 := Vm.sz_le 2 n (by omega)

theorem frm_one {r s bs : List Int} (h : frm r <+: bs) (h' : frm s <+: bs) : r = s := by
 obtain ⟨t, ht⟩ := h
 obtain ⟨u, hu⟩ := h'
 unfold frm at ht hu
 have hl : r.length = s.length := Vm.pre_one bs _ _ ⟨r ++ t, by rw [← List.append_assoc]; exact ht⟩ ⟨s ++ u, by rw [← List.append_assoc]; exact hu⟩
 rw [← hu, hl, List.append_assoc, List.append_assoc] at ht
 have := List.append_cancel_left ht
 exact (List.append_inj this hl).1

def Rd (bs r : List Int) (n : Nat) (e : Int) : Prop :=
 (e = 0 ∧ r.length ≤ 131072 ∧ n = Vm.sz r.length + r.length ∧ frm r <+: bs) ∨ (e = 5 ∧ r = [] ∧ n = 0 ∧ ∀ s : List Int, s.length ≤ 131072 → ¬ frm s <+: bs)

theorem frm_of {bs : List Int} {x : Nat} (h : Vm.enc x <+: bs) (hx : x ≤ bs.length - Vm.sz x) : ((bs.drop (Vm.sz x)).take x).length = x ∧ frm ((bs.drop (Vm.sz x)).take x) <+: bs := by
 have hl : ((bs.drop (Vm.sz x)).take x).length = x := by rw [List.length_take, List.length_drop]; omega
 refine ⟨hl, ?_⟩
 obtain ⟨t, ht⟩ := h
 have hd : bs.drop (Vm.sz x) = t := by rw [← ht]; exact List.drop_left
 unfold frm
 rw [hl]
 rw [hd] at *
 exact ⟨t.drop x, by rw [List.append_assoc, List.take_append_drop]; exact ht⟩

theorem frm_pre {bs r : List Int} (h : frm r <+: bs) : Vm.enc r.length <+: bs ∧ r.length ≤ bs.length - Vm.sz r.length ∧ Vm.sz r.length + r.length ≤ bs.length := by
 have hl := h.length_le
 rw [frm_len] at hl
 refine ⟨(List.prefix_append _ _).trans h, by omega, hl⟩

def cat : List (List Int) → List Int
 | [] => []
 | r :: l => frm r ++ cat l

theorem cat_app : ∀ (l m : List (List Int)), cat (l ++ m) = cat l ++ cat m
 | [], m => rfl
 | r :: l, m => by simp [cat, cat_app l m]

theorem cat_one (r : List Int) : cat [r] = frm r := by simp [cat]

theorem drop_pre {a b c : List Int} (h : a ++ b <+: c) : b <+: c.drop a.length := by
 obtain ⟨t, ht⟩ := h
 rw [← ht, List.append_assoc, List.drop_left]
 exact List.prefix_append _ _

theorem pre_drop {a b c : List Int} (h : a <+: c) (h' : b <+: c.drop a.length) : a ++ b <+: c := by
 obtain ⟨t, rfl⟩ := h
 rw [List.drop_left] at h'
 obtain ⟨u, rfl⟩ := h'
 exact ⟨u, by rw [List.append_assoc]⟩

end Fm
end Go.Proofs.YtmmfakpphjjjfaaGreat
