/- Plain facts on an op's text: split at its blanks; two texts alike. -/
import Derived.Test.YtaejecompbmhcaaDoorTxt
import Derived.Lib.SplitLaws
import Derived.Lib.CountLaws
namespace Go.Proofs.YtaejecompbmhcaaDoor
set_option linter.unusedVariables false

theorem blank_free {a c b d : List UInt8} (ha : 32 ∉ a) (hc : 32 ∉ c) (h : a ++ 32 :: b = c ++ 32 :: d) : a = c ∧ b = d := by
  induction a generalizing c with
  | nil =>
    cases c with
    | nil => simpa using h
    | cons y c => simp at h hc; exact absurd h.1 hc.1
  | cons x a ih =>
    cases c with
    | nil => simp at h ha; exact absurd h.1.symm ha.1
    | cons y c =>
      simp at h ha hc
      obtain ⟨h1, h2⟩ := ih ha.2 hc.2 h.2
      exact ⟨by rw [h.1, h1], h2⟩

theorem idx_hit {a b : List UInt8} (h : 32 ∉ a) : Lib.index (a ++ 32 :: b) [32] = a.length := by
  induction a with
  | nil => simp [Lib.index]
  | cons x a ih =>
    simp only [List.mem_cons, not_or] at h
    have e : (([32] : List UInt8).isPrefixOf (x :: (a ++ 32 :: b))) = false := by simp [List.isPrefixOf, h.1]
    rw [List.cons_append, Lib.index, e, ih h.2]
    simp

theorem idx_miss {a : List UInt8} (h : 32 ∉ a) : Lib.index a [32] = -1 := by
  induction a with
  | nil => rfl
  | cons x a ih =>
    simp only [List.mem_cons, not_or] at h
    have e : (([32] : List UInt8).isPrefixOf (x :: a)) = false := by simp [List.isPrefixOf, h.1]
    rw [Lib.index, e, ih h.2]
    rfl

theorem splitK_hit {a b : List UInt8} (h : 32 ∉ a) (k : Nat) : Lib.splitK [32] 0 (k + 1) (a ++ 32 :: b) = a :: Lib.splitK [32] 0 k b := by
  rw [Lib.splitK, idx_hit h]
  have : ¬ ((a.length : Int) == -1) = true := by simp
  rw [if_neg this]
  congr 1
  · simp
  · simp

theorem splitB_list (s : ByteArray) (k : Nat) (l : List (List UInt8)) (h : Lib.splitK [32] 0 k s.data.toList = l) : Lib.splitB ⟨#[32]⟩ 0 k s = l.map fun x => (⟨x.toArray⟩ : ByteArray) := by
  have := Lib.splitB_data ⟨#[32]⟩ 0 k s
  rw [h] at this
  rw [← this, List.map_map]
  conv => lhs; rw [← List.map_id (Lib.splitB ⟨#[32]⟩ 0 k s)]
  apply List.map_congr_left
  intro x _
  obtain ⟨⟨y⟩⟩ := x
  rfl

theorem countB_cons {s r : ByteArray} {a : List UInt8} (h : 32 ∉ a) (hs : s.data.toList = a ++ 32 :: r.data.toList) : Lib.countB s ⟨#[32]⟩ = 1 + Lib.countB r ⟨#[32]⟩ := by
  have hi : Lib.indexB s ⟨#[32]⟩ = (a.length : Int) := by
    show Lib.index s.data.toList [32] = _
    rw [hs]
    exact idx_hit h
  rw [Lib.countB_hit s ⟨#[32]⟩ a.length (by decide) hi]
  congr 2
  obtain ⟨⟨x⟩⟩ := s
  obtain ⟨⟨y⟩⟩ := r
  simp at hs
  subst hs
  rw [ByteArray.extract_mk]
  simp [ByteArray.size]
  exact List.take_of_length_le (by omega)

theorem countB_none {s : ByteArray} (h : 32 ∉ s.data.toList) : Lib.countB s ⟨#[32]⟩ = 0 := Lib.countB_miss s ⟨#[32]⟩ (idx_miss h)

theorem put_blank : (32 : UInt8) ∉ ([112, 117, 116] : List UInt8) := by decide
theorem del_blank : (32 : UInt8) ∉ ([100, 101, 108] : List UInt8) := by decide

theorem txt_put (k v : List UInt8) : txt true k v = [112, 117, 116] ++ 32 :: (Wm.wd k ++ 32 :: Wm.wd v) := by simp [txt]
theorem txt_del (k v : List UInt8) : txt false k v = [100, 101, 108] ++ 32 :: Wm.wd k := by simp [txt]

theorem split_put {t : ByteArray} {k v : List UInt8} (h : t.data.toList = txt true k v) : Lib.countB t ⟨#[32]⟩ = 2 ∧ Lib.splitB ⟨#[32]⟩ 0 2 t = [⟨#[112, 117, 116]⟩, ⟨(Wm.wd k).toArray⟩, ⟨(Wm.wd v).toArray⟩] := by
  rw [txt_put] at h
  constructor
  · rw [countB_cons (r := ⟨(Wm.wd k ++ 32 :: Wm.wd v).toArray⟩) put_blank (by simpa using h), countB_cons (r := ⟨(Wm.wd v).toArray⟩) (Wm.wd_blank k) (by simp), countB_none (by simpa using Wm.wd_blank v)]
  · rw [splitB_list t 2 [[112, 117, 116], Wm.wd k, Wm.wd v] (by rw [h, splitK_hit put_blank, splitK_hit (Wm.wd_blank k)]; rfl)]
    rfl

theorem split_del {t : ByteArray} {k v : List UInt8} (h : t.data.toList = txt false k v) : Lib.countB t ⟨#[32]⟩ = 1 ∧ Lib.splitB ⟨#[32]⟩ 0 1 t = [⟨#[100, 101, 108]⟩, ⟨(Wm.wd k).toArray⟩] := by
  rw [txt_del] at h
  constructor
  · rw [countB_cons (r := ⟨(Wm.wd k).toArray⟩) del_blank (by simpa using h), countB_none (by simpa using Wm.wd_blank k)]
  · rw [splitB_list t 1 [[100, 101, 108], Wm.wd k] (by rw [h, splitK_hit del_blank]; rfl)]
    rfl

theorem txt_inj {p q : Bool} {k v l u : List UInt8} (h1 : Om.chk p k v = 0) (h2 : Om.chk q l u = 0) (h : txt p k v = txt q l u) : p = q ∧ k = l ∧ v = u := by
  cases p <;> cases q
  · rw [txt_del, txt_del] at h
    have := (blank_free del_blank del_blank h).2
    have e1 := (Om.chk_ok' h1).2.2.2
    have e2 := (Om.chk_ok' h2).2.2.2
    simp at e1 e2
    exact ⟨rfl, Wm.wd_inj this, by rw [e1, e2]⟩
  · rw [txt_del, txt_put] at h
    simp at h
  · rw [txt_del, txt_put] at h
    simp at h
  · rw [txt_put, txt_put] at h
    obtain ⟨g1, g2⟩ := blank_free (Wm.wd_blank k) (Wm.wd_blank l) (blank_free put_blank put_blank h).2
    exact ⟨rfl, Wm.wd_inj g1, Wm.wd_inj g2⟩

end Go.Proofs.YtaejecompbmhcaaDoor
