/- The library's fields at blanks are the words of a line (layer 25). No program. -/
import Derived.Test.YtdlogcdpapknaaaGreatDoorZB
import Derived.Lib.FieldsP
namespace Go.Proofs.YtdlogcdpapknaaaGreatDoor
set_option linter.unusedVariables false
set_option maxRecDepth 100000

theorem decodeN_blank (n b0 b1 b2 b3 : Nat) (h0 : b0 < 256) : (b0 = 32 → Go.Lib.decodeN n b0 b1 b2 b3 = (32, 1)) ∧ ((Go.Lib.decodeN n b0 b1 b2 b3).1 = 32 → b0 = 32) ∧
    (1 < (Go.Lib.decodeN n b0 b1 b2 b3).2 → b1 ≠ 32) ∧ (2 < (Go.Lib.decodeN n b0 b1 b2 b3).2 → b2 ≠ 32) ∧ (3 < (Go.Lib.decodeN n b0 b1 b2 b3).2 → b3 ≠ 32) ∧ (Go.Lib.decodeN n b0 b1 b2 b3).2 ≤ 4 := by
  unfold Go.Lib.decodeN
  repeat' split
  all_goals refine ⟨?_, ?_, ?_, ?_, ?_, ?_⟩
  all_goals first
    | (intro h; exfalso; omega)
    | (intro h; subst h; rfl)
    | (simp only; omega)

theorem get_at {s : ByteArray} {i : Nat} (h : i < s.size) : s.data.toList[i]? = some (s.get! i) := by
  rw [Array.getElem?_toList]
  show s.data[i]? = some (s.data[i]!)
  rw [Array.getElem?_eq_getElem h, getElem!_pos s.data i h]

/-- A rune of a text. -/
theorem dec_blank (s : ByteArray) (pos : Nat) (h : pos < s.size) : 1 ≤ (Utf8.decode s pos).2 ∧ pos + (Utf8.decode s pos).2 ≤ s.size ∧
    ((Utf8.decode s pos).1 = 32 → s.get! pos = 32 ∧ (Utf8.decode s pos).2 = 1) ∧
    ((Utf8.decode s pos).1 ≠ 32 → (32 : UInt8) ∉ (s.data.toList.drop pos).take (Utf8.decode s pos).2) := by
  have hw := Go.Lib.width_pos s pos
  have hn : pos + (Utf8.decode s pos).2 ≤ s.size := by
    have := Go.Lib.decodeN_le_n' (s.size - pos) (s.get! pos).toNat (s.get! (pos + 1)).toNat (s.get! (pos + 2)).toNat (s.get! (pos + 3)).toNat (by omega)
    rw [← Go.Lib.decode_at] at this
    omega
  obtain ⟨h1, h2, h3, h4, h5, h6⟩ := decodeN_blank (s.size - pos) (s.get! pos).toNat (s.get! (pos + 1)).toNat (s.get! (pos + 2)).toNat (s.get! (pos + 3)).toNat (UInt8.toNat_lt _)
  rw [← Go.Lib.decode_at] at h1 h2 h3 h4 h5 h6
  refine ⟨hw, hn, fun e => ?_, fun e hm => ?_⟩
  · have := h2 e
    exact ⟨UInt8.toNat.inj this, by rw [h1 this]⟩
  · obtain ⟨j, hj⟩ := List.mem_iff_getElem?.1 hm
    have hjl : j < (Utf8.decode s pos).2 := by
      rcases Nat.lt_or_ge j (Utf8.decode s pos).2 with h' | h'
      · exact h'
      · rw [List.getElem?_eq_none (by rw [List.length_take]; omega)] at hj; cases hj
    rw [List.getElem?_take_of_lt hjl, List.getElem?_drop, get_at (by omega)] at hj
    have hj := Option.some.inj hj
    rcases (show j = 0 ∨ j = 1 ∨ j = 2 ∨ j = 3 by omega) with rfl | rfl | rfl | rfl
    · apply e
      rw [h1 (by rw [show pos + 0 = pos from rfl] at hj; rw [hj]; rfl)]
    · exact h3 hjl (by rw [hj]; rfl)
    · exact h4 hjl (by rw [hj]; rfl)
    · exact h5 hjl (by rw [hj]; rfl)

theorem ext_list (s : ByteArray) (a b : Nat) : (s.extract a b).data.toList = (s.data.toList.drop a).take (b - a) := by simp [List.extract_eq_take_drop]

/-- The word that is being read. -/
def curOf (s : ByteArray) (st : Option Nat) (pos : Nat) : List UInt8 := match st with | none => [] | some a => (s.extract a pos).data.toList

def isB (x : Nat) : Bool := x == 32

theorem spans_wds (s : ByteArray) : ∀ (f pos : Nat) (st : Option Nat) (acc : List (Nat × Nat)), s.size ≤ pos + f → pos ≤ s.size → (∀ a, st = some a → a < pos) →
    (Go.Lib.closeSpans s (Go.Lib.spansFromP isB s f pos st acc)).map (fun x => (s.extract x.1 x.2).data.toList) = acc.map (fun x => (s.extract x.1 x.2).data.toList) ++ Sct.wdsA (curOf s st pos) (s.data.toList.drop pos) := by
  intro f
  induction f with
  | zero =>
    intro pos st acc hf hp hst
    have : pos = s.size := by omega
    subst this
    rw [Go.Lib.spansFromP, List.drop_of_length_le (by rw [← Lib.size_eq]; exact Nat.le_refl _), Sct.wdsA]
    cases st with
    | none => simp [Go.Lib.closeSpans, curOf]
    | some a =>
      have ha := hst a rfl
      have hne : curOf s (some a) s.size ≠ [] := by
        intro e
        have := congrArg List.length e
        simp only [curOf, ext_list, List.length_take, List.length_drop, List.length_nil] at this
        have h2 := Lib.size_eq s
        omega
      rw [if_neg hne]
      simp [Go.Lib.closeSpans, curOf]
  | succ f ih =>
    intro pos st acc hf hp hst
    by_cases hlt : pos < s.size
    · obtain ⟨hw, hn, hy, hno⟩ := dec_blank s pos hlt
      obtain ⟨R, hR⟩ : ∃ R, (Utf8.decode s pos).1 = R := ⟨_, rfl⟩
      obtain ⟨K, hK⟩ : ∃ K, (Utf8.decode s pos).2 = K := ⟨_, rfl⟩
      unfold Go.Lib.spansFromP
      rw [if_pos hlt]
      rw [hR, hK] at hy hno ⊢
      rw [hK] at hw hn
      have hd : s.data.toList.drop pos = (s.data.toList.drop pos).take K ++ s.data.toList.drop (pos + K) := by
        rw [← List.drop_drop, List.take_append_drop]
      by_cases h32 : R = 32
      · obtain ⟨hg, rfl⟩ := hy h32
        have hb : isB R = true := by simp [isB, h32]
        have hd1 : s.data.toList.drop pos = 32 :: s.data.toList.drop (pos + 1) := by
          have hl : pos < s.data.toList.length := by rw [← Lib.size_eq]; exact hlt
          rw [List.drop_eq_getElem_cons hl]
          have := get_at hlt
          rw [List.getElem?_eq_getElem hl] at this
          rw [Option.some.inj this, hg]
        rw [hb, if_pos rfl, hd1, Sct.wdsA_blank]
        cases st with
        | none =>
          simp only
          rw [ih (pos + 1) none acc (by omega) (by omega) (fun a h => by cases h)]
          rfl
        | some a =>
          have ha := hst a rfl
          have hne : curOf s (some a) pos ≠ [] := by
            intro e
            have := congrArg List.length e
            simp only [curOf, ext_list, List.length_take, List.length_drop, List.length_nil] at this
            have h2 := Lib.size_eq s
            omega
          simp only
          rw [ih (pos + 1) none (acc ++ [(a, pos)]) (by omega) (by omega) (fun a h => by cases h), if_neg hne]
          simp [curOf]
      · have hb : isB R = false := by simp [isB, h32]
        have hrun := hno h32
        rw [hb, if_neg (by simp)]
        have e2 : ∀ cur, Sct.wdsA cur (s.data.toList.drop pos) = Sct.wdsA (cur ++ (s.data.toList.drop pos).take K) (s.data.toList.drop (pos + K)) := fun cur => (congrArg (Sct.wdsA cur) hd).trans (Sct.wdsA_run _ _ _ hrun)
        have step : ∀ a, a ≤ pos → curOf s (some a) pos ++ (s.data.toList.drop pos).take K = curOf s (some a) (pos + K) := fun a ha => by
          simp only [curOf, ext_list]
          rw [show s.data.toList.drop pos = (s.data.toList.drop a).drop (pos - a) by rw [List.drop_drop]; congr 1; omega, show pos + K - a = (pos - a) + K by omega, List.take_add]
        cases st with
        | none =>
          simp only
          rw [ih (pos + K) (some pos) acc (by omega) (by omega) (fun a h => by cases h; omega)]
          rw [e2 (curOf s none pos)]
          have := step pos (Nat.le_refl _)
          have e0 : curOf s (some pos) pos = [] := by simp [curOf]
          rw [e0, List.nil_append] at this
          rw [show curOf s none pos = [] from rfl, List.nil_append, this]
        | some a =>
          have ha := hst a rfl
          simp only
          rw [ih (pos + K) (some a) acc (by omega) (by omega) (fun b h => by cases h; omega)]
          rw [e2 (curOf s (some a) pos), step a (by omega)]
    · have : pos = s.size := by omega
      subst this
      rw [Go.Lib.spansFromP_end _ _ _ _ _ _ hlt, List.drop_of_length_le (by rw [← Lib.size_eq]; exact Nat.le_refl _), Sct.wdsA]
      cases st with
      | none => simp [Go.Lib.closeSpans, curOf]
      | some a =>
        have ha := hst a rfl
        have hne : curOf s (some a) s.size ≠ [] := by
          intro e
          have := congrArg List.length e
          simp only [curOf, ext_list, List.length_take, List.length_drop, List.length_nil] at this
          have h2 := Lib.size_eq s
          omega
        rw [if_neg hne]
        simp [Go.Lib.closeSpans, curOf]

/-- The library's fields at blanks. -/
theorem fields_wds (s : ByteArray) : (Go.Lib.goFieldsP isB s).map (fun x => x.data.toList) = Sct.wds s.data.toList := by
  have := spans_wds s s.size 0 none [] (by omega) (by omega) (fun a h => by cases h)
  unfold Go.Lib.goFieldsP Go.Lib.spansOfP
  rw [List.map_map]
  exact this

end Go.Proofs.YtdlogcdpapknaaaGreatDoor
