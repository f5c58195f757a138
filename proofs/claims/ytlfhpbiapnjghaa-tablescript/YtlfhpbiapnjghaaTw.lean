/- Rows of lists of ops in memory; the statement's own: is a script gone through (small)? -/
import Derived.Test.YtlfhpbiapnjghaaTx
import Derived.Test.YtlfhpbiapnjghaaGr
namespace Go.Proofs.Ytlfhpbiapnjghaa
open Go.RowKit
open Bm (Ov)
set_option linter.unusedVariables false

/-- A list of a row of lists: its value, its ops. -/
structure Rw where
  v : Value
  l : List Ov

def rwc (a : Rw) : List Value := [a.v]
theorem rwc_len (a : Rw) : (rwc a).length = 1 := rfl

/-- A slice value that reads as the lists r. -/
def IsLL (w : World) (v : Value) (r : List Rw) : Prop := RowG rwc w v r ∧ ∀ a ∈ r, IsO w a.v a.l
def FitL (r : List Rw) : Prop := ∀ a ∈ r, FitO a.l

theorem IsLL.below {w w' : World} {v : Value} {r : List Rw} (h : IsLL w v r) (hb : Below w.heap.size w w') : IsLL w' v r := ⟨h.1.below hb, fun a ha => (h.2 a ha).below hb⟩

theorem IsLL.full {w : World} {v : Value} {r : List Rw} (h : IsLL w v r) (hne : 0 < r.length) :
    ∃ b off cap, v = .slice (some ⟨b, off, none⟩) r.length cap ∧ r.length ≤ cap ∧ cap ≤ maxLen ∧ b < w.heap.size ∧ ∀ i a, r[i]? = some a → w.cell? ⟨b, off + i, none⟩ = some a.v := by
  obtain ⟨b, off, cap, h1, h2, h3, h4, h5⟩ := h.1.full rwc_len (by decide) hne
  refine ⟨b, off, cap, h1, h2, h3, h4, fun i a ha => ?_⟩
  have := h5 i a ha 0 a.v rfl
  simpa using this

/-- A script that is gone through. -/
def Sml (r : List Rw) : Prop := (∀ a ∈ r, a.l.length ≤ 40) ∧ r.length ≤ 30

theorem tsmall_any (v : Value) (l : List Rw) (w : World) (h : IsLL w v l) (hl : l.length ≤ 140737488355328) : Calls Try.prog 17 #[v] w fun E w' => (E = .returned (.bool false) ∨ (E = .returned (.bool true) ∧ Hid (Sml l))) ∧ w = w' := by
  have H := hide h
  obtain ⟨ao, cap, hv, hcap, hcm⟩ := h.1.shape
  subst hv
  clear h
  go_enter Try.func17, Try.ntmps17
  go_wp2
  go_loopw [3] (fun iv wr => ∃ k : Nat, k ≤ l.length ∧ iv = .int .i64 k ∧ w = wr ∧ Hid (∀ a ∈ l.take k, a.l.length ≤ 40)) (fun iv _ => l.length - (intOf iv).toNat)
  case atStart => exact ⟨0, by omega, rfl, rfl, hide (by simp)⟩
  case round =>
    obtain ⟨k, hk, rfl, rfl, HT⟩ := hrel
    by_cases hlt : k < l.length
    · obtain ⟨b, off, cq, hvx, _, _, hB, hcell⟩ := H.out.full (by omega)
      simp only [Value.slice.injEq, true_and] at hvx
      obtain ⟨rfl, rfl⟩ := hvx
      obtain ⟨a, ha⟩ : ∃ a, l[k]? = some a := ⟨l[k], by rw [List.getElem?_eq_getElem]⟩
      have e4 := hcell k a ha
      obtain ⟨av, ac, hav, _, _⟩ := (H.out.2 a (List.mem_of_getElem? ha)).shape
      rw [hav] at e4
      have hlt' : (k : Int) < l.length := by omega
      have hk0 : (0 : Int) ≤ (k : Int) := by omega
      obtain ⟨hkl, hke⟩ := List.getElem?_eq_some_iff.1 ha
      by_cases hbig : a.l.length ≤ 40
      · have hb1 : ¬ (40 : Int) < (a.l.length : Int) := by omega
        have HT2 : Hid (∀ a ∈ l.take (k + 1), a.l.length ≤ 40) := hide (by
          rw [List.take_succ_eq_append_getElem hkl, hke]
          intro q hq
          rcases List.mem_append.1 hq with hq | hq
          · exact HT.out q hq
          · simp at hq
            subst hq
            exact hbig)
        clear hcell ha hke hav
        go_wp2
        go_roundw
        case rel => exact ⟨k + 1, by omega, by go_num, trivial, HT2⟩
        case measure => simp [intOf]; omega
      · have hb1 : (40 : Int) < (a.l.length : Int) := by omega
        clear hcell ha hke hav
        go_wp2
        go_ret
        exact ⟨.inl rfl, rfl⟩
    · have hlt' : ¬ (k : Int) < l.length := by omega
      have HT2 : Hid (∀ a ∈ l, a.l.length ≤ 40) := hide (by
        have := HT.out
        rw [List.take_of_length_le (by omega)] at this
        exact this)
      by_cases h30 : l.length ≤ 30
      · have hi : (l.length : Int) ≤ 30 := by omega
        have hd : decide ((l.length : Int) ≤ 30) = true := decide_eq_true hi
        have HS : Hid (Sml l) := hide ⟨HT2.out, h30⟩
        go_wp2
        go_ret
        exact ⟨.inr (by first | exact rfl | exact ⟨rfl, HS⟩), rfl⟩
      · have hi : ¬ (l.length : Int) ≤ 30 := by omega
        have hd : decide ((l.length : Int) ≤ 30) = false := decide_eq_false hi
        go_wp2
        go_ret
        exact ⟨.inl rfl, rfl⟩

end Go.Proofs.Ytlfhpbiapnjghaa
