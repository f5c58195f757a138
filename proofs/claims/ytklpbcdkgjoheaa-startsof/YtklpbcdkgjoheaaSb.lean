/- The contract of the document's epoch; what At comes to. -/
import Derived.Test.YtklpbcdkgjoheaaSa
namespace Go.Proofs.Ytklpbcdkgjoheaa
open Go.RowKit
set_option linter.unusedVariables false

set_option maxHeartbeats 1000000 in
theorem epoR_any (v : Value) (l : List Sm.S) (n : Int) (w : World) (h : RowS w v l) (hl : l.length ≤ 140737488355328) :
    Calls Try.prog 40 #[v, .int .i64 n] w fun E w' => E = .returned (.int .i64 (Sm.epo n 0 l)) ∧ w' = w := by
  obtain ⟨ans, hans⟩ : ∃ r, Sm.epo n 0 l = r := ⟨_, rfl⟩
  rw [hans]
  have HA := hide hans
  clear hans
  by_cases hz : l.length = 0
  · have : l = [] := List.eq_nil_of_length_eq_zero hz
    subst this
    obtain ⟨ao, cap, rfl, _, _⟩ := h.shape
    have hfo := HA.out
    simp only [Sm.epo] at hfo
    subst hfo
    simp only [List.length_nil]
    clear HA h hl hz
    go_enter Try.func40, Try.ntmps40
    go_wp2
    go_loopw [5, 6] (fun ev iv wr => ev = .int .i64 0 ∧ iv = .int .i64 0 ∧ wr = w) (fun _ _ _ => 0)
    case atStart => exact ⟨rfl, rfl, rfl⟩
    case round =>
      obtain ⟨rfl, rfl, rfl⟩ := hrel
      go_wp2
      go_ret
      exact ⟨rfl, rfl⟩
  obtain ⟨b, off, cap, hvl, _, _, hB, hc⟩ := rowS_full h (by omega)
  subst hvl
  have HC := hide hc
  generalize hm : l.length = m at *
  have HN := hide hm
  clear h hc hm
  go_enter Try.func40, Try.ntmps40
  go_wp2
  go_loopw [5, 6] (fun ev iv wr => ∃ (k : Nat) (e : Int), k ≤ m ∧ iv = .int .i64 k ∧ ev = .int .i64 e ∧ Hid (Sm.epo n e (l.drop k) = ans) ∧ wr = w) (fun _ iv _ => m - (intOf iv).toNat)
  case atStart => exact ⟨0, 0, by omega, rfl, rfl, HA, rfl⟩
  case round =>
    obtain ⟨k, e, hk, rfl, rfl, HT, rfl⟩ := hrel
    by_cases hlt : k < m
    · obtain ⟨s, hs⟩ := at_of (l := l) (k := k) (by have := HN.out; omega)
      obtain ⟨d0, d1⟩ := HC.out k s hs
      have hlt' : (k : Int) < m := by omega
      have hd : l.drop k = s :: l.drop (k + 1) := by
        have := (List.getElem?_eq_some_iff.1 hs).1
        rw [List.drop_eq_getElem_cons this, (List.getElem?_eq_some_iff.1 hs).2]
      have HD := hide hd
      clear hs hd
      by_cases hg : s.2 ≤ n
      · have HT2 : Hid (Sm.epo n s.1 (l.drop (k + 1)) = ans) := hide (by
          rw [← HT.out, HD.out, Sm.epo, if_pos hg])
        clear HT HD
        go_wp2
        go_roundw
        case rel => exact ⟨k + 1, s.1, by omega, by go_num, rfl, HT2, trivial⟩
        case measure => simp [intOf]; omega
      · have hfo : e = ans := by rw [← HT.out, HD.out, Sm.epo, if_neg hg]
        subst hfo
        clear HT HD HA
        go_wp2
        go_ret
        exact ⟨rfl, rfl⟩
    · have hlt' : ¬ (k : Int) < m := by omega
      have hfo : e = ans := by rw [← HT.out, List.drop_of_length_le (by have := HN.out; omega), Sm.epo]
      subst hfo
      clear HT HA
      go_wp2
      go_ret
      exact ⟨rfl, rfl⟩

/-- What At comes to. -/
def atE (l : List Sm.S) (en n : Int) : Int := if Sm.chk l en = 0 then (if n < 0 ∨ en < n then 2 else 0) else Sm.chk l en
def atV (l : List Sm.S) (en n : Int) : Int := if atE l en n = 0 then Sm.epo n 0 l else 0

theorem atE_five {l : List Sm.S} {en n : Int} (h : Sm.chk l en ≠ 0) : Sm.chk l en = 5 ∧ atE l en n = 5 ∧ atV l en n = 0 := by
  have h5 : Sm.chk l en = 5 := Sm.chk_no fun k => h (Sm.chk_ok k)
  have : atE l en n = 5 := by unfold atE; rw [if_neg h, h5]
  exact ⟨h5, this, by unfold atV; rw [this]; rfl⟩
theorem atE_two {l : List Sm.S} {en n : Int} (h : Sm.chk l en = 0) (hn : n < 0 ∨ en < n) : atE l en n = 2 ∧ atV l en n = 0 := by
  have : atE l en n = 2 := by unfold atE; rw [if_pos h, if_pos hn]
  exact ⟨this, by unfold atV; rw [this]; rfl⟩
theorem atE_ok {l : List Sm.S} {en n : Int} (h : Sm.chk l en = 0) (hn : ¬ (n < 0 ∨ en < n)) : atE l en n = 0 ∧ atV l en n = Sm.epo n 0 l := by
  have : atE l en n = 0 := by unfold atE; rw [if_pos h, if_neg hn]
  exact ⟨this, by unfold atV; rw [if_pos this]⟩

end Go.Proofs.Ytklpbcdkgjoheaa
