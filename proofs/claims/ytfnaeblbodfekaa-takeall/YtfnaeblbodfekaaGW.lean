/- Texts of one layer, one behind the other. -/
import Derived.Test.YtfnaeblbodfekaaG1
import Derived.Test.YtfnaeblbodfekaaGT
/- The mathematics of TakeAll: a log's ships, taken by one that has a first part of it. No program. -/
namespace Go.Proofs.Ytfnaeblbodfekaa
set_option linter.unusedVariables false
open Cm (Cv)

/-- What is held behind a ship from a on. -/
def hav (n k a : Nat) : Nat := max k (min (a + 4) n)

theorem next_m {l : List Cv} (h : Cm.Good 0 0 l) (hl : l.length ≤ 40) (a : Nat) (ha : a ≤ l.length) : Shp.nxt (epo17 l) l a = ⟨2, epo17 l, 0, 0, [], (a : Int) + 1, Cm.lastE 0 (l.take a), (l.drop a).take 4⟩ := by
  have h0 := (epo_ok h).1
  have hk := (Shp.nxtE_ok (k := (a : Int)) h0 (by omega)).2
  rw [Int.toNat_natCast] at hk
  exact hk

theorem next_num {l : List Cv} (h : Cm.Good 0 0 l) (a : Nat) : Tak.Num ((a : Int) + 1) ((l.drop a).take 4) := by
  intro i c hc
  have hi := (List.getElem?_eq_some_iff.1 hc).1
  rw [List.length_take] at hi
  rw [List.getElem?_take, if_pos (by omega), List.getElem?_drop] at hc
  have := (Cm.good_at l 0 0 (a + i) c h hc).2.1
  omega

theorem all_gap {l : List Cv} (h : Cm.Good 0 0 l) (hl : l.length ≤ 40) (k a : Nat) (hk : k ≤ l.length) (ha : a ≤ l.length) (hka : k < a) : Tak.tkE 0 (epo17 l) (l.take k) (Shp.nxt (epo17 l) l a) = 13 ∧ Tak.tk 0 (epo17 l) (l.take k) (Shp.nxt (epo17 l) l a) = [] := by
  have hf := (Cm.fol_good (l.take k) 0 0 0).2 (Cm.good_take h k)
  have e1 : Tak.tkE 0 (epo17 l) (l.take k) (Shp.nxt (epo17 l) l a) = 13 := by
    rw [next_m h hl a ha]
    exact Tak.tkE_gap hf ⟨rfl, rfl⟩ (by simp) (by simp) (by simp only [List.length_take]; omega)
  exact ⟨e1, Tak.tk_no (by rw [e1]; decide)⟩

theorem all_ok {l : List Cv} (h : Cm.Good 0 0 l) (hl : l.length ≤ 40) (k a : Nat) (hk : k ≤ l.length) (hka : a ≤ k) : Tak.tkE 0 (epo17 l) (l.take k) (Shp.nxt (epo17 l) l a) = 0 ∧ l.take k ++ Tak.tk 0 (epo17 l) (l.take k) (Shp.nxt (epo17 l) l a) = l.take (hav l.length k a) := by
  have hf := (Cm.fol_good (l.take k) 0 0 0).2 (Cm.good_take h k)
  have hlk : (l.take k).length = k := by rw [List.length_take]; omega
  have hat : ∀ n : Nat, n ≤ k → Tak.atE (l.take k) (n : Int) = Cm.lastE 0 (l.take n) := fun n hn => by
    unfold Tak.atE
    rw [Int.toNat_natCast, List.take_take, Nat.min_eq_left hn]
  have e1 : Tak.tkE 0 (epo17 l) (l.take k) (Shp.nxt (epo17 l) l a) = 0 := by
    rw [next_m h hl a (by omega)]
    refine Tak.tkE_ok hf ⟨rfl, rfl⟩ (by simp) (by simp) (by simp only [hlk]; omega) (Tak.fits_yes ?_ ?_)
    · show Tak.atE (l.take k) ((a : Int) + 1 - 1) = Cm.lastE 0 (l.take a)
      rw [show (a : Int) + 1 - 1 = (a : Int) by omega]
      exact hat a hka
    · intro c hc
      obtain ⟨i, hi⟩ := List.getElem?_of_mem (show c ∈ (l.drop a).take 4 from hc)
      have hn := next_num h a i c hi
      have hil := (List.getElem?_eq_some_iff.1 hi).1
      rw [List.length_take] at hil
      rw [List.getElem?_take, if_pos (by omega), List.getElem?_drop] at hi
      unfold Tak.okc
      rw [Bool.or_eq_true, decide_eq_true_iff, decide_eq_true_iff, hlk]
      by_cases hg : (k : Int) < c.n
      · exact .inl hg
      · right
        rw [show c.n = ((a + i + 1 : Nat) : Int) by omega, hat _ (by omega)]
        exact Shp.prv_is hi
  refine ⟨e1, ?_⟩
  rw [Tak.tk_is e1, next_m h hl a (by omega)]
  show l.take k ++ Tak.nw (l.take k) ((l.drop a).take 4) = _
  rw [Tak.nw_drop _ _ _ (next_num h a), hlk, show ((k : Int) + 1 - ((a : Int) + 1)).toNat = k - a by omega, List.drop_take, List.drop_drop, show a + (k - a) = k by omega, ← List.take_add]
  unfold hav
  by_cases h4 : a + 4 ≤ k
  · rw [show k + (4 - (k - a)) = k by omega, show max k (min (a + 4) l.length) = k by omega]
  · rw [show k + (4 - (k - a)) = a + 4 by omega]
    by_cases h5 : a + 4 ≤ l.length
    · rw [show max k (min (a + 4) l.length) = a + 4 by omega]
    · rw [show max k (min (a + 4) l.length) = l.length by omega, List.take_of_length_le (by omega), List.take_length]

end Go.Proofs.Ytfnaeblbodfekaa
