/- The contracts of sort.Search, of starts' begun, checkPlace, At and Trimmed, and of the copy that slices.Clone makes of starts. -/
import Derived.Test.YtklpbcdkgjoheaaSb
import Derived.Test.YtklpbcdkgjoheaaGa
import Derived.Deep.RegionHeld3
import Derived.Lib.SliceRun
namespace Go.Proofs.Ytklpbcdkgjoheaa
open Go.RowKit
set_option linter.unusedVariables false

theorem Try.enters51 : ∀ args w, (callFunc 51 args).run Try.prog w = .ok (.enter 51 args) w := enters_of Try.func51 (by kernel_rfl) rfl

set_option maxHeartbeats 1000000 in
theorem search_any (g : Nat) (cb : Array Value) (n : Nat) (p : Nat → Bool) (w : World) (eg : ∀ args w, (callFunc g args).run Try.prog w = .ok (.enter g args) w) (hn : n < 4611686018427387904)
    (hf : ∀ (m i : Nat), i < n → Calls Try.prog g (#[.int .i64 i] ++ cb) (w.drewN m) fun E w' => E = .returned (.bool (p i)) ∧ ∃ q, w' = (w.drewN m).drewN q)
    (k : Nat) (hk : k ≤ n) (h1 : ∀ i, i < k → p i = false) (h2 : ∀ i, k ≤ i → i < n → p i = true) :
    Calls Try.prog 50 #[.int .i64 n, .func (.func g) #[] cb] w fun E w' => E = .returned (.int .i64 k) ∧ ∃ q, w' = w.drewN q := by
  have HF := hide hf
  have H1 := hide h1
  have H2 := hide h2
  clear hf h1 h2
  go_enter Try.func50, Try.ntmps50
  go_wp2
  go_loopw [5, 6] (fun iv jv wr => ∃ (lo hi m : Nat), iv = .int .i64 lo ∧ jv = .int .i64 hi ∧ lo ≤ k ∧ k ≤ hi ∧ hi ≤ n ∧ wr = w.drewN m) (fun iv jv _ => (intOf jv).toNat - (intOf iv).toNat)
  case atStart => exact ⟨0, n, 0, rfl, rfl, by omega, by omega, by omega, rfl⟩
  case round =>
    obtain ⟨lo, hi, m, rfl, rfl, hlo, hhi, hin, rfl⟩ := hrel
    by_cases hlt : lo < hi
    · have hc := HF.out m ((lo + hi) / 2) (by omega)
      have hlt' : (lo : Int) < hi := by omega
      rw [show (((lo + hi) / 2 : Nat) : Int) = ((lo : Int) + (hi : Int)) / 2 by omega] at hc
      by_cases hh : (lo + hi) / 2 < k
      · rw [H1.out _ hh] at hc
        have HC := hide hc
        clear hc
        go_wp2_with (go_at_fn g; refine HC.out.mono ?_; rintro E w' ⟨rfl, nq, rfl⟩)
        go_roundw
        case rel => exact ⟨(lo + hi) / 2 + 1, hi, m + nq, by rw [show ((lo : Int) + (hi : Int)) / 2 + 1 = (((lo + hi) / 2 + 1 : Nat) : Int) by omega], rfl, by omega, by omega, by omega, rfl⟩
        case measure => simp [intOf]; omega
      · rw [H2.out _ (by omega) (by omega)] at hc
        have HC := hide hc
        clear hc
        go_wp2_with (go_at_fn g; refine HC.out.mono ?_; rintro E w' ⟨rfl, nq, rfl⟩)
        go_roundw
        case rel => exact ⟨lo, (lo + hi) / 2, m + nq, rfl, by rw [show ((lo : Int) + (hi : Int)) / 2 = (((lo + hi) / 2 : Nat) : Int) by omega], by omega, by omega, by omega, rfl⟩
        case measure => simp [intOf]; omega
    · have hlt' : ¬ (lo : Int) < hi := by omega
      obtain rfl : lo = k := by omega
      go_wp2
      go_ret
      exact ⟨rfl, m, rfl⟩

set_option maxHeartbeats 400000 in
theorem begun1_any (p q b off n cap : Nat) (x y : Int) (i : Nat) (w : World) (hp : w.cell? ⟨p, 0, none⟩ = some (.slice (some ⟨b, off, none⟩) n cap)) (hq : w.cell? ⟨q, 0, none⟩ = some (.int .i64 x)) (hc : w.cell? ⟨b, off + i * 2 + 1, none⟩ = some (.int .i64 y)) (hi : i < n) :
    Calls Try.prog 51 #[.int .i64 i, .pointer (some ⟨p, 0, none⟩), .pointer (some ⟨q, 0, none⟩)] w fun E w' => E = .returned (.bool (decide (x < y))) ∧ ∃ m, w' = w.drewN m := by
  have hi' : (i : Int) < n := by omega
  have hb : (decide (x < y)) = decide (x < y) := rfl
  go_enter Try.func51, Try.ntmps51
  go_wp2
  go_quiet (fail)
  go_wp2
  go_ret
  exact ⟨rfl, _, rfl⟩

theorem Try.elemS : Try.prog.underlying 22 = some (.slice (Try.prog.elem 22)) := by kernel_rfl
theorem Try.sizeS (wx : World) : (sizeOf (Try.prog.elem 22)).run Try.prog wx = .ok 2 wx := by kernel_rfl

theorem run_frontS (ao : Option Addr) (n cap p : Nat) (hp : p ≤ cap) (ha : ao = none → cap = 0) (wx : World) : (Instr.slice 22 (.slice ao n cap) none (some (.int .i64 p)) none).run Try.prog wx = .ok (.slice ao p cap) wx := by
  rw [run_slice_h wx 22 ao n cap Try.elemS .i64 _ (by omega) (by omega), Try.sizeS]
  simp only [Result.andThen, sliced]
  cases ao with
  | none =>
    obtain rfl := ha rfl
    obtain rfl : p = 0 := by omega
    simp
  | some ad => simp [Addr.add]

theorem RowG.frontS {w : World} {ao : Option Addr} {n cap : Nat} {l : List Sm.S} (h : RowS w (.slice ao n cap) l) (p : Nat) (hp : p ≤ l.length) : RowS w (.slice ao p cap) (l.take p) := by
  have hl : (l.take p).length = p := by rw [List.length_take]; omega
  rcases h with ⟨hv, e⟩ | ⟨ad', cap', hv, h1, h2, hc⟩
  · subst e
    simp at hv hp
    obtain ⟨rfl, rfl, rfl⟩ := hv
    subst hp
    exact .inl ⟨rfl, rfl⟩
  · simp at hv
    obtain ⟨rfl, rfl, rfl⟩ := hv
    refine .inr ⟨ad', cap, by rw [hl], by omega, h2, fun j u hj => hc j u ?_⟩
    rw [gcells_take stc_len, List.getElem?_take] at hj
    split at hj
    · exact hj
    · simp at hj

theorem rowS_shape {w : World} {v : Value} {l : List Sm.S} (h : RowS w v l) : ∃ ao cap, v = .slice ao l.length cap ∧ l.length ≤ cap ∧ cap ≤ maxLen ∧ (ao = none → cap = 0) := by
  rcases h with ⟨hv, e⟩ | ⟨ad, cap, hv, h1, h2, _⟩
  · subst e; exact ⟨none, 0, hv, by simp, by simp, fun _ => rfl⟩
  · exact ⟨some ad, cap, hv, h1, h2, fun h => by cases h⟩

/-- The search for how many have begun. -/
theorem find_any (v : Value) (l : List Sm.S) (en e f n : Int) (p q : Nat) (w : World) (h : RowS w v l) (hl : l.length ≤ 140737488355328) (hu : Sm.Up en e f l) (hp : w.cell? ⟨p, 0, none⟩ = some v) (hq : w.cell? ⟨q, 0, none⟩ = some (.int .i64 n)) :
    Calls Try.prog 50 #[.int .i64 l.length, .func (.func 51) #[] #[.pointer (some ⟨p, 0, none⟩), .pointer (some ⟨q, 0, none⟩)]] w fun E w' => E = .returned (.int .i64 (Sm.beg n l).length) ∧ ∃ m, w' = w.drewN m := by
  refine search_any 51 _ l.length (fun i => match l[i]? with | some s => decide (n < s.2) | none => false) w Try.enters51 (by omega) ?_ (Sm.beg n l).length (Sm.beg_le n l) ?_ ?_
  · intro m i hi
    obtain ⟨s, hs⟩ := at_of hi
    obtain ⟨b, off, cap, rfl, _, _, hB, hc⟩ := rowS_full h (by omega)
    have := begun1_any p q b off l.length cap n s.2 i (w.drewN m) hp hq (hc i s hs).2 hi
    simp only [hs]
    exact this
  · intro i hi
    have := Sm.beg_le n l
    obtain ⟨s, hs⟩ := at_of (l := l) (k := i) (by omega)
    have := Sm.beg_in n l i s hi hs
    simp only [hs]
    simp
    omega
  · intro i hk hi
    obtain ⟨s, hs⟩ := at_of hi
    simp only [hs]
    simp
    obtain ⟨t, ht⟩ := at_of (l := l) (k := (Sm.beg n l).length) (by omega)
    have := Sm.beg_out n l t ht
    rcases Nat.lt_or_ge (Sm.beg n l).length i with g | g
    · have := (Sm.up_lt l en e f hu _ _ t s g ht hs).2
      omega
    · obtain rfl : i = (Sm.beg n l).length := by omega
      rw [ht] at hs
      simp at hs
      subst hs
      omega

set_option maxHeartbeats 1000000 in
theorem begun_any (v : Value) (l : List Sm.S) (en e f n : Int) (w : World) (h : RowS w v l) (hl : l.length ≤ 140737488355328) (hu : Sm.Up en e f l) :
    Calls Try.prog 34 #[v, .int .i64 n] w fun E w' => ∃ v', E = .returned v' ∧ RowS w' v' (Sm.beg n l) ∧ Below w.heap.size w w' := by
  obtain ⟨w1, hw1, sz1, bel1, hB1⟩ := blk_step w #[v] 22
  obtain ⟨w2, hw2, sz2, bel2, hB2⟩ := blk_step w1 #[.int .i64 n] 3
  have belA : Below w.heap.size w w2 := bel1.trans (bel2.mono (by omega))
  have hB1' := (bel2.block w.heap.size (by omega)).trans hB1
  have c1 := blk_cell hB1' 0 rfl
  rw [sz1] at hB2
  have c2 := blk_cell hB2 0 rfl
  have h2 := h.below belA
  have X : Hid (∀ m, _) := hide fun m => find_any v l en e f n w.heap.size (w.heap.size + 1) (w2.drewN m) (rowS_drewN h2 m) hl hu c1 c2
  have hle := Sm.beg_le n l
  have R := hide (Sm.beg_take n l)
  obtain ⟨ao, cap, rfl, hcl, hcm, hao⟩ := rowS_shape h
  have hsl := run_frontS ao l.length cap (Sm.beg n l).length (by omega) hao
  have H2 := hide h2
  clear h hu hB1 hB1' hB2 bel1 bel2 h2 hao
  go_enter Try.func34, Try.ntmps34
  go_wp2
  go_quiet ((go_at_call 50; refine Calls.quiet_of (X.out _)))
  go_wp2
  go_ret
  refine ⟨_, rfl, ?_, below_drewN belA _⟩
  have := H2.out.frontS (Sm.beg n l).length hle
  rw [← R.out] at this
  exact rowS_drewN this _

end Go.Proofs.Ytklpbcdkgjoheaa
