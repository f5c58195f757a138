/- Calls of a disk in memory ('Act'): a row of them. -/
import Derived.Test.YteklbnonikccaaaPl
import Derived.Test.YteklbnonikccaaaPick
namespace Go.Proofs.Yteklbnonikccaaa
open Go.RowKit
set_option linter.unusedVariables false

/-- A call as it stands in memory. -/
structure Aw where
  k : Int
  f : Int
  n : Int
  t : Int
  v : Value
  bs : List Int

def actc (a : Aw) : List Value := [.int .i64 a.k, .int .i64 a.f, .int .i64 a.n, .int .i64 a.t, a.v]
theorem actc_len (a : Aw) : (actc a).length = 5 := rfl

/-- An integer of 64 bits. -/
def I64 (z : Int) : Prop := -9223372036854775808 ≤ z ∧ z ≤ 9223372036854775807

/-- What a call's parts are. -/
def ActOk (w : World) (a : Aw) : Prop := Is .u8 w a.v a.bs ∧ I64 a.k ∧ I64 a.f ∧ I64 a.n ∧ I64 a.t

/-- A slice of calls. -/
def IsA (w : World) (v : Value) (l : List Aw) : Prop := RowG actc w v l ∧ ∀ a ∈ l, ActOk w a

theorem ActOk.below {w w' : World} {a : Aw} (h : ActOk w a) (hb : Below w.heap.size w w') : ActOk w' a := ⟨h.1.below hb, h.2⟩
theorem IsA.below {w w' : World} {v : Value} {l : List Aw} (h : IsA w v l) (hb : Below w.heap.size w w') : IsA w' v l := ⟨h.1.below hb, fun a ha => (h.2 a ha).below hb⟩

/-- Is a script gone through? -/
def smallA (l : List Aw) : Bool := l.all (fun a => decide (a.bs.length ≤ 400)) && decide (l.length ≤ 100)

theorem IsA.full {w : World} {v : Value} {l : List Aw} (h : IsA w v l) (hne : 0 < l.length) :
    ∃ b off cap, v = .slice (some ⟨b, off, none⟩) l.length cap ∧ l.length ≤ cap ∧ cap ≤ maxLen ∧ b < w.heap.size ∧ ∀ (i : Nat) (a : Aw), l[i]? = some a → w.cell? ⟨b, off + i * 5, none⟩ = some (.int .i64 a.k) ∧ w.cell? ⟨b, off + i * 5 + 1, none⟩ = some (.int .i64 a.f) ∧ w.cell? ⟨b, off + i * 5 + 2, none⟩ = some (.int .i64 a.n) ∧ w.cell? ⟨b, off + i * 5 + 3, none⟩ = some (.int .i64 a.t) ∧ w.cell? ⟨b, off + i * 5 + 4, none⟩ = some a.v := by
  obtain ⟨b, off, cap, h1, h2, h3, h4, h5⟩ := h.1.full actc_len (by decide) hne
  exact ⟨b, off, cap, h1, h2, h3, h4, fun i a hi => ⟨h5 i a hi 0 _ rfl, h5 i a hi 1 _ rfl, h5 i a hi 2 _ rfl, h5 i a hi 3 _ rfl, h5 i a hi 4 _ rfl⟩⟩

set_option maxHeartbeats 1000000 in
theorem small_any (v : Value) (l : List Aw) (w : World) (h : IsA w v l) (hl : l.length ≤ 140737488355328) : Calls Try.prog 20 #[v] w fun E w' => E = .returned (.bool (smallA l)) ∧ w = w' := by
  have H := hide h
  obtain ⟨ao, cap, hv, hcap, hcm⟩ := h.1.shape
  subst hv
  clear h
  go_enter Try.func20, Try.ntmps20
  go_wp2
  go_loopw [3] (fun iv wr => ∃ k : Nat, k ≤ l.length ∧ iv = .int .i64 k ∧ w = wr ∧ Hid ((l.take k).all (fun a => decide (a.bs.length ≤ 400)) = true)) (fun iv _ => l.length - (intOf iv).toNat)
  case atStart => exact ⟨0, by omega, rfl, rfl, hide (by simp)⟩
  case round =>
    obtain ⟨k, hk, rfl, rfl, HT⟩ := hrel
    by_cases hlt : k < l.length
    · obtain ⟨b, off, cq, hvx, _, _, hB, hcell⟩ := H.out.full (by omega)
      simp only [Value.slice.injEq, true_and] at hvx
      obtain ⟨rfl, rfl⟩ := hvx
      obtain ⟨a, ha⟩ : ∃ a, l[k]? = some a := ⟨l[k], by rw [List.getElem?_eq_getElem]⟩
      obtain ⟨_, _, _, _, e4⟩ := hcell k a ha
      obtain ⟨av, ac, hav, _, _⟩ := (H.out.2 a (List.mem_of_getElem? ha)).1.shape
      rw [hav] at e4
      have hlt' : (k : Int) < l.length := by omega
      have hk0 : (0 : Int) ≤ (k : Int) := by omega
      obtain ⟨hkl, hke⟩ := List.getElem?_eq_some_iff.1 ha
      by_cases hbig : a.bs.length ≤ 400
      · have hb1 : ¬ (400 : Int) < (a.bs.length : Int) := by omega
        have HT2 : Hid ((l.take (k + 1)).all (fun a => decide (a.bs.length ≤ 400)) = true) := hide (by
          rw [List.take_succ_eq_append_getElem hkl, List.all_append, HT.out, hke]
          simp [hbig])
        clear hcell ha hke hav
        go_wp2
        go_roundw
        case rel => exact ⟨k + 1, by omega, by go_num, trivial, HT2⟩
        case measure => simp [intOf]; omega
      · have hb1 : (400 : Int) < (a.bs.length : Int) := by omega
        have hs : smallA l = false := by
          unfold smallA
          rw [Bool.and_eq_false_iff]
          left
          rw [List.all_eq_false]
          exact ⟨a, List.mem_of_getElem? ha, by simpa using hbig⟩
        have HS := hide hs
        clear hcell ha hke hav hs
        go_wp2
        go_ret
        exact ⟨by rw [HS.out]; rfl, rfl⟩
    · have hlt' : ¬ (k : Int) < l.length := by omega
      have hs : smallA l = decide ((l.length : Int) ≤ 100) := by
        unfold smallA
        have := HT.out
        rw [List.take_of_length_le (by omega)] at this
        rw [this, Bool.true_and]
        by_cases h1 : l.length ≤ 100
        · rw [decide_eq_true h1, decide_eq_true (by omega)]
        · rw [decide_eq_false h1, decide_eq_false (by omega)]
      have HS := hide hs
      clear HT hs
      go_wp2
      go_ret
      exact ⟨by rw [HS.out]; rfl, rfl⟩

theorem smallA_len {l : List Aw} (h : smallA l = true) : l.length ≤ 100 ∧ ∀ a ∈ l, a.bs.length ≤ 400 := by
  unfold smallA at h
  rw [Bool.and_eq_true, List.all_eq_true] at h
  exact ⟨of_decide_eq_true h.2, fun a ha => of_decide_eq_true (h.1 a ha)⟩

end Go.Proofs.Yteklbnonikccaaa
