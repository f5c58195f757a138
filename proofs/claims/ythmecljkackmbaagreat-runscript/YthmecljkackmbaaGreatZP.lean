/- Texts of one layer, one behind the other. -/
import Derived.Test.YthmecljkackmbaaGreatProg
import Derived.Test.YthmecljkackmbaaGreatZ6
import Derived.Test.YthmecljkackmbaaGreatZ7
import Derived.Test.YthmecljkackmbaaGreatZ10
/- The contract of Pick. -/
namespace Go.Proofs.YthmecljkackmbaaGreat
open Go.RowKit
set_option linter.unusedVariables false

set_option maxHeartbeats 400000 in
theorem pick_any (x n : Int) (w : World) (hn : 0 < n) (hn2 : n < 9223372036854775808) (hx : -9223372036854775808 ≤ x) (hx2 : x < 9223372036854775808) :
    Calls Tryz.prog 28 #[.int .i64 x, .int .i64 n] w fun e w' => (∃ p : Nat, (p : Int) < n ∧ e = .returned (.int .i64 p)) ∧ w = w' := by
  have hnz : (n == 0) = false := by simp; omega
  have ht1 : x.tmod n < n := Int.tmod_lt_of_pos x hn
  have ht2 : -n < x.tmod n := Int.lt_tmod_of_pos x hn
  by_cases h : x.tmod n < 0
  · go_enter Tryz.func28, Tryz.ntmps28
    go_wp2
    go_ret
    exact ⟨⟨(x.tmod n + n).toNat, by omega, ret_i64 (by omega)⟩, rfl⟩
  · go_enter Tryz.func28, Tryz.ntmps28
    go_wp2
    go_ret
    exact ⟨⟨(x.tmod n).toNat, by omega, ret_i64 (by omega)⟩, rfl⟩

/-- An integer of 64 bits. -/
def I64 (z : Int) : Prop := -9223372036854775808 ≤ z ∧ z ≤ 9223372036854775807

def pk (x n : Int) : Int := if x.tmod n < 0 then x.tmod n + n else x.tmod n

theorem pk_lt (x n : Int) (hn : 0 < n) : 0 ≤ pk x n ∧ pk x n < n := by
  have ht1 : x.tmod n < n := Int.tmod_lt_of_pos x hn
  have ht2 : -n < x.tmod n := Int.lt_tmod_of_pos x hn
  unfold pk
  split <;> omega

set_option maxHeartbeats 400000 in
theorem pickx_any (x n : Int) (w : World) (hn : 0 < n) (hn2 : n < 9223372036854775808) (hx : I64 x) :
    Calls Tryz.prog 28 #[.int .i64 x, .int .i64 n] w fun e w' => e = .returned (.int .i64 (pk x n)) ∧ w = w' := by
  have hnz : (n == 0) = false := by simp; omega
  obtain ⟨hx1, hx2⟩ := hx
  have ht1 : x.tmod n < n := Int.tmod_lt_of_pos x hn
  have ht2 : -n < x.tmod n := Int.lt_tmod_of_pos x hn
  by_cases h : x.tmod n < 0
  · have e : pk x n = x.tmod n + n := by simp [pk, h]
    rw [e]
    clear e
    go_enter Tryz.func28, Tryz.ntmps28
    go_wp2
    go_ret
    exact ⟨ret_i64 (by omega), rfl⟩
  · have e : pk x n = x.tmod n := by simp [pk, h]
    rw [e]
    clear e
    go_enter Tryz.func28, Tryz.ntmps28
    go_wp2
    go_ret
    exact ⟨ret_i64 (by omega), rfl⟩

end Go.Proofs.YthmecljkackmbaaGreat

/- Rows of lists of ops in memory. -/
namespace Go.Proofs.YthmecljkackmbaaGreat
open Go.RowKit
open Bm (Ov)
set_option linter.unusedVariables false

/-- A list of a row of lists: its value, its ops. -/
structure Rw where
  v : Value
  l : List Ov

def rwc (a : Rw) : List Value := [a.v]
theorem rwc_len (a : Rw) : (rwc a).length = 1 := rfl

/-- A slice value that reads as the lists r. -/
def IsLL (w : World) (v : Value) (r : List Rw) : Prop := RowG rwc w v r ∧ ∀ a ∈ r, IsO w a.v a.l
def FitL (r : List Rw) : Prop := ∀ a ∈ r, FitO a.l

theorem IsLL.below {w w' : World} {v : Value} {r : List Rw} (h : IsLL w v r) (hb : Below w.heap.size w w') : IsLL w' v r := ⟨h.1.below hb, fun a ha => (h.2 a ha).below hb⟩

theorem IsLL.full {w : World} {v : Value} {r : List Rw} (h : IsLL w v r) (hne : 0 < r.length) :
    ∃ b off cap, v = .slice (some ⟨b, off, none⟩) r.length cap ∧ r.length ≤ cap ∧ cap ≤ maxLen ∧ b < w.heap.size ∧ ∀ i a, r[i]? = some a → w.cell? ⟨b, off + i, none⟩ = some a.v := by
  obtain ⟨b, off, cap, h1, h2, h3, h4, h5⟩ := h.1.full rwc_len (by decide) hne
  refine ⟨b, off, cap, h1, h2, h3, h4, fun i a ha => ?_⟩
  have := h5 i a ha 0 a.v rfl
  simpa using this

end Go.Proofs.YthmecljkackmbaaGreat
