/- An act as a value; what Check comes to (layer 25). -/
import Derived.Test.YtdlogcdpapknaaaGreatDoorZB
import Derived.Test.YtdlogcdpapknaaaGreatDoorZE
namespace Go.Proofs.YtdlogcdpapknaaaGreatDoor
open Go.RowKit
set_option linter.unusedVariables false
set_option maxRecDepth 100000

/-- An act's cells. -/
def acc (a : Sct.Av) (v : Value) : Array Value := #[.int .i64 a.k, .int .i64 a.u, .int .i64 a.n, .int .i64 a.t, .string a.key, v]
def acv (a : Sct.Av) (v : Value) : Value := .agg (acc a v)

/-- What is asked of an act's fields, kind by kind. -/
def chA (a : Sct.Av) : Prop := (Sct.hu a.k = false → a.u = 0) ∧ (Sct.hn a.k = false → a.n = 0) ∧ (Sct.ht a.k = false → a.t = 0) ∧ (Sct.ho a.k = false → a.ops = []) ∧ (Sct.hk a.k = false → a.key = ⟨#[]⟩) ∧ (Sct.ho a.k = true → Bm.chkL a.ops = 0) ∧ (Sct.hk a.k = true → Om.chk false a.key.data.toList [] = 0)

/-- What Check comes to. -/
def ChR (a : Sct.Av) (w : World) (E : Ending) (w' : World) : Prop := ((Sct.Ok a ∧ E = .returned (.int .i64 0)) ∨ (¬ Sct.Ok a ∧ E = .returned (.int .i64 2))) ∧ Below w.heap.size w w'

theorem ok_chA {a : Sct.Av} (hk : 1 ≤ a.k ∧ a.k ≤ 12) (hu : 0 ≤ a.u ∧ a.u ≤ 1) (hn : 0 ≤ a.n ∧ a.n ≤ 999999999) (ht : 0 ≤ a.t ∧ a.t ≤ 999999999) : Sct.Ok a ↔ chA a := by
  constructor
  · intro h
    refine ⟨h.u0, h.n0, h.t0, fun e => ?_, fun e => ?_, fun e => ?_, fun e => ?_⟩
    · have := h.ops; rw [e] at this; exact this
    · have := h.key; rw [e] at this; exact this
    · have := h.ops; rw [e] at this; exact this
    · have := h.key; rw [e] at this; exact this
  · intro ⟨h1, h2, h3, h4, h5, h6, h7⟩
    refine ⟨hk, hu, hn, ht, h1, h2, h3, ?_, ?_⟩
    · cases e : Sct.hk a.k
      · exact h5 e
      · exact h7 e
    · cases e : Sct.ho a.k
      · exact h4 e
      · exact h6 e

end Go.Proofs.YtdlogcdpapknaaaGreatDoor
