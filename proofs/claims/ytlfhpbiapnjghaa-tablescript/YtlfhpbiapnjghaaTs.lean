/- The program's Same. -/
import Derived.Test.YtlfhpbiapnjghaaTq
import Derived.Deep.RegionHeld3
import Derived.BigQuiet
namespace Go.Proofs.Ytlfhpbiapnjghaa
open Go.RowKit
open Bm (Ov)
set_option linter.unusedVariables false

/-- Are two tables the same? -/
def smt (a b : List Ov) : Bool := Lib.equalFuncD Tm.eqe (Tm.dat a) (Tm.dat b)

theorem smt_self {a : List Ov} (ha : Tm.Up a) : smt a a = true := (Tm.same_dat ha ha).2 rfl
theorem smt_no {a b : List Ov} (ha : Tm.Up a) (hb : Tm.Up b) (h : a ≠ b) : smt a b = false := by
  cases e : smt a b
  · rfl
  · exact absurd ((Tm.same_dat ha hb).1 e) h

theorem grown_below {w w' : World} (h : w.grownBy w' none) : Below w.heap.size w w' := (Below.refl _ _).grown h (Nat.le_refl _) (fun k hk => by cases hk)

set_option maxHeartbeats 4000000 in
set_option maxRecDepth 100000 in
theorem tsame_any (p1 b1 p2 b2 : Nat) (w : World) (t1 t2 : List Ov) (h1 : Tb p1 b1 w t1) (h2 : Tb p2 b2 w t2) :
    Calls Try.prog 15 #[.pointer (some ⟨p1, 0, none⟩), .pointer (some ⟨p2, 0, none⟩)] w fun E w' => E = .returned (.bool (smt t1 t2)) ∧ Below w.heap.size w w' := by
  have c1 := h1.cell
  have c2 := h2.cell
  have XE : Hid (∀ W, Below w.heap.size w W → Calls Try.prog 29 #[.map (some b1), .map (some b2)] W fun E w' => E = .returned (.bool (smt t1 t2)) ∧ Below w.heap.size w w') := hide fun W hb => by
    have := mapeq_any b1 b2 _ _ _ _ W (h1.below hb).own (h2.below hb).own
    refine this.mono ?_
    rintro E w' ⟨rfl, hg⟩
    exact ⟨rfl, hb.trans ((grown_below hg).mono hb.size)⟩
  have MD : Hid (∀ (v : Value) (W : World), (v = .pointer (some ⟨p1, 0, none⟩) ∨ v = .pointer (some ⟨p2, 0, none⟩)) → Below w.heap.size w W → Calls Try.prog 26 #[v] W fun E w' => E = .returned (.bool true) ∧ W = w') := hide fun v W hv hb => by
    rcases hv with rfl | rfl
    · exact made_any p1 b1 W (h1.below hb).cell
    · exact made_any p2 b2 W (h2.below hb).cell
  generalize smt t1 t2 = c at *
  have hp1 := h1.plt
  have hp2 := h2.plt
  clear h1 h2
  go_enter Try.func15, Try.ntmps15
  go_wp2_with fail
  go_region_held3 (fun w' => w'.cell? ⟨p1, 0, none⟩ = some (.map (some b1)) ∧ w'.cell? ⟨p2, 0, none⟩ = some (.map (some b2))) (first | exact ⟨c1, c2⟩ | exact ⟨d1, d2⟩ | go_keep)
    (first
    | (go_at_call 26; refine (MD.out _ _ (by first | exact .inl rfl | exact .inr rfl) ((Below.refl _ _).drew)).mono ?_; rintro E w1 ⟨rfl, rfl⟩)
    | (go_at_call 29; refine (XE.out _ ((Below.refl _ _).drew)).mono ?_; rintro E w4 ⟨rfl, bel4⟩; have d1 := (bel4.cell (p := ⟨p1, 0, none⟩) hp1).trans c1; have d2 := (bel4.cell (p := ⟨p2, 0, none⟩) hp2).trans c2))
  go_wp2
  go_ret
  exact ⟨rfl, bel4⟩

set_option maxHeartbeats 1000000 in
theorem tsame_no1 (v1 v2 : Value) (w : World) (h1 : ∀ m, Calls Try.prog 26 #[v1] (w.drewN m) fun E w' => E = .returned (.bool false) ∧ w.drewN m = w') :
    Calls Try.prog 15 #[v1, v2] w fun E w' => E = .returned (.bool false) ∧ Below w.heap.size w w' := by
  have X := hide h1
  clear h1
  go_enter Try.func15, Try.ntmps15
  go_wp2_with fail
  go_quiet ((go_at_call 26; refine Calls.quiet_of ((X.out _).mono (by rintro E w1 ⟨rfl, rfl⟩; exact ⟨rfl, 0, rfl⟩))))
  go_wp2
  go_ret
  exact ⟨rfl, below_drewN (Below.refl _ _) _⟩

set_option maxHeartbeats 1000000 in
theorem tsame_no2 (p1 b1 : Nat) (v2 : Value) (w : World) (t1 : List Ov) (h1 : Tb p1 b1 w t1) (h2 : ∀ m, Calls Try.prog 26 #[v2] (w.drewN m) fun E w' => E = .returned (.bool false) ∧ w.drewN m = w') :
    Calls Try.prog 15 #[.pointer (some ⟨p1, 0, none⟩), v2] w fun E w' => E = .returned (.bool false) ∧ Below w.heap.size w w' := by
  have MD : Hid (∀ (v : Value) (c : Bool) (m : Nat), (v = .pointer (some ⟨p1, 0, none⟩) ∧ c = true ∨ v = v2 ∧ c = false) → Calls Try.prog 26 #[v] (w.drewN m) fun E w' => E = .returned (.bool c) ∧ ∃ k, w' = (w.drewN m).drewN k) := hide fun v c m hv => by
    rcases hv with ⟨rfl, rfl⟩ | ⟨rfl, rfl⟩
    · refine (made_any p1 b1 (w.drewN m) (h1.below (below_drewN (Below.refl _ _) m)).cell).mono ?_
      rintro E w1 ⟨rfl, rfl⟩
      exact ⟨rfl, 0, rfl⟩
    · refine (h2 m).mono ?_
      rintro E w1 ⟨rfl, rfl⟩
      exact ⟨rfl, 0, rfl⟩
  clear h1 h2
  go_enter Try.func15, Try.ntmps15
  go_wp2_with fail
  go_quiet ((go_at_call 26; refine Calls.quiet_of (MD.out _ _ _ (by first | exact .inl ⟨rfl, rfl⟩ | exact .inr ⟨rfl, rfl⟩))))
  go_wp2
  go_ret
  exact ⟨rfl, below_drewN (Below.refl _ _) _⟩

end Go.Proofs.Ytlfhpbiapnjghaa
