/- lives and next of the statements of layer 20. -/
import Derived.Test.YthndeolibilnnaaDoorRoc
namespace Go.Proofs.YthndeolibilnnaaDoor
open Go.RowKit
set_option linter.unusedVariables false

/-- A page that may be, by its numbers. -/
theorem chk_is {x : Pm.Pg} (h : Pm.Ok x) : Pm.chk x = 0 := Pm.chk_iff.2 h

theorem ok_prim {e a : Int} (h1 : 1 ≤ e) (h2 : e ≤ 1048576) (h3 : 0 ≤ a) (h4 : a ≤ 1048576) : Pm.Ok ⟨e, 1, a, 0, 0, 0⟩ := ⟨⟨h1, h2, h3, h4, by simp, by simp, by simp, by simp⟩, .inl ⟨rfl, rfl, rfl, rfl⟩⟩
theorem ok_repl {e : Int} (h1 : 1 ≤ e) (h2 : e ≤ 1048576) : Pm.Ok ⟨e, 2, 0, 0, 0, 0⟩ := ⟨⟨h1, h2, by simp, by simp, by simp, by simp, by simp, by simp⟩, .inr (.inl ⟨rfl, rfl, rfl, rfl, rfl⟩)⟩
theorem ok_hear {e : Int} (h1 : 1 ≤ e) (h2 : e ≤ 1048576) : Pm.Ok ⟨e, 3, 0, 1, 0, 0⟩ := ⟨⟨h1, h2, by simp, by simp, by simp, by simp, by simp, by simp⟩, .inr (.inr (.inl ⟨rfl, rfl, rfl, rfl, rfl⟩))⟩
theorem ok_dep {e p f b : Int} (h1 : 1 ≤ e) (h2 : e ≤ 1048576) (hp : 2 ≤ p) (hp4 : p ≤ 4) (h3 : 0 ≤ f) (h4 : f ≤ 1048576) (h5 : 0 ≤ b) (h6 : b ≤ 1073741824) : Pm.Ok ⟨e, 3, 0, p, f, b⟩ := ⟨⟨h1, h2, by simp, by simp, h3, h4, h5, h6⟩, .inr (.inr (.inr ⟨rfl, rfl, hp, hp4⟩))⟩

theorem pr_is {e n : Int} (h1 : 1 ≤ e) (h2 : e < 1048576) (h3 : 0 ≤ n) (h4 : n ≤ 1048576) : Rol.prE ⟨e, 2, 0, 0, 0, 0⟩ n = 0 ∧ Rol.pr ⟨e, 2, 0, 0, 0, 0⟩ n = ⟨e + 1, 1, n, 0, 0, 0⟩ := by
  have hc := chk_is (ok_repl h1 (by omega))
  have hE : Rol.prE ⟨e, 2, 0, 0, 0, 0⟩ n = 0 := by
    unfold Rol.prE
    rw [if_pos hc, if_neg (by omega), if_neg (by simp), if_neg (by simp), if_neg (by simp; omega)]
  exact ⟨hE, by unfold Rol.pr; rw [if_pos hE]⟩
theorem he_is {x : Pm.Pg} {n : Int} (h : Pm.Ok x) (h1 : x.e < n) (h2 : n ≤ 1048576) : Rol.heE x n = 0 ∧ Rol.heB x n = true ∧ Rol.he x n = ⟨n, 3, 0, 1, 0, 0⟩ := by
  have hk := Pm.ok_nums h
  have hE : Rol.heE x n = 0 := by
    unfold Rol.heE
    rw [if_pos (chk_is h), if_neg (by omega)]
  exact ⟨hE, by unfold Rol.heB; rw [hE]; simp [h1], by unfold Rol.he; rw [if_pos hE, if_pos h1]⟩

set_option maxRecDepth 20000 in
set_option maxHeartbeats 2000000 in
theorem lives20_any (w : World) (hm : Mst w) : Calls Tryd.prog 14 #[] w fun E w' => E = .returned (.bool true) ∧ Below w.heap.size w w' := by
  obtain ⟨y, hy⟩ : ∃ y : Pm.Pg, y = ⟨2, 1, 8, 0, 0, 0⟩ := ⟨_, rfl⟩
  obtain ⟨u, hu⟩ : ∃ u : Pm.Pg, u = ⟨2, 3, 0, 1, 0, 0⟩ := ⟨_, rfl⟩
  have C1 : Hid (Calls Tryd.prog 7 #[.agg #[.int .i64 1, .int .u8 2, .int .i64 0, .int .u8 0, .int .i64 0, .int .i64 0], .int .i64 8] w fun E w' => E = .returned (.tuple #[.agg #[.int .i64 y.e, .int .u8 y.r, .int .i64 y.a, .int .u8 y.p, .int .i64 y.f, .int .i64 y.b], .int .i64 0]) ∧ Below w.heap.size w w') := hide (by
    have := pprom_any ⟨1, 2, 0, 0, 0, 0⟩ 8 w (fit_ok (ok_repl (by omega) (by omega))) hm ⟨by omega, by omega⟩
    obtain ⟨h1, h2⟩ := pr_is (e := 1) (n := 8) (by omega) (by omega) (by omega) (by omega)
    rw [h1, h2, ← show y = ⟨1 + 1, 1, 8, 0, 0, 0⟩ from hy] at this
    exact this)
  have C2 : Hid (∀ W, Mst W → Calls Tryd.prog 13 #[.agg #[.int .i64 1, .int .u8 1, .int .i64 5, .int .u8 0, .int .i64 0, .int .i64 0], .int .i64 2] W fun E w' => E = .returned (.tuple #[.agg #[.int .i64 u.e, .int .u8 u.r, .int .i64 u.a, .int .u8 u.p, .int .i64 u.f, .int .i64 u.b], .bool true, .int .i64 0]) ∧ Below W.heap.size W w') := hide fun W hW => by
    have := phear_any ⟨1, 1, 5, 0, 0, 0⟩ 2 W (fit_ok (ok_prim (by omega) (by omega) (by omega) (by omega))) hW ⟨by omega, by omega⟩
    obtain ⟨h1, h2, h3⟩ := he_is (x := ⟨1, 1, 5, 0, 0, 0⟩) (n := 2) (ok_prim (by omega) (by omega) (by omega) (by omega)) (by show (1 : Int) < 2; omega) (by omega)
    rw [h1, h2, h3, ← hu] at this
    exact this
  have S1 : Hid (∀ W, Calls Tryd.prog 12 #[.agg #[.int .i64 y.e, .int .u8 y.r, .int .i64 y.a, .int .u8 y.p, .int .i64 y.f, .int .i64 y.b], .agg #[.int .i64 2, .int .u8 1, .int .i64 8, .int .u8 0, .int .i64 0, .int .i64 0]] W fun E w' => E = .returned (.bool true) ∧ Below W.heap.size W w') := hide fun W => by
    have := samePage_any y ⟨2, 1, 8, 0, 0, 0⟩ W
    rw [same_iff.2 hy] at this
    exact this
  have S2 : Hid (∀ W, Calls Tryd.prog 12 #[.agg #[.int .i64 u.e, .int .u8 u.r, .int .i64 u.a, .int .u8 u.p, .int .i64 u.f, .int .i64 u.b], .agg #[.int .i64 2, .int .u8 3, .int .i64 0, .int .u8 1, .int .i64 0, .int .i64 0]] W fun E w' => E = .returned (.bool true) ∧ Below W.heap.size W w') := hide fun W => by
    have := samePage_any u ⟨2, 3, 0, 1, 0, 0⟩ W
    rw [same_iff.2 hu] at this
    exact this
  have HM := hide hm
  clear hm hy hu
  go_enter Tryd.func14, Tryd.ntmps14
  go_wp2_with fail
  refine C1.out.mono ?_
  rintro E w1 ⟨rfl, b1⟩
  obtain ⟨w2, hw2, sz2, b2, hP, c2, _⟩ := newp w1 y
  have P1 : Hid (PgAt w2 w1.heap.size y) := hide hP
  have B2 := hide (b1.trans (b2.mono b1.size))
  have D2 := hide (C2.out w2 (HM.out.below B2.out))
  clear C1 b1 b2 hP c2 C2
  go_wp2_with fail
  refine D2.out.mono ?_
  rintro E w3 ⟨rfl, b3⟩
  obtain ⟨w4, hw4, sz4, b4, hQ, c4, _⟩ := newp w3 u
  have Q1 : Hid (PgAt w4 w3.heap.size u) := hide hQ
  replace P1 := hide ((P1.out.below b3).below b4)
  have B4 := hide ((B2.out.trans (b3.mono B2.out.size)).trans (b4.mono (by have := B2.out.size; have := b3.size; omega)))
  clear D2 b3 b4 hQ c4 hw2
  obtain ⟨p0, p1, p2, p3, p4, p5⟩ := P1.out.six
  go_wp2_with fail
  refine (S1.out _).mono ?_
  rintro E w5 ⟨rfl, b5⟩
  replace Q1 := hide (Q1.out.below b5)
  have B5 := hide (B4.out.trans (b5.mono B4.out.size))
  clear p0 p1 p2 p3 p4 p5 P1 b5 S1 hw4
  obtain ⟨p0, p1, p2, p3, p4, p5⟩ := Q1.out.six
  go_wp2_with fail
  refine (S2.out _).mono ?_
  rintro E w6 ⟨rfl, b6⟩
  have B6 := hide (B5.out.trans (b6.mono B5.out.size))
  clear p0 p1 p2 p3 p4 p5 Q1 b6 S2
  go_wp2
  go_ret
  exact ⟨rfl, B6.out⟩

end Go.Proofs.YthndeolibilnnaaDoor
