/- What the statements of layer 20 call: told, way, lives, next. -/
import Derived.Test.YthndeolibilnnaaDoorRoq
import Derived.Test.YthndeolibilnnaaDoorRob
import Derived.Test.YthndeolibilnnaaDoorFrw
namespace Go.Proofs.YthndeolibilnnaaDoor
open Go.RowKit
set_option linter.unusedVariables false

set_option maxRecDepth 20000 in
set_option maxHeartbeats 1000000 in
theorem told_any (x y : Pm.Pg) (e f : Int) (w : World) :
    Calls Tryd.prog 19 #[vp x, .int .i64 e, vp y, .int .i64 f] w fun E w' => E = .returned (.bool (e == f && same x y)) ∧ Below w.heap.size w w' := by
  obtain ⟨w1, hw1, sz1, bel1, hP, c1, _⟩ := newp w x
  obtain ⟨w2, hw2, sz2, bel2, hQ, c2, _⟩ := newp w1 y
  have P1 : PgAt w2 w.heap.size x := (show PgAt w1 w.heap.size x from hP).below bel2
  obtain ⟨p0, p1, p2, p3, p4, p5⟩ := P1.six
  rw [sz1] at hQ
  obtain ⟨q0, q1, q2, q3, q4, q5⟩ := (show PgAt w2 (w.heap.size + 1) y from hQ).six
  have B2 := hide (bel1.trans (bel2.mono (by omega)))
  have SP := hide (samePage_any x y w2)
  unfold vp at SP ⊢
  clear bel1 bel2 hP hQ P1 c1 c2
  cases hb : (e == f) with
  | true =>
    rw [Bool.true_and]
    generalize same x y = sm at *
    go_enter Tryd.func19, Tryd.ntmps19
    go_wp2_with fail
    refine SP.out.mono ?_
    rintro E w3 ⟨rfl, b3⟩
    have BB := hide (B2.out.trans (b3.mono B2.out.size))
    clear SP b3 p0 p1 p2 p3 p4 p5 q0 q1 q2 q3 q4 q5
    go_wp2
    go_ret
    exact ⟨rfl, BB.out⟩
  | false =>
    rw [Bool.false_and]
    clear SP
    go_enter Tryd.func19, Tryd.ntmps19
    go_wp2
    go_ret
    exact ⟨rfl, B2.out⟩

theorem told_yes (x : Pm.Pg) (e : Int) (w : World) :
    Calls Tryd.prog 19 #[vp x, .int .i64 e, vp x, .int .i64 e] w fun E w' => E = .returned (.bool true) ∧ Below w.heap.size w w' := by
  have := told_any x x e e w
  rw [same_self, show (e == e) = true by simp] at this
  exact this

set_option maxRecDepth 20000 in
set_option maxHeartbeats 4000000 in
theorem way_any (x y : Pm.Pg) (w : World) (hx : Pm.Ok x) (hy : Pm.Ok y) (hw : Rol.Way x y) :
    Calls Tryd.prog 32 #[vp x, vp y] w fun E w' => E = .returned (.bool true) ∧ Below w.heap.size w w' := by
  obtain ⟨w1, hw1, sz1, bel1, hP, c1, _⟩ := newp w x
  obtain ⟨w2, hw2, sz2, bel2, hQ, c2, _⟩ := newp w1 y
  have P1 : Hid (PgAt w2 w.heap.size x) := hide ((show PgAt w1 w.heap.size x from hP).below bel2)
  rw [sz1] at hQ
  have Q1 : Hid (PgAt w2 (w.heap.size + 1) y) := hide hQ
  obtain ⟨p0, p1, p2, p3, p4, p5⟩ := P1.out.six
  obtain ⟨q0, q1, q2, q3, q4, q5⟩ := Q1.out.six
  have B2 := hide (bel1.trans (bel2.mono (by omega)))
  have SP := hide (samePage_any x y w2)
  have WY := hide hw
  have NX := hide (Pm.ok_nums hx)
  have hne : ∀ h : same x y = false, y ≠ x := fun h he => by rw [he, same_self] at h; simp at h
  have HNE := hide hne
  unfold vp at SP ⊢
  clear bel1 bel2 hP hQ c1 c2 hx hy hw hne
  generalize same x y = sm at *
  go_enter Tryd.func32, Tryd.ntmps32
  go_wp2_with fail
  refine SP.out.mono ?_
  rintro E w3 ⟨rfl, b3⟩
  have BB := hide (B2.out.trans (b3.mono B2.out.size))
  replace P1 := hide (P1.out.below b3)
  replace Q1 := hide (Q1.out.below b3)
  clear SP b3 p0 p1 p2 p3 p4 p5 q0 q1 q2 q3 q4 q5
  obtain ⟨p0, p1, p2, p3, p4, p5⟩ := P1.out.six
  obtain ⟨q0, q1, q2, q3, q4, q5⟩ := Q1.out.six
  clear P1 Q1
  cases sm with
  | true =>
    clear p0 p1 p2 p3 p4 p5 q0 q1 q2 q3 q4 q5
    go_wp2
    go_ret
    exact ⟨rfl, BB.out⟩
  | false =>
  rcases WY.out with h | h | h | h | h
  · exact absurd h (HNE.out rfl)
  · obtain ⟨h1, h2⟩ := h
    have k1 : (y.r == 1) = true := by simp [h1]
    rcases h2 with ⟨h2, h3⟩ | ⟨h2, h3, h4⟩
    · have k2 : (x.r == 2) = true := by simp [h2]
      have hwr : IntKind.i64.wrap (x.e + 1) = x.e + 1 := by have := NX.out; exact wrap_i64_small _ (by omega) (by omega)
      have k3 : (y.e == x.e + 1) = true := by simp [h3]
      clear h1 h2 h3 WY NX HNE
      go_wp2
      go_ret
      exact ⟨rfl, BB.out⟩
    · have k2 : (x.r == 2) = false := by simp [h2]
      have k2' : (x.r == 1) = true := by simp [h2]
      have k3 : (y.e == x.e) = true := by simp [h3]
      clear h1 h2 h3 WY NX HNE
      go_wp2
      go_ret
      exact ⟨rfl, BB.out⟩
  · obtain ⟨h1, h2, h3, h4⟩ := h
    have k1 : (y.r == 1) = false := by simp [h1]
    have k1' : (y.r == 2) = true := by simp [h1]
    have k2 : (x.r == 3) = true := by simp [h2]
    have k3 : (x.p == 4) = true := by simp [h3]
    have k4 : (y.e == x.e) = true := by simp [h4]
    clear h1 h2 h3 h4 WY NX HNE
    go_wp2
    go_ret
    exact ⟨rfl, BB.out⟩
  · obtain ⟨h1, h2, h3⟩ := h
    have k1 : (y.r == 1) = false := by simp [h1]
    have k1' : (y.r == 2) = false := by simp [h1]
    have k2 : (y.p == 1) = true := by simp [h2]
    have k3 : decide (x.e < y.e) = true := by simp [h3]
    clear h1 h2 WY NX HNE
    go_wp2
    go_ret
    exact ⟨by simp, BB.out⟩
  · obtain ⟨h1, h2, h3, h4, h5, h6⟩ := h
    have k1 : (y.r == 1) = false := by simp [h1]
    have k1' : (y.r == 2) = false := by simp [h1]
    have k2 : (y.p == 1) = false := by simpa using h2
    have k3 : (x.r == 3) = true := by simp [h3]
    have k4 : (y.e == x.e) = true := by simp [h4]
    have hwr : IntKind.u8.wrap (x.p + 1) = x.p + 1 := by have := NX.out; exact wrap_i8 _ (by omega) (by omega)
    have k5 : (y.p == x.p + 1) = true := by simp [h5]
    by_cases h7 : x.p = 1
    · have k7 : (x.p == 1) = true := by simp [h7]
      clear h1 h2 h3 h4 h5 h6 h7 WY NX HNE
      go_wp2
      go_ret
      exact ⟨rfl, BB.out⟩
    · have k7 : (x.p == 1) = false := by simpa using h7
      have h8 : y.f = x.f ∧ y.b = x.b := h6.resolve_left h7
      have k8 : (y.f == x.f) = true := by simp [h8.1]
      have k9 : (y.b == x.b) = true := by simp [h8.2]
      clear h1 h2 h3 h4 h5 h6 h7 h8 WY NX HNE
      go_wp2
      go_ret
      exact ⟨rfl, BB.out⟩

end Go.Proofs.YthndeolibilnnaaDoor
