/- The program's roles (layer 20): the check ahead of each step, a page's own step, the table of steps and each step in it. -/
import Derived.Test.YthndeolibilnnaaDoorRoa
import Derived.Test.YthndeolibilnnaaDoorQd
import Derived.Test.YthndeolibilnnaaDoorQna
import Derived.Test.YthndeolibilnnaaDoorPick
namespace Go.Proofs.YthndeolibilnnaaDoor
open Go.RowKit
set_option linter.unusedVariables false

namespace Rol
open Pm (Pg chk no Ok)

/-- Why a page may not be, or a number lies outside its bounds. -/
def ck (x : Pg) (n lo hi : Int) : Int := if chk x = 0 then (if n < lo ∨ hi < n then 2 else 0) else chk x

/-- The step that is a page's own. -/
def own (x : Pg) : Int := if x.r = 1 then 0 else if x.r = 2 then 1 else if x.p = 1 then 2 else if x.p = 2 then 3 else if x.p = 3 then 4 else 5

/-- What a step makes of a page. -/
def chg (k : Nat) (n b : Int) (x : Pg) : Pg := match k with
  | 0 => ⟨x.e, x.r, n, x.p, x.f, x.b⟩
  | 1 => ⟨x.e + 1, 1, n, 0, 0, 0⟩
  | 2 => ⟨x.e, x.r, x.a, 2, n, b⟩
  | 3 => ⟨x.e, x.r, x.a, 3, x.f, x.b⟩
  | 4 => ⟨x.e, x.r, x.a, 4, x.f, x.b⟩
  | 5 => ⟨x.e, 2, 0, 0, 0, 0⟩
  | _ => ⟨n, 3, 0, 1, 0, 0⟩

end Rol

theorem pck_any (x : Pm.Pg) (n lo hi : Int) (w : World) (hx : FitP x) (hm : Mst w) :
    Calls Tryd.prog 33 #[vp x, .int .i64 n, .int .i64 lo, .int .i64 hi] w fun E w' => E = .returned (.int .i64 (Rol.ck x n lo hi)) ∧ Below w.heap.size w w' := by
  obtain ⟨w2, hw2, sz2, bel2, hP⟩ := blk_step w #[.int .i64 x.e, .int .u8 x.r, .int .i64 x.a, .int .u8 x.p, .int .i64 x.f, .int .i64 x.b] 25
  obtain ⟨p0, p1, p2, p3, p4, p5⟩ := six_of hP
  have CK := hide (pgcheck_any x w2 hx (hm.below bel2))
  have PST : Hid (∀ W, Below w2.heap.size w2 W → Below w.heap.size w W) := hide fun W hW => bel2.trans (hW.mono (by omega))
  unfold Rol.ck
  obtain ⟨ch, hch⟩ : ∃ c, Pm.chk x = c := ⟨_, rfl⟩
  rw [hch] at CK ⊢
  clear bel2 hx hP hm hch
  by_cases h0 : ch = 0
  · subst h0
    rw [if_pos rfl]
    by_cases h1 : n < lo
    · rw [if_pos (.inl h1)]
      unfold vp
      go_enter Tryd.func33, Tryd.ntmps33
      go_wp2_with fail
      refine CK.out.mono ?_
      rintro E w3 ⟨rfl, b3⟩
      have BB := hide (PST.out w3 b3)
      clear CK PST b3
      go_wp2
      go_ret
      exact ⟨rfl, BB.out⟩
    · by_cases h2 : hi < n
      · rw [if_pos (.inr h2)]
        unfold vp
        go_enter Tryd.func33, Tryd.ntmps33
        go_wp2_with fail
        refine CK.out.mono ?_
        rintro E w3 ⟨rfl, b3⟩
        have BB := hide (PST.out w3 b3)
        clear CK PST b3
        go_wp2
        go_ret
        exact ⟨rfl, BB.out⟩
      · rw [if_neg (by omega)]
        unfold vp
        go_enter Tryd.func33, Tryd.ntmps33
        go_wp2_with fail
        refine CK.out.mono ?_
        rintro E w3 ⟨rfl, b3⟩
        have BB := hide (PST.out w3 b3)
        clear CK PST b3
        go_wp2
        go_ret
        exact ⟨rfl, BB.out⟩
  · rw [if_neg h0]
    have hb : (ch != 0) = true := by simpa using h0
    unfold vp
    go_enter Tryd.func33, Tryd.ntmps33
    go_wp2_with fail
    refine CK.out.mono ?_
    rintro E w3 ⟨rfl, b3⟩
    have BB := hide (PST.out w3 b3)
    clear CK PST b3
    go_wp2
    go_ret
    exact ⟨rfl, BB.out⟩

theorem pown_any (x : Pm.Pg) (w : World) :
    Calls Tryd.prog 42 #[vp x] w fun E w' => E = .returned (.int .i64 (Rol.own x)) ∧ Below w.heap.size w w' := by
  obtain ⟨w2, hw2, sz2, bel2, hP⟩ := blk_step w #[.int .i64 x.e, .int .u8 x.r, .int .i64 x.a, .int .u8 x.p, .int .i64 x.f, .int .i64 x.b] 25
  obtain ⟨p0, p1, p2, p3, p4, p5⟩ := six_of hP
  unfold Rol.own
  have BB := hide bel2
  clear bel2 hP
  unfold vp

  by_cases h0 : x.r = 1
  · rw [if_pos h0]
    have g0 : (x.r == 1) = true := by simpa using h0
    clear h0
    go_enter Tryd.func42, Tryd.ntmps42
    go_wp2
    go_ret
    exact ⟨rfl, BB.out⟩
  rw [if_neg h0]
  have g0 : (x.r == 1) = false := by simpa using h0
  by_cases h1 : x.r = 2
  · rw [if_pos h1]
    have g1 : (x.r == 2) = true := by simpa using h1
    clear h1
    go_enter Tryd.func42, Tryd.ntmps42
    go_wp2
    go_ret
    exact ⟨rfl, BB.out⟩
  rw [if_neg h1]
  have g1 : (x.r == 2) = false := by simpa using h1
  by_cases h2 : x.p = 1
  · rw [if_pos h2]
    have g2 : (x.p == 1) = true := by simpa using h2
    clear h2
    go_enter Tryd.func42, Tryd.ntmps42
    go_wp2
    go_ret
    exact ⟨rfl, BB.out⟩
  rw [if_neg h2]
  have g2 : (x.p == 1) = false := by simpa using h2
  by_cases h3 : x.p = 2
  · rw [if_pos h3]
    have g3 : (x.p == 2) = true := by simpa using h3
    clear h3
    go_enter Tryd.func42, Tryd.ntmps42
    go_wp2
    go_ret
    exact ⟨rfl, BB.out⟩
  rw [if_neg h3]
  have g3 : (x.p == 2) = false := by simpa using h3
  by_cases h4 : x.p = 3
  · rw [if_pos h4]
    have g4 : (x.p == 3) = true := by simpa using h4
    clear h4
    go_enter Tryd.func42, Tryd.ntmps42
    go_wp2
    go_ret
    exact ⟨rfl, BB.out⟩
  rw [if_neg h4]
  have g4 : (x.p == 3) = false := by simpa using h4
  clear h0 h1 h2 h3 h4
  go_enter Tryd.func42, Tryd.ntmps42
  go_wp2
  go_ret
  exact ⟨rfl, BB.out⟩

end Go.Proofs.YthndeolibilnnaaDoor
