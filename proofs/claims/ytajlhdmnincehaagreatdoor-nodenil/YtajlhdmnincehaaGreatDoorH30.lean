/- Texts of one layer, one behind the other. -/
import Derived.Test.YtajlhdmnincehaaGreatDoorH26
/- The program's roles (layer 20): what it answers of any page. -/
namespace Go.Proofs.YtajlhdmnincehaaGreatDoor
open Go.RowKit
set_option linter.unusedVariables false

namespace Rol
open Pm (Pg chk no Ok)



end Rol







set_option maxRecDepth 20000 in
set_option maxHeartbeats 1000000 in
theorem pwrites_any (x : Pm.Pg) (w : World) (hx : FitP x) (hm : Mst w) :
    Calls Tryz.prog 51 #[vp x] w fun E w' => E = .returned (.int .i64 (Rol.wrE x)) ∧ Below w.heap.size w w' := by
  obtain ⟨w2, hw2, sz2, bel2, hP⟩ := blk_step w #[.int .i64 x.e, .int .u8 x.r, .int .i64 x.a, .int .u8 x.p, .int .i64 x.f, .int .i64 x.b] 60
  obtain ⟨p0, p1, p2, p3, p4, p5⟩ := six_of hP
  have PST : Hid (∀ W, Below w2.heap.size w2 W → W.heap[w.heap.size]? = some (.cells #[.int .i64 x.e, .int .u8 x.r, .int .i64 x.a, .int .u8 x.p, .int .i64 x.f, .int .i64 x.b] 60 (0, 0)) ∧ Below w.heap.size w W) := hide fun W hW => ⟨(hW.block w.heap.size (by omega)).trans hP, bel2.trans (hW.mono (by omega))⟩
  have CK := hide (pgcheck_any x w2 hx (hm.below bel2))
  unfold Rol.wrE
  obtain ⟨ch, hch⟩ : ∃ c, Pm.chk x = c := ⟨_, rfl⟩
  rw [hch] at CK ⊢
  clear bel2 hx hP hm hch
  by_cases h0 : ch = 0
  case neg =>
    rw [if_neg h0]
    have hb : (ch != 0) = true := by simpa using h0
    unfold vp
    go_enter Tryz.func51, Tryz.ntmps51
    go_wp2_with fail
    refine CK.out.mono ?_
    rintro E w3 ⟨rfl, b3⟩
    obtain ⟨hP3, B3⟩ := PST.out w3 b3
    obtain ⟨q0, q1, q2, q3, q4, q5⟩ := six_of hP3
    have BB := hide B3
    clear CK PST b3 hP3 B3 p0 p1 p2 p3 p4 p5
    go_wp2
    go_ret
    exact ⟨rfl, BB.out⟩
  subst h0
  rw [if_pos rfl]
  by_cases k0 : x.r = 2
  case pos =>
    rw [if_pos k0]
    have g0 : (x.r == 2) = true := by simpa using k0
    clear k0
    unfold vp
    go_enter Tryz.func51, Tryz.ntmps51
    go_wp2_with fail
    refine CK.out.mono ?_
    rintro E w3 ⟨rfl, b3⟩
    obtain ⟨hP3, B3⟩ := PST.out w3 b3
    obtain ⟨q0, q1, q2, q3, q4, q5⟩ := six_of hP3
    have BB := hide B3
    clear CK PST b3 hP3 B3 p0 p1 p2 p3 p4 p5
    go_wp2
    go_ret
    exact ⟨rfl, BB.out⟩
  rw [if_neg k0]
  have g0 : (x.r == 2) = false := by simpa using k0
  by_cases k1 : x.r = 3
  case pos =>
    rw [if_pos k1]
    have g1 : (x.r == 3) = true := by simpa using k1
    clear k0 k1
    unfold vp
    go_enter Tryz.func51, Tryz.ntmps51
    go_wp2_with fail
    refine CK.out.mono ?_
    rintro E w3 ⟨rfl, b3⟩
    obtain ⟨hP3, B3⟩ := PST.out w3 b3
    obtain ⟨q0, q1, q2, q3, q4, q5⟩ := six_of hP3
    have BB := hide B3
    clear CK PST b3 hP3 B3 p0 p1 p2 p3 p4 p5
    go_wp2
    go_ret
    exact ⟨rfl, BB.out⟩
  rw [if_neg k1]
  have g1 : (x.r == 3) = false := by simpa using k1
  clear k0 k1
  unfold vp
  go_enter Tryz.func51, Tryz.ntmps51
  go_wp2_with fail
  refine CK.out.mono ?_
  rintro E w3 ⟨rfl, b3⟩
  obtain ⟨hP3, B3⟩ := PST.out w3 b3
  obtain ⟨q0, q1, q2, q3, q4, q5⟩ := six_of hP3
  have BB := hide B3
  clear CK PST b3 hP3 B3 p0 p1 p2 p3 p4 p5
  go_wp2
  go_ret
  exact ⟨rfl, BB.out⟩

set_option maxRecDepth 20000 in
set_option maxHeartbeats 1000000 in
theorem preads_any (x : Pm.Pg) (w : World) (hx : FitP x) (hm : Mst w) :
    Calls Tryz.prog 25 #[vp x] w fun E w' => E = .returned (.int .i64 (Rol.rdE x)) ∧ Below w.heap.size w w' := by
  obtain ⟨w2, hw2, sz2, bel2, hP⟩ := blk_step w #[.int .i64 x.e, .int .u8 x.r, .int .i64 x.a, .int .u8 x.p, .int .i64 x.f, .int .i64 x.b] 60
  obtain ⟨p0, p1, p2, p3, p4, p5⟩ := six_of hP
  have PST : Hid (∀ W, Below w2.heap.size w2 W → W.heap[w.heap.size]? = some (.cells #[.int .i64 x.e, .int .u8 x.r, .int .i64 x.a, .int .u8 x.p, .int .i64 x.f, .int .i64 x.b] 60 (0, 0)) ∧ Below w.heap.size w W) := hide fun W hW => ⟨(hW.block w.heap.size (by omega)).trans hP, bel2.trans (hW.mono (by omega))⟩
  have CK := hide (pgcheck_any x w2 hx (hm.below bel2))
  unfold Rol.rdE
  obtain ⟨ch, hch⟩ : ∃ c, Pm.chk x = c := ⟨_, rfl⟩
  rw [hch] at CK ⊢
  clear bel2 hx hP hm hch
  by_cases h0 : ch = 0
  case neg =>
    rw [if_neg h0]
    have hb : (ch != 0) = true := by simpa using h0
    unfold vp
    go_enter Tryz.func25, Tryz.ntmps25
    go_wp2_with fail
    refine CK.out.mono ?_
    rintro E w3 ⟨rfl, b3⟩
    obtain ⟨hP3, B3⟩ := PST.out w3 b3
    obtain ⟨q0, q1, q2, q3, q4, q5⟩ := six_of hP3
    have BB := hide B3
    clear CK PST b3 hP3 B3 p0 p1 p2 p3 p4 p5
    go_wp2
    go_ret
    exact ⟨rfl, BB.out⟩
  subst h0
  rw [if_pos rfl]
  by_cases k0 : x.r = 3
  case pos =>
    rw [if_pos k0]
    have g0 : (x.r == 3) = true := by simpa using k0
    clear k0
    unfold vp
    go_enter Tryz.func25, Tryz.ntmps25
    go_wp2_with fail
    refine CK.out.mono ?_
    rintro E w3 ⟨rfl, b3⟩
    obtain ⟨hP3, B3⟩ := PST.out w3 b3
    obtain ⟨q0, q1, q2, q3, q4, q5⟩ := six_of hP3
    have BB := hide B3
    clear CK PST b3 hP3 B3 p0 p1 p2 p3 p4 p5
    go_wp2
    go_ret
    exact ⟨rfl, BB.out⟩
  rw [if_neg k0]
  have g0 : (x.r == 3) = false := by simpa using k0
  clear k0
  unfold vp
  go_enter Tryz.func25, Tryz.ntmps25
  go_wp2_with fail
  refine CK.out.mono ?_
  rintro E w3 ⟨rfl, b3⟩
  obtain ⟨hP3, B3⟩ := PST.out w3 b3
  obtain ⟨q0, q1, q2, q3, q4, q5⟩ := six_of hP3
  have BB := hide B3
  clear CK PST b3 hP3 B3 p0 p1 p2 p3 p4 p5
  go_wp2
  go_ret
  exact ⟨rfl, BB.out⟩




end Go.Proofs.YtajlhdmnincehaaGreatDoor
