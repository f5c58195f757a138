/- The document's roles (layer 20). -/
import Derived.Test.YthndeolibilnnaaDoorRoa
import Derived.Test.YthndeolibilnnaaDoorRoo
import Derived.Test.YthndeolibilnnaaDoorQi
import Derived.Test.YthndeolibilnnaaDoorQna
import Derived.Test.YthndeolibilnnaaDoorQb
namespace Go.Proofs.YthndeolibilnnaaDoor
open Go.RowKit
set_option linter.unusedVariables false

set_option maxRecDepth 20000 in
set_option maxHeartbeats 2000000 in
theorem promR_any (x : Pm.Pg) (n : Int) (w : World) (hx : FitP x) :
    Calls Tryd.prog 17 #[vp x, .int .i64 n] w fun E w' => E = .returned (.tuple #[vp (Rol.pr x n), .int .i64 (Rol.prE x n)]) ∧ Below w.heap.size w w' := by
  obtain ⟨w1, w2, hw1, hw2, sz1, sz2, bel2, ⟨p0, p1, p2, p3, p4, p5⟩, PST⟩ := role_open x w
  have CK := hide (checkR_any x w2 hx)
  obtain ⟨ch, hch⟩ : ∃ c, Pm.chk x = c := ⟨_, rfl⟩
  rw [hch] at CK
  clear bel2 hx
  by_cases h0 : ¬ ch = 0
  case pos =>
    have hb0 : (ch != 0) = true := by simpa using h0
    have eE : Rol.prE x n = ch := by unfold Rol.prE; (repeat' split) <;> omega
    have eP : Rol.pr x n = Pm.no := by unfold Rol.pr; rw [if_neg (by rw [eE]; omega)]
    rw [eP, eE]
    clear eE eP hch h0
    unfold vp
    go_enter Tryd.func17, Tryd.ntmps17
    go_wp2_with fail
    refine CK.out.mono ?_
    rintro E w3 ⟨rfl, b3⟩
    obtain ⟨hP3, hR3, B3, sz3⟩ := PST.out w3 b3
    obtain ⟨q0, q1, q2, q3, q4, q5⟩ := six_of hP3
    obtain ⟨Z, hZ, _, gZ, ⟨a0, a1, a2, a3, a4, a5⟩, fr, ⟨z0, z1, z2, z3, z4, z5⟩⟩ := put6 hR3 (.int .i64 0) (.int .u8 0) (.int .i64 0) (.int .u8 0) (.int .i64 0) (.int .i64 0)
    have f0 := fr 0; have f1 := fr 1; have f2 := fr 2; have f3 := fr 3; have f4 := fr 4; have f5 := fr 5
    have BB := hide (below_put B3 gZ (by omega) (by omega))
    clear CK PST b3 hP3 hR3 B3 sz3 gZ fr p0 p1 p2 p3 p4 p5 
    go_wp2
    refine bodyPost_ret (v := .tuple #[.agg #[.int .i64 0, .int .u8 0, .int .i64 0, .int .u8 0, .int .i64 0, .int .i64 0], .int .i64 ch]) (by simp [results, Tryd.results17, go_sem, z0, z1, z2, z3, z4, z5]) rfl ?_
    exact ⟨rfl, BB.out⟩
  have h0' : ch = 0 := by omega
  have hb0 : (ch != 0) = false := by simp [h0']
  by_cases h1 : n < 0
  case pos =>
    have eE : Rol.prE x n = 2 := by unfold Rol.prE; (repeat' split) <;> omega
    have eP : Rol.pr x n = Pm.no := by unfold Rol.pr; rw [if_neg (by rw [eE]; omega)]
    rw [eP, eE]
    clear eE eP hch h0 h0'
    unfold vp
    go_enter Tryd.func17, Tryd.ntmps17
    go_wp2_with fail
    refine CK.out.mono ?_
    rintro E w3 ⟨rfl, b3⟩
    obtain ⟨hP3, hR3, B3, sz3⟩ := PST.out w3 b3
    obtain ⟨q0, q1, q2, q3, q4, q5⟩ := six_of hP3
    obtain ⟨Z, hZ, _, gZ, ⟨a0, a1, a2, a3, a4, a5⟩, fr, ⟨z0, z1, z2, z3, z4, z5⟩⟩ := put6 hR3 (.int .i64 0) (.int .u8 0) (.int .i64 0) (.int .u8 0) (.int .i64 0) (.int .i64 0)
    have f0 := fr 0; have f1 := fr 1; have f2 := fr 2; have f3 := fr 3; have f4 := fr 4; have f5 := fr 5
    have BB := hide (below_put B3 gZ (by omega) (by omega))
    clear CK PST b3 hP3 hR3 B3 sz3 gZ fr p0 p1 p2 p3 p4 p5 
    go_wp2
    refine bodyPost_ret (v := .tuple #[.agg #[.int .i64 0, .int .u8 0, .int .i64 0, .int .u8 0, .int .i64 0, .int .i64 0], .int .i64 2]) (by simp [results, Tryd.results17, go_sem, z0, z1, z2, z3, z4, z5]) rfl ?_
    exact ⟨rfl, BB.out⟩
  by_cases h1h : 1048576 < n
  case pos =>
    have eE : Rol.prE x n = 2 := by unfold Rol.prE; (repeat' split) <;> omega
    have eP : Rol.pr x n = Pm.no := by unfold Rol.pr; rw [if_neg (by rw [eE]; omega)]
    rw [eP, eE]
    clear eE eP hch h0 h0'
    unfold vp
    go_enter Tryd.func17, Tryd.ntmps17
    go_wp2_with fail
    refine CK.out.mono ?_
    rintro E w3 ⟨rfl, b3⟩
    obtain ⟨hP3, hR3, B3, sz3⟩ := PST.out w3 b3
    obtain ⟨q0, q1, q2, q3, q4, q5⟩ := six_of hP3
    obtain ⟨Z, hZ, _, gZ, ⟨a0, a1, a2, a3, a4, a5⟩, fr, ⟨z0, z1, z2, z3, z4, z5⟩⟩ := put6 hR3 (.int .i64 0) (.int .u8 0) (.int .i64 0) (.int .u8 0) (.int .i64 0) (.int .i64 0)
    have f0 := fr 0; have f1 := fr 1; have f2 := fr 2; have f3 := fr 3; have f4 := fr 4; have f5 := fr 5
    have BB := hide (below_put B3 gZ (by omega) (by omega))
    clear CK PST b3 hP3 hR3 B3 sz3 gZ fr p0 p1 p2 p3 p4 p5 
    go_wp2
    refine bodyPost_ret (v := .tuple #[.agg #[.int .i64 0, .int .u8 0, .int .i64 0, .int .u8 0, .int .i64 0, .int .i64 0], .int .i64 2]) (by simp [results, Tryd.results17, go_sem, z0, z1, z2, z3, z4, z5]) rfl ?_
    exact ⟨rfl, BB.out⟩
  by_cases h3 : x.r = 1
  case pos =>
    have hbh3 : (x.r == 1) = true := by simp [h3]
    have eE : Rol.prE x n = 10 := by unfold Rol.prE; (repeat' split) <;> omega
    have eP : Rol.pr x n = Pm.no := by unfold Rol.pr; rw [if_neg (by rw [eE]; omega)]
    rw [eP, eE]
    clear eE eP hch h0 h0' h3
    unfold vp
    go_enter Tryd.func17, Tryd.ntmps17
    go_wp2_with fail
    refine CK.out.mono ?_
    rintro E w3 ⟨rfl, b3⟩
    obtain ⟨hP3, hR3, B3, sz3⟩ := PST.out w3 b3
    obtain ⟨q0, q1, q2, q3, q4, q5⟩ := six_of hP3
    obtain ⟨Z, hZ, _, gZ, ⟨a0, a1, a2, a3, a4, a5⟩, fr, ⟨z0, z1, z2, z3, z4, z5⟩⟩ := put6 hR3 (.int .i64 0) (.int .u8 0) (.int .i64 0) (.int .u8 0) (.int .i64 0) (.int .i64 0)
    have f0 := fr 0; have f1 := fr 1; have f2 := fr 2; have f3 := fr 3; have f4 := fr 4; have f5 := fr 5
    have BB := hide (below_put B3 gZ (by omega) (by omega))
    clear CK PST b3 hP3 hR3 B3 sz3 gZ fr p0 p1 p2 p3 p4 p5 
    go_wp2
    refine bodyPost_ret (v := .tuple #[.agg #[.int .i64 0, .int .u8 0, .int .i64 0, .int .u8 0, .int .i64 0, .int .i64 0], .int .i64 10]) (by simp [results, Tryd.results17, go_sem, z0, z1, z2, z3, z4, z5]) rfl ?_
    exact ⟨rfl, BB.out⟩
  have hbh3 : (x.r == 1) = false := by simp [h3]
  by_cases h4 : x.r = 3
  case pos =>
    have hbh4 : (x.r == 3) = true := by simp [h4]
    have eE : Rol.prE x n = 9 := by unfold Rol.prE; (repeat' split) <;> omega
    have eP : Rol.pr x n = Pm.no := by unfold Rol.pr; rw [if_neg (by rw [eE]; omega)]
    rw [eP, eE]
    clear eE eP hch h0 h0' h3 h4
    unfold vp
    go_enter Tryd.func17, Tryd.ntmps17
    go_wp2_with fail
    refine CK.out.mono ?_
    rintro E w3 ⟨rfl, b3⟩
    obtain ⟨hP3, hR3, B3, sz3⟩ := PST.out w3 b3
    obtain ⟨q0, q1, q2, q3, q4, q5⟩ := six_of hP3
    obtain ⟨Z, hZ, _, gZ, ⟨a0, a1, a2, a3, a4, a5⟩, fr, ⟨z0, z1, z2, z3, z4, z5⟩⟩ := put6 hR3 (.int .i64 0) (.int .u8 0) (.int .i64 0) (.int .u8 0) (.int .i64 0) (.int .i64 0)
    have f0 := fr 0; have f1 := fr 1; have f2 := fr 2; have f3 := fr 3; have f4 := fr 4; have f5 := fr 5
    have BB := hide (below_put B3 gZ (by omega) (by omega))
    clear CK PST b3 hP3 hR3 B3 sz3 gZ fr p0 p1 p2 p3 p4 p5 
    go_wp2
    refine bodyPost_ret (v := .tuple #[.agg #[.int .i64 0, .int .u8 0, .int .i64 0, .int .u8 0, .int .i64 0, .int .i64 0], .int .i64 9]) (by simp [results, Tryd.results17, go_sem, z0, z1, z2, z3, z4, z5]) rfl ?_
    exact ⟨rfl, BB.out⟩
  have hbh4 : (x.r == 3) = false := by simp [h4]
  by_cases h5 : x.e = 1048576
  case pos =>
    have hbh5 : (x.e == 1048576) = true := by simp [h5]
    have eE : Rol.prE x n = 2 := by unfold Rol.prE; (repeat' split) <;> omega
    have eP : Rol.pr x n = Pm.no := by unfold Rol.pr; rw [if_neg (by rw [eE]; omega)]
    rw [eP, eE]
    clear eE eP hch h0 h0' h3 h4 h5
    unfold vp
    go_enter Tryd.func17, Tryd.ntmps17
    go_wp2_with fail
    refine CK.out.mono ?_
    rintro E w3 ⟨rfl, b3⟩
    obtain ⟨hP3, hR3, B3, sz3⟩ := PST.out w3 b3
    obtain ⟨q0, q1, q2, q3, q4, q5⟩ := six_of hP3
    obtain ⟨Z, hZ, _, gZ, ⟨a0, a1, a2, a3, a4, a5⟩, fr, ⟨z0, z1, z2, z3, z4, z5⟩⟩ := put6 hR3 (.int .i64 0) (.int .u8 0) (.int .i64 0) (.int .u8 0) (.int .i64 0) (.int .i64 0)
    have f0 := fr 0; have f1 := fr 1; have f2 := fr 2; have f3 := fr 3; have f4 := fr 4; have f5 := fr 5
    have BB := hide (below_put B3 gZ (by omega) (by omega))
    clear CK PST b3 hP3 hR3 B3 sz3 gZ fr p0 p1 p2 p3 p4 p5 
    go_wp2
    refine bodyPost_ret (v := .tuple #[.agg #[.int .i64 0, .int .u8 0, .int .i64 0, .int .u8 0, .int .i64 0, .int .i64 0], .int .i64 2]) (by simp [results, Tryd.results17, go_sem, z0, z1, z2, z3, z4, z5]) rfl ?_
    exact ⟨rfl, BB.out⟩
  have hbh5 : (x.e == 1048576) = false := by simp [h5]
  have hwr : IntKind.i64.wrap (x.e + 1) = x.e + 1 := by have := Pm.ok_nums (Pm.chk_iff.1 (hch.trans h0')); exact wrap_i64_small _ (by omega) (by omega)
  have eE : Rol.prE x n = 0 := by unfold Rol.prE; (repeat' split) <;> omega
  have eP : Rol.pr x n = ⟨x.e + 1, 1, n, 0, 0, 0⟩ := by unfold Rol.pr; rw [if_pos eE]
  rw [eP, eE]
  clear eE eP hch h0 h0' h3 h4 h5
  unfold vp
  go_enter Tryd.func17, Tryd.ntmps17
  go_wp2_with fail
  refine CK.out.mono ?_
  rintro E w3 ⟨rfl, b3⟩
  obtain ⟨hP3, hR3, B3, sz3⟩ := PST.out w3 b3
  obtain ⟨q0, q1, q2, q3, q4, q5⟩ := six_of hP3
  obtain ⟨Z, hZ, _, gZ, ⟨a0, a1, a2, a3, a4, a5⟩, fr, ⟨z0, z1, z2, z3, z4, z5⟩⟩ := put6 hR3 (.int .i64 (x.e + 1)) (.int .u8 1) (.int .i64 n) (.int .u8 0) (.int .i64 0) (.int .i64 0)
  have f0 := fr 0; have f1 := fr 1; have f2 := fr 2; have f3 := fr 3; have f4 := fr 4; have f5 := fr 5
  have BB := hide (below_put B3 gZ (by omega) (by omega))
  clear CK PST b3 hP3 hR3 B3 sz3 gZ fr p0 p1 p2 p3 p4 p5 
  go_wp2
  refine bodyPost_ret (v := .tuple #[.agg #[.int .i64 (x.e + 1), .int .u8 1, .int .i64 n, .int .u8 0, .int .i64 0, .int .i64 0], .int .i64 0]) (by simp [results, Tryd.results17, go_sem, z0, z1, z2, z3, z4, z5]) rfl ?_
  exact ⟨rfl, BB.out⟩

set_option maxRecDepth 20000 in
set_option maxHeartbeats 2000000 in
theorem hearR_any (x : Pm.Pg) (n : Int) (w : World) (hx : FitP x) :
    Calls Tryd.prog 18 #[vp x, .int .i64 n] w fun E w' => E = .returned (.tuple #[vp (Rol.he x n), .bool (Rol.heB x n), .int .i64 (Rol.heE x n)]) ∧ Below w.heap.size w w' := by
  obtain ⟨w1, w2, hw1, hw2, sz1, sz2, bel2, ⟨p0, p1, p2, p3, p4, p5⟩, PST⟩ := role_open x w
  have CK := hide (checkR_any x w2 hx)
  obtain ⟨ch, hch⟩ : ∃ c, Pm.chk x = c := ⟨_, rfl⟩
  rw [hch] at CK
  clear bel2 hx
  by_cases h0 : ¬ ch = 0
  case pos =>
    have hb0 : (ch != 0) = true := by simpa using h0
    have eE : Rol.heE x n = ch := by unfold Rol.heE; (repeat' split) <;> omega
    have eP : Rol.he x n = Pm.no := by unfold Rol.he; rw [if_neg (by rw [eE]; omega)]
    have eB : Rol.heB x n = false := by unfold Rol.heB; rw [eE]; simp <;> omega
    rw [eP, eB, eE]
    clear eE eP eB hch h0
    unfold vp
    go_enter Tryd.func18, Tryd.ntmps18
    go_wp2_with fail
    refine CK.out.mono ?_
    rintro E w3 ⟨rfl, b3⟩
    obtain ⟨hP3, hR3, B3, sz3⟩ := PST.out w3 b3
    obtain ⟨q0, q1, q2, q3, q4, q5⟩ := six_of hP3
    obtain ⟨Z, hZ, _, gZ, ⟨a0, a1, a2, a3, a4, a5⟩, fr, ⟨z0, z1, z2, z3, z4, z5⟩⟩ := put6 hR3 (.int .i64 0) (.int .u8 0) (.int .i64 0) (.int .u8 0) (.int .i64 0) (.int .i64 0)
    have f0 := fr 0; have f1 := fr 1; have f2 := fr 2; have f3 := fr 3; have f4 := fr 4; have f5 := fr 5
    have BB := hide (below_put B3 gZ (by omega) (by omega))
    clear CK PST b3 hP3 hR3 B3 sz3 gZ fr p0 p1 p2 p3 p4 p5 
    go_wp2
    refine bodyPost_ret (v := .tuple #[.agg #[.int .i64 0, .int .u8 0, .int .i64 0, .int .u8 0, .int .i64 0, .int .i64 0], .bool false, .int .i64 ch]) (by simp [results, Tryd.results18, go_sem, z0, z1, z2, z3, z4, z5]) rfl ?_
    exact ⟨rfl, BB.out⟩
  have h0' : ch = 0 := by omega
  have hb0 : (ch != 0) = false := by simp [h0']
  by_cases h1 : n < 1
  case pos =>
    have eE : Rol.heE x n = 2 := by unfold Rol.heE; (repeat' split) <;> omega
    have eP : Rol.he x n = Pm.no := by unfold Rol.he; rw [if_neg (by rw [eE]; omega)]
    have eB : Rol.heB x n = false := by unfold Rol.heB; rw [eE]; simp <;> omega
    rw [eP, eB, eE]
    clear eE eP eB hch h0 h0'
    unfold vp
    go_enter Tryd.func18, Tryd.ntmps18
    go_wp2_with fail
    refine CK.out.mono ?_
    rintro E w3 ⟨rfl, b3⟩
    obtain ⟨hP3, hR3, B3, sz3⟩ := PST.out w3 b3
    obtain ⟨q0, q1, q2, q3, q4, q5⟩ := six_of hP3
    obtain ⟨Z, hZ, _, gZ, ⟨a0, a1, a2, a3, a4, a5⟩, fr, ⟨z0, z1, z2, z3, z4, z5⟩⟩ := put6 hR3 (.int .i64 0) (.int .u8 0) (.int .i64 0) (.int .u8 0) (.int .i64 0) (.int .i64 0)
    have f0 := fr 0; have f1 := fr 1; have f2 := fr 2; have f3 := fr 3; have f4 := fr 4; have f5 := fr 5
    have BB := hide (below_put B3 gZ (by omega) (by omega))
    clear CK PST b3 hP3 hR3 B3 sz3 gZ fr p0 p1 p2 p3 p4 p5 
    go_wp2
    refine bodyPost_ret (v := .tuple #[.agg #[.int .i64 0, .int .u8 0, .int .i64 0, .int .u8 0, .int .i64 0, .int .i64 0], .bool false, .int .i64 2]) (by simp [results, Tryd.results18, go_sem, z0, z1, z2, z3, z4, z5]) rfl ?_
    exact ⟨rfl, BB.out⟩
  by_cases h1h : 1048576 < n
  case pos =>
    have eE : Rol.heE x n = 2 := by unfold Rol.heE; (repeat' split) <;> omega
    have eP : Rol.he x n = Pm.no := by unfold Rol.he; rw [if_neg (by rw [eE]; omega)]
    have eB : Rol.heB x n = false := by unfold Rol.heB; rw [eE]; simp <;> omega
    rw [eP, eB, eE]
    clear eE eP eB hch h0 h0'
    unfold vp
    go_enter Tryd.func18, Tryd.ntmps18
    go_wp2_with fail
    refine CK.out.mono ?_
    rintro E w3 ⟨rfl, b3⟩
    obtain ⟨hP3, hR3, B3, sz3⟩ := PST.out w3 b3
    obtain ⟨q0, q1, q2, q3, q4, q5⟩ := six_of hP3
    obtain ⟨Z, hZ, _, gZ, ⟨a0, a1, a2, a3, a4, a5⟩, fr, ⟨z0, z1, z2, z3, z4, z5⟩⟩ := put6 hR3 (.int .i64 0) (.int .u8 0) (.int .i64 0) (.int .u8 0) (.int .i64 0) (.int .i64 0)
    have f0 := fr 0; have f1 := fr 1; have f2 := fr 2; have f3 := fr 3; have f4 := fr 4; have f5 := fr 5
    have BB := hide (below_put B3 gZ (by omega) (by omega))
    clear CK PST b3 hP3 hR3 B3 sz3 gZ fr p0 p1 p2 p3 p4 p5 
    go_wp2
    refine bodyPost_ret (v := .tuple #[.agg #[.int .i64 0, .int .u8 0, .int .i64 0, .int .u8 0, .int .i64 0, .int .i64 0], .bool false, .int .i64 2]) (by simp [results, Tryd.results18, go_sem, z0, z1, z2, z3, z4, z5]) rfl ?_
    exact ⟨rfl, BB.out⟩
  by_cases h3 : x.e < n
  case pos =>
    have eE : Rol.heE x n = 0 := by unfold Rol.heE; (repeat' split) <;> omega
    have eP : Rol.he x n = ⟨n, 3, 0, 1, 0, 0⟩ := by unfold Rol.he; rw [if_pos eE, if_pos h3]
    have eB : Rol.heB x n = true := by unfold Rol.heB; rw [eE]; simp <;> omega
    rw [eP, eB, eE]
    clear eE eP eB hch h0 h0'
    unfold vp
    go_enter Tryd.func18, Tryd.ntmps18
    go_wp2_with fail
    refine CK.out.mono ?_
    rintro E w3 ⟨rfl, b3⟩
    obtain ⟨hP3, hR3, B3, sz3⟩ := PST.out w3 b3
    obtain ⟨q0, q1, q2, q3, q4, q5⟩ := six_of hP3
    obtain ⟨Z, hZ, _, gZ, ⟨a0, a1, a2, a3, a4, a5⟩, fr, ⟨z0, z1, z2, z3, z4, z5⟩⟩ := put6 hR3 (.int .i64 n) (.int .u8 3) (.int .i64 0) (.int .u8 1) (.int .i64 0) (.int .i64 0)
    have f0 := fr 0; have f1 := fr 1; have f2 := fr 2; have f3 := fr 3; have f4 := fr 4; have f5 := fr 5
    have BB := hide (below_put B3 gZ (by omega) (by omega))
    clear CK PST b3 hP3 hR3 B3 sz3 gZ fr p0 p1 p2 p3 p4 p5 
    go_wp2
    refine bodyPost_ret (v := .tuple #[.agg #[.int .i64 n, .int .u8 3, .int .i64 0, .int .u8 1, .int .i64 0, .int .i64 0], .bool true, .int .i64 0]) (by simp [results, Tryd.results18, go_sem, z0, z1, z2, z3, z4, z5]) rfl ?_
    exact ⟨rfl, BB.out⟩
  have eE : Rol.heE x n = 0 := by unfold Rol.heE; (repeat' split) <;> omega
  have eP : Rol.he x n = ⟨x.e, x.r, x.a, x.p, x.f, x.b⟩ := by unfold Rol.he; rw [if_pos eE, if_neg h3]
  have eB : Rol.heB x n = false := by unfold Rol.heB; rw [eE]; simp <;> omega
  rw [eP, eB, eE]
  clear eE eP eB hch h0 h0'
  unfold vp
  go_enter Tryd.func18, Tryd.ntmps18
  go_wp2_with fail
  refine CK.out.mono ?_
  rintro E w3 ⟨rfl, b3⟩
  obtain ⟨hP3, hR3, B3, sz3⟩ := PST.out w3 b3
  obtain ⟨q0, q1, q2, q3, q4, q5⟩ := six_of hP3
  obtain ⟨Z, hZ, _, gZ, ⟨a0, a1, a2, a3, a4, a5⟩, fr, ⟨z0, z1, z2, z3, z4, z5⟩⟩ := put6 hR3 (.int .i64 x.e) (.int .u8 x.r) (.int .i64 x.a) (.int .u8 x.p) (.int .i64 x.f) (.int .i64 x.b)
  have f0 := fr 0; have f1 := fr 1; have f2 := fr 2; have f3 := fr 3; have f4 := fr 4; have f5 := fr 5
  have BB := hide (below_put B3 gZ (by omega) (by omega))
  clear CK PST b3 hP3 hR3 B3 sz3 gZ fr p0 p1 p2 p3 p4 p5 
  go_wp2
  refine bodyPost_ret (v := .tuple #[.agg #[.int .i64 x.e, .int .u8 x.r, .int .i64 x.a, .int .u8 x.p, .int .i64 x.f, .int .i64 x.b], .bool false, .int .i64 0]) (by simp [results, Tryd.results18, go_sem, z0, z1, z2, z3, z4, z5]) rfl ?_
  exact ⟨rfl, BB.out⟩

set_option maxRecDepth 20000 in
set_option maxHeartbeats 2000000 in
theorem forkR_any (x : Pm.Pg) (n k : Int) (w : World) (hx : FitP x) :
    Calls Tryd.prog 20 #[vp x, .int .i64 n, .int .i64 k] w fun E w' => E = .returned (.tuple #[vp (Rol.fk x n k), .int .i64 (Rol.fkE x n k)]) ∧ Below w.heap.size w w' := by
  obtain ⟨w1, w2, hw1, hw2, sz1, sz2, bel2, ⟨p0, p1, p2, p3, p4, p5⟩, PST⟩ := role_open x w
  have CK := hide (checkR_any x w2 hx)
  obtain ⟨ch, hch⟩ : ∃ c, Pm.chk x = c := ⟨_, rfl⟩
  rw [hch] at CK
  clear bel2 hx
  by_cases h0 : ¬ ch = 0
  case pos =>
    have hb0 : (ch != 0) = true := by simpa using h0
    have eE : Rol.fkE x n k = ch := by unfold Rol.fkE; (repeat' split) <;> omega
    have eP : Rol.fk x n k = Pm.no := by unfold Rol.fk; rw [if_neg (by rw [eE]; omega)]
    rw [eP, eE]
    clear eE eP hch h0
    unfold vp
    go_enter Tryd.func20, Tryd.ntmps20
    go_wp2_with fail
    refine CK.out.mono ?_
    rintro E w3 ⟨rfl, b3⟩
    obtain ⟨hP3, hR3, B3, sz3⟩ := PST.out w3 b3
    obtain ⟨q0, q1, q2, q3, q4, q5⟩ := six_of hP3
    obtain ⟨Z, hZ, _, gZ, ⟨a0, a1, a2, a3, a4, a5⟩, fr, ⟨z0, z1, z2, z3, z4, z5⟩⟩ := put6 hR3 (.int .i64 0) (.int .u8 0) (.int .i64 0) (.int .u8 0) (.int .i64 0) (.int .i64 0)
    have f0 := fr 0; have f1 := fr 1; have f2 := fr 2; have f3 := fr 3; have f4 := fr 4; have f5 := fr 5
    have BB := hide (below_put B3 gZ (by omega) (by omega))
    clear CK PST b3 hP3 hR3 B3 sz3 gZ fr p0 p1 p2 p3 p4 p5 
    go_wp2
    refine bodyPost_ret (v := .tuple #[.agg #[.int .i64 0, .int .u8 0, .int .i64 0, .int .u8 0, .int .i64 0, .int .i64 0], .int .i64 ch]) (by simp [results, Tryd.results20, go_sem, z0, z1, z2, z3, z4, z5]) rfl ?_
    exact ⟨rfl, BB.out⟩
  have h0' : ch = 0 := by omega
  have hb0 : (ch != 0) = false := by simp [h0']
  by_cases h1 : n < 0
  case pos =>
    have eE : Rol.fkE x n k = 2 := by unfold Rol.fkE; (repeat' split) <;> omega
    have eP : Rol.fk x n k = Pm.no := by unfold Rol.fk; rw [if_neg (by rw [eE]; omega)]
    rw [eP, eE]
    clear eE eP hch h0 h0'
    unfold vp
    go_enter Tryd.func20, Tryd.ntmps20
    go_wp2_with fail
    refine CK.out.mono ?_
    rintro E w3 ⟨rfl, b3⟩
    obtain ⟨hP3, hR3, B3, sz3⟩ := PST.out w3 b3
    obtain ⟨q0, q1, q2, q3, q4, q5⟩ := six_of hP3
    obtain ⟨Z, hZ, _, gZ, ⟨a0, a1, a2, a3, a4, a5⟩, fr, ⟨z0, z1, z2, z3, z4, z5⟩⟩ := put6 hR3 (.int .i64 0) (.int .u8 0) (.int .i64 0) (.int .u8 0) (.int .i64 0) (.int .i64 0)
    have f0 := fr 0; have f1 := fr 1; have f2 := fr 2; have f3 := fr 3; have f4 := fr 4; have f5 := fr 5
    have BB := hide (below_put B3 gZ (by omega) (by omega))
    clear CK PST b3 hP3 hR3 B3 sz3 gZ fr p0 p1 p2 p3 p4 p5 
    go_wp2
    refine bodyPost_ret (v := .tuple #[.agg #[.int .i64 0, .int .u8 0, .int .i64 0, .int .u8 0, .int .i64 0, .int .i64 0], .int .i64 2]) (by simp [results, Tryd.results20, go_sem, z0, z1, z2, z3, z4, z5]) rfl ?_
    exact ⟨rfl, BB.out⟩
  by_cases h1h : 1048576 < n
  case pos =>
    have eE : Rol.fkE x n k = 2 := by unfold Rol.fkE; (repeat' split) <;> omega
    have eP : Rol.fk x n k = Pm.no := by unfold Rol.fk; rw [if_neg (by rw [eE]; omega)]
    rw [eP, eE]
    clear eE eP hch h0 h0'
    unfold vp
    go_enter Tryd.func20, Tryd.ntmps20
    go_wp2_with fail
    refine CK.out.mono ?_
    rintro E w3 ⟨rfl, b3⟩
    obtain ⟨hP3, hR3, B3, sz3⟩ := PST.out w3 b3
    obtain ⟨q0, q1, q2, q3, q4, q5⟩ := six_of hP3
    obtain ⟨Z, hZ, _, gZ, ⟨a0, a1, a2, a3, a4, a5⟩, fr, ⟨z0, z1, z2, z3, z4, z5⟩⟩ := put6 hR3 (.int .i64 0) (.int .u8 0) (.int .i64 0) (.int .u8 0) (.int .i64 0) (.int .i64 0)
    have f0 := fr 0; have f1 := fr 1; have f2 := fr 2; have f3 := fr 3; have f4 := fr 4; have f5 := fr 5
    have BB := hide (below_put B3 gZ (by omega) (by omega))
    clear CK PST b3 hP3 hR3 B3 sz3 gZ fr p0 p1 p2 p3 p4 p5 
    go_wp2
    refine bodyPost_ret (v := .tuple #[.agg #[.int .i64 0, .int .u8 0, .int .i64 0, .int .u8 0, .int .i64 0, .int .i64 0], .int .i64 2]) (by simp [results, Tryd.results20, go_sem, z0, z1, z2, z3, z4, z5]) rfl ?_
    exact ⟨rfl, BB.out⟩
  by_cases h3 : k < 0
  case pos =>
    have eE : Rol.fkE x n k = 2 := by unfold Rol.fkE; (repeat' split) <;> omega
    have eP : Rol.fk x n k = Pm.no := by unfold Rol.fk; rw [if_neg (by rw [eE]; omega)]
    rw [eP, eE]
    clear eE eP hch h0 h0'
    unfold vp
    go_enter Tryd.func20, Tryd.ntmps20
    go_wp2_with fail
    refine CK.out.mono ?_
    rintro E w3 ⟨rfl, b3⟩
    obtain ⟨hP3, hR3, B3, sz3⟩ := PST.out w3 b3
    obtain ⟨q0, q1, q2, q3, q4, q5⟩ := six_of hP3
    obtain ⟨Z, hZ, _, gZ, ⟨a0, a1, a2, a3, a4, a5⟩, fr, ⟨z0, z1, z2, z3, z4, z5⟩⟩ := put6 hR3 (.int .i64 0) (.int .u8 0) (.int .i64 0) (.int .u8 0) (.int .i64 0) (.int .i64 0)
    have f0 := fr 0; have f1 := fr 1; have f2 := fr 2; have f3 := fr 3; have f4 := fr 4; have f5 := fr 5
    have BB := hide (below_put B3 gZ (by omega) (by omega))
    clear CK PST b3 hP3 hR3 B3 sz3 gZ fr p0 p1 p2 p3 p4 p5 
    go_wp2
    refine bodyPost_ret (v := .tuple #[.agg #[.int .i64 0, .int .u8 0, .int .i64 0, .int .u8 0, .int .i64 0, .int .i64 0], .int .i64 2]) (by simp [results, Tryd.results20, go_sem, z0, z1, z2, z3, z4, z5]) rfl ?_
    exact ⟨rfl, BB.out⟩
  by_cases h3h : 1073741824 < k
  case pos =>
    have eE : Rol.fkE x n k = 2 := by unfold Rol.fkE; (repeat' split) <;> omega
    have eP : Rol.fk x n k = Pm.no := by unfold Rol.fk; rw [if_neg (by rw [eE]; omega)]
    rw [eP, eE]
    clear eE eP hch h0 h0'
    unfold vp
    go_enter Tryd.func20, Tryd.ntmps20
    go_wp2_with fail
    refine CK.out.mono ?_
    rintro E w3 ⟨rfl, b3⟩
    obtain ⟨hP3, hR3, B3, sz3⟩ := PST.out w3 b3
    obtain ⟨q0, q1, q2, q3, q4, q5⟩ := six_of hP3
    obtain ⟨Z, hZ, _, gZ, ⟨a0, a1, a2, a3, a4, a5⟩, fr, ⟨z0, z1, z2, z3, z4, z5⟩⟩ := put6 hR3 (.int .i64 0) (.int .u8 0) (.int .i64 0) (.int .u8 0) (.int .i64 0) (.int .i64 0)
    have f0 := fr 0; have f1 := fr 1; have f2 := fr 2; have f3 := fr 3; have f4 := fr 4; have f5 := fr 5
    have BB := hide (below_put B3 gZ (by omega) (by omega))
    clear CK PST b3 hP3 hR3 B3 sz3 gZ fr p0 p1 p2 p3 p4 p5 
    go_wp2
    refine bodyPost_ret (v := .tuple #[.agg #[.int .i64 0, .int .u8 0, .int .i64 0, .int .u8 0, .int .i64 0, .int .i64 0], .int .i64 2]) (by simp [results, Tryd.results20, go_sem, z0, z1, z2, z3, z4, z5]) rfl ?_
    exact ⟨rfl, BB.out⟩
  by_cases h5 : x.p = 1
  case pos =>
    have hbh5 : (x.p != 1) = false := by simp [h5]
    have eE : Rol.fkE x n k = 0 := by unfold Rol.fkE; (repeat' split) <;> omega
    have eP : Rol.fk x n k = ⟨x.e, x.r, x.a, 2, n, k⟩ := by unfold Rol.fk; rw [if_pos eE]
    rw [eP, eE]
    clear eE eP hch h0 h0' h5
    unfold vp
    go_enter Tryd.func20, Tryd.ntmps20
    go_wp2_with fail
    refine CK.out.mono ?_
    rintro E w3 ⟨rfl, b3⟩
    obtain ⟨hP3, hR3, B3, sz3⟩ := PST.out w3 b3
    obtain ⟨q0, q1, q2, q3, q4, q5⟩ := six_of hP3
    obtain ⟨m0, hm0, hPm0, gm0, fm0⟩ := put_at hP3 3 (.int .u8 2)
    have hRm0 := (grown_other gm0 (by omega)).trans hR3
    have Bm0 := below_put B3 gm0 (Nat.le_refl _) (by omega)
    have szm0 := gm0.size
    obtain ⟨m1, hm1, hPm1, gm1, fm1⟩ := put_at hPm0 4 (.int .i64 n)
    have hRm1 := (grown_other gm1 (by omega)).trans hRm0
    have Bm1 := below_put Bm0 gm1 (Nat.le_refl _) (by omega)
    have szm1 := gm1.size
    obtain ⟨m2, hm2, hPm2, gm2, fm2⟩ := put_at hPm1 5 (.int .i64 k)
    have hRm2 := (grown_other gm2 (by omega)).trans hRm1
    have Bm2 := below_put Bm1 gm2 (Nat.le_refl _) (by omega)
    have szm2 := gm2.size
    obtain ⟨r00, r01, r02, r03, r04, r05⟩ : Six m0 w.heap.size (.int .i64 x.e) (.int .u8 x.r) (.int .i64 x.a) (.int .u8 2) (.int .i64 x.f) (.int .i64 x.b) := six_of hPm0
    obtain ⟨r10, r11, r12, r13, r14, r15⟩ : Six m1 w.heap.size (.int .i64 x.e) (.int .u8 x.r) (.int .i64 x.a) (.int .u8 2) (.int .i64 n) (.int .i64 x.b) := six_of hPm1
    obtain ⟨r20, r21, r22, r23, r24, r25⟩ : Six m2 w.heap.size (.int .i64 x.e) (.int .u8 x.r) (.int .i64 x.a) (.int .u8 2) (.int .i64 n) (.int .i64 k) := six_of hPm2
    obtain ⟨Z, hZ, _, gZ, ⟨a0, a1, a2, a3, a4, a5⟩, fr, ⟨z0, z1, z2, z3, z4, z5⟩⟩ := put6 hRm2 (.int .i64 x.e) (.int .u8 x.r) (.int .i64 x.a) (.int .u8 2) (.int .i64 n) (.int .i64 k)
    have f0 := fr 0; have f1 := fr 1; have f2 := fr 2; have f3 := fr 3; have f4 := fr 4; have f5 := fr 5
    have BB := hide (below_put Bm2 gZ (by omega) (by omega))
    clear CK PST b3 hP3 hR3 B3 sz3 gZ fr p0 p1 p2 p3 p4 p5 hPm0 gm0 hRm0 Bm0 szm0 hPm1 gm1 hRm1 Bm1 szm1 hPm2 gm2 hRm2 Bm2 szm2
    go_wp2
    refine bodyPost_ret (v := .tuple #[.agg #[.int .i64 x.e, .int .u8 x.r, .int .i64 x.a, .int .u8 2, .int .i64 n, .int .i64 k], .int .i64 0]) (by simp [results, Tryd.results20, go_sem, z0, z1, z2, z3, z4, z5]) rfl ?_
    exact ⟨rfl, BB.out⟩
  have hbh5 : (x.p != 1) = true := by simp [h5]
  have eE : Rol.fkE x n k = 15 := by unfold Rol.fkE; (repeat' split) <;> omega
  have eP : Rol.fk x n k = Pm.no := by unfold Rol.fk; rw [if_neg (by rw [eE]; omega)]
  rw [eP, eE]
  clear eE eP hch h0 h0' h5
  unfold vp
  go_enter Tryd.func20, Tryd.ntmps20
  go_wp2_with fail
  refine CK.out.mono ?_
  rintro E w3 ⟨rfl, b3⟩
  obtain ⟨hP3, hR3, B3, sz3⟩ := PST.out w3 b3
  obtain ⟨q0, q1, q2, q3, q4, q5⟩ := six_of hP3
  obtain ⟨Z, hZ, _, gZ, ⟨a0, a1, a2, a3, a4, a5⟩, fr, ⟨z0, z1, z2, z3, z4, z5⟩⟩ := put6 hR3 (.int .i64 0) (.int .u8 0) (.int .i64 0) (.int .u8 0) (.int .i64 0) (.int .i64 0)
  have f0 := fr 0; have f1 := fr 1; have f2 := fr 2; have f3 := fr 3; have f4 := fr 4; have f5 := fr 5
  have BB := hide (below_put B3 gZ (by omega) (by omega))
  clear CK PST b3 hP3 hR3 B3 sz3 gZ fr p0 p1 p2 p3 p4 p5 
  go_wp2
  refine bodyPost_ret (v := .tuple #[.agg #[.int .i64 0, .int .u8 0, .int .i64 0, .int .u8 0, .int .i64 0, .int .i64 0], .int .i64 15]) (by simp [results, Tryd.results20, go_sem, z0, z1, z2, z3, z4, z5]) rfl ?_
  exact ⟨rfl, BB.out⟩

set_option maxRecDepth 20000 in
set_option maxHeartbeats 2000000 in
theorem nextR20_any (x : Pm.Pg) (p q : Int) (w : World) (hx : FitP x) :
    Calls Tryd.prog 38 #[vp x, .int .u8 p, .int .u8 q] w fun E w' => E = .returned (.tuple #[vp (Rol.nx x p q), .int .i64 (Rol.nxE x p)]) ∧ Below w.heap.size w w' := by
  obtain ⟨w1, w2, hw1, hw2, sz1, sz2, bel2, ⟨p0, p1, p2, p3, p4, p5⟩, PST⟩ := role_open x w
  have CK := hide (checkR_any x w2 hx)
  obtain ⟨ch, hch⟩ : ∃ c, Pm.chk x = c := ⟨_, rfl⟩
  rw [hch] at CK
  clear bel2 hx
  by_cases h0 : ¬ ch = 0
  case pos =>
    have hb0 : (ch != 0) = true := by simpa using h0
    have eE : Rol.nxE x p = ch := by unfold Rol.nxE; (repeat' split) <;> omega
    have eP : Rol.nx x p q = Pm.no := by unfold Rol.nx; rw [if_neg (by rw [eE]; omega)]
    rw [eP, eE]
    clear eE eP hch h0
    unfold vp
    go_enter Tryd.func38, Tryd.ntmps38
    go_wp2_with fail
    refine CK.out.mono ?_
    rintro E w3 ⟨rfl, b3⟩
    obtain ⟨hP3, hR3, B3, sz3⟩ := PST.out w3 b3
    obtain ⟨q0, q1, q2, q3, q4, q5⟩ := six_of hP3
    obtain ⟨Z, hZ, _, gZ, ⟨a0, a1, a2, a3, a4, a5⟩, fr, ⟨z0, z1, z2, z3, z4, z5⟩⟩ := put6 hR3 (.int .i64 0) (.int .u8 0) (.int .i64 0) (.int .u8 0) (.int .i64 0) (.int .i64 0)
    have f0 := fr 0; have f1 := fr 1; have f2 := fr 2; have f3 := fr 3; have f4 := fr 4; have f5 := fr 5
    have BB := hide (below_put B3 gZ (by omega) (by omega))
    clear CK PST b3 hP3 hR3 B3 sz3 gZ fr p0 p1 p2 p3 p4 p5 
    go_wp2
    refine bodyPost_ret (v := .tuple #[.agg #[.int .i64 0, .int .u8 0, .int .i64 0, .int .u8 0, .int .i64 0, .int .i64 0], .int .i64 ch]) (by simp [results, Tryd.results38, go_sem, z0, z1, z2, z3, z4, z5]) rfl ?_
    exact ⟨rfl, BB.out⟩
  have h0' : ch = 0 := by omega
  have hb0 : (ch != 0) = false := by simp [h0']
  by_cases h5 : x.p = p
  case pos =>
    have hbh5 : (x.p != p) = false := by simp [h5]
    have eE : Rol.nxE x p = 0 := by unfold Rol.nxE; (repeat' split) <;> omega
    have eP : Rol.nx x p q = ⟨x.e, x.r, x.a, q, x.f, x.b⟩ := by unfold Rol.nx; rw [if_pos eE]
    rw [eP, eE]
    clear eE eP hch h0 h0' h5
    unfold vp
    go_enter Tryd.func38, Tryd.ntmps38
    go_wp2_with fail
    refine CK.out.mono ?_
    rintro E w3 ⟨rfl, b3⟩
    obtain ⟨hP3, hR3, B3, sz3⟩ := PST.out w3 b3
    obtain ⟨q0, q1, q2, q3, q4, q5⟩ := six_of hP3
    obtain ⟨m0, hm0, hPm0, gm0, fm0⟩ := put_at hP3 3 (.int .u8 q)
    have hRm0 := (grown_other gm0 (by omega)).trans hR3
    have Bm0 := below_put B3 gm0 (Nat.le_refl _) (by omega)
    have szm0 := gm0.size
    obtain ⟨r00, r01, r02, r03, r04, r05⟩ : Six m0 w.heap.size (.int .i64 x.e) (.int .u8 x.r) (.int .i64 x.a) (.int .u8 q) (.int .i64 x.f) (.int .i64 x.b) := six_of hPm0
    obtain ⟨Z, hZ, _, gZ, ⟨a0, a1, a2, a3, a4, a5⟩, fr, ⟨z0, z1, z2, z3, z4, z5⟩⟩ := put6 hRm0 (.int .i64 x.e) (.int .u8 x.r) (.int .i64 x.a) (.int .u8 q) (.int .i64 x.f) (.int .i64 x.b)
    have f0 := fr 0; have f1 := fr 1; have f2 := fr 2; have f3 := fr 3; have f4 := fr 4; have f5 := fr 5
    have BB := hide (below_put Bm0 gZ (by omega) (by omega))
    clear CK PST b3 hP3 hR3 B3 sz3 gZ fr p0 p1 p2 p3 p4 p5 hPm0 gm0 hRm0 Bm0 szm0
    go_wp2
    refine bodyPost_ret (v := .tuple #[.agg #[.int .i64 x.e, .int .u8 x.r, .int .i64 x.a, .int .u8 q, .int .i64 x.f, .int .i64 x.b], .int .i64 0]) (by simp [results, Tryd.results38, go_sem, z0, z1, z2, z3, z4, z5]) rfl ?_
    exact ⟨rfl, BB.out⟩
  have hbh5 : (x.p != p) = true := by simp [h5]
  have eE : Rol.nxE x p = 15 := by unfold Rol.nxE; (repeat' split) <;> omega
  have eP : Rol.nx x p q = Pm.no := by unfold Rol.nx; rw [if_neg (by rw [eE]; omega)]
  rw [eP, eE]
  clear eE eP hch h0 h0' h5
  unfold vp
  go_enter Tryd.func38, Tryd.ntmps38
  go_wp2_with fail
  refine CK.out.mono ?_
  rintro E w3 ⟨rfl, b3⟩
  obtain ⟨hP3, hR3, B3, sz3⟩ := PST.out w3 b3
  obtain ⟨q0, q1, q2, q3, q4, q5⟩ := six_of hP3
  obtain ⟨Z, hZ, _, gZ, ⟨a0, a1, a2, a3, a4, a5⟩, fr, ⟨z0, z1, z2, z3, z4, z5⟩⟩ := put6 hR3 (.int .i64 0) (.int .u8 0) (.int .i64 0) (.int .u8 0) (.int .i64 0) (.int .i64 0)
  have f0 := fr 0; have f1 := fr 1; have f2 := fr 2; have f3 := fr 3; have f4 := fr 4; have f5 := fr 5
  have BB := hide (below_put B3 gZ (by omega) (by omega))
  clear CK PST b3 hP3 hR3 B3 sz3 gZ fr p0 p1 p2 p3 p4 p5 
  go_wp2
  refine bodyPost_ret (v := .tuple #[.agg #[.int .i64 0, .int .u8 0, .int .i64 0, .int .u8 0, .int .i64 0, .int .i64 0], .int .i64 15]) (by simp [results, Tryd.results38, go_sem, z0, z1, z2, z3, z4, z5]) rfl ?_
  exact ⟨rfl, BB.out⟩

set_option maxRecDepth 20000 in
set_option maxHeartbeats 2000000 in
theorem ackedR_any (x : Pm.Pg) (n : Int) (w : World) (hx : FitP x) :
    Calls Tryd.prog 22 #[vp x, .int .i64 n] w fun E w' => E = .returned (.tuple #[vp (Rol.ak x n), .bool (Rol.akB x n), .int .i64 (Rol.akE x n)]) ∧ Below w.heap.size w w' := by
  obtain ⟨w1, w2, hw1, hw2, sz1, sz2, bel2, ⟨p0, p1, p2, p3, p4, p5⟩, PST⟩ := role_open x w
  have CK := hide (checkR_any x w2 hx)
  obtain ⟨ch, hch⟩ : ∃ c, Pm.chk x = c := ⟨_, rfl⟩
  rw [hch] at CK
  clear bel2 hx
  by_cases h0 : ¬ ch = 0
  case pos =>
    have hb0 : (ch != 0) = true := by simpa using h0
    have eE : Rol.akE x n = ch := by unfold Rol.akE; (repeat' split) <;> omega
    have eP : Rol.ak x n = Pm.no := by unfold Rol.ak; rw [if_neg (by rw [eE]; omega)]
    have eB : Rol.akB x n = false := by unfold Rol.akB; rw [eE]; simp <;> omega
    rw [eP, eB, eE]
    clear eE eP eB hch h0
    unfold vp
    go_enter Tryd.func22, Tryd.ntmps22
    go_wp2_with fail
    refine CK.out.mono ?_
    rintro E w3 ⟨rfl, b3⟩
    obtain ⟨hP3, hR3, B3, sz3⟩ := PST.out w3 b3
    obtain ⟨q0, q1, q2, q3, q4, q5⟩ := six_of hP3
    obtain ⟨Z, hZ, _, gZ, ⟨a0, a1, a2, a3, a4, a5⟩, fr, ⟨z0, z1, z2, z3, z4, z5⟩⟩ := put6 hR3 (.int .i64 0) (.int .u8 0) (.int .i64 0) (.int .u8 0) (.int .i64 0) (.int .i64 0)
    have f0 := fr 0; have f1 := fr 1; have f2 := fr 2; have f3 := fr 3; have f4 := fr 4; have f5 := fr 5
    have BB := hide (below_put B3 gZ (by omega) (by omega))
    clear CK PST b3 hP3 hR3 B3 sz3 gZ fr p0 p1 p2 p3 p4 p5 
    go_wp2
    refine bodyPost_ret (v := .tuple #[.agg #[.int .i64 0, .int .u8 0, .int .i64 0, .int .u8 0, .int .i64 0, .int .i64 0], .bool false, .int .i64 ch]) (by simp [results, Tryd.results22, go_sem, z0, z1, z2, z3, z4, z5]) rfl ?_
    exact ⟨rfl, BB.out⟩
  have h0' : ch = 0 := by omega
  have hb0 : (ch != 0) = false := by simp [h0']
  by_cases h1 : n < 0
  case pos =>
    have eE : Rol.akE x n = 2 := by unfold Rol.akE; (repeat' split) <;> omega
    have eP : Rol.ak x n = Pm.no := by unfold Rol.ak; rw [if_neg (by rw [eE]; omega)]
    have eB : Rol.akB x n = false := by unfold Rol.akB; rw [eE]; simp <;> omega
    rw [eP, eB, eE]
    clear eE eP eB hch h0 h0'
    unfold vp
    go_enter Tryd.func22, Tryd.ntmps22
    go_wp2_with fail
    refine CK.out.mono ?_
    rintro E w3 ⟨rfl, b3⟩
    obtain ⟨hP3, hR3, B3, sz3⟩ := PST.out w3 b3
    obtain ⟨q0, q1, q2, q3, q4, q5⟩ := six_of hP3
    obtain ⟨Z, hZ, _, gZ, ⟨a0, a1, a2, a3, a4, a5⟩, fr, ⟨z0, z1, z2, z3, z4, z5⟩⟩ := put6 hR3 (.int .i64 0) (.int .u8 0) (.int .i64 0) (.int .u8 0) (.int .i64 0) (.int .i64 0)
    have f0 := fr 0; have f1 := fr 1; have f2 := fr 2; have f3 := fr 3; have f4 := fr 4; have f5 := fr 5
    have BB := hide (below_put B3 gZ (by omega) (by omega))
    clear CK PST b3 hP3 hR3 B3 sz3 gZ fr p0 p1 p2 p3 p4 p5 
    go_wp2
    refine bodyPost_ret (v := .tuple #[.agg #[.int .i64 0, .int .u8 0, .int .i64 0, .int .u8 0, .int .i64 0, .int .i64 0], .bool false, .int .i64 2]) (by simp [results, Tryd.results22, go_sem, z0, z1, z2, z3, z4, z5]) rfl ?_
    exact ⟨rfl, BB.out⟩
  by_cases h1h : 1048576 < n
  case pos =>
    have eE : Rol.akE x n = 2 := by unfold Rol.akE; (repeat' split) <;> omega
    have eP : Rol.ak x n = Pm.no := by unfold Rol.ak; rw [if_neg (by rw [eE]; omega)]
    have eB : Rol.akB x n = false := by unfold Rol.akB; rw [eE]; simp <;> omega
    rw [eP, eB, eE]
    clear eE eP eB hch h0 h0'
    unfold vp
    go_enter Tryd.func22, Tryd.ntmps22
    go_wp2_with fail
    refine CK.out.mono ?_
    rintro E w3 ⟨rfl, b3⟩
    obtain ⟨hP3, hR3, B3, sz3⟩ := PST.out w3 b3
    obtain ⟨q0, q1, q2, q3, q4, q5⟩ := six_of hP3
    obtain ⟨Z, hZ, _, gZ, ⟨a0, a1, a2, a3, a4, a5⟩, fr, ⟨z0, z1, z2, z3, z4, z5⟩⟩ := put6 hR3 (.int .i64 0) (.int .u8 0) (.int .i64 0) (.int .u8 0) (.int .i64 0) (.int .i64 0)
    have f0 := fr 0; have f1 := fr 1; have f2 := fr 2; have f3 := fr 3; have f4 := fr 4; have f5 := fr 5
    have BB := hide (below_put B3 gZ (by omega) (by omega))
    clear CK PST b3 hP3 hR3 B3 sz3 gZ fr p0 p1 p2 p3 p4 p5 
    go_wp2
    refine bodyPost_ret (v := .tuple #[.agg #[.int .i64 0, .int .u8 0, .int .i64 0, .int .u8 0, .int .i64 0, .int .i64 0], .bool false, .int .i64 2]) (by simp [results, Tryd.results22, go_sem, z0, z1, z2, z3, z4, z5]) rfl ?_
    exact ⟨rfl, BB.out⟩
  by_cases h3 : x.r = 1
  case pos =>
    have hbh3 : (x.r != 1) = false := by simp [h3]
    by_cases h4 : x.a < n
    case pos =>
      have eE : Rol.akE x n = 0 := by unfold Rol.akE; (repeat' split) <;> omega
      have eP : Rol.ak x n = ⟨x.e, x.r, n, x.p, x.f, x.b⟩ := by unfold Rol.ak; rw [if_pos eE, if_pos h4]
      have eB : Rol.akB x n = true := by unfold Rol.akB; rw [eE]; simp <;> omega
      rw [eP, eB, eE]
      clear eE eP eB hch h0 h0' h3
      unfold vp
      go_enter Tryd.func22, Tryd.ntmps22
      go_wp2_with fail
      refine CK.out.mono ?_
      rintro E w3 ⟨rfl, b3⟩
      obtain ⟨hP3, hR3, B3, sz3⟩ := PST.out w3 b3
      obtain ⟨q0, q1, q2, q3, q4, q5⟩ := six_of hP3
      obtain ⟨m0, hm0, hPm0, gm0, fm0⟩ := put_at hP3 2 (.int .i64 n)
      have hRm0 := (grown_other gm0 (by omega)).trans hR3
      have Bm0 := below_put B3 gm0 (Nat.le_refl _) (by omega)
      have szm0 := gm0.size
      obtain ⟨r00, r01, r02, r03, r04, r05⟩ : Six m0 w.heap.size (.int .i64 x.e) (.int .u8 x.r) (.int .i64 n) (.int .u8 x.p) (.int .i64 x.f) (.int .i64 x.b) := six_of hPm0
      obtain ⟨Z, hZ, _, gZ, ⟨a0, a1, a2, a3, a4, a5⟩, fr, ⟨z0, z1, z2, z3, z4, z5⟩⟩ := put6 hRm0 (.int .i64 x.e) (.int .u8 x.r) (.int .i64 n) (.int .u8 x.p) (.int .i64 x.f) (.int .i64 x.b)
      have f0 := fr 0; have f1 := fr 1; have f2 := fr 2; have f3 := fr 3; have f4 := fr 4; have f5 := fr 5
      have BB := hide (below_put Bm0 gZ (by omega) (by omega))
      clear CK PST b3 hP3 hR3 B3 sz3 gZ fr p0 p1 p2 p3 p4 p5 hPm0 gm0 hRm0 Bm0 szm0
      go_wp2
      refine bodyPost_ret (v := .tuple #[.agg #[.int .i64 x.e, .int .u8 x.r, .int .i64 n, .int .u8 x.p, .int .i64 x.f, .int .i64 x.b], .bool true, .int .i64 0]) (by simp [results, Tryd.results22, go_sem, z0, z1, z2, z3, z4, z5]) rfl ?_
      exact ⟨rfl, BB.out⟩
    have eE : Rol.akE x n = 0 := by unfold Rol.akE; (repeat' split) <;> omega
    have eP : Rol.ak x n = ⟨x.e, x.r, x.a, x.p, x.f, x.b⟩ := by unfold Rol.ak; rw [if_pos eE, if_neg h4]
    have eB : Rol.akB x n = false := by unfold Rol.akB; rw [eE]; simp <;> omega
    rw [eP, eB, eE]
    clear eE eP eB hch h0 h0' h3
    unfold vp
    go_enter Tryd.func22, Tryd.ntmps22
    go_wp2_with fail
    refine CK.out.mono ?_
    rintro E w3 ⟨rfl, b3⟩
    obtain ⟨hP3, hR3, B3, sz3⟩ := PST.out w3 b3
    obtain ⟨q0, q1, q2, q3, q4, q5⟩ := six_of hP3
    obtain ⟨Z, hZ, _, gZ, ⟨a0, a1, a2, a3, a4, a5⟩, fr, ⟨z0, z1, z2, z3, z4, z5⟩⟩ := put6 hR3 (.int .i64 x.e) (.int .u8 x.r) (.int .i64 x.a) (.int .u8 x.p) (.int .i64 x.f) (.int .i64 x.b)
    have f0 := fr 0; have f1 := fr 1; have f2 := fr 2; have f3 := fr 3; have f4 := fr 4; have f5 := fr 5
    have BB := hide (below_put B3 gZ (by omega) (by omega))
    clear CK PST b3 hP3 hR3 B3 sz3 gZ fr p0 p1 p2 p3 p4 p5 
    go_wp2
    refine bodyPost_ret (v := .tuple #[.agg #[.int .i64 x.e, .int .u8 x.r, .int .i64 x.a, .int .u8 x.p, .int .i64 x.f, .int .i64 x.b], .bool false, .int .i64 0]) (by simp [results, Tryd.results22, go_sem, z0, z1, z2, z3, z4, z5]) rfl ?_
    exact ⟨rfl, BB.out⟩
  have hbh3 : (x.r != 1) = true := by simp [h3]
  have eE : Rol.akE x n = 15 := by unfold Rol.akE; (repeat' split) <;> omega
  have eP : Rol.ak x n = Pm.no := by unfold Rol.ak; rw [if_neg (by rw [eE]; omega)]
  have eB : Rol.akB x n = false := by unfold Rol.akB; rw [eE]; simp <;> omega
  rw [eP, eB, eE]
  clear eE eP eB hch h0 h0' h3
  unfold vp
  go_enter Tryd.func22, Tryd.ntmps22
  go_wp2_with fail
  refine CK.out.mono ?_
  rintro E w3 ⟨rfl, b3⟩
  obtain ⟨hP3, hR3, B3, sz3⟩ := PST.out w3 b3
  obtain ⟨q0, q1, q2, q3, q4, q5⟩ := six_of hP3
  obtain ⟨Z, hZ, _, gZ, ⟨a0, a1, a2, a3, a4, a5⟩, fr, ⟨z0, z1, z2, z3, z4, z5⟩⟩ := put6 hR3 (.int .i64 0) (.int .u8 0) (.int .i64 0) (.int .u8 0) (.int .i64 0) (.int .i64 0)
  have f0 := fr 0; have f1 := fr 1; have f2 := fr 2; have f3 := fr 3; have f4 := fr 4; have f5 := fr 5
  have BB := hide (below_put B3 gZ (by omega) (by omega))
  clear CK PST b3 hP3 hR3 B3 sz3 gZ fr p0 p1 p2 p3 p4 p5 
  go_wp2
  refine bodyPost_ret (v := .tuple #[.agg #[.int .i64 0, .int .u8 0, .int .i64 0, .int .u8 0, .int .i64 0, .int .i64 0], .bool false, .int .i64 15]) (by simp [results, Tryd.results22, go_sem, z0, z1, z2, z3, z4, z5]) rfl ?_
  exact ⟨rfl, BB.out⟩

set_option maxRecDepth 20000 in
set_option maxHeartbeats 2000000 in
theorem writesR_any (x : Pm.Pg) (w : World) (hx : FitP x) :
    Calls Tryd.prog 26 #[vp x] w fun E w' => E = .returned (.int .i64 (Rol.wrE x)) ∧ Below w.heap.size w w' := by
  obtain ⟨w2, hw2, sz2, bel2, hP⟩ := blk_step w #[.int .i64 x.e, .int .u8 x.r, .int .i64 x.a, .int .u8 x.p, .int .i64 x.f, .int .i64 x.b] 25
  obtain ⟨p0, p1, p2, p3, p4, p5⟩ := six_of hP
  have PST : Hid (∀ W, Below w2.heap.size w2 W → W.heap[w.heap.size]? = some (.cells #[.int .i64 x.e, .int .u8 x.r, .int .i64 x.a, .int .u8 x.p, .int .i64 x.f, .int .i64 x.b] 25 (0, 0)) ∧ Below w.heap.size w W) := hide fun W hW => ⟨(hW.block w.heap.size (by omega)).trans hP, bel2.trans (hW.mono (by omega))⟩
  clear hP
  have CK := hide (checkR_any x w2 hx)
  obtain ⟨ch, hch⟩ : ∃ c, Pm.chk x = c := ⟨_, rfl⟩
  rw [hch] at CK
  clear bel2 hx
  by_cases h0 : ¬ ch = 0
  case pos =>
    have hb0 : (ch != 0) = true := by simpa using h0
    have eE : Rol.wrE x = ch := by unfold Rol.wrE; (repeat' split) <;> omega
    rw [eE]
    clear eE hch h0
    unfold vp
    go_enter Tryd.func26, Tryd.ntmps26
    go_wp2_with fail
    refine CK.out.mono ?_
    rintro E w3 ⟨rfl, b3⟩
    obtain ⟨hP3, B3⟩ := PST.out w3 b3
    obtain ⟨q0, q1, q2, q3, q4, q5⟩ := six_of hP3
    have BB := hide B3
    clear CK PST b3 hP3 B3 p0 p1 p2 p3 p4 p5
    go_wp2
    go_ret
    exact ⟨rfl, BB.out⟩
  have h0' : ch = 0 := by omega
  have hb0 : (ch != 0) = false := by simp [h0']
  by_cases h3 : x.r = 2
  case pos =>
    have hbh3 : (x.r == 2) = true := by simp [h3]
    have eE : Rol.wrE x = 11 := by unfold Rol.wrE; (repeat' split) <;> omega
    rw [eE]
    clear eE hch h0 h0' h3
    unfold vp
    go_enter Tryd.func26, Tryd.ntmps26
    go_wp2_with fail
    refine CK.out.mono ?_
    rintro E w3 ⟨rfl, b3⟩
    obtain ⟨hP3, B3⟩ := PST.out w3 b3
    obtain ⟨q0, q1, q2, q3, q4, q5⟩ := six_of hP3
    have BB := hide B3
    clear CK PST b3 hP3 B3 p0 p1 p2 p3 p4 p5
    go_wp2
    go_ret
    exact ⟨rfl, BB.out⟩
  have hbh3 : (x.r == 2) = false := by simp [h3]
  by_cases h4 : x.r = 3
  case pos =>
    have hbh4 : (x.r == 3) = true := by simp [h4]
    have eE : Rol.wrE x = 9 := by unfold Rol.wrE; (repeat' split) <;> omega
    rw [eE]
    clear eE hch h0 h0' h3 h4
    unfold vp
    go_enter Tryd.func26, Tryd.ntmps26
    go_wp2_with fail
    refine CK.out.mono ?_
    rintro E w3 ⟨rfl, b3⟩
    obtain ⟨hP3, B3⟩ := PST.out w3 b3
    obtain ⟨q0, q1, q2, q3, q4, q5⟩ := six_of hP3
    have BB := hide B3
    clear CK PST b3 hP3 B3 p0 p1 p2 p3 p4 p5
    go_wp2
    go_ret
    exact ⟨rfl, BB.out⟩
  have hbh4 : (x.r == 3) = false := by simp [h4]
  have eE : Rol.wrE x = 0 := by unfold Rol.wrE; (repeat' split) <;> omega
  rw [eE]
  clear eE hch h0 h0' h3 h4
  unfold vp
  go_enter Tryd.func26, Tryd.ntmps26
  go_wp2_with fail
  refine CK.out.mono ?_
  rintro E w3 ⟨rfl, b3⟩
  obtain ⟨hP3, B3⟩ := PST.out w3 b3
  obtain ⟨q0, q1, q2, q3, q4, q5⟩ := six_of hP3
  have BB := hide B3
  clear CK PST b3 hP3 B3 p0 p1 p2 p3 p4 p5
  go_wp2
  go_ret
  exact ⟨rfl, BB.out⟩

set_option maxRecDepth 20000 in
set_option maxHeartbeats 2000000 in
theorem readsR_any (x : Pm.Pg) (w : World) (hx : FitP x) :
    Calls Tryd.prog 27 #[vp x] w fun E w' => E = .returned (.int .i64 (Rol.rdE x)) ∧ Below w.heap.size w w' := by
  obtain ⟨w2, hw2, sz2, bel2, hP⟩ := blk_step w #[.int .i64 x.e, .int .u8 x.r, .int .i64 x.a, .int .u8 x.p, .int .i64 x.f, .int .i64 x.b] 25
  obtain ⟨p0, p1, p2, p3, p4, p5⟩ := six_of hP
  have PST : Hid (∀ W, Below w2.heap.size w2 W → W.heap[w.heap.size]? = some (.cells #[.int .i64 x.e, .int .u8 x.r, .int .i64 x.a, .int .u8 x.p, .int .i64 x.f, .int .i64 x.b] 25 (0, 0)) ∧ Below w.heap.size w W) := hide fun W hW => ⟨(hW.block w.heap.size (by omega)).trans hP, bel2.trans (hW.mono (by omega))⟩
  clear hP
  have CK := hide (checkR_any x w2 hx)
  obtain ⟨ch, hch⟩ : ∃ c, Pm.chk x = c := ⟨_, rfl⟩
  rw [hch] at CK
  clear bel2 hx
  by_cases h0 : ¬ ch = 0
  case pos =>
    have hb0 : (ch == 0) = false := by simpa using h0
    have eE : Rol.rdE x = ch := by unfold Rol.rdE; (repeat' split) <;> omega
    rw [eE]
    clear eE hch h0
    unfold vp
    go_enter Tryd.func27, Tryd.ntmps27
    go_wp2_with fail
    refine CK.out.mono ?_
    rintro E w3 ⟨rfl, b3⟩
    obtain ⟨hP3, B3⟩ := PST.out w3 b3
    obtain ⟨q0, q1, q2, q3, q4, q5⟩ := six_of hP3
    have BB := hide B3
    clear CK PST b3 hP3 B3 p0 p1 p2 p3 p4 p5
    go_wp2
    go_ret
    exact ⟨rfl, BB.out⟩
  have h0' : ch = 0 := by omega
  have hb0 : (ch == 0) = true := by simp [h0']
  by_cases h4 : x.r = 3
  case pos =>
    have hbh4 : (x.r == 3) = true := by simp [h4]
    have eE : Rol.rdE x = 9 := by unfold Rol.rdE; (repeat' split) <;> omega
    rw [eE]
    clear eE hch h0 h0' h4
    unfold vp
    go_enter Tryd.func27, Tryd.ntmps27
    go_wp2_with fail
    refine CK.out.mono ?_
    rintro E w3 ⟨rfl, b3⟩
    obtain ⟨hP3, B3⟩ := PST.out w3 b3
    obtain ⟨q0, q1, q2, q3, q4, q5⟩ := six_of hP3
    have BB := hide B3
    clear CK PST b3 hP3 B3 p0 p1 p2 p3 p4 p5
    go_wp2
    go_ret
    exact ⟨rfl, BB.out⟩
  have hbh4 : (x.r == 3) = false := by simp [h4]
  have eE : Rol.rdE x = ch := by unfold Rol.rdE; (repeat' split) <;> omega
  rw [eE]
  clear eE hch h0 h0' h4
  unfold vp
  go_enter Tryd.func27, Tryd.ntmps27
  go_wp2_with fail
  refine CK.out.mono ?_
  rintro E w3 ⟨rfl, b3⟩
  obtain ⟨hP3, B3⟩ := PST.out w3 b3
  obtain ⟨q0, q1, q2, q3, q4, q5⟩ := six_of hP3
  have BB := hide B3
  clear CK PST b3 hP3 B3 p0 p1 p2 p3 p4 p5
  go_wp2
  go_ret
  exact ⟨rfl, BB.out⟩

set_option maxRecDepth 20000 in
set_option maxHeartbeats 1000000 in
theorem fileR_any (x : Pm.Pg) (w : World) (hx : FitP x) :
    Calls Tryd.prog 23 #[vp x] w fun E w' => E = .returned (.tuple #[vp (Rol.nx x 2 3), .int .i64 (Rol.nxE x 2)]) ∧ Below w.heap.size w w' := by
  obtain ⟨w1, w2, hw1, hw2, sz1, sz2, bel2, ⟨p0, p1, p2, p3, p4, p5⟩, PST⟩ := role_open x w
  have CK := hide (nextR20_any x 2 3 w2 hx)
  obtain ⟨z, hz⟩ : ∃ z, Rol.nxE x 2 = z := ⟨_, rfl⟩
  obtain ⟨y, hy⟩ : ∃ y, Rol.nx x 2 3 = y := ⟨_, rfl⟩
  rw [hz, hy] at CK ⊢
  clear bel2 hx hz hy
  unfold vp at CK ⊢
  go_enter Tryd.func23, Tryd.ntmps23
  go_wp2_with fail
  refine CK.out.mono ?_
  rintro E w3 ⟨rfl, b3⟩
  obtain ⟨hP3, hR3, B3, sz3⟩ := PST.out w3 b3
  obtain ⟨Z, hZ, _, gZ, ⟨a0, a1, a2, a3, a4, a5⟩, fr, ⟨z0, z1, z2, z3, z4, z5⟩⟩ := put6 hR3 (.int .i64 y.e) (.int .u8 y.r) (.int .i64 y.a) (.int .u8 y.p) (.int .i64 y.f) (.int .i64 y.b)
  have f0 := fr 0; have f1 := fr 1; have f2 := fr 2; have f3 := fr 3; have f4 := fr 4; have f5 := fr 5
  have BB := hide (below_put B3 gZ (by omega) (by omega))
  clear CK PST b3 hP3 hR3 B3 sz3 gZ fr p0 p1 p2 p3 p4 p5
  go_wp2
  refine bodyPost_ret (v := .tuple #[.agg #[.int .i64 y.e, .int .u8 y.r, .int .i64 y.a, .int .u8 y.p, .int .i64 y.f, .int .i64 y.b], .int .i64 z]) (by simp [results, Tryd.results23, go_sem, z0, z1, z2, z3, z4, z5]) rfl ?_
  exact ⟨rfl, BB.out⟩

set_option maxRecDepth 20000 in
set_option maxHeartbeats 1000000 in
theorem cutR20_any (x : Pm.Pg) (w : World) (hx : FitP x) :
    Calls Tryd.prog 24 #[vp x] w fun E w' => E = .returned (.tuple #[vp (Rol.nx x 3 4), .int .i64 (Rol.nxE x 3)]) ∧ Below w.heap.size w w' := by
  obtain ⟨w1, w2, hw1, hw2, sz1, sz2, bel2, ⟨p0, p1, p2, p3, p4, p5⟩, PST⟩ := role_open x w
  have CK := hide (nextR20_any x 3 4 w2 hx)
  obtain ⟨z, hz⟩ : ∃ z, Rol.nxE x 3 = z := ⟨_, rfl⟩
  obtain ⟨y, hy⟩ : ∃ y, Rol.nx x 3 4 = y := ⟨_, rfl⟩
  rw [hz, hy] at CK ⊢
  clear bel2 hx hz hy
  unfold vp at CK ⊢
  go_enter Tryd.func24, Tryd.ntmps24
  go_wp2_with fail
  refine CK.out.mono ?_
  rintro E w3 ⟨rfl, b3⟩
  obtain ⟨hP3, hR3, B3, sz3⟩ := PST.out w3 b3
  obtain ⟨Z, hZ, _, gZ, ⟨a0, a1, a2, a3, a4, a5⟩, fr, ⟨z0, z1, z2, z3, z4, z5⟩⟩ := put6 hR3 (.int .i64 y.e) (.int .u8 y.r) (.int .i64 y.a) (.int .u8 y.p) (.int .i64 y.f) (.int .i64 y.b)
  have f0 := fr 0; have f1 := fr 1; have f2 := fr 2; have f3 := fr 3; have f4 := fr 4; have f5 := fr 5
  have BB := hide (below_put B3 gZ (by omega) (by omega))
  clear CK PST b3 hP3 hR3 B3 sz3 gZ fr p0 p1 p2 p3 p4 p5
  go_wp2
  refine bodyPost_ret (v := .tuple #[.agg #[.int .i64 y.e, .int .u8 y.r, .int .i64 y.a, .int .u8 y.p, .int .i64 y.f, .int .i64 y.b], .int .i64 z]) (by simp [results, Tryd.results24, go_sem, z0, z1, z2, z3, z4, z5]) rfl ?_
  exact ⟨rfl, BB.out⟩

set_option maxRecDepth 20000 in
set_option maxHeartbeats 2000000 in
theorem rejoinR_any (x : Pm.Pg) (w : World) (hx : FitP x) :
    Calls Tryd.prog 25 #[vp x] w fun E w' => E = .returned (.tuple #[vp (Rol.rj x), .int .i64 (Rol.nxE x 4)]) ∧ Below w.heap.size w w' := by
  obtain ⟨w1, w2, hw1, hw2, sz1, sz2, bel2, ⟨p0, p1, p2, p3, p4, p5⟩, PST⟩ := role_open x w
  have CK := hide (nextR20_any x 4 0 w2 hx)
  obtain ⟨z, hz⟩ : ∃ z, Rol.nxE x 4 = z := ⟨_, rfl⟩
  obtain ⟨y, hy⟩ : ∃ y, Rol.nx x 4 0 = y := ⟨_, rfl⟩
  have HYE : Hid (z = 0 → y.e = x.e) := hide fun h => by rw [← hy]; unfold Rol.nx; rw [if_pos (by rw [hz]; exact h)]
  have HRJ : Hid (Rol.rj x = if z = 0 then ⟨x.e, 2, 0, 0, 0, 0⟩ else Pm.no) := hide (by unfold Rol.rj; rw [hz])
  rw [hz, hy] at CK
  rw [hz]
  clear bel2 hx hz hy
  rw [HRJ.out]
  unfold vp at CK
  by_cases h0 : z = 0
  · have hb : (z != 0) = false := by simp [h0]
    rw [if_pos h0]
    have HE0 := hide (HYE.out h0)
    have HZ0 := hide h0
    clear h0 HRJ HYE
    unfold vp
    go_enter Tryd.func25, Tryd.ntmps25
    go_wp2_with fail
    refine CK.out.mono ?_
    rintro E w3 ⟨rfl, b3⟩
    obtain ⟨hP3, hR3, B3, sz3⟩ := PST.out w3 b3
    obtain ⟨M, hM, hPM, gM, ⟨m0, m1, m2, m3, m4, m5⟩, frm, ⟨r0, r1, r2, r3, r4, r5⟩⟩ := put6 hP3 (.int .i64 y.e) (.int .u8 y.r) (.int .i64 y.a) (.int .u8 y.p) (.int .i64 y.f) (.int .i64 y.b)
    have g0 := frm 0; have g1 := frm 1; have g2 := frm 2; have g3 := frm 3; have g4 := frm 4; have g5 := frm 5
    have hRM := (grown_other gM (h := w.heap.size + 1) (by omega)).trans hR3
    have BM := below_put B3 gM (Nat.le_refl _) (by omega)
    have szM := gM.size
    rw [HE0.out] at r0
    obtain ⟨Z, hZ, _, gZ, ⟨a0, a1, a2, a3, a4, a5⟩, fr, ⟨z0, z1, z2, z3, z4, z5⟩⟩ := put6 hRM (.int .i64 x.e) (.int .u8 2) (.int .i64 0) (.int .u8 0) (.int .i64 0) (.int .i64 0)
    have f0 := fr 0; have f1 := fr 1; have f2 := fr 2; have f3 := fr 3; have f4 := fr 4; have f5 := fr 5
    have BB := hide (below_put BM gZ (by omega) (by omega))
    clear CK PST b3 hP3 hR3 B3 sz3 gZ fr p0 p1 p2 p3 p4 p5 hPM gM frm hRM BM szM
    go_wp2
    refine bodyPost_ret (v := .tuple #[.agg #[.int .i64 x.e, .int .u8 2, .int .i64 0, .int .u8 0, .int .i64 0, .int .i64 0], .int .i64 0]) (by simp [results, Tryd.results25, go_sem, z0, z1, z2, z3, z4, z5]) rfl ?_
    exact ⟨by rw [HZ0.out], BB.out⟩
  · have hb : (z != 0) = true := by simpa using h0
    rw [if_neg h0]
    clear h0 HRJ HYE
    unfold vp
    go_enter Tryd.func25, Tryd.ntmps25
    go_wp2_with fail
    refine CK.out.mono ?_
    rintro E w3 ⟨rfl, b3⟩
    obtain ⟨hP3, hR3, B3, sz3⟩ := PST.out w3 b3
    obtain ⟨M, hM, hPM, gM, ⟨m0, m1, m2, m3, m4, m5⟩, frm, ⟨r0, r1, r2, r3, r4, r5⟩⟩ := put6 hP3 (.int .i64 y.e) (.int .u8 y.r) (.int .i64 y.a) (.int .u8 y.p) (.int .i64 y.f) (.int .i64 y.b)
    have g0 := frm 0; have g1 := frm 1; have g2 := frm 2; have g3 := frm 3; have g4 := frm 4; have g5 := frm 5
    have hRM := (grown_other gM (h := w.heap.size + 1) (by omega)).trans hR3
    have BM := below_put B3 gM (Nat.le_refl _) (by omega)
    have szM := gM.size
    obtain ⟨Z, hZ, _, gZ, ⟨a0, a1, a2, a3, a4, a5⟩, fr, ⟨z0, z1, z2, z3, z4, z5⟩⟩ := put6 hRM (.int .i64 0) (.int .u8 0) (.int .i64 0) (.int .u8 0) (.int .i64 0) (.int .i64 0)
    have f0 := fr 0; have f1 := fr 1; have f2 := fr 2; have f3 := fr 3; have f4 := fr 4; have f5 := fr 5
    have BB := hide (below_put BM gZ (by omega) (by omega))
    clear CK PST b3 hP3 hR3 B3 sz3 gZ fr p0 p1 p2 p3 p4 p5 hPM gM frm hRM BM szM
    go_wp2
    refine bodyPost_ret (v := .tuple #[.agg #[.int .i64 0, .int .u8 0, .int .i64 0, .int .u8 0, .int .i64 0, .int .i64 0], .int .i64 z]) (by simp [results, Tryd.results25, go_sem, z0, z1, z2, z3, z4, z5]) rfl ?_
    exact ⟨rfl, BB.out⟩

end Go.Proofs.YthndeolibilnnaaDoor
