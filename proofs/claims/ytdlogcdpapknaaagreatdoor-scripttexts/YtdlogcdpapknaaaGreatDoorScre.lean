/- The document's Check of an act (layer 25). -/
import Derived.Test.YtdlogcdpapknaaaGreatDoorZE
import Derived.Test.YtdlogcdpapknaaaGreatDoorSco
import Derived.Test.YtdlogcdpapknaaaGreatDoorZQ
import Derived.Test.YtdlogcdpapknaaaGreatDoorZR
import Derived.BigQuiet
import Derived.Deep.QuietTactic
namespace Go.Proofs.YtdlogcdpapknaaaGreatDoor
open Go.RowKit
set_option linter.unusedVariables false
set_option maxRecDepth 100000

set_option maxHeartbeats 4000000 in
theorem chk25_1 (a : Sct.Av) (v : Value) (w : World) (h : IsO w v a.ops) (hf : FitO a.ops) (hl : a.ops.length ≤ 140737488355328) (hk : a.k = 1) (hu : 0 ≤ a.u ∧ a.u ≤ 1) (hn : 0 ≤ a.n ∧ a.n ≤ 999999999) (ht : 0 ≤ a.t ∧ a.t ≤ 999999999) (hz : a.key.size ≤ 140737488351232) : Calls Tryz.prog 16 #[acv a v] w (ChR a w) := by
  have OK := hide (ok_chA (a := a) (by omega) hu hn ht)
  have YES : Hid (∀ W, chA a → Below w.heap.size w W → ChR a w (.returned (.int .i64 0)) W) := hide fun W c b => ⟨.inl ⟨OK.out.2 c, rfl⟩, b⟩
  have NO : Hid (∀ W, ¬ chA a → Below w.heap.size w W → ChR a w (.returned (.int .i64 2)) W) := hide fun W c b => ⟨.inr ⟨fun o => c (OK.out.1 o), rfl⟩, b⟩
  unfold acv acc
  rw [hk]
  obtain ⟨w1, hw1, s1, b1, P1⟩ := blk_step w #[.int .i64 1, .int .i64 a.u, .int .i64 a.n, .int .i64 a.t, .string a.key, v] 24
  have c0 := blk_cell P1 0 rfl; have c1 := blk_cell P1 1 rfl; have c2 := blk_cell P1 2 rfl; have c3 := blk_cell P1 3 rfl; have c4 := blk_cell P1 4 rfl; have c5 := blk_cell P1 5 rfl
  obtain ⟨ao, cap, hv, _, _⟩ := h.shape
  have Hn : hsB 1 110 = true := by decide
  have Ha : hsB 1 97 = false := by decide
  have Ht : hsB 1 116 = false := by decide
  have Ho : hsB 1 111 = true := by decide
  have Hk : hsB 1 107 = false := by decide
  have h1 := h.below b1
  have B1 := hide b1
  have HK := hide hk
  rw [hv] at h1 c5 hw1
  rw [hv]
  have H1 := hide h1
  have BC := hide (fun n => bcheckR_any _ a.ops (w1.drewN n) (h1.drewN n) hf hl)
  obtain ⟨g1, g2⟩ := hu; obtain ⟨g3, g4⟩ := hn; obtain ⟨g5, g6⟩ := ht
  have q1 : ¬ a.u < 0 := by omega
  have q2 : ¬ 1 < a.u := by omega
  have q3 : ¬ a.n < 0 := by omega
  have q4 : ¬ 999999999 < a.n := by omega
  have q5 : ¬ a.t < 0 := by omega
  have q6 : ¬ 999999999 < a.t := by omega
  clear h hf hl hk hv P1 b1 h1 s1
  go_enter Tryz.func16, Tryz.ntmps16
  go_wp2_with fail
  go_quiet ((go_at_call 44; refine Calls.quiet_of ((has25 1 _ (by decide) _).mono (by rintro E w1 ⟨rfl, rfl⟩; exact ⟨rfl, 0, rfl⟩))))
  by_cases ya : a.n = 0
  case neg =>
    have za : (a.n != 0) = true := by simp [ya]
    have R : Hid (∀ n, ChR a w (.returned (.int .i64 2)) (w1.drewN n)) := hide fun n => NO.out _ (fun c => ya (c.2.1 (by rw [HK.out]; rfl))) (below_drewN B1.out n)
    go_wp2
    go_ret
    exact R.out _
  have za : (a.n != 0) = false := by simp [ya]
  have Ya := hide ya
  clear ya
  by_cases yt : a.t = 0
  case neg =>
    have zt : (a.t != 0) = true := by simp [yt]
    have R : Hid (∀ n, ChR a w (.returned (.int .i64 2)) (w1.drewN n)) := hide fun n => NO.out _ (fun c => yt (c.2.2.1 (by rw [HK.out]; rfl))) (below_drewN B1.out n)
    go_wp2
    go_ret
    exact R.out _
  have zt : (a.t != 0) = false := by simp [yt]
  have Yt := hide yt
  clear yt
  by_cases yk : a.key = ⟨#[]⟩
  case neg =>
    have zk0 : a.key.toList ≠ [] := fun e => yk (by rw [Lib.toList_data] at e; exact Sct.ba_ext e)
    have zk : (a.key.toList != []) = true := by simpa using zk0
    have zk1 : (a.key.toList == []) = false := by simpa using zk0
    have R : Hid (∀ n, ChR a w (.returned (.int .i64 2)) (w1.drewN n)) := hide fun n => NO.out _ (fun c => yk (c.2.2.2.2.1 (by rw [HK.out]; rfl))) (below_drewN B1.out n)
    go_wp2
    go_ret
    exact R.out _
  have zk0 : a.key.toList = [] := by rw [yk, Lib.toList_data]
  have zk : (a.key.toList != []) = false := by rw [zk0]; rfl
  have zk1 : (a.key.toList == []) = true := by rw [zk0]; rfl
  clear zk0
  have Yk := hide yk
  clear yk
  go_wp2_with fail
  refine (BC.out _).mono ?_
  rintro E w2 ⟨rfl, b2⟩
  have B2 := hide ((below_drewN B1.out _).trans (b2.mono B1.out.size))
  by_cases yc : Bm.chkL a.ops = 0
  case neg =>
    have zc : (Bm.chkL a.ops != 0) = true := by simp [yc]
    have R := hide (NO.out w2 (fun c => yc (c.2.2.2.2.2.1 (by rw [HK.out]; rfl))) B2.out)
    clear BC b2
    go_wp2
    go_ret
    exact R.out
  have zc : (Bm.chkL a.ops != 0) = false := by simp [yc]
  have R := hide (YES.out w2 ⟨fun e => by rw [HK.out] at e; exact absurd e (by decide), fun _ => Ya.out, fun _ => Yt.out, fun e => by rw [HK.out] at e; exact absurd e (by decide), fun _ => Yk.out, fun _ => yc, fun e => by rw [HK.out] at e; exact absurd e (by decide)⟩ B2.out)
  clear yc BC b2
  go_wp2
  go_ret
  exact R.out

set_option maxHeartbeats 4000000 in
theorem chk25_2 (a : Sct.Av) (v : Value) (w : World) (h : IsO w v a.ops) (hf : FitO a.ops) (hl : a.ops.length ≤ 140737488355328) (hk : a.k = 2) (hu : 0 ≤ a.u ∧ a.u ≤ 1) (hn : 0 ≤ a.n ∧ a.n ≤ 999999999) (ht : 0 ≤ a.t ∧ a.t ≤ 999999999) (hz : a.key.size ≤ 140737488351232) : Calls Tryz.prog 16 #[acv a v] w (ChR a w) := by
  have OK := hide (ok_chA (a := a) (by omega) hu hn ht)
  have YES : Hid (∀ W, chA a → Below w.heap.size w W → ChR a w (.returned (.int .i64 0)) W) := hide fun W c b => ⟨.inl ⟨OK.out.2 c, rfl⟩, b⟩
  have NO : Hid (∀ W, ¬ chA a → Below w.heap.size w W → ChR a w (.returned (.int .i64 2)) W) := hide fun W c b => ⟨.inr ⟨fun o => c (OK.out.1 o), rfl⟩, b⟩
  unfold acv acc
  rw [hk]
  obtain ⟨w1, hw1, s1, b1, P1⟩ := blk_step w #[.int .i64 2, .int .i64 a.u, .int .i64 a.n, .int .i64 a.t, .string a.key, v] 24
  have c0 := blk_cell P1 0 rfl; have c1 := blk_cell P1 1 rfl; have c2 := blk_cell P1 2 rfl; have c3 := blk_cell P1 3 rfl; have c4 := blk_cell P1 4 rfl; have c5 := blk_cell P1 5 rfl
  obtain ⟨ao, cap, hv, _, _⟩ := h.shape
  have Hn : hsB 2 110 = true := by decide
  have Ha : hsB 2 97 = false := by decide
  have Ht : hsB 2 116 = false := by decide
  have Ho : hsB 2 111 = false := by decide
  have Hk : hsB 2 107 = true := by decide
  have h1 := h.below b1
  have B1 := hide b1
  have HK := hide hk
  rw [hv] at h1 c5 hw1
  rw [hv]
  have H1 := hide h1
  have KC : Hid (∀ n, Calls Tryz.prog 46 #[.agg #[.bool false, .string a.key, .string ⟨#[]⟩]] (w1.drewN n) fun E w' => E = .returned (.int .i64 (Om.chk false a.key.data.toList [])) ∧ Below (w1.drewN n).heap.size (w1.drewN n) w') := hide fun n => (checkR_any false a.key ⟨#[]⟩ (w1.drewN n) hz (by decide))
  obtain ⟨g1, g2⟩ := hu; obtain ⟨g3, g4⟩ := hn; obtain ⟨g5, g6⟩ := ht
  have q1 : ¬ a.u < 0 := by omega
  have q2 : ¬ 1 < a.u := by omega
  have q3 : ¬ a.n < 0 := by omega
  have q4 : ¬ 999999999 < a.n := by omega
  have q5 : ¬ a.t < 0 := by omega
  have q6 : ¬ 999999999 < a.t := by omega
  have e0 : (a.ops.length : Int) = 0 ↔ a.ops = [] := by rw [← List.length_eq_zero_iff]; omega
  clear h hf hl hk hv P1 b1 h1 s1
  go_enter Tryz.func16, Tryz.ntmps16
  go_wp2_with fail
  go_quiet ((go_at_call 44; refine Calls.quiet_of ((has25 2 _ (by decide) _).mono (by rintro E w1 ⟨rfl, rfl⟩; exact ⟨rfl, 0, rfl⟩))))
  by_cases ya : a.n = 0
  case neg =>
    have za : (a.n != 0) = true := by simp [ya]
    have R : Hid (∀ n, ChR a w (.returned (.int .i64 2)) (w1.drewN n)) := hide fun n => NO.out _ (fun c => ya (c.2.1 (by rw [HK.out]; rfl))) (below_drewN B1.out n)
    go_wp2
    go_ret
    exact R.out _
  have za : (a.n != 0) = false := by simp [ya]
  have Ya := hide ya
  clear ya
  by_cases yt : a.t = 0
  case neg =>
    have zt : (a.t != 0) = true := by simp [yt]
    have R : Hid (∀ n, ChR a w (.returned (.int .i64 2)) (w1.drewN n)) := hide fun n => NO.out _ (fun c => yt (c.2.2.1 (by rw [HK.out]; rfl))) (below_drewN B1.out n)
    go_wp2
    go_ret
    exact R.out _
  have zt : (a.t != 0) = false := by simp [yt]
  have Yt := hide yt
  clear yt
  by_cases yo : a.ops = []
  case neg =>
    have zo : ((a.ops.length : Int) != 0) = true := by simp [yo]
    have R : Hid (∀ n, ChR a w (.returned (.int .i64 2)) (w1.drewN n)) := hide fun n => NO.out _ (fun c => yo (c.2.2.2.1 (by rw [HK.out]; rfl))) (below_drewN B1.out n)
    go_wp2
    go_ret
    exact R.out _
  have zo : ((a.ops.length : Int) != 0) = false := by simp [yo]
  have Yo := hide yo
  clear yo
  go_wp2_with fail
  refine (KC.out _).mono ?_
  rintro E w2 ⟨rfl, b2⟩
  have B2 := hide ((below_drewN B1.out _).trans (b2.mono B1.out.size))
  by_cases yc : Om.chk false a.key.data.toList [] = 0
  case neg =>
    have zc : (Om.chk false a.key.data.toList [] != 0) = true := by simp [yc]
    have R := hide (NO.out w2 (fun c => yc (c.2.2.2.2.2.2 (by rw [HK.out]; rfl))) B2.out)
    clear KC b2
    go_wp2
    go_ret
    exact R.out
  have zc : (Om.chk false a.key.data.toList [] != 0) = false := by simp [yc]
  have R := hide (YES.out w2 ⟨fun e => by rw [HK.out] at e; exact absurd e (by decide), fun _ => Ya.out, fun _ => Yt.out, fun _ => Yo.out, fun e => by rw [HK.out] at e; exact absurd e (by decide), fun e => by rw [HK.out] at e; exact absurd e (by decide), fun _ => yc⟩ B2.out)
  clear yc KC b2
  go_wp2
  go_ret
  exact R.out

set_option maxHeartbeats 4000000 in
theorem chk25_3 (a : Sct.Av) (v : Value) (w : World) (h : IsO w v a.ops) (hf : FitO a.ops) (hl : a.ops.length ≤ 140737488355328) (hk : a.k = 3) (hu : 0 ≤ a.u ∧ a.u ≤ 1) (hn : 0 ≤ a.n ∧ a.n ≤ 999999999) (ht : 0 ≤ a.t ∧ a.t ≤ 999999999) (hz : a.key.size ≤ 140737488351232) : Calls Tryz.prog 16 #[acv a v] w (ChR a w) := by
  have OK := hide (ok_chA (a := a) (by omega) hu hn ht)
  have YES : Hid (∀ W, chA a → Below w.heap.size w W → ChR a w (.returned (.int .i64 0)) W) := hide fun W c b => ⟨.inl ⟨OK.out.2 c, rfl⟩, b⟩
  have NO : Hid (∀ W, ¬ chA a → Below w.heap.size w W → ChR a w (.returned (.int .i64 2)) W) := hide fun W c b => ⟨.inr ⟨fun o => c (OK.out.1 o), rfl⟩, b⟩
  unfold acv acc
  rw [hk]
  obtain ⟨w1, hw1, s1, b1, P1⟩ := blk_step w #[.int .i64 3, .int .i64 a.u, .int .i64 a.n, .int .i64 a.t, .string a.key, v] 24
  have c0 := blk_cell P1 0 rfl; have c1 := blk_cell P1 1 rfl; have c2 := blk_cell P1 2 rfl; have c3 := blk_cell P1 3 rfl; have c4 := blk_cell P1 4 rfl; have c5 := blk_cell P1 5 rfl
  obtain ⟨ao, cap, hv, _, _⟩ := h.shape
  have Hn : hsB 3 110 = true := by decide
  have Ha : hsB 3 97 = false := by decide
  have Ht : hsB 3 116 = false := by decide
  have Ho : hsB 3 111 = false := by decide
  have Hk : hsB 3 107 = false := by decide
  have h1 := h.below b1
  have B1 := hide b1
  have HK := hide hk
  rw [hv] at h1 c5 hw1
  rw [hv]
  have H1 := hide h1
  obtain ⟨g1, g2⟩ := hu; obtain ⟨g3, g4⟩ := hn; obtain ⟨g5, g6⟩ := ht
  have q1 : ¬ a.u < 0 := by omega
  have q2 : ¬ 1 < a.u := by omega
  have q3 : ¬ a.n < 0 := by omega
  have q4 : ¬ 999999999 < a.n := by omega
  have q5 : ¬ a.t < 0 := by omega
  have q6 : ¬ 999999999 < a.t := by omega
  have e0 : (a.ops.length : Int) = 0 ↔ a.ops = [] := by rw [← List.length_eq_zero_iff]; omega
  clear h hf hl hk hv P1 b1 h1 s1
  go_enter Tryz.func16, Tryz.ntmps16
  go_wp2_with fail
  go_quiet ((go_at_call 44; refine Calls.quiet_of ((has25 3 _ (by decide) _).mono (by rintro E w1 ⟨rfl, rfl⟩; exact ⟨rfl, 0, rfl⟩))))
  by_cases ya : a.n = 0
  case neg =>
    have za : (a.n != 0) = true := by simp [ya]
    have R : Hid (∀ n, ChR a w (.returned (.int .i64 2)) (w1.drewN n)) := hide fun n => NO.out _ (fun c => ya (c.2.1 (by rw [HK.out]; rfl))) (below_drewN B1.out n)
    go_wp2
    go_ret
    exact R.out _
  have za : (a.n != 0) = false := by simp [ya]
  have Ya := hide ya
  clear ya
  by_cases yt : a.t = 0
  case neg =>
    have zt : (a.t != 0) = true := by simp [yt]
    have R : Hid (∀ n, ChR a w (.returned (.int .i64 2)) (w1.drewN n)) := hide fun n => NO.out _ (fun c => yt (c.2.2.1 (by rw [HK.out]; rfl))) (below_drewN B1.out n)
    go_wp2
    go_ret
    exact R.out _
  have zt : (a.t != 0) = false := by simp [yt]
  have Yt := hide yt
  clear yt
  by_cases yo : a.ops = []
  case neg =>
    have zo : ((a.ops.length : Int) != 0) = true := by simp [yo]
    have R : Hid (∀ n, ChR a w (.returned (.int .i64 2)) (w1.drewN n)) := hide fun n => NO.out _ (fun c => yo (c.2.2.2.1 (by rw [HK.out]; rfl))) (below_drewN B1.out n)
    go_wp2
    go_ret
    exact R.out _
  have zo : ((a.ops.length : Int) != 0) = false := by simp [yo]
  have Yo := hide yo
  clear yo
  by_cases yk : a.key = ⟨#[]⟩
  case neg =>
    have zk0 : a.key.toList ≠ [] := fun e => yk (by rw [Lib.toList_data] at e; exact Sct.ba_ext e)
    have zk : (a.key.toList != []) = true := by simpa using zk0
    have zk1 : (a.key.toList == []) = false := by simpa using zk0
    have R : Hid (∀ n, ChR a w (.returned (.int .i64 2)) (w1.drewN n)) := hide fun n => NO.out _ (fun c => yk (c.2.2.2.2.1 (by rw [HK.out]; rfl))) (below_drewN B1.out n)
    go_wp2
    go_ret
    exact R.out _
  have zk0 : a.key.toList = [] := by rw [yk, Lib.toList_data]
  have zk : (a.key.toList != []) = false := by rw [zk0]; rfl
  have zk1 : (a.key.toList == []) = true := by rw [zk0]; rfl
  clear zk0
  have Yk := hide yk
  clear yk
  have R : Hid (∀ n, ChR a w (.returned (.int .i64 0)) (w1.drewN n)) := hide fun n => YES.out _ ⟨fun e => by rw [HK.out] at e; exact absurd e (by decide), fun _ => Ya.out, fun _ => Yt.out, fun _ => Yo.out, fun _ => Yk.out, fun e => by rw [HK.out] at e; exact absurd e (by decide), fun e => by rw [HK.out] at e; exact absurd e (by decide)⟩ (below_drewN B1.out n)
  go_wp2
  go_ret
  exact R.out _

set_option maxHeartbeats 4000000 in
theorem chk25_4 (a : Sct.Av) (v : Value) (w : World) (h : IsO w v a.ops) (hf : FitO a.ops) (hl : a.ops.length ≤ 140737488355328) (hk : a.k = 4) (hu : 0 ≤ a.u ∧ a.u ≤ 1) (hn : 0 ≤ a.n ∧ a.n ≤ 999999999) (ht : 0 ≤ a.t ∧ a.t ≤ 999999999) (hz : a.key.size ≤ 140737488351232) : Calls Tryz.prog 16 #[acv a v] w (ChR a w) := by
  have OK := hide (ok_chA (a := a) (by omega) hu hn ht)
  have YES : Hid (∀ W, chA a → Below w.heap.size w W → ChR a w (.returned (.int .i64 0)) W) := hide fun W c b => ⟨.inl ⟨OK.out.2 c, rfl⟩, b⟩
  have NO : Hid (∀ W, ¬ chA a → Below w.heap.size w W → ChR a w (.returned (.int .i64 2)) W) := hide fun W c b => ⟨.inr ⟨fun o => c (OK.out.1 o), rfl⟩, b⟩
  unfold acv acc
  rw [hk]
  obtain ⟨w1, hw1, s1, b1, P1⟩ := blk_step w #[.int .i64 4, .int .i64 a.u, .int .i64 a.n, .int .i64 a.t, .string a.key, v] 24
  have c0 := blk_cell P1 0 rfl; have c1 := blk_cell P1 1 rfl; have c2 := blk_cell P1 2 rfl; have c3 := blk_cell P1 3 rfl; have c4 := blk_cell P1 4 rfl; have c5 := blk_cell P1 5 rfl
  obtain ⟨ao, cap, hv, _, _⟩ := h.shape
  have Hn : hsB 4 110 = true := by decide
  have Ha : hsB 4 97 = false := by decide
  have Ht : hsB 4 116 = false := by decide
  have Ho : hsB 4 111 = false := by decide
  have Hk : hsB 4 107 = false := by decide
  have h1 := h.below b1
  have B1 := hide b1
  have HK := hide hk
  rw [hv] at h1 c5 hw1
  rw [hv]
  have H1 := hide h1
  obtain ⟨g1, g2⟩ := hu; obtain ⟨g3, g4⟩ := hn; obtain ⟨g5, g6⟩ := ht
  have q1 : ¬ a.u < 0 := by omega
  have q2 : ¬ 1 < a.u := by omega
  have q3 : ¬ a.n < 0 := by omega
  have q4 : ¬ 999999999 < a.n := by omega
  have q5 : ¬ a.t < 0 := by omega
  have q6 : ¬ 999999999 < a.t := by omega
  have e0 : (a.ops.length : Int) = 0 ↔ a.ops = [] := by rw [← List.length_eq_zero_iff]; omega
  clear h hf hl hk hv P1 b1 h1 s1
  go_enter Tryz.func16, Tryz.ntmps16
  go_wp2_with fail
  go_quiet ((go_at_call 44; refine Calls.quiet_of ((has25 4 _ (by decide) _).mono (by rintro E w1 ⟨rfl, rfl⟩; exact ⟨rfl, 0, rfl⟩))))
  by_cases ya : a.n = 0
  case neg =>
    have za : (a.n != 0) = true := by simp [ya]
    have R : Hid (∀ n, ChR a w (.returned (.int .i64 2)) (w1.drewN n)) := hide fun n => NO.out _ (fun c => ya (c.2.1 (by rw [HK.out]; rfl))) (below_drewN B1.out n)
    go_wp2
    go_ret
    exact R.out _
  have za : (a.n != 0) = false := by simp [ya]
  have Ya := hide ya
  clear ya
  by_cases yt : a.t = 0
  case neg =>
    have zt : (a.t != 0) = true := by simp [yt]
    have R : Hid (∀ n, ChR a w (.returned (.int .i64 2)) (w1.drewN n)) := hide fun n => NO.out _ (fun c => yt (c.2.2.1 (by rw [HK.out]; rfl))) (below_drewN B1.out n)
    go_wp2
    go_ret
    exact R.out _
  have zt : (a.t != 0) = false := by simp [yt]
  have Yt := hide yt
  clear yt
  by_cases yo : a.ops = []
  case neg =>
    have zo : ((a.ops.length : Int) != 0) = true := by simp [yo]
    have R : Hid (∀ n, ChR a w (.returned (.int .i64 2)) (w1.drewN n)) := hide fun n => NO.out _ (fun c => yo (c.2.2.2.1 (by rw [HK.out]; rfl))) (below_drewN B1.out n)
    go_wp2
    go_ret
    exact R.out _
  have zo : ((a.ops.length : Int) != 0) = false := by simp [yo]
  have Yo := hide yo
  clear yo
  by_cases yk : a.key = ⟨#[]⟩
  case neg =>
    have zk0 : a.key.toList ≠ [] := fun e => yk (by rw [Lib.toList_data] at e; exact Sct.ba_ext e)
    have zk : (a.key.toList != []) = true := by simpa using zk0
    have zk1 : (a.key.toList == []) = false := by simpa using zk0
    have R : Hid (∀ n, ChR a w (.returned (.int .i64 2)) (w1.drewN n)) := hide fun n => NO.out _ (fun c => yk (c.2.2.2.2.1 (by rw [HK.out]; rfl))) (below_drewN B1.out n)
    go_wp2
    go_ret
    exact R.out _
  have zk0 : a.key.toList = [] := by rw [yk, Lib.toList_data]
  have zk : (a.key.toList != []) = false := by rw [zk0]; rfl
  have zk1 : (a.key.toList == []) = true := by rw [zk0]; rfl
  clear zk0
  have Yk := hide yk
  clear yk
  have R : Hid (∀ n, ChR a w (.returned (.int .i64 0)) (w1.drewN n)) := hide fun n => YES.out _ ⟨fun e => by rw [HK.out] at e; exact absurd e (by decide), fun _ => Ya.out, fun _ => Yt.out, fun _ => Yo.out, fun _ => Yk.out, fun e => by rw [HK.out] at e; exact absurd e (by decide), fun e => by rw [HK.out] at e; exact absurd e (by decide)⟩ (below_drewN B1.out n)
  go_wp2
  go_ret
  exact R.out _

set_option maxHeartbeats 4000000 in
theorem chk25_5 (a : Sct.Av) (v : Value) (w : World) (h : IsO w v a.ops) (hf : FitO a.ops) (hl : a.ops.length ≤ 140737488355328) (hk : a.k = 5) (hu : 0 ≤ a.u ∧ a.u ≤ 1) (hn : 0 ≤ a.n ∧ a.n ≤ 999999999) (ht : 0 ≤ a.t ∧ a.t ≤ 999999999) (hz : a.key.size ≤ 140737488351232) : Calls Tryz.prog 16 #[acv a v] w (ChR a w) := by
  have OK := hide (ok_chA (a := a) (by omega) hu hn ht)
  have YES : Hid (∀ W, chA a → Below w.heap.size w W → ChR a w (.returned (.int .i64 0)) W) := hide fun W c b => ⟨.inl ⟨OK.out.2 c, rfl⟩, b⟩
  have NO : Hid (∀ W, ¬ chA a → Below w.heap.size w W → ChR a w (.returned (.int .i64 2)) W) := hide fun W c b => ⟨.inr ⟨fun o => c (OK.out.1 o), rfl⟩, b⟩
  unfold acv acc
  rw [hk]
  obtain ⟨w1, hw1, s1, b1, P1⟩ := blk_step w #[.int .i64 5, .int .i64 a.u, .int .i64 a.n, .int .i64 a.t, .string a.key, v] 24
  have c0 := blk_cell P1 0 rfl; have c1 := blk_cell P1 1 rfl; have c2 := blk_cell P1 2 rfl; have c3 := blk_cell P1 3 rfl; have c4 := blk_cell P1 4 rfl; have c5 := blk_cell P1 5 rfl
  obtain ⟨ao, cap, hv, _, _⟩ := h.shape
  have Hn : hsB 5 110 = true := by decide
  have Ha : hsB 5 97 = false := by decide
  have Ht : hsB 5 116 = false := by decide
  have Ho : hsB 5 111 = false := by decide
  have Hk : hsB 5 107 = false := by decide
  have h1 := h.below b1
  have B1 := hide b1
  have HK := hide hk
  rw [hv] at h1 c5 hw1
  rw [hv]
  have H1 := hide h1
  obtain ⟨g1, g2⟩ := hu; obtain ⟨g3, g4⟩ := hn; obtain ⟨g5, g6⟩ := ht
  have q1 : ¬ a.u < 0 := by omega
  have q2 : ¬ 1 < a.u := by omega
  have q3 : ¬ a.n < 0 := by omega
  have q4 : ¬ 999999999 < a.n := by omega
  have q5 : ¬ a.t < 0 := by omega
  have q6 : ¬ 999999999 < a.t := by omega
  have e0 : (a.ops.length : Int) = 0 ↔ a.ops = [] := by rw [← List.length_eq_zero_iff]; omega
  clear h hf hl hk hv P1 b1 h1 s1
  go_enter Tryz.func16, Tryz.ntmps16
  go_wp2_with fail
  go_quiet ((go_at_call 44; refine Calls.quiet_of ((has25 5 _ (by decide) _).mono (by rintro E w1 ⟨rfl, rfl⟩; exact ⟨rfl, 0, rfl⟩))))
  by_cases ya : a.n = 0
  case neg =>
    have za : (a.n != 0) = true := by simp [ya]
    have R : Hid (∀ n, ChR a w (.returned (.int .i64 2)) (w1.drewN n)) := hide fun n => NO.out _ (fun c => ya (c.2.1 (by rw [HK.out]; rfl))) (below_drewN B1.out n)
    go_wp2
    go_ret
    exact R.out _
  have za : (a.n != 0) = false := by simp [ya]
  have Ya := hide ya
  clear ya
  by_cases yt : a.t = 0
  case neg =>
    have zt : (a.t != 0) = true := by simp [yt]
    have R : Hid (∀ n, ChR a w (.returned (.int .i64 2)) (w1.drewN n)) := hide fun n => NO.out _ (fun c => yt (c.2.2.1 (by rw [HK.out]; rfl))) (below_drewN B1.out n)
    go_wp2
    go_ret
    exact R.out _
  have zt : (a.t != 0) = false := by simp [yt]
  have Yt := hide yt
  clear yt
  by_cases yo : a.ops = []
  case neg =>
    have zo : ((a.ops.length : Int) != 0) = true := by simp [yo]
    have R : Hid (∀ n, ChR a w (.returned (.int .i64 2)) (w1.drewN n)) := hide fun n => NO.out _ (fun c => yo (c.2.2.2.1 (by rw [HK.out]; rfl))) (below_drewN B1.out n)
    go_wp2
    go_ret
    exact R.out _
  have zo : ((a.ops.length : Int) != 0) = false := by simp [yo]
  have Yo := hide yo
  clear yo
  by_cases yk : a.key = ⟨#[]⟩
  case neg =>
    have zk0 : a.key.toList ≠ [] := fun e => yk (by rw [Lib.toList_data] at e; exact Sct.ba_ext e)
    have zk : (a.key.toList != []) = true := by simpa using zk0
    have zk1 : (a.key.toList == []) = false := by simpa using zk0
    have R : Hid (∀ n, ChR a w (.returned (.int .i64 2)) (w1.drewN n)) := hide fun n => NO.out _ (fun c => yk (c.2.2.2.2.1 (by rw [HK.out]; rfl))) (below_drewN B1.out n)
    go_wp2
    go_ret
    exact R.out _
  have zk0 : a.key.toList = [] := by rw [yk, Lib.toList_data]
  have zk : (a.key.toList != []) = false := by rw [zk0]; rfl
  have zk1 : (a.key.toList == []) = true := by rw [zk0]; rfl
  clear zk0
  have Yk := hide yk
  clear yk
  have R : Hid (∀ n, ChR a w (.returned (.int .i64 0)) (w1.drewN n)) := hide fun n => YES.out _ ⟨fun e => by rw [HK.out] at e; exact absurd e (by decide), fun _ => Ya.out, fun _ => Yt.out, fun _ => Yo.out, fun _ => Yk.out, fun e => by rw [HK.out] at e; exact absurd e (by decide), fun e => by rw [HK.out] at e; exact absurd e (by decide)⟩ (below_drewN B1.out n)
  go_wp2
  go_ret
  exact R.out _

set_option maxHeartbeats 4000000 in
theorem chk25_6 (a : Sct.Av) (v : Value) (w : World) (h : IsO w v a.ops) (hf : FitO a.ops) (hl : a.ops.length ≤ 140737488355328) (hk : a.k = 6) (hu : 0 ≤ a.u ∧ a.u ≤ 1) (hn : 0 ≤ a.n ∧ a.n ≤ 999999999) (ht : 0 ≤ a.t ∧ a.t ≤ 999999999) (hz : a.key.size ≤ 140737488351232) : Calls Tryz.prog 16 #[acv a v] w (ChR a w) := by
  have OK := hide (ok_chA (a := a) (by omega) hu hn ht)
  have YES : Hid (∀ W, chA a → Below w.heap.size w W → ChR a w (.returned (.int .i64 0)) W) := hide fun W c b => ⟨.inl ⟨OK.out.2 c, rfl⟩, b⟩
  have NO : Hid (∀ W, ¬ chA a → Below w.heap.size w W → ChR a w (.returned (.int .i64 2)) W) := hide fun W c b => ⟨.inr ⟨fun o => c (OK.out.1 o), rfl⟩, b⟩
  unfold acv acc
  rw [hk]
  obtain ⟨w1, hw1, s1, b1, P1⟩ := blk_step w #[.int .i64 6, .int .i64 a.u, .int .i64 a.n, .int .i64 a.t, .string a.key, v] 24
  have c0 := blk_cell P1 0 rfl; have c1 := blk_cell P1 1 rfl; have c2 := blk_cell P1 2 rfl; have c3 := blk_cell P1 3 rfl; have c4 := blk_cell P1 4 rfl; have c5 := blk_cell P1 5 rfl
  obtain ⟨ao, cap, hv, _, _⟩ := h.shape
  have Hn : hsB 6 110 = false := by decide
  have Ha : hsB 6 97 = true := by decide
  have Ht : hsB 6 116 = false := by decide
  have Ho : hsB 6 111 = false := by decide
  have Hk : hsB 6 107 = false := by decide
  have h1 := h.below b1
  have B1 := hide b1
  have HK := hide hk
  rw [hv] at h1 c5 hw1
  rw [hv]
  have H1 := hide h1
  obtain ⟨g1, g2⟩ := hu; obtain ⟨g3, g4⟩ := hn; obtain ⟨g5, g6⟩ := ht
  have q1 : ¬ a.u < 0 := by omega
  have q2 : ¬ 1 < a.u := by omega
  have q3 : ¬ a.n < 0 := by omega
  have q4 : ¬ 999999999 < a.n := by omega
  have q5 : ¬ a.t < 0 := by omega
  have q6 : ¬ 999999999 < a.t := by omega
  have e0 : (a.ops.length : Int) = 0 ↔ a.ops = [] := by rw [← List.length_eq_zero_iff]; omega
  clear h hf hl hk hv P1 b1 h1 s1
  go_enter Tryz.func16, Tryz.ntmps16
  go_wp2_with fail
  go_quiet ((go_at_call 44; refine Calls.quiet_of ((has25 6 _ (by decide) _).mono (by rintro E w1 ⟨rfl, rfl⟩; exact ⟨rfl, 0, rfl⟩))))
  by_cases yn : a.u = 0
  case neg =>
    have zn : (a.u != 0) = true := by simp [yn]
    have R : Hid (∀ n, ChR a w (.returned (.int .i64 2)) (w1.drewN n)) := hide fun n => NO.out _ (fun c => yn (c.1 (by rw [HK.out]; rfl))) (below_drewN B1.out n)
    go_wp2
    go_ret
    exact R.out _
  have zn : (a.u != 0) = false := by simp [yn]
  have Yn := hide yn
  clear yn
  by_cases yt : a.t = 0
  case neg =>
    have zt : (a.t != 0) = true := by simp [yt]
    have R : Hid (∀ n, ChR a w (.returned (.int .i64 2)) (w1.drewN n)) := hide fun n => NO.out _ (fun c => yt (c.2.2.1 (by rw [HK.out]; rfl))) (below_drewN B1.out n)
    go_wp2
    go_ret
    exact R.out _
  have zt : (a.t != 0) = false := by simp [yt]
  have Yt := hide yt
  clear yt
  by_cases yo : a.ops = []
  case neg =>
    have zo : ((a.ops.length : Int) != 0) = true := by simp [yo]
    have R : Hid (∀ n, ChR a w (.returned (.int .i64 2)) (w1.drewN n)) := hide fun n => NO.out _ (fun c => yo (c.2.2.2.1 (by rw [HK.out]; rfl))) (below_drewN B1.out n)
    go_wp2
    go_ret
    exact R.out _
  have zo : ((a.ops.length : Int) != 0) = false := by simp [yo]
  have Yo := hide yo
  clear yo
  by_cases yk : a.key = ⟨#[]⟩
  case neg =>
    have zk0 : a.key.toList ≠ [] := fun e => yk (by rw [Lib.toList_data] at e; exact Sct.ba_ext e)
    have zk : (a.key.toList != []) = true := by simpa using zk0
    have zk1 : (a.key.toList == []) = false := by simpa using zk0
    have R : Hid (∀ n, ChR a w (.returned (.int .i64 2)) (w1.drewN n)) := hide fun n => NO.out _ (fun c => yk (c.2.2.2.2.1 (by rw [HK.out]; rfl))) (below_drewN B1.out n)
    go_wp2
    go_ret
    exact R.out _
  have zk0 : a.key.toList = [] := by rw [yk, Lib.toList_data]
  have zk : (a.key.toList != []) = false := by rw [zk0]; rfl
  have zk1 : (a.key.toList == []) = true := by rw [zk0]; rfl
  clear zk0
  have Yk := hide yk
  clear yk
  have R : Hid (∀ n, ChR a w (.returned (.int .i64 0)) (w1.drewN n)) := hide fun n => YES.out _ ⟨fun _ => Yn.out, fun e => by rw [HK.out] at e; exact absurd e (by decide), fun _ => Yt.out, fun _ => Yo.out, fun _ => Yk.out, fun e => by rw [HK.out] at e; exact absurd e (by decide), fun e => by rw [HK.out] at e; exact absurd e (by decide)⟩ (below_drewN B1.out n)
  go_wp2
  go_ret
  exact R.out _

set_option maxHeartbeats 4000000 in
theorem chk25_7 (a : Sct.Av) (v : Value) (w : World) (h : IsO w v a.ops) (hf : FitO a.ops) (hl : a.ops.length ≤ 140737488355328) (hk : a.k = 7) (hu : 0 ≤ a.u ∧ a.u ≤ 1) (hn : 0 ≤ a.n ∧ a.n ≤ 999999999) (ht : 0 ≤ a.t ∧ a.t ≤ 999999999) (hz : a.key.size ≤ 140737488351232) : Calls Tryz.prog 16 #[acv a v] w (ChR a w) := by
  have OK := hide (ok_chA (a := a) (by omega) hu hn ht)
  have YES : Hid (∀ W, chA a → Below w.heap.size w W → ChR a w (.returned (.int .i64 0)) W) := hide fun W c b => ⟨.inl ⟨OK.out.2 c, rfl⟩, b⟩
  have NO : Hid (∀ W, ¬ chA a → Below w.heap.size w W → ChR a w (.returned (.int .i64 2)) W) := hide fun W c b => ⟨.inr ⟨fun o => c (OK.out.1 o), rfl⟩, b⟩
  unfold acv acc
  rw [hk]
  obtain ⟨w1, hw1, s1, b1, P1⟩ := blk_step w #[.int .i64 7, .int .i64 a.u, .int .i64 a.n, .int .i64 a.t, .string a.key, v] 24
  have c0 := blk_cell P1 0 rfl; have c1 := blk_cell P1 1 rfl; have c2 := blk_cell P1 2 rfl; have c3 := blk_cell P1 3 rfl; have c4 := blk_cell P1 4 rfl; have c5 := blk_cell P1 5 rfl
  obtain ⟨ao, cap, hv, _, _⟩ := h.shape
  have Hn : hsB 7 110 = false := by decide
  have Ha : hsB 7 97 = true := by decide
  have Ht : hsB 7 116 = false := by decide
  have Ho : hsB 7 111 = false := by decide
  have Hk : hsB 7 107 = false := by decide
  have h1 := h.below b1
  have B1 := hide b1
  have HK := hide hk
  rw [hv] at h1 c5 hw1
  rw [hv]
  have H1 := hide h1
  obtain ⟨g1, g2⟩ := hu; obtain ⟨g3, g4⟩ := hn; obtain ⟨g5, g6⟩ := ht
  have q1 : ¬ a.u < 0 := by omega
  have q2 : ¬ 1 < a.u := by omega
  have q3 : ¬ a.n < 0 := by omega
  have q4 : ¬ 999999999 < a.n := by omega
  have q5 : ¬ a.t < 0 := by omega
  have q6 : ¬ 999999999 < a.t := by omega
  have e0 : (a.ops.length : Int) = 0 ↔ a.ops = [] := by rw [← List.length_eq_zero_iff]; omega
  clear h hf hl hk hv P1 b1 h1 s1
  go_enter Tryz.func16, Tryz.ntmps16
  go_wp2_with fail
  go_quiet ((go_at_call 44; refine Calls.quiet_of ((has25 7 _ (by decide) _).mono (by rintro E w1 ⟨rfl, rfl⟩; exact ⟨rfl, 0, rfl⟩))))
  by_cases yn : a.u = 0
  case neg =>
    have zn : (a.u != 0) = true := by simp [yn]
    have R : Hid (∀ n, ChR a w (.returned (.int .i64 2)) (w1.drewN n)) := hide fun n => NO.out _ (fun c => yn (c.1 (by rw [HK.out]; rfl))) (below_drewN B1.out n)
    go_wp2
    go_ret
    exact R.out _
  have zn : (a.u != 0) = false := by simp [yn]
  have Yn := hide yn
  clear yn
  by_cases yt : a.t = 0
  case neg =>
    have zt : (a.t != 0) = true := by simp [yt]
    have R : Hid (∀ n, ChR a w (.returned (.int .i64 2)) (w1.drewN n)) := hide fun n => NO.out _ (fun c => yt (c.2.2.1 (by rw [HK.out]; rfl))) (below_drewN B1.out n)
    go_wp2
    go_ret
    exact R.out _
  have zt : (a.t != 0) = false := by simp [yt]
  have Yt := hide yt
  clear yt
  by_cases yo : a.ops = []
  case neg =>
    have zo : ((a.ops.length : Int) != 0) = true := by simp [yo]
    have R : Hid (∀ n, ChR a w (.returned (.int .i64 2)) (w1.drewN n)) := hide fun n => NO.out _ (fun c => yo (c.2.2.2.1 (by rw [HK.out]; rfl))) (below_drewN B1.out n)
    go_wp2
    go_ret
    exact R.out _
  have zo : ((a.ops.length : Int) != 0) = false := by simp [yo]
  have Yo := hide yo
  clear yo
  by_cases yk : a.key = ⟨#[]⟩
  case neg =>
    have zk0 : a.key.toList ≠ [] := fun e => yk (by rw [Lib.toList_data] at e; exact Sct.ba_ext e)
    have zk : (a.key.toList != []) = true := by simpa using zk0
    have zk1 : (a.key.toList == []) = false := by simpa using zk0
    have R : Hid (∀ n, ChR a w (.returned (.int .i64 2)) (w1.drewN n)) := hide fun n => NO.out _ (fun c => yk (c.2.2.2.2.1 (by rw [HK.out]; rfl))) (below_drewN B1.out n)
    go_wp2
    go_ret
    exact R.out _
  have zk0 : a.key.toList = [] := by rw [yk, Lib.toList_data]
  have zk : (a.key.toList != []) = false := by rw [zk0]; rfl
  have zk1 : (a.key.toList == []) = true := by rw [zk0]; rfl
  clear zk0
  have Yk := hide yk
  clear yk
  have R : Hid (∀ n, ChR a w (.returned (.int .i64 0)) (w1.drewN n)) := hide fun n => YES.out _ ⟨fun _ => Yn.out, fun e => by rw [HK.out] at e; exact absurd e (by decide), fun _ => Yt.out, fun _ => Yo.out, fun _ => Yk.out, fun e => by rw [HK.out] at e; exact absurd e (by decide), fun e => by rw [HK.out] at e; exact absurd e (by decide)⟩ (below_drewN B1.out n)
  go_wp2
  go_ret
  exact R.out _

set_option maxHeartbeats 4000000 in
theorem chk25_8 (a : Sct.Av) (v : Value) (w : World) (h : IsO w v a.ops) (hf : FitO a.ops) (hl : a.ops.length ≤ 140737488355328) (hk : a.k = 8) (hu : 0 ≤ a.u ∧ a.u ≤ 1) (hn : 0 ≤ a.n ∧ a.n ≤ 999999999) (ht : 0 ≤ a.t ∧ a.t ≤ 999999999) (hz : a.key.size ≤ 140737488351232) : Calls Tryz.prog 16 #[acv a v] w (ChR a w) := by
  have OK := hide (ok_chA (a := a) (by omega) hu hn ht)
  have YES : Hid (∀ W, chA a → Below w.heap.size w W → ChR a w (.returned (.int .i64 0)) W) := hide fun W c b => ⟨.inl ⟨OK.out.2 c, rfl⟩, b⟩
  have NO : Hid (∀ W, ¬ chA a → Below w.heap.size w W → ChR a w (.returned (.int .i64 2)) W) := hide fun W c b => ⟨.inr ⟨fun o => c (OK.out.1 o), rfl⟩, b⟩
  unfold acv acc
  rw [hk]
  obtain ⟨w1, hw1, s1, b1, P1⟩ := blk_step w #[.int .i64 8, .int .i64 a.u, .int .i64 a.n, .int .i64 a.t, .string a.key, v] 24
  have c0 := blk_cell P1 0 rfl; have c1 := blk_cell P1 1 rfl; have c2 := blk_cell P1 2 rfl; have c3 := blk_cell P1 3 rfl; have c4 := blk_cell P1 4 rfl; have c5 := blk_cell P1 5 rfl
  obtain ⟨ao, cap, hv, _, _⟩ := h.shape
  have Hn : hsB 8 110 = false := by decide
  have Ha : hsB 8 97 = true := by decide
  have Ht : hsB 8 116 = false := by decide
  have Ho : hsB 8 111 = false := by decide
  have Hk : hsB 8 107 = false := by decide
  have h1 := h.below b1
  have B1 := hide b1
  have HK := hide hk
  rw [hv] at h1 c5 hw1
  rw [hv]
  have H1 := hide h1
  obtain ⟨g1, g2⟩ := hu; obtain ⟨g3, g4⟩ := hn; obtain ⟨g5, g6⟩ := ht
  have q1 : ¬ a.u < 0 := by omega
  have q2 : ¬ 1 < a.u := by omega
  have q3 : ¬ a.n < 0 := by omega
  have q4 : ¬ 999999999 < a.n := by omega
  have q5 : ¬ a.t < 0 := by omega
  have q6 : ¬ 999999999 < a.t := by omega
  have e0 : (a.ops.length : Int) = 0 ↔ a.ops = [] := by rw [← List.length_eq_zero_iff]; omega
  clear h hf hl hk hv P1 b1 h1 s1
  go_enter Tryz.func16, Tryz.ntmps16
  go_wp2_with fail
  go_quiet ((go_at_call 44; refine Calls.quiet_of ((has25 8 _ (by decide) _).mono (by rintro E w1 ⟨rfl, rfl⟩; exact ⟨rfl, 0, rfl⟩))))
  by_cases yn : a.u = 0
  case neg =>
    have zn : (a.u != 0) = true := by simp [yn]
    have R : Hid (∀ n, ChR a w (.returned (.int .i64 2)) (w1.drewN n)) := hide fun n => NO.out _ (fun c => yn (c.1 (by rw [HK.out]; rfl))) (below_drewN B1.out n)
    go_wp2
    go_ret
    exact R.out _
  have zn : (a.u != 0) = false := by simp [yn]
  have Yn := hide yn
  clear yn
  by_cases yt : a.t = 0
  case neg =>
    have zt : (a.t != 0) = true := by simp [yt]
    have R : Hid (∀ n, ChR a w (.returned (.int .i64 2)) (w1.drewN n)) := hide fun n => NO.out _ (fun c => yt (c.2.2.1 (by rw [HK.out]; rfl))) (below_drewN B1.out n)
    go_wp2
    go_ret
    exact R.out _
  have zt : (a.t != 0) = false := by simp [yt]
  have Yt := hide yt
  clear yt
  by_cases yo : a.ops = []
  case neg =>
    have zo : ((a.ops.length : Int) != 0) = true := by simp [yo]
    have R : Hid (∀ n, ChR a w (.returned (.int .i64 2)) (w1.drewN n)) := hide fun n => NO.out _ (fun c => yo (c.2.2.2.1 (by rw [HK.out]; rfl))) (below_drewN B1.out n)
    go_wp2
    go_ret
    exact R.out _
  have zo : ((a.ops.length : Int) != 0) = false := by simp [yo]
  have Yo := hide yo
  clear yo
  by_cases yk : a.key = ⟨#[]⟩
  case neg =>
    have zk0 : a.key.toList ≠ [] := fun e => yk (by rw [Lib.toList_data] at e; exact Sct.ba_ext e)
    have zk : (a.key.toList != []) = true := by simpa using zk0
    have zk1 : (a.key.toList == []) = false := by simpa using zk0
    have R : Hid (∀ n, ChR a w (.returned (.int .i64 2)) (w1.drewN n)) := hide fun n => NO.out _ (fun c => yk (c.2.2.2.2.1 (by rw [HK.out]; rfl))) (below_drewN B1.out n)
    go_wp2
    go_ret
    exact R.out _
  have zk0 : a.key.toList = [] := by rw [yk, Lib.toList_data]
  have zk : (a.key.toList != []) = false := by rw [zk0]; rfl
  have zk1 : (a.key.toList == []) = true := by rw [zk0]; rfl
  clear zk0
  have Yk := hide yk
  clear yk
  have R : Hid (∀ n, ChR a w (.returned (.int .i64 0)) (w1.drewN n)) := hide fun n => YES.out _ ⟨fun _ => Yn.out, fun e => by rw [HK.out] at e; exact absurd e (by decide), fun _ => Yt.out, fun _ => Yo.out, fun _ => Yk.out, fun e => by rw [HK.out] at e; exact absurd e (by decide), fun e => by rw [HK.out] at e; exact absurd e (by decide)⟩ (below_drewN B1.out n)
  go_wp2
  go_ret
  exact R.out _

set_option maxHeartbeats 4000000 in
theorem chk25_9 (a : Sct.Av) (v : Value) (w : World) (h : IsO w v a.ops) (hf : FitO a.ops) (hl : a.ops.length ≤ 140737488355328) (hk : a.k = 9) (hu : 0 ≤ a.u ∧ a.u ≤ 1) (hn : 0 ≤ a.n ∧ a.n ≤ 999999999) (ht : 0 ≤ a.t ∧ a.t ≤ 999999999) (hz : a.key.size ≤ 140737488351232) : Calls Tryz.prog 16 #[acv a v] w (ChR a w) := by
  have OK := hide (ok_chA (a := a) (by omega) hu hn ht)
  have YES : Hid (∀ W, chA a → Below w.heap.size w W → ChR a w (.returned (.int .i64 0)) W) := hide fun W c b => ⟨.inl ⟨OK.out.2 c, rfl⟩, b⟩
  have NO : Hid (∀ W, ¬ chA a → Below w.heap.size w W → ChR a w (.returned (.int .i64 2)) W) := hide fun W c b => ⟨.inr ⟨fun o => c (OK.out.1 o), rfl⟩, b⟩
  unfold acv acc
  rw [hk]
  obtain ⟨w1, hw1, s1, b1, P1⟩ := blk_step w #[.int .i64 9, .int .i64 a.u, .int .i64 a.n, .int .i64 a.t, .string a.key, v] 24
  have c0 := blk_cell P1 0 rfl; have c1 := blk_cell P1 1 rfl; have c2 := blk_cell P1 2 rfl; have c3 := blk_cell P1 3 rfl; have c4 := blk_cell P1 4 rfl; have c5 := blk_cell P1 5 rfl
  obtain ⟨ao, cap, hv, _, _⟩ := h.shape
  have Hn : hsB 9 110 = true := by decide
  have Ha : hsB 9 97 = true := by decide
  have Ht : hsB 9 116 = false := by decide
  have Ho : hsB 9 111 = false := by decide
  have Hk : hsB 9 107 = false := by decide
  have h1 := h.below b1
  have B1 := hide b1
  have HK := hide hk
  rw [hv] at h1 c5 hw1
  rw [hv]
  have H1 := hide h1
  obtain ⟨g1, g2⟩ := hu; obtain ⟨g3, g4⟩ := hn; obtain ⟨g5, g6⟩ := ht
  have q1 : ¬ a.u < 0 := by omega
  have q2 : ¬ 1 < a.u := by omega
  have q3 : ¬ a.n < 0 := by omega
  have q4 : ¬ 999999999 < a.n := by omega
  have q5 : ¬ a.t < 0 := by omega
  have q6 : ¬ 999999999 < a.t := by omega
  have e0 : (a.ops.length : Int) = 0 ↔ a.ops = [] := by rw [← List.length_eq_zero_iff]; omega
  clear h hf hl hk hv P1 b1 h1 s1
  go_enter Tryz.func16, Tryz.ntmps16
  go_wp2_with fail
  go_quiet ((go_at_call 44; refine Calls.quiet_of ((has25 9 _ (by decide) _).mono (by rintro E w1 ⟨rfl, rfl⟩; exact ⟨rfl, 0, rfl⟩))))
  by_cases yt : a.t = 0
  case neg =>
    have zt : (a.t != 0) = true := by simp [yt]
    have R : Hid (∀ n, ChR a w (.returned (.int .i64 2)) (w1.drewN n)) := hide fun n => NO.out _ (fun c => yt (c.2.2.1 (by rw [HK.out]; rfl))) (below_drewN B1.out n)
    go_wp2
    go_ret
    exact R.out _
  have zt : (a.t != 0) = false := by simp [yt]
  have Yt := hide yt
  clear yt
  by_cases yo : a.ops = []
  case neg =>
    have zo : ((a.ops.length : Int) != 0) = true := by simp [yo]
    have R : Hid (∀ n, ChR a w (.returned (.int .i64 2)) (w1.drewN n)) := hide fun n => NO.out _ (fun c => yo (c.2.2.2.1 (by rw [HK.out]; rfl))) (below_drewN B1.out n)
    go_wp2
    go_ret
    exact R.out _
  have zo : ((a.ops.length : Int) != 0) = false := by simp [yo]
  have Yo := hide yo
  clear yo
  by_cases yk : a.key = ⟨#[]⟩
  case neg =>
    have zk0 : a.key.toList ≠ [] := fun e => yk (by rw [Lib.toList_data] at e; exact Sct.ba_ext e)
    have zk : (a.key.toList != []) = true := by simpa using zk0
    have zk1 : (a.key.toList == []) = false := by simpa using zk0
    have R : Hid (∀ n, ChR a w (.returned (.int .i64 2)) (w1.drewN n)) := hide fun n => NO.out _ (fun c => yk (c.2.2.2.2.1 (by rw [HK.out]; rfl))) (below_drewN B1.out n)
    go_wp2
    go_ret
    exact R.out _
  have zk0 : a.key.toList = [] := by rw [yk, Lib.toList_data]
  have zk : (a.key.toList != []) = false := by rw [zk0]; rfl
  have zk1 : (a.key.toList == []) = true := by rw [zk0]; rfl
  clear zk0
  have Yk := hide yk
  clear yk
  have R : Hid (∀ n, ChR a w (.returned (.int .i64 0)) (w1.drewN n)) := hide fun n => YES.out _ ⟨fun e => by rw [HK.out] at e; exact absurd e (by decide), fun e => by rw [HK.out] at e; exact absurd e (by decide), fun _ => Yt.out, fun _ => Yo.out, fun _ => Yk.out, fun e => by rw [HK.out] at e; exact absurd e (by decide), fun e => by rw [HK.out] at e; exact absurd e (by decide)⟩ (below_drewN B1.out n)
  go_wp2
  go_ret
  exact R.out _

set_option maxHeartbeats 4000000 in
theorem chk25_10 (a : Sct.Av) (v : Value) (w : World) (h : IsO w v a.ops) (hf : FitO a.ops) (hl : a.ops.length ≤ 140737488355328) (hk : a.k = 10) (hu : 0 ≤ a.u ∧ a.u ≤ 1) (hn : 0 ≤ a.n ∧ a.n ≤ 999999999) (ht : 0 ≤ a.t ∧ a.t ≤ 999999999) (hz : a.key.size ≤ 140737488351232) : Calls Tryz.prog 16 #[acv a v] w (ChR a w) := by
  have OK := hide (ok_chA (a := a) (by omega) hu hn ht)
  have YES : Hid (∀ W, chA a → Below w.heap.size w W → ChR a w (.returned (.int .i64 0)) W) := hide fun W c b => ⟨.inl ⟨OK.out.2 c, rfl⟩, b⟩
  have NO : Hid (∀ W, ¬ chA a → Below w.heap.size w W → ChR a w (.returned (.int .i64 2)) W) := hide fun W c b => ⟨.inr ⟨fun o => c (OK.out.1 o), rfl⟩, b⟩
  unfold acv acc
  rw [hk]
  obtain ⟨w1, hw1, s1, b1, P1⟩ := blk_step w #[.int .i64 10, .int .i64 a.u, .int .i64 a.n, .int .i64 a.t, .string a.key, v] 24
  have c0 := blk_cell P1 0 rfl; have c1 := blk_cell P1 1 rfl; have c2 := blk_cell P1 2 rfl; have c3 := blk_cell P1 3 rfl; have c4 := blk_cell P1 4 rfl; have c5 := blk_cell P1 5 rfl
  obtain ⟨ao, cap, hv, _, _⟩ := h.shape
  have Hn : hsB 10 110 = true := by decide
  have Ha : hsB 10 97 = false := by decide
  have Ht : hsB 10 116 = false := by decide
  have Ho : hsB 10 111 = false := by decide
  have Hk : hsB 10 107 = false := by decide
  have h1 := h.below b1
  have B1 := hide b1
  have HK := hide hk
  rw [hv] at h1 c5 hw1
  rw [hv]
  have H1 := hide h1
  obtain ⟨g1, g2⟩ := hu; obtain ⟨g3, g4⟩ := hn; obtain ⟨g5, g6⟩ := ht
  have q1 : ¬ a.u < 0 := by omega
  have q2 : ¬ 1 < a.u := by omega
  have q3 : ¬ a.n < 0 := by omega
  have q4 : ¬ 999999999 < a.n := by omega
  have q5 : ¬ a.t < 0 := by omega
  have q6 : ¬ 999999999 < a.t := by omega
  have e0 : (a.ops.length : Int) = 0 ↔ a.ops = [] := by rw [← List.length_eq_zero_iff]; omega
  clear h hf hl hk hv P1 b1 h1 s1
  go_enter Tryz.func16, Tryz.ntmps16
  go_wp2_with fail
  go_quiet ((go_at_call 44; refine Calls.quiet_of ((has25 10 _ (by decide) _).mono (by rintro E w1 ⟨rfl, rfl⟩; exact ⟨rfl, 0, rfl⟩))))
  by_cases ya : a.n = 0
  case neg =>
    have za : (a.n != 0) = true := by simp [ya]
    have R : Hid (∀ n, ChR a w (.returned (.int .i64 2)) (w1.drewN n)) := hide fun n => NO.out _ (fun c => ya (c.2.1 (by rw [HK.out]; rfl))) (below_drewN B1.out n)
    go_wp2
    go_ret
    exact R.out _
  have za : (a.n != 0) = false := by simp [ya]
  have Ya := hide ya
  clear ya
  by_cases yt : a.t = 0
  case neg =>
    have zt : (a.t != 0) = true := by simp [yt]
    have R : Hid (∀ n, ChR a w (.returned (.int .i64 2)) (w1.drewN n)) := hide fun n => NO.out _ (fun c => yt (c.2.2.1 (by rw [HK.out]; rfl))) (below_drewN B1.out n)
    go_wp2
    go_ret
    exact R.out _
  have zt : (a.t != 0) = false := by simp [yt]
  have Yt := hide yt
  clear yt
  by_cases yo : a.ops = []
  case neg =>
    have zo : ((a.ops.length : Int) != 0) = true := by simp [yo]
    have R : Hid (∀ n, ChR a w (.returned (.int .i64 2)) (w1.drewN n)) := hide fun n => NO.out _ (fun c => yo (c.2.2.2.1 (by rw [HK.out]; rfl))) (below_drewN B1.out n)
    go_wp2
    go_ret
    exact R.out _
  have zo : ((a.ops.length : Int) != 0) = false := by simp [yo]
  have Yo := hide yo
  clear yo
  by_cases yk : a.key = ⟨#[]⟩
  case neg =>
    have zk0 : a.key.toList ≠ [] := fun e => yk (by rw [Lib.toList_data] at e; exact Sct.ba_ext e)
    have zk : (a.key.toList != []) = true := by simpa using zk0
    have zk1 : (a.key.toList == []) = false := by simpa using zk0
    have R : Hid (∀ n, ChR a w (.returned (.int .i64 2)) (w1.drewN n)) := hide fun n => NO.out _ (fun c => yk (c.2.2.2.2.1 (by rw [HK.out]; rfl))) (below_drewN B1.out n)
    go_wp2
    go_ret
    exact R.out _
  have zk0 : a.key.toList = [] := by rw [yk, Lib.toList_data]
  have zk : (a.key.toList != []) = false := by rw [zk0]; rfl
  have zk1 : (a.key.toList == []) = true := by rw [zk0]; rfl
  clear zk0
  have Yk := hide yk
  clear yk
  have R : Hid (∀ n, ChR a w (.returned (.int .i64 0)) (w1.drewN n)) := hide fun n => YES.out _ ⟨fun e => by rw [HK.out] at e; exact absurd e (by decide), fun _ => Ya.out, fun _ => Yt.out, fun _ => Yo.out, fun _ => Yk.out, fun e => by rw [HK.out] at e; exact absurd e (by decide), fun e => by rw [HK.out] at e; exact absurd e (by decide)⟩ (below_drewN B1.out n)
  go_wp2
  go_ret
  exact R.out _

set_option maxHeartbeats 4000000 in
theorem chk25_11 (a : Sct.Av) (v : Value) (w : World) (h : IsO w v a.ops) (hf : FitO a.ops) (hl : a.ops.length ≤ 140737488355328) (hk : a.k = 11) (hu : 0 ≤ a.u ∧ a.u ≤ 1) (hn : 0 ≤ a.n ∧ a.n ≤ 999999999) (ht : 0 ≤ a.t ∧ a.t ≤ 999999999) (hz : a.key.size ≤ 140737488351232) : Calls Tryz.prog 16 #[acv a v] w (ChR a w) := by
  have OK := hide (ok_chA (a := a) (by omega) hu hn ht)
  have YES : Hid (∀ W, chA a → Below w.heap.size w W → ChR a w (.returned (.int .i64 0)) W) := hide fun W c b => ⟨.inl ⟨OK.out.2 c, rfl⟩, b⟩
  have NO : Hid (∀ W, ¬ chA a → Below w.heap.size w W → ChR a w (.returned (.int .i64 2)) W) := hide fun W c b => ⟨.inr ⟨fun o => c (OK.out.1 o), rfl⟩, b⟩
  unfold acv acc
  rw [hk]
  obtain ⟨w1, hw1, s1, b1, P1⟩ := blk_step w #[.int .i64 11, .int .i64 a.u, .int .i64 a.n, .int .i64 a.t, .string a.key, v] 24
  have c0 := blk_cell P1 0 rfl; have c1 := blk_cell P1 1 rfl; have c2 := blk_cell P1 2 rfl; have c3 := blk_cell P1 3 rfl; have c4 := blk_cell P1 4 rfl; have c5 := blk_cell P1 5 rfl
  obtain ⟨ao, cap, hv, _, _⟩ := h.shape
  have Hn : hsB 11 110 = true := by decide
  have Ha : hsB 11 97 = true := by decide
  have Ht : hsB 11 116 = true := by decide
  have Ho : hsB 11 111 = false := by decide
  have Hk : hsB 11 107 = false := by decide
  have h1 := h.below b1
  have B1 := hide b1
  have HK := hide hk
  rw [hv] at h1 c5 hw1
  rw [hv]
  have H1 := hide h1
  obtain ⟨g1, g2⟩ := hu; obtain ⟨g3, g4⟩ := hn; obtain ⟨g5, g6⟩ := ht
  have q1 : ¬ a.u < 0 := by omega
  have q2 : ¬ 1 < a.u := by omega
  have q3 : ¬ a.n < 0 := by omega
  have q4 : ¬ 999999999 < a.n := by omega
  have q5 : ¬ a.t < 0 := by omega
  have q6 : ¬ 999999999 < a.t := by omega
  have e0 : (a.ops.length : Int) = 0 ↔ a.ops = [] := by rw [← List.length_eq_zero_iff]; omega
  clear h hf hl hk hv P1 b1 h1 s1
  go_enter Tryz.func16, Tryz.ntmps16
  go_wp2_with fail
  go_quiet ((go_at_call 44; refine Calls.quiet_of ((has25 11 _ (by decide) _).mono (by rintro E w1 ⟨rfl, rfl⟩; exact ⟨rfl, 0, rfl⟩))))
  by_cases yo : a.ops = []
  case neg =>
    have zo : ((a.ops.length : Int) != 0) = true := by simp [yo]
    have R : Hid (∀ n, ChR a w (.returned (.int .i64 2)) (w1.drewN n)) := hide fun n => NO.out _ (fun c => yo (c.2.2.2.1 (by rw [HK.out]; rfl))) (below_drewN B1.out n)
    go_wp2
    go_ret
    exact R.out _
  have zo : ((a.ops.length : Int) != 0) = false := by simp [yo]
  have Yo := hide yo
  clear yo
  by_cases yk : a.key = ⟨#[]⟩
  case neg =>
    have zk0 : a.key.toList ≠ [] := fun e => yk (by rw [Lib.toList_data] at e; exact Sct.ba_ext e)
    have zk : (a.key.toList != []) = true := by simpa using zk0
    have zk1 : (a.key.toList == []) = false := by simpa using zk0
    have R : Hid (∀ n, ChR a w (.returned (.int .i64 2)) (w1.drewN n)) := hide fun n => NO.out _ (fun c => yk (c.2.2.2.2.1 (by rw [HK.out]; rfl))) (below_drewN B1.out n)
    go_wp2
    go_ret
    exact R.out _
  have zk0 : a.key.toList = [] := by rw [yk, Lib.toList_data]
  have zk : (a.key.toList != []) = false := by rw [zk0]; rfl
  have zk1 : (a.key.toList == []) = true := by rw [zk0]; rfl
  clear zk0
  have Yk := hide yk
  clear yk
  have R : Hid (∀ n, ChR a w (.returned (.int .i64 0)) (w1.drewN n)) := hide fun n => YES.out _ ⟨fun e => by rw [HK.out] at e; exact absurd e (by decide), fun e => by rw [HK.out] at e; exact absurd e (by decide), fun e => by rw [HK.out] at e; exact absurd e (by decide), fun _ => Yo.out, fun _ => Yk.out, fun e => by rw [HK.out] at e; exact absurd e (by decide), fun e => by rw [HK.out] at e; exact absurd e (by decide)⟩ (below_drewN B1.out n)
  go_wp2
  go_ret
  exact R.out _

set_option maxHeartbeats 4000000 in
theorem chk25_12 (a : Sct.Av) (v : Value) (w : World) (h : IsO w v a.ops) (hf : FitO a.ops) (hl : a.ops.length ≤ 140737488355328) (hk : a.k = 12) (hu : 0 ≤ a.u ∧ a.u ≤ 1) (hn : 0 ≤ a.n ∧ a.n ≤ 999999999) (ht : 0 ≤ a.t ∧ a.t ≤ 999999999) (hz : a.key.size ≤ 140737488351232) : Calls Tryz.prog 16 #[acv a v] w (ChR a w) := by
  have OK := hide (ok_chA (a := a) (by omega) hu hn ht)
  have YES : Hid (∀ W, chA a → Below w.heap.size w W → ChR a w (.returned (.int .i64 0)) W) := hide fun W c b => ⟨.inl ⟨OK.out.2 c, rfl⟩, b⟩
  have NO : Hid (∀ W, ¬ chA a → Below w.heap.size w W → ChR a w (.returned (.int .i64 2)) W) := hide fun W c b => ⟨.inr ⟨fun o => c (OK.out.1 o), rfl⟩, b⟩
  unfold acv acc
  rw [hk]
  obtain ⟨w1, hw1, s1, b1, P1⟩ := blk_step w #[.int .i64 12, .int .i64 a.u, .int .i64 a.n, .int .i64 a.t, .string a.key, v] 24
  have c0 := blk_cell P1 0 rfl; have c1 := blk_cell P1 1 rfl; have c2 := blk_cell P1 2 rfl; have c3 := blk_cell P1 3 rfl; have c4 := blk_cell P1 4 rfl; have c5 := blk_cell P1 5 rfl
  obtain ⟨ao, cap, hv, _, _⟩ := h.shape
  have Hn : hsB 12 110 = false := by decide
  have Ha : hsB 12 97 = false := by decide
  have Ht : hsB 12 116 = false := by decide
  have Ho : hsB 12 111 = false := by decide
  have Hk : hsB 12 107 = false := by decide
  have h1 := h.below b1
  have B1 := hide b1
  have HK := hide hk
  rw [hv] at h1 c5 hw1
  rw [hv]
  have H1 := hide h1
  obtain ⟨g1, g2⟩ := hu; obtain ⟨g3, g4⟩ := hn; obtain ⟨g5, g6⟩ := ht
  have q1 : ¬ a.u < 0 := by omega
  have q2 : ¬ 1 < a.u := by omega
  have q3 : ¬ a.n < 0 := by omega
  have q4 : ¬ 999999999 < a.n := by omega
  have q5 : ¬ a.t < 0 := by omega
  have q6 : ¬ 999999999 < a.t := by omega
  have e0 : (a.ops.length : Int) = 0 ↔ a.ops = [] := by rw [← List.length_eq_zero_iff]; omega
  clear h hf hl hk hv P1 b1 h1 s1
  go_enter Tryz.func16, Tryz.ntmps16
  go_wp2_with fail
  go_quiet ((go_at_call 44; refine Calls.quiet_of ((has25 12 _ (by decide) _).mono (by rintro E w1 ⟨rfl, rfl⟩; exact ⟨rfl, 0, rfl⟩))))
  by_cases yn : a.u = 0
  case neg =>
    have zn : (a.u != 0) = true := by simp [yn]
    have R : Hid (∀ n, ChR a w (.returned (.int .i64 2)) (w1.drewN n)) := hide fun n => NO.out _ (fun c => yn (c.1 (by rw [HK.out]; rfl))) (below_drewN B1.out n)
    go_wp2
    go_ret
    exact R.out _
  have zn : (a.u != 0) = false := by simp [yn]
  have Yn := hide yn
  clear yn
  by_cases ya : a.n = 0
  case neg =>
    have za : (a.n != 0) = true := by simp [ya]
    have R : Hid (∀ n, ChR a w (.returned (.int .i64 2)) (w1.drewN n)) := hide fun n => NO.out _ (fun c => ya (c.2.1 (by rw [HK.out]; rfl))) (below_drewN B1.out n)
    go_wp2
    go_ret
    exact R.out _
  have za : (a.n != 0) = false := by simp [ya]
  have Ya := hide ya
  clear ya
  by_cases yt : a.t = 0
  case neg =>
    have zt : (a.t != 0) = true := by simp [yt]
    have R : Hid (∀ n, ChR a w (.returned (.int .i64 2)) (w1.drewN n)) := hide fun n => NO.out _ (fun c => yt (c.2.2.1 (by rw [HK.out]; rfl))) (below_drewN B1.out n)
    go_wp2
    go_ret
    exact R.out _
  have zt : (a.t != 0) = false := by simp [yt]
  have Yt := hide yt
  clear yt
  by_cases yo : a.ops = []
  case neg =>
    have zo : ((a.ops.length : Int) != 0) = true := by simp [yo]
    have R : Hid (∀ n, ChR a w (.returned (.int .i64 2)) (w1.drewN n)) := hide fun n => NO.out _ (fun c => yo (c.2.2.2.1 (by rw [HK.out]; rfl))) (below_drewN B1.out n)
    go_wp2
    go_ret
    exact R.out _
  have zo : ((a.ops.length : Int) != 0) = false := by simp [yo]
  have Yo := hide yo
  clear yo
  by_cases yk : a.key = ⟨#[]⟩
  case neg =>
    have zk0 : a.key.toList ≠ [] := fun e => yk (by rw [Lib.toList_data] at e; exact Sct.ba_ext e)
    have zk : (a.key.toList != []) = true := by simpa using zk0
    have zk1 : (a.key.toList == []) = false := by simpa using zk0
    have R : Hid (∀ n, ChR a w (.returned (.int .i64 2)) (w1.drewN n)) := hide fun n => NO.out _ (fun c => yk (c.2.2.2.2.1 (by rw [HK.out]; rfl))) (below_drewN B1.out n)
    go_wp2
    go_ret
    exact R.out _
  have zk0 : a.key.toList = [] := by rw [yk, Lib.toList_data]
  have zk : (a.key.toList != []) = false := by rw [zk0]; rfl
  have zk1 : (a.key.toList == []) = true := by rw [zk0]; rfl
  clear zk0
  have Yk := hide yk
  clear yk
  have R : Hid (∀ n, ChR a w (.returned (.int .i64 0)) (w1.drewN n)) := hide fun n => YES.out _ ⟨fun _ => Yn.out, fun _ => Ya.out, fun _ => Yt.out, fun _ => Yo.out, fun _ => Yk.out, fun e => by rw [HK.out] at e; exact absurd e (by decide), fun e => by rw [HK.out] at e; exact absurd e (by decide)⟩ (below_drewN B1.out n)
  go_wp2
  go_ret
  exact R.out _

end Go.Proofs.YtdlogcdpapknaaaGreatDoor
