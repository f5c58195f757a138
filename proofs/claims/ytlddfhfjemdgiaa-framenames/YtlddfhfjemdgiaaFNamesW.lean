/- FrameNames: the walk. -/
import Derived.Test.YtlddfhfjemdgiaaFe
namespace Go.Proofs.Ytlddfhfjemdgiaa
open Go.RowKit
set_option linter.unusedVariables false

theorem fread_is (vb : Value) (bs r : List Int) (n : Nat) (e : Int) (w : World) (hb : Is .u8 w vb bs) (hl : bs.length ≤ 150000000000000) (hR : Fm.Rd bs r n e) :
    Calls Try.prog 8 #[vb] w fun E w' => ∃ (v : Value), E = .returned (.tuple #[v, .int .i64 n, .int .i64 e]) ∧ Own .u8 5 w.heap.size w' v r ∧ Below w.heap.size w w' := by
  refine (fread_any vb bs w hb hl).mono ?_
  rintro E w1 ⟨v, r', n', e', rfl, own, bel, R⟩
  obtain ⟨rfl, rfl, rfl⟩ := Fm.rd_one R.out hR
  exact ⟨v, rfl, own, bel⟩

theorem rd1 : Fm.Rd [2, 97, 98, 9] [97, 98] 3 0 := by
  refine .inl ⟨rfl, by simp, ?_, ?_⟩
  · simp [Vm.sz_lo]
  · rw [frm_lo (by simp)]
    exact ⟨[9], rfl⟩
theorem rd2 : Fm.Rd [2, 97] [] 0 5 := .inr ⟨rfl, rfl, rfl, fun s _ => no_frame (by omega) (by omega) (by simp) s⟩
theorem rd3 : Fm.Rd [128] [] 0 5 := .inr ⟨rfl, rfl, rfl, fun s _ h => by
  obtain ⟨y, _, _, h1⟩ := (Vm.pre_hi (by omega) (by omega)).1 (Fm.frm_pre h).1
  exact Vm.pre_nil y h1⟩

theorem made_rep (n : Nat) : (madeCells #[.int .u8 0] n).toList = (List.replicate n 0).map (Value.int .u8) := by
  unfold madeCells
  rw [Array.toList_map, Array.toList_range]
  apply List.ext_getElem
  · simp
  · intro i h1 h2
    simp [Nat.mod_one]

/-- 'make([]byte, n)'. -/
theorem make_step (w : World) (n : Nat) (hn : n ≤ 1000000) : ∃ W, (Instr.makeSlice 22 (.int .i64 n) (.int .i64 n)).run Try.prog w = .ok (.slice (some ⟨w.heap.size, 0, none⟩) n n) W ∧ Below w.heap.size w W ∧ Own .u8 5 w.heap.size W (.slice (some ⟨w.heap.size, 0, none⟩) n n) (List.replicate n 0) := by
  obtain ⟨i, hi, hz, hsize, hb⟩ := info_parts Try.info5
  obtain ⟨W, h1, h2, h3⟩ := run_make_full (P := Try.prog) w w.heap.size 22 5 i (.int .u8 0) 1 Try.underlying22 hi hz hsize .i64 .i64 n (by rw [hb]; omega) (by unfold maxLen; omega) (Nat.le_refl _)
  have e : (madeCells (Value.int .u8 0).cells (n * 1)).toList = (List.replicate n 0).map (Value.int .u8) := by rw [Nat.mul_one]; exact made_rep n
  rw [e] at h2
  refine ⟨W, h1, (Below.refl _ _).grown h3 (Nat.le_refl _) fun k hk => (by cases hk), (fun z hz => (by rw [List.eq_of_mem_replicate hz]; rfl)), ?_⟩
  rw [List.length_replicate]
  exact h2

/-- What the numbers come to. -/
theorem long_no : ape (List.replicate 131073 0) = 3 := if_neg (by rw [List.length_replicate]; omega)
theorem long_yes : ape (List.replicate 131072 0) = 0 := if_pos (by rw [List.length_replicate]; omega)
theorem sz_131072 : Vm.sz 131072 = 3 := by rw [Vm.sz_hi (by omega), Vm.sz_hi (by omega), Vm.sz_lo (by omega)]
theorem long_len : (apd [7] (List.replicate 131072 0)).length = 131076 := by
  unfold apd
  rw [if_pos (by rw [List.length_replicate]; omega), List.length_append, Fm.frm_len, List.length_replicate, sz_131072]
  rfl

set_option maxRecDepth 100000 in
set_option maxHeartbeats 8000000 in
theorem frameNames_walk (w : World) : Calls Try.prog 3 #[] w fun E w' => E = .returned (.bool true) ∧ Below w.heap.size w w' := by
  obtain ⟨w1, hw1, sz1, bel1, own1⟩ := own_step .u8 5 w #[.int .u8 2, .int .u8 97, .int .u8 98, .int .u8 9] 4 [2, 97, 98, 9] rfl rfl (by simp [maxLen]) (by decide)
  have C1 := hide (fread_is _ _ _ _ _ w1 own1.is (by simp) rd1)
  have S1 : w.heap.size ≤ w1.heap.size := by omega
  clear own1 sz1
  go_enter Try.func3, Try.ntmps3
  go_wp2_with fail
  refine C1.out.mono ?_
  rintro E w2 ⟨v2, rfl, own2, bel2⟩
  have O2 := hide own2
  have B2 := hide (bel1.trans (bel2.mono S1))
  have S2 := B2.out.size
  clear C1 hw1 bel1 bel2 own2 S1
  obtain ⟨w3, hw3, sz3, bel3, own3⟩ := own_step .u8 5 w2 #[.int .u8 2, .int .u8 97] 2 [2, 97] rfl rfl (by simp [maxLen]) (by decide)
  have C3 := hide (fread_is _ _ _ _ _ w3 own3.is (by simp) rd2)
  replace O2 := hide (O2.out.below bel3)
  have B3 := hide (B2.out.trans (bel3.mono S2))
  have S3 := B3.out.size
  clear own3 sz3 bel3 B2 S2
  go_wp2_with fail
  refine C3.out.mono ?_
  rintro E w4 ⟨v4, rfl, own4, bel4⟩
  replace O2 := hide (O2.out.below bel4)
  have B4 := hide (B3.out.trans (bel4.mono S3))
  have S4 := B4.out.size
  clear C3 hw3 own4 bel4 B3 S3
  obtain ⟨w5, hw5, sz5, bel5, own5⟩ := own_step .u8 5 w4 #[.int .u8 128] 1 [128] rfl rfl (by simp [maxLen]) (by decide)
  have C5 := hide (fread_is _ _ _ _ _ w5 own5.is (by simp) rd3)
  replace O2 := hide (O2.out.below bel5)
  have B5 := hide (B4.out.trans (bel5.mono S4))
  have S5 := B5.out.size
  clear own5 sz5 bel5 B4 S4
  go_wp2_with fail
  refine C5.out.mono ?_
  rintro E w6 ⟨v6, rfl, own6, bel6⟩
  replace O2 := hide (O2.out.below bel6)
  have B6 := hide (B5.out.trans (bel6.mono S5))
  have S6 := B6.out.size
  clear C5 hw5 own6 bel6 B5 S5
  obtain ⟨w7, hw7, sz7, bel7, own7⟩ := own_step .u8 5 w6 #[.int .u8 0, .int .u8 0, .int .u8 0] 3 [0, 0, 0] rfl rfl (by simp [maxLen]) (by decide)
  have C7 := hide (scan_any _ _ w7 own7.is (by simp))
  replace O2 := hide (O2.out.below bel7)
  have B7 := hide (B6.out.trans (bel7.mono S6))
  have S7 := B7.out.size
  clear own7 sz7 bel7 B6 S6
  go_wp2_with fail
  refine C7.out.mono ?_
  rintro E w8 ⟨v8, r, rfl, ob8, bel8, S⟩
  have hr := Fm.sc_one S.out sc_ex3
  have hc : (Fm.cat (lsts r)).length = 3 := by rw [hr]; simp [Fm.cat, frm_lo]
  rw [hc]
  have hrl : r.length = 3 := by have := congrArg List.length hr; rw [lsts_len] at this; exact this
  obtain ⟨o8, c8, hv8, _, _⟩ := ob8.is.1.shape
  rw [hrl] at hv8
  replace O2 := hide (O2.out.below bel8)
  have B8 := hide (B7.out.trans (bel8.mono S7))
  have S8 := B8.out.size
  clear C7 hw7 ob8 bel8 B7 S7 S hr hc hrl
  obtain ⟨w9, hm9, bel9, own9⟩ := make_step w8 131073 (by omega)
  have hw9 : (Instr.makeSlice 22 (.int .i64 131073) (.int .i64 131073)).run Try.prog w8 = .ok (.slice (some ⟨w8.heap.size, 0, none⟩) 131073 131073) w9 := hm9
  clear hm9
  have C9 := hide (fapp_any (.slice none 0 0) _ [] _ w9 (Own.nil .u8 5 0 w9).is own9.is (by simp) (by rw [List.length_replicate]; omega))
  rw [long_no] at C9
  replace O2 := hide (O2.out.below bel9)
  have B9 := hide (B8.out.trans (bel9.mono S8))
  have S9 := B9.out.size
  clear own9 bel9 B8 S8
  subst hv8
  go_wp2_with fail
  refine C9.out.mono ?_
  rintro E w10 ⟨v10, rfl, own10, bel10⟩
  replace O2 := hide (O2.out.below bel10)
  have B10 := hide (B9.out.trans (bel10.mono S9))
  have S10 := B10.out.size
  clear C9 hw9 own10 bel10 B9 S9
  obtain ⟨w11, hw11, sz11, bel11, own11⟩ := own_step .u8 5 w10 #[.int .u8 7] 1 [7] rfl rfl (by simp [maxLen]) (by decide)
  obtain ⟨w12, hm12, bel12, own12⟩ := make_step w11 131072 (by omega)
  have hw12 : (Instr.makeSlice 22 (.int .i64 131072) (.int .i64 131072)).run Try.prog w11 = .ok (.slice (some ⟨w11.heap.size, 0, none⟩) 131072 131072) w12 := hm12
  clear hm12
  have C12 := hide (fapp_any _ _ [7] _ w12 (own11.below bel12).is own12.is (by simp) (by rw [List.length_replicate]; omega))
  rw [long_yes] at C12
  replace O2 := hide ((O2.out.below bel11).below bel12)
  have B12 := hide ((B10.out.trans (bel11.mono S10)).trans (bel12.mono (by omega)))
  have S12 := B12.out.size
  clear own11 own12 bel11 bel12 B10 S10 sz11
  go_wp2_with fail
  refine C12.out.mono ?_
  rintro E w13 ⟨v13, rfl, own13, bel13⟩
  obtain ⟨o13, c13, hv13, _, _⟩ := own13.is.shape
  rw [long_len] at hv13
  replace O2 := hide (O2.out.below bel13)
  have B13 := hide (B12.out.trans (bel13.mono S12))
  have S13 := B13.out.size
  clear C12 hw11 hw12 own13 bel13 B12 S12
  subst hv13
  go_wp2_with fail
  refine (lives_any w13).mono ?_
  rintro E w14 ⟨rfl, bel14⟩
  have kc := fun (C : Array Value) (n c : Nat) => Lib.run_convert_bytes_const (P := Try.prog) w14 22 5 C n c Try.underlying22 Try.underlying5
  obtain ⟨w15, hw15, sz15, bel15, is15⟩ := lit2_step w14 97 98 (by decide)
  have C15 := hide (same_yes v2 _ [97, 98] [97, 98] w15 ((O2.out.below bel14).below bel15).is is15 (by simp) rfl)
  have B15 := hide ((B13.out.trans (bel14.mono S13)).trans (bel15.mono (Nat.le_trans S13 bel14.size)))
  have S15 := B15.out.size
  clear O2 B13 S13 bel14 bel15 is15 sz15
  go_wp2_with fail
  refine C15.out.mono ?_
  rintro E w16 ⟨rfl, bel16⟩
  clear C15 kc
  go_wp2
  go_ret
  exact ⟨rfl, B15.out.trans (bel16.mono S15)⟩

end Go.Proofs.Ytlddfhfjemdgiaa
