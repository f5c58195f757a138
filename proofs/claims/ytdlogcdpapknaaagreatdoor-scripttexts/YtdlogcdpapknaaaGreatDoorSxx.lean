/- Package script (layer 25): an act's text. -/
import Derived.Test.YtdlogcdpapknaaaGreatDoorSxw
namespace Go.Proofs.YtdlogcdpapknaaaGreatDoor
open Go.RowKit
set_option linter.unusedVariables false
set_option maxRecDepth 100000

set_option maxHeartbeats 4000000 in
theorem textOf_7 (a : Sct.Av) (v : Value) (w : World) (hv : Vs w) (hok : Sct.Ok a) (h : IsO w v a.ops) (hk : a.k = 7) : Calls Tryz.prog 28 #[acv a v] w (TRet w a) := by
  obtain ⟨oa, oc, rfl, _, _⟩ := h.shape
  obtain ⟨w1, hw1, s1, b1, ab⟩ := blk_step w #[.int .i64 a.k, .int .i64 a.u, .int .i64 a.n, .int .i64 a.t, .string a.key, .slice oa a.ops.length oc] 24
  have V0 := hide hv
  have V1 := hv.below b1
  have N1 : w1.cell? ⟨0, 7, none⟩ = some (.string (nmA 7)) := V1.nms 7 (by omega)
  obtain ⟨w2, hw2, s2, b2, own⟩ := rows_step fsc 1 fsc_len 9 w1 #[.string (nmA 7)] 1 [nmA 7] rfl rfl (by simp [maxLen])
  have ab2 := (b2.block w.heap.size (by omega)).trans ab
  rw [hk] at ab ab2 hw1
  have B2 := b1.trans (b2.mono (by omega))
  have JN := hide (jnS_one 7 (by decide))
  have OK := hide hok
  have HK := hide hk
  have V2 := hide (V1.below b2)
  have TL := hide (txt_len hok)
  obtain ⟨u0, u1⟩ := hok.u
  obtain ⟨n0, n1⟩ := hok.n
  obtain ⟨t0, t1⟩ := hok.t
  have hky := hide hok.key
  have hop := hide hok.ops
  have HO := hide h
  rw [s1] at own
  have a0 := blk_cell ab 0 rfl
  have a02 := blk_cell ab2 0 rfl
  unfold acv acc
  rw [hk]
  clear hok h hk hv V1 b1 b2
  go_enter Tryz.func28, Tryz.ntmps28
  go_wp2_with fail
  refine (shapeOf_any 7 w2 (by omega)).mono ?_
  rintro E w3 ⟨rfl, b3⟩
  rw [show shV 7 = .agg #[.int .i64 0, .int .i64 999999999, .int .i64 0, .bool false, .bool false] by rfl]
  obtain ⟨w4, hw4, s4, b4, sb⟩ := blk_step w3 #[.int .i64 0, .int .i64 999999999, .int .i64 0, .bool false, .bool false] 89
  have b24 := b3.trans (b4.mono b3.size)
  have g3 := b3.size
  have ab4 := (b24.block w.heap.size (by omega)).trans ab2
  have own4 := own.below b24
  have B4 := B2.trans (b24.mono (by omega))
  have V4 := hide (V2.out.below b24)
  have p0 := blk_froz sb 0; have p1 := blk_froz sb 1; have p2 := blk_froz sb 2; have p3 := blk_froz sb 3; have p4 := blk_froz sb 4
  have d0 := blk_cell sb 0 rfl; have d1 := blk_cell sb 1 rfl; have d2 := blk_cell sb 2 rfl; have d3 := blk_cell sb 3 rfl; have d4 := blk_cell sb 4 rfl
  have x0 := set_same sb (j := 0) (u := .int .i64 0) rfl; have x1 := set_same sb (j := 1) (u := .int .i64 999999999) rfl; have x2 := set_same sb (j := 2) (u := .int .i64 0) rfl; have x3 := set_same sb (j := 3) (u := .bool false) rfl; have x4 := set_same sb (j := 4) (u := .bool false) rfl
  have A4 := sx_of ab4
  obtain ⟨c0, c1, c2, c3, c4, c5⟩ := A4
  clear a0 a02 N1 ab ab2 own B2 b3 b4 b24
  go_wp2_with fail
  refine (itoa_any a.n w4 (by omega) (by omega) V4.out).mono ?_
  rintro E y5 ⟨rfl, b5⟩
  obtain ⟨e5, he5⟩ : ∃ e, (⟨(Lib.itoa a.n).toArray⟩ : ByteArray) = e := ⟨_, rfl⟩
  rw [he5]
  have JN5 := hide (show JnS ([nmA 7] ++ [e5]) ([Sct.nm (7 : Nat)] ++ [Sct.dg a.n.toNat]) from JN.out.add (by simp) (by rw [← he5]; exact itoa_word (by omega)))
  clear he5
  obtain ⟨z5, hz5, t5, q5, own5a⟩ := rows_step fsc 1 fsc_len 9 y5 #[.string e5] 1 [e5] rfl rfl (by simp [maxLen])
  have own5b := (own4.below b5).below q5
  have b5' := b5.trans (q5.mono b5.size)
  have ab5a := (b5'.block _ (blk_lt ab4)).trans ab4
  have sb5a := (b5'.block _ (blk_lt sb)).trans sb
  have B5a := B4.trans (b5'.mono B4.size)
  have o5s := B4.size
  have o5t := b5.size
  go_wp2_with (at_builtin; refine wpList_append_rows fsc 1 16 fsc_len (by decide) (by decide) (.string ⟨#[]⟩) rfl rfl (.tmp 29) (.tmp 33) 29 rfl 9 (w.heap.size + 1) Tryz.underlying29 Tryz.info9 _ [nmA 7] rfl own5b _ [e5] rfl own5a.row (fsc_one _) (by simp) (by omega) ?_)
  intro v5 w5 own5 hg5
  have ab5 := row_other own5b hg5 ab5a (by decide)
  have sb5 := row_other own5b hg5 sb5a (by decide)
  have B5 := row_below own5b hg5 B5a B5a.size (by omega)
  have V5 := hide (V0.out.below B5)
  obtain ⟨g5, k5, hv5, r5, _, _⟩ := own5.form (by simp)
  replace hv5 : v5 = .slice (some ⟨g5, 0, none⟩) 2 k5 := hv5
  replace r5 : 2 ≤ k5 := r5
  subst hv5
  have D5 := sx_of ab5
  clear c0 c1 c2 c3 c4 c5 d0 d1 d2 d3 d4
  obtain ⟨c0, c1, c2, c3, c4, c5⟩ := D5
  have d0 := blk_cell sb5 0 rfl; have d1 := blk_cell sb5 1 rfl; have d2 := blk_cell sb5 2 rfl; have d3 := blk_cell sb5 3 rfl; have d4 := blk_cell sb5 4 rfl
  clear own5b own5a ab5a sb5a B5a hg5 b5 b5' q5 ab4 sb own4 B4
  have hz : a.ops = [] := by
    have := hop.out
    rw [show Sct.ho a.k = false by rw [HK.out]; decide] at this
    exact this
  have hl0 : (a.ops.length : Int) = 0 := by rw [hz]; rfl
  have TX : Hid (Sct.txt a = ([Sct.nm (7 : Nat)] ++ [Sct.dg a.n.toNat])) := hide (by
    unfold Sct.txt Sct.tail
    rw [HK.out, hz]
    rfl)
  clear hz
  go_wp2
  refine wp_loop_rounds 1 ?_
  rw [rounds_succ]
  go_wp2_with fail
  refine (join_any g5 k5 _ ([nmA 7] ++ [e5]) ([Sct.nm (7 : Nat)] ++ [Sct.dg a.n.toNat]) w5 _ own5 (by rfl) JN5.out (by rw [← TX.out]; exact TL.out.1) (by rw [← TX.out]; exact TL.out.2) r5 (by simp)).mono ?_
  rintro E wz ⟨rfl, bz⟩
  have TT := hide (show TRet w a (.returned (.string ⟨(Sct.jn ([Sct.nm (7 : Nat)] ++ [Sct.dg a.n.toNat])).toArray⟩)) wz from ⟨by rw [TX.out], B5.trans (bz.mono B5.size)⟩)
  clear bz
  go_wp2
  go_ret
  exact TT.out

set_option maxHeartbeats 4000000 in
theorem textOf_8 (a : Sct.Av) (v : Value) (w : World) (hv : Vs w) (hok : Sct.Ok a) (h : IsO w v a.ops) (hk : a.k = 8) : Calls Tryz.prog 28 #[acv a v] w (TRet w a) := by
  obtain ⟨oa, oc, rfl, _, _⟩ := h.shape
  obtain ⟨w1, hw1, s1, b1, ab⟩ := blk_step w #[.int .i64 a.k, .int .i64 a.u, .int .i64 a.n, .int .i64 a.t, .string a.key, .slice oa a.ops.length oc] 24
  have V0 := hide hv
  have V1 := hv.below b1
  have N1 : w1.cell? ⟨0, 8, none⟩ = some (.string (nmA 8)) := V1.nms 8 (by omega)
  obtain ⟨w2, hw2, s2, b2, own⟩ := rows_step fsc 1 fsc_len 9 w1 #[.string (nmA 8)] 1 [nmA 8] rfl rfl (by simp [maxLen])
  have ab2 := (b2.block w.heap.size (by omega)).trans ab
  rw [hk] at ab ab2 hw1
  have B2 := b1.trans (b2.mono (by omega))
  have JN := hide (jnS_one 8 (by decide))
  have OK := hide hok
  have HK := hide hk
  have V2 := hide (V1.below b2)
  have TL := hide (txt_len hok)
  obtain ⟨u0, u1⟩ := hok.u
  obtain ⟨n0, n1⟩ := hok.n
  obtain ⟨t0, t1⟩ := hok.t
  have hky := hide hok.key
  have hop := hide hok.ops
  have HO := hide h
  rw [s1] at own
  have a0 := blk_cell ab 0 rfl
  have a02 := blk_cell ab2 0 rfl
  unfold acv acc
  rw [hk]
  clear hok h hk hv V1 b1 b2
  go_enter Tryz.func28, Tryz.ntmps28
  go_wp2_with fail
  refine (shapeOf_any 8 w2 (by omega)).mono ?_
  rintro E w3 ⟨rfl, b3⟩
  rw [show shV 8 = .agg #[.int .i64 0, .int .i64 999999999, .int .i64 0, .bool false, .bool false] by rfl]
  obtain ⟨w4, hw4, s4, b4, sb⟩ := blk_step w3 #[.int .i64 0, .int .i64 999999999, .int .i64 0, .bool false, .bool false] 89
  have b24 := b3.trans (b4.mono b3.size)
  have g3 := b3.size
  have ab4 := (b24.block w.heap.size (by omega)).trans ab2
  have own4 := own.below b24
  have B4 := B2.trans (b24.mono (by omega))
  have V4 := hide (V2.out.below b24)
  have p0 := blk_froz sb 0; have p1 := blk_froz sb 1; have p2 := blk_froz sb 2; have p3 := blk_froz sb 3; have p4 := blk_froz sb 4
  have d0 := blk_cell sb 0 rfl; have d1 := blk_cell sb 1 rfl; have d2 := blk_cell sb 2 rfl; have d3 := blk_cell sb 3 rfl; have d4 := blk_cell sb 4 rfl
  have x0 := set_same sb (j := 0) (u := .int .i64 0) rfl; have x1 := set_same sb (j := 1) (u := .int .i64 999999999) rfl; have x2 := set_same sb (j := 2) (u := .int .i64 0) rfl; have x3 := set_same sb (j := 3) (u := .bool false) rfl; have x4 := set_same sb (j := 4) (u := .bool false) rfl
  have A4 := sx_of ab4
  obtain ⟨c0, c1, c2, c3, c4, c5⟩ := A4
  clear a0 a02 N1 ab ab2 own B2 b3 b4 b24
  go_wp2_with fail
  refine (itoa_any a.n w4 (by omega) (by omega) V4.out).mono ?_
  rintro E y5 ⟨rfl, b5⟩
  obtain ⟨e5, he5⟩ : ∃ e, (⟨(Lib.itoa a.n).toArray⟩ : ByteArray) = e := ⟨_, rfl⟩
  rw [he5]
  have JN5 := hide (show JnS ([nmA 8] ++ [e5]) ([Sct.nm (8 : Nat)] ++ [Sct.dg a.n.toNat]) from JN.out.add (by simp) (by rw [← he5]; exact itoa_word (by omega)))
  clear he5
  obtain ⟨z5, hz5, t5, q5, own5a⟩ := rows_step fsc 1 fsc_len 9 y5 #[.string e5] 1 [e5] rfl rfl (by simp [maxLen])
  have own5b := (own4.below b5).below q5
  have b5' := b5.trans (q5.mono b5.size)
  have ab5a := (b5'.block _ (blk_lt ab4)).trans ab4
  have sb5a := (b5'.block _ (blk_lt sb)).trans sb
  have B5a := B4.trans (b5'.mono B4.size)
  have o5s := B4.size
  have o5t := b5.size
  go_wp2_with (at_builtin; refine wpList_append_rows fsc 1 16 fsc_len (by decide) (by decide) (.string ⟨#[]⟩) rfl rfl (.tmp 29) (.tmp 33) 29 rfl 9 (w.heap.size + 1) Tryz.underlying29 Tryz.info9 _ [nmA 8] rfl own5b _ [e5] rfl own5a.row (fsc_one _) (by simp) (by omega) ?_)
  intro v5 w5 own5 hg5
  have ab5 := row_other own5b hg5 ab5a (by decide)
  have sb5 := row_other own5b hg5 sb5a (by decide)
  have B5 := row_below own5b hg5 B5a B5a.size (by omega)
  have V5 := hide (V0.out.below B5)
  obtain ⟨g5, k5, hv5, r5, _, _⟩ := own5.form (by simp)
  replace hv5 : v5 = .slice (some ⟨g5, 0, none⟩) 2 k5 := hv5
  replace r5 : 2 ≤ k5 := r5
  subst hv5
  have D5 := sx_of ab5
  clear c0 c1 c2 c3 c4 c5 d0 d1 d2 d3 d4
  obtain ⟨c0, c1, c2, c3, c4, c5⟩ := D5
  have d0 := blk_cell sb5 0 rfl; have d1 := blk_cell sb5 1 rfl; have d2 := blk_cell sb5 2 rfl; have d3 := blk_cell sb5 3 rfl; have d4 := blk_cell sb5 4 rfl
  clear own5b own5a ab5a sb5a B5a hg5 b5 b5' q5 ab4 sb own4 B4
  have hz : a.ops = [] := by
    have := hop.out
    rw [show Sct.ho a.k = false by rw [HK.out]; decide] at this
    exact this
  have hl0 : (a.ops.length : Int) = 0 := by rw [hz]; rfl
  have TX : Hid (Sct.txt a = ([Sct.nm (8 : Nat)] ++ [Sct.dg a.n.toNat])) := hide (by
    unfold Sct.txt Sct.tail
    rw [HK.out, hz]
    rfl)
  clear hz
  go_wp2
  refine wp_loop_rounds 1 ?_
  rw [rounds_succ]
  go_wp2_with fail
  refine (join_any g5 k5 _ ([nmA 8] ++ [e5]) ([Sct.nm (8 : Nat)] ++ [Sct.dg a.n.toNat]) w5 _ own5 (by rfl) JN5.out (by rw [← TX.out]; exact TL.out.1) (by rw [← TX.out]; exact TL.out.2) r5 (by simp)).mono ?_
  rintro E wz ⟨rfl, bz⟩
  have TT := hide (show TRet w a (.returned (.string ⟨(Sct.jn ([Sct.nm (8 : Nat)] ++ [Sct.dg a.n.toNat])).toArray⟩)) wz from ⟨by rw [TX.out], B5.trans (bz.mono B5.size)⟩)
  clear bz
  go_wp2
  go_ret
  exact TT.out

set_option maxHeartbeats 4000000 in
theorem textOf_9 (a : Sct.Av) (v : Value) (w : World) (hv : Vs w) (hok : Sct.Ok a) (h : IsO w v a.ops) (hk : a.k = 9) : Calls Tryz.prog 28 #[acv a v] w (TRet w a) := by
  obtain ⟨oa, oc, rfl, _, _⟩ := h.shape
  obtain ⟨w1, hw1, s1, b1, ab⟩ := blk_step w #[.int .i64 a.k, .int .i64 a.u, .int .i64 a.n, .int .i64 a.t, .string a.key, .slice oa a.ops.length oc] 24
  have V0 := hide hv
  have V1 := hv.below b1
  have N1 : w1.cell? ⟨0, 9, none⟩ = some (.string (nmA 9)) := V1.nms 9 (by omega)
  obtain ⟨w2, hw2, s2, b2, own⟩ := rows_step fsc 1 fsc_len 9 w1 #[.string (nmA 9)] 1 [nmA 9] rfl rfl (by simp [maxLen])
  have ab2 := (b2.block w.heap.size (by omega)).trans ab
  rw [hk] at ab ab2 hw1
  have B2 := b1.trans (b2.mono (by omega))
  have JN := hide (jnS_one 9 (by decide))
  have OK := hide hok
  have HK := hide hk
  have V2 := hide (V1.below b2)
  have TL := hide (txt_len hok)
  obtain ⟨u0, u1⟩ := hok.u
  obtain ⟨n0, n1⟩ := hok.n
  obtain ⟨t0, t1⟩ := hok.t
  have hky := hide hok.key
  have hop := hide hok.ops
  have HO := hide h
  rw [s1] at own
  have a0 := blk_cell ab 0 rfl
  have a02 := blk_cell ab2 0 rfl
  unfold acv acc
  rw [hk]
  clear hok h hk hv V1 b1 b2
  go_enter Tryz.func28, Tryz.ntmps28
  go_wp2_with fail
  refine (shapeOf_any 9 w2 (by omega)).mono ?_
  rintro E w3 ⟨rfl, b3⟩
  rw [show shV 9 = .agg #[.int .i64 1, .int .i64 999999999, .int .i64 0, .bool false, .bool false] by rfl]
  obtain ⟨w4, hw4, s4, b4, sb⟩ := blk_step w3 #[.int .i64 1, .int .i64 999999999, .int .i64 0, .bool false, .bool false] 89
  have b24 := b3.trans (b4.mono b3.size)
  have g3 := b3.size
  have ab4 := (b24.block w.heap.size (by omega)).trans ab2
  have own4 := own.below b24
  have B4 := B2.trans (b24.mono (by omega))
  have V4 := hide (V2.out.below b24)
  have p0 := blk_froz sb 0; have p1 := blk_froz sb 1; have p2 := blk_froz sb 2; have p3 := blk_froz sb 3; have p4 := blk_froz sb 4
  have d0 := blk_cell sb 0 rfl; have d1 := blk_cell sb 1 rfl; have d2 := blk_cell sb 2 rfl; have d3 := blk_cell sb 3 rfl; have d4 := blk_cell sb 4 rfl
  have x0 := set_same sb (j := 0) (u := .int .i64 1) rfl; have x1 := set_same sb (j := 1) (u := .int .i64 999999999) rfl; have x2 := set_same sb (j := 2) (u := .int .i64 0) rfl; have x3 := set_same sb (j := 3) (u := .bool false) rfl; have x4 := set_same sb (j := 4) (u := .bool false) rfl
  have A4 := sx_of ab4
  obtain ⟨c0, c1, c2, c3, c4, c5⟩ := A4
  clear a0 a02 N1 ab ab2 own B2 b3 b4 b24
  go_wp2_with fail
  refine (itoa_any a.u w4 (by omega) (by omega) V4.out).mono ?_
  rintro E y5 ⟨rfl, b5⟩
  obtain ⟨e5, he5⟩ : ∃ e, (⟨(Lib.itoa a.u).toArray⟩ : ByteArray) = e := ⟨_, rfl⟩
  rw [he5]
  have JN5 := hide (show JnS ([nmA 9] ++ [e5]) ([Sct.nm (9 : Nat)] ++ [Sct.dg a.u.toNat]) from JN.out.add (by simp) (by rw [← he5]; exact itoa_word (by omega)))
  clear he5
  obtain ⟨z5, hz5, t5, q5, own5a⟩ := rows_step fsc 1 fsc_len 9 y5 #[.string e5] 1 [e5] rfl rfl (by simp [maxLen])
  have own5b := (own4.below b5).below q5
  have b5' := b5.trans (q5.mono b5.size)
  have ab5a := (b5'.block _ (blk_lt ab4)).trans ab4
  have sb5a := (b5'.block _ (blk_lt sb)).trans sb
  have B5a := B4.trans (b5'.mono B4.size)
  have o5s := B4.size
  have o5t := b5.size
  go_wp2_with (at_builtin; refine wpList_append_rows fsc 1 16 fsc_len (by decide) (by decide) (.string ⟨#[]⟩) rfl rfl (.tmp 20) (.tmp 24) 29 rfl 9 (w.heap.size + 1) Tryz.underlying29 Tryz.info9 _ [nmA 9] rfl own5b _ [e5] rfl own5a.row (fsc_one _) (by simp) (by omega) ?_)
  intro v5 w5 own5 hg5
  have ab5 := row_other own5b hg5 ab5a (by decide)
  have sb5 := row_other own5b hg5 sb5a (by decide)
  have B5 := row_below own5b hg5 B5a B5a.size (by omega)
  have V5 := hide (V0.out.below B5)
  obtain ⟨g5, k5, hv5, r5, _, _⟩ := own5.form (by simp)
  replace hv5 : v5 = .slice (some ⟨g5, 0, none⟩) 2 k5 := hv5
  replace r5 : 2 ≤ k5 := r5
  subst hv5
  have D5 := sx_of ab5
  clear c0 c1 c2 c3 c4 c5 d0 d1 d2 d3 d4
  obtain ⟨c0, c1, c2, c3, c4, c5⟩ := D5
  have d0 := blk_cell sb5 0 rfl; have d1 := blk_cell sb5 1 rfl; have d2 := blk_cell sb5 2 rfl; have d3 := blk_cell sb5 3 rfl; have d4 := blk_cell sb5 4 rfl
  clear own5b own5a ab5a sb5a B5a hg5 b5 b5' q5 ab4 sb own4 B4
  go_wp2_with fail
  refine (itoa_any a.n w5 (by omega) (by omega) V5.out).mono ?_
  rintro E y6 ⟨rfl, b6⟩
  obtain ⟨e6, he6⟩ : ∃ e, (⟨(Lib.itoa a.n).toArray⟩ : ByteArray) = e := ⟨_, rfl⟩
  rw [he6]
  have JN6 := hide (show JnS (([nmA 9] ++ [e5]) ++ [e6]) (([Sct.nm (9 : Nat)] ++ [Sct.dg a.u.toNat]) ++ [Sct.dg a.n.toNat]) from JN5.out.add (by simp) (by rw [← he6]; exact itoa_word (by omega)))
  clear he6
  obtain ⟨z6, hz6, t6, q6, own6a⟩ := rows_step fsc 1 fsc_len 9 y6 #[.string e6] 1 [e6] rfl rfl (by simp [maxLen])
  have own6b := (own5.below b6).below q6
  have b6' := b6.trans (q6.mono b6.size)
  have ab6a := (b6'.block _ (blk_lt ab5)).trans ab5
  have sb6a := (b6'.block _ (blk_lt sb5)).trans sb5
  have B6a := B5.trans (b6'.mono B5.size)
  have o6s := B5.size
  have o6t := b6.size
  go_wp2_with (at_builtin; refine wpList_append_rows fsc 1 16 fsc_len (by decide) (by decide) (.string ⟨#[]⟩) rfl rfl (.tmp 29) (.tmp 33) 29 rfl 9 (w.heap.size + 1) Tryz.underlying29 Tryz.info9 _ ([nmA 9] ++ [e5]) rfl own6b _ [e6] rfl own6a.row (fsc_one _) (by simp) (by omega) ?_)
  intro v6 w6 own6 hg6
  have ab6 := row_other own6b hg6 ab6a (by decide)
  have sb6 := row_other own6b hg6 sb6a (by decide)
  have B6 := row_below own6b hg6 B6a B6a.size (by omega)
  have V6 := hide (V0.out.below B6)
  obtain ⟨g6, k6, hv6, r6, _, _⟩ := own6.form (by simp)
  replace hv6 : v6 = .slice (some ⟨g6, 0, none⟩) 3 k6 := hv6
  replace r6 : 3 ≤ k6 := r6
  subst hv6
  have D6 := sx_of ab6
  clear c0 c1 c2 c3 c4 c5 d0 d1 d2 d3 d4
  obtain ⟨c0, c1, c2, c3, c4, c5⟩ := D6
  have d0 := blk_cell sb6 0 rfl; have d1 := blk_cell sb6 1 rfl; have d2 := blk_cell sb6 2 rfl; have d3 := blk_cell sb6 3 rfl; have d4 := blk_cell sb6 4 rfl
  clear own6b own6a ab6a sb6a B6a hg6 b6 b6' q6 ab5 sb5 own5 B5
  have hz : a.ops = [] := by
    have := hop.out
    rw [show Sct.ho a.k = false by rw [HK.out]; decide] at this
    exact this
  have hl0 : (a.ops.length : Int) = 0 := by rw [hz]; rfl
  have TX : Hid (Sct.txt a = (([Sct.nm (9 : Nat)] ++ [Sct.dg a.u.toNat]) ++ [Sct.dg a.n.toNat])) := hide (by
    unfold Sct.txt Sct.tail
    rw [HK.out, hz]
    rfl)
  clear hz
  go_wp2
  refine wp_loop_rounds 1 ?_
  rw [rounds_succ]
  go_wp2_with fail
  refine (join_any g6 k6 _ (([nmA 9] ++ [e5]) ++ [e6]) (([Sct.nm (9 : Nat)] ++ [Sct.dg a.u.toNat]) ++ [Sct.dg a.n.toNat]) w6 _ own6 (by rfl) JN6.out (by rw [← TX.out]; exact TL.out.1) (by rw [← TX.out]; exact TL.out.2) r6 (by simp)).mono ?_
  rintro E wz ⟨rfl, bz⟩
  have TT := hide (show TRet w a (.returned (.string ⟨(Sct.jn (([Sct.nm (9 : Nat)] ++ [Sct.dg a.u.toNat]) ++ [Sct.dg a.n.toNat])).toArray⟩)) wz from ⟨by rw [TX.out], B6.trans (bz.mono B6.size)⟩)
  clear bz
  go_wp2
  go_ret
  exact TT.out

set_option maxHeartbeats 4000000 in
theorem textOf_10 (a : Sct.Av) (v : Value) (w : World) (hv : Vs w) (hok : Sct.Ok a) (h : IsO w v a.ops) (hk : a.k = 10) : Calls Tryz.prog 28 #[acv a v] w (TRet w a) := by
  obtain ⟨oa, oc, rfl, _, _⟩ := h.shape
  obtain ⟨w1, hw1, s1, b1, ab⟩ := blk_step w #[.int .i64 a.k, .int .i64 a.u, .int .i64 a.n, .int .i64 a.t, .string a.key, .slice oa a.ops.length oc] 24
  have V0 := hide hv
  have V1 := hv.below b1
  have N1 : w1.cell? ⟨0, 10, none⟩ = some (.string (nmA 10)) := V1.nms 10 (by omega)
  obtain ⟨w2, hw2, s2, b2, own⟩ := rows_step fsc 1 fsc_len 9 w1 #[.string (nmA 10)] 1 [nmA 10] rfl rfl (by simp [maxLen])
  have ab2 := (b2.block w.heap.size (by omega)).trans ab
  rw [hk] at ab ab2 hw1
  have B2 := b1.trans (b2.mono (by omega))
  have JN := hide (jnS_one 10 (by decide))
  have OK := hide hok
  have HK := hide hk
  have V2 := hide (V1.below b2)
  have TL := hide (txt_len hok)
  obtain ⟨u0, u1⟩ := hok.u
  obtain ⟨n0, n1⟩ := hok.n
  obtain ⟨t0, t1⟩ := hok.t
  have hky := hide hok.key
  have hop := hide hok.ops
  have HO := hide h
  rw [s1] at own
  have a0 := blk_cell ab 0 rfl
  have a02 := blk_cell ab2 0 rfl
  unfold acv acc
  rw [hk]
  clear hok h hk hv V1 b1 b2
  go_enter Tryz.func28, Tryz.ntmps28
  go_wp2_with fail
  refine (shapeOf_any 10 w2 (by omega)).mono ?_
  rintro E w3 ⟨rfl, b3⟩
  rw [show shV 10 = .agg #[.int .i64 1, .int .i64 0, .int .i64 0, .bool false, .bool false] by rfl]
  obtain ⟨w4, hw4, s4, b4, sb⟩ := blk_step w3 #[.int .i64 1, .int .i64 0, .int .i64 0, .bool false, .bool false] 89
  have b24 := b3.trans (b4.mono b3.size)
  have g3 := b3.size
  have ab4 := (b24.block w.heap.size (by omega)).trans ab2
  have own4 := own.below b24
  have B4 := B2.trans (b24.mono (by omega))
  have V4 := hide (V2.out.below b24)
  have p0 := blk_froz sb 0; have p1 := blk_froz sb 1; have p2 := blk_froz sb 2; have p3 := blk_froz sb 3; have p4 := blk_froz sb 4
  have d0 := blk_cell sb 0 rfl; have d1 := blk_cell sb 1 rfl; have d2 := blk_cell sb 2 rfl; have d3 := blk_cell sb 3 rfl; have d4 := blk_cell sb 4 rfl
  have x0 := set_same sb (j := 0) (u := .int .i64 1) rfl; have x1 := set_same sb (j := 1) (u := .int .i64 0) rfl; have x2 := set_same sb (j := 2) (u := .int .i64 0) rfl; have x3 := set_same sb (j := 3) (u := .bool false) rfl; have x4 := set_same sb (j := 4) (u := .bool false) rfl
  have A4 := sx_of ab4
  obtain ⟨c0, c1, c2, c3, c4, c5⟩ := A4
  clear a0 a02 N1 ab ab2 own B2 b3 b4 b24
  go_wp2_with fail
  refine (itoa_any a.u w4 (by omega) (by omega) V4.out).mono ?_
  rintro E y5 ⟨rfl, b5⟩
  obtain ⟨e5, he5⟩ : ∃ e, (⟨(Lib.itoa a.u).toArray⟩ : ByteArray) = e := ⟨_, rfl⟩
  rw [he5]
  have JN5 := hide (show JnS ([nmA 10] ++ [e5]) ([Sct.nm (10 : Nat)] ++ [Sct.dg a.u.toNat]) from JN.out.add (by simp) (by rw [← he5]; exact itoa_word (by omega)))
  clear he5
  obtain ⟨z5, hz5, t5, q5, own5a⟩ := rows_step fsc 1 fsc_len 9 y5 #[.string e5] 1 [e5] rfl rfl (by simp [maxLen])
  have own5b := (own4.below b5).below q5
  have b5' := b5.trans (q5.mono b5.size)
  have ab5a := (b5'.block _ (blk_lt ab4)).trans ab4
  have sb5a := (b5'.block _ (blk_lt sb)).trans sb
  have B5a := B4.trans (b5'.mono B4.size)
  have o5s := B4.size
  have o5t := b5.size
  go_wp2_with (at_builtin; refine wpList_append_rows fsc 1 16 fsc_len (by decide) (by decide) (.string ⟨#[]⟩) rfl rfl (.tmp 20) (.tmp 24) 29 rfl 9 (w.heap.size + 1) Tryz.underlying29 Tryz.info9 _ [nmA 10] rfl own5b _ [e5] rfl own5a.row (fsc_one _) (by simp) (by omega) ?_)
  intro v5 w5 own5 hg5
  have ab5 := row_other own5b hg5 ab5a (by decide)
  have sb5 := row_other own5b hg5 sb5a (by decide)
  have B5 := row_below own5b hg5 B5a B5a.size (by omega)
  have V5 := hide (V0.out.below B5)
  obtain ⟨g5, k5, hv5, r5, _, _⟩ := own5.form (by simp)
  replace hv5 : v5 = .slice (some ⟨g5, 0, none⟩) 2 k5 := hv5
  replace r5 : 2 ≤ k5 := r5
  subst hv5
  have D5 := sx_of ab5
  clear c0 c1 c2 c3 c4 c5 d0 d1 d2 d3 d4
  obtain ⟨c0, c1, c2, c3, c4, c5⟩ := D5
  have d0 := blk_cell sb5 0 rfl; have d1 := blk_cell sb5 1 rfl; have d2 := blk_cell sb5 2 rfl; have d3 := blk_cell sb5 3 rfl; have d4 := blk_cell sb5 4 rfl
  clear own5b own5a ab5a sb5a B5a hg5 b5 b5' q5 ab4 sb own4 B4
  have hz : a.ops = [] := by
    have := hop.out
    rw [show Sct.ho a.k = false by rw [HK.out]; decide] at this
    exact this
  have hl0 : (a.ops.length : Int) = 0 := by rw [hz]; rfl
  have TX : Hid (Sct.txt a = ([Sct.nm (10 : Nat)] ++ [Sct.dg a.u.toNat])) := hide (by
    unfold Sct.txt Sct.tail
    rw [HK.out, hz]
    rfl)
  clear hz
  go_wp2
  refine wp_loop_rounds 1 ?_
  rw [rounds_succ]
  go_wp2_with fail
  refine (join_any g5 k5 _ ([nmA 10] ++ [e5]) ([Sct.nm (10 : Nat)] ++ [Sct.dg a.u.toNat]) w5 _ own5 (by rfl) JN5.out (by rw [← TX.out]; exact TL.out.1) (by rw [← TX.out]; exact TL.out.2) r5 (by simp)).mono ?_
  rintro E wz ⟨rfl, bz⟩
  have TT := hide (show TRet w a (.returned (.string ⟨(Sct.jn ([Sct.nm (10 : Nat)] ++ [Sct.dg a.u.toNat])).toArray⟩)) wz from ⟨by rw [TX.out], B5.trans (bz.mono B5.size)⟩)
  clear bz
  go_wp2
  go_ret
  exact TT.out

set_option maxHeartbeats 4000000 in
theorem textOf_11 (a : Sct.Av) (v : Value) (w : World) (hv : Vs w) (hok : Sct.Ok a) (h : IsO w v a.ops) (hk : a.k = 11) : Calls Tryz.prog 28 #[acv a v] w (TRet w a) := by
  obtain ⟨oa, oc, rfl, _, _⟩ := h.shape
  obtain ⟨w1, hw1, s1, b1, ab⟩ := blk_step w #[.int .i64 a.k, .int .i64 a.u, .int .i64 a.n, .int .i64 a.t, .string a.key, .slice oa a.ops.length oc] 24
  have V0 := hide hv
  have V1 := hv.below b1
  have N1 : w1.cell? ⟨0, 11, none⟩ = some (.string (nmA 11)) := V1.nms 11 (by omega)
  obtain ⟨w2, hw2, s2, b2, own⟩ := rows_step fsc 1 fsc_len 9 w1 #[.string (nmA 11)] 1 [nmA 11] rfl rfl (by simp [maxLen])
  have ab2 := (b2.block w.heap.size (by omega)).trans ab
  rw [hk] at ab ab2 hw1
  have B2 := b1.trans (b2.mono (by omega))
  have JN := hide (jnS_one 11 (by decide))
  have OK := hide hok
  have HK := hide hk
  have V2 := hide (V1.below b2)
  have TL := hide (txt_len hok)
  obtain ⟨u0, u1⟩ := hok.u
  obtain ⟨n0, n1⟩ := hok.n
  obtain ⟨t0, t1⟩ := hok.t
  have hky := hide hok.key
  have hop := hide hok.ops
  have HO := hide h
  rw [s1] at own
  have a0 := blk_cell ab 0 rfl
  have a02 := blk_cell ab2 0 rfl
  unfold acv acc
  rw [hk]
  clear hok h hk hv V1 b1 b2
  go_enter Tryz.func28, Tryz.ntmps28
  go_wp2_with fail
  refine (shapeOf_any 11 w2 (by omega)).mono ?_
  rintro E w3 ⟨rfl, b3⟩
  rw [show shV 11 = .agg #[.int .i64 1, .int .i64 999999999, .int .i64 999999999, .bool false, .bool false] by rfl]
  obtain ⟨w4, hw4, s4, b4, sb⟩ := blk_step w3 #[.int .i64 1, .int .i64 999999999, .int .i64 999999999, .bool false, .bool false] 89
  have b24 := b3.trans (b4.mono b3.size)
  have g3 := b3.size
  have ab4 := (b24.block w.heap.size (by omega)).trans ab2
  have own4 := own.below b24
  have B4 := B2.trans (b24.mono (by omega))
  have V4 := hide (V2.out.below b24)
  have p0 := blk_froz sb 0; have p1 := blk_froz sb 1; have p2 := blk_froz sb 2; have p3 := blk_froz sb 3; have p4 := blk_froz sb 4
  have d0 := blk_cell sb 0 rfl; have d1 := blk_cell sb 1 rfl; have d2 := blk_cell sb 2 rfl; have d3 := blk_cell sb 3 rfl; have d4 := blk_cell sb 4 rfl
  have x0 := set_same sb (j := 0) (u := .int .i64 1) rfl; have x1 := set_same sb (j := 1) (u := .int .i64 999999999) rfl; have x2 := set_same sb (j := 2) (u := .int .i64 999999999) rfl; have x3 := set_same sb (j := 3) (u := .bool false) rfl; have x4 := set_same sb (j := 4) (u := .bool false) rfl
  have A4 := sx_of ab4
  obtain ⟨c0, c1, c2, c3, c4, c5⟩ := A4
  clear a0 a02 N1 ab ab2 own B2 b3 b4 b24
  go_wp2_with fail
  refine (itoa_any a.u w4 (by omega) (by omega) V4.out).mono ?_
  rintro E y5 ⟨rfl, b5⟩
  obtain ⟨e5, he5⟩ : ∃ e, (⟨(Lib.itoa a.u).toArray⟩ : ByteArray) = e := ⟨_, rfl⟩
  rw [he5]
  have JN5 := hide (show JnS ([nmA 11] ++ [e5]) ([Sct.nm (11 : Nat)] ++ [Sct.dg a.u.toNat]) from JN.out.add (by simp) (by rw [← he5]; exact itoa_word (by omega)))
  clear he5
  obtain ⟨z5, hz5, t5, q5, own5a⟩ := rows_step fsc 1 fsc_len 9 y5 #[.string e5] 1 [e5] rfl rfl (by simp [maxLen])
  have own5b := (own4.below b5).below q5
  have b5' := b5.trans (q5.mono b5.size)
  have ab5a := (b5'.block _ (blk_lt ab4)).trans ab4
  have sb5a := (b5'.block _ (blk_lt sb)).trans sb
  have B5a := B4.trans (b5'.mono B4.size)
  have o5s := B4.size
  have o5t := b5.size
  go_wp2_with (at_builtin; refine wpList_append_rows fsc 1 16 fsc_len (by decide) (by decide) (.string ⟨#[]⟩) rfl rfl (.tmp 20) (.tmp 24) 29 rfl 9 (w.heap.size + 1) Tryz.underlying29 Tryz.info9 _ [nmA 11] rfl own5b _ [e5] rfl own5a.row (fsc_one _) (by simp) (by omega) ?_)
  intro v5 w5 own5 hg5
  have ab5 := row_other own5b hg5 ab5a (by decide)
  have sb5 := row_other own5b hg5 sb5a (by decide)
  have B5 := row_below own5b hg5 B5a B5a.size (by omega)
  have V5 := hide (V0.out.below B5)
  obtain ⟨g5, k5, hv5, r5, _, _⟩ := own5.form (by simp)
  replace hv5 : v5 = .slice (some ⟨g5, 0, none⟩) 2 k5 := hv5
  replace r5 : 2 ≤ k5 := r5
  subst hv5
  have D5 := sx_of ab5
  clear c0 c1 c2 c3 c4 c5 d0 d1 d2 d3 d4
  obtain ⟨c0, c1, c2, c3, c4, c5⟩ := D5
  have d0 := blk_cell sb5 0 rfl; have d1 := blk_cell sb5 1 rfl; have d2 := blk_cell sb5 2 rfl; have d3 := blk_cell sb5 3 rfl; have d4 := blk_cell sb5 4 rfl
  clear own5b own5a ab5a sb5a B5a hg5 b5 b5' q5 ab4 sb own4 B4
  go_wp2_with fail
  refine (itoa_any a.n w5 (by omega) (by omega) V5.out).mono ?_
  rintro E y6 ⟨rfl, b6⟩
  obtain ⟨e6, he6⟩ : ∃ e, (⟨(Lib.itoa a.n).toArray⟩ : ByteArray) = e := ⟨_, rfl⟩
  rw [he6]
  have JN6 := hide (show JnS (([nmA 11] ++ [e5]) ++ [e6]) (([Sct.nm (11 : Nat)] ++ [Sct.dg a.u.toNat]) ++ [Sct.dg a.n.toNat]) from JN5.out.add (by simp) (by rw [← he6]; exact itoa_word (by omega)))
  clear he6
  obtain ⟨z6, hz6, t6, q6, own6a⟩ := rows_step fsc 1 fsc_len 9 y6 #[.string e6] 1 [e6] rfl rfl (by simp [maxLen])
  have own6b := (own5.below b6).below q6
  have b6' := b6.trans (q6.mono b6.size)
  have ab6a := (b6'.block _ (blk_lt ab5)).trans ab5
  have sb6a := (b6'.block _ (blk_lt sb5)).trans sb5
  have B6a := B5.trans (b6'.mono B5.size)
  have o6s := B5.size
  have o6t := b6.size
  go_wp2_with (at_builtin; refine wpList_append_rows fsc 1 16 fsc_len (by decide) (by decide) (.string ⟨#[]⟩) rfl rfl (.tmp 29) (.tmp 33) 29 rfl 9 (w.heap.size + 1) Tryz.underlying29 Tryz.info9 _ ([nmA 11] ++ [e5]) rfl own6b _ [e6] rfl own6a.row (fsc_one _) (by simp) (by omega) ?_)
  intro v6 w6 own6 hg6
  have ab6 := row_other own6b hg6 ab6a (by decide)
  have sb6 := row_other own6b hg6 sb6a (by decide)
  have B6 := row_below own6b hg6 B6a B6a.size (by omega)
  have V6 := hide (V0.out.below B6)
  obtain ⟨g6, k6, hv6, r6, _, _⟩ := own6.form (by simp)
  replace hv6 : v6 = .slice (some ⟨g6, 0, none⟩) 3 k6 := hv6
  replace r6 : 3 ≤ k6 := r6
  subst hv6
  have D6 := sx_of ab6
  clear c0 c1 c2 c3 c4 c5 d0 d1 d2 d3 d4
  obtain ⟨c0, c1, c2, c3, c4, c5⟩ := D6
  have d0 := blk_cell sb6 0 rfl; have d1 := blk_cell sb6 1 rfl; have d2 := blk_cell sb6 2 rfl; have d3 := blk_cell sb6 3 rfl; have d4 := blk_cell sb6 4 rfl
  clear own6b own6a ab6a sb6a B6a hg6 b6 b6' q6 ab5 sb5 own5 B5
  go_wp2_with fail
  refine (itoa_any a.t w6 (by omega) (by omega) V6.out).mono ?_
  rintro E y7 ⟨rfl, b7⟩
  obtain ⟨e7, he7⟩ : ∃ e, (⟨(Lib.itoa a.t).toArray⟩ : ByteArray) = e := ⟨_, rfl⟩
  rw [he7]
  have JN7 := hide (show JnS ((([nmA 11] ++ [e5]) ++ [e6]) ++ [e7]) ((([Sct.nm (11 : Nat)] ++ [Sct.dg a.u.toNat]) ++ [Sct.dg a.n.toNat]) ++ [Sct.dg a.t.toNat]) from JN6.out.add (by simp) (by rw [← he7]; exact itoa_word (by omega)))
  clear he7
  obtain ⟨z7, hz7, t7, q7, own7a⟩ := rows_step fsc 1 fsc_len 9 y7 #[.string e7] 1 [e7] rfl rfl (by simp [maxLen])
  have own7b := (own6.below b7).below q7
  have b7' := b7.trans (q7.mono b7.size)
  have ab7a := (b7'.block _ (blk_lt ab6)).trans ab6
  have sb7a := (b7'.block _ (blk_lt sb6)).trans sb6
  have B7a := B6.trans (b7'.mono B6.size)
  have o7s := B6.size
  have o7t := b7.size
  go_wp2_with (at_builtin; refine wpList_append_rows fsc 1 16 fsc_len (by decide) (by decide) (.string ⟨#[]⟩) rfl rfl (.tmp 38) (.tmp 42) 29 rfl 9 (w.heap.size + 1) Tryz.underlying29 Tryz.info9 _ (([nmA 11] ++ [e5]) ++ [e6]) rfl own7b _ [e7] rfl own7a.row (fsc_one _) (by simp) (by omega) ?_)
  intro v7 w7 own7 hg7
  have ab7 := row_other own7b hg7 ab7a (by decide)
  have sb7 := row_other own7b hg7 sb7a (by decide)
  have B7 := row_below own7b hg7 B7a B7a.size (by omega)
  have V7 := hide (V0.out.below B7)
  obtain ⟨g7, k7, hv7, r7, _, _⟩ := own7.form (by simp)
  replace hv7 : v7 = .slice (some ⟨g7, 0, none⟩) 4 k7 := hv7
  replace r7 : 4 ≤ k7 := r7
  subst hv7
  have D7 := sx_of ab7
  clear c0 c1 c2 c3 c4 c5 d0 d1 d2 d3 d4
  obtain ⟨c0, c1, c2, c3, c4, c5⟩ := D7
  have d0 := blk_cell sb7 0 rfl; have d1 := blk_cell sb7 1 rfl; have d2 := blk_cell sb7 2 rfl; have d3 := blk_cell sb7 3 rfl; have d4 := blk_cell sb7 4 rfl
  clear own7b own7a ab7a sb7a B7a hg7 b7 b7' q7 ab6 sb6 own6 B6
  have hz : a.ops = [] := by
    have := hop.out
    rw [show Sct.ho a.k = false by rw [HK.out]; decide] at this
    exact this
  have hl0 : (a.ops.length : Int) = 0 := by rw [hz]; rfl
  have TX : Hid (Sct.txt a = ((([Sct.nm (11 : Nat)] ++ [Sct.dg a.u.toNat]) ++ [Sct.dg a.n.toNat]) ++ [Sct.dg a.t.toNat])) := hide (by
    unfold Sct.txt Sct.tail
    rw [HK.out, hz]
    rfl)
  clear hz
  go_wp2
  refine wp_loop_rounds 1 ?_
  rw [rounds_succ]
  go_wp2_with fail
  refine (join_any g7 k7 _ ((([nmA 11] ++ [e5]) ++ [e6]) ++ [e7]) ((([Sct.nm (11 : Nat)] ++ [Sct.dg a.u.toNat]) ++ [Sct.dg a.n.toNat]) ++ [Sct.dg a.t.toNat]) w7 _ own7 (by rfl) JN7.out (by rw [← TX.out]; exact TL.out.1) (by rw [← TX.out]; exact TL.out.2) r7 (by simp)).mono ?_
  rintro E wz ⟨rfl, bz⟩
  have TT := hide (show TRet w a (.returned (.string ⟨(Sct.jn ((([Sct.nm (11 : Nat)] ++ [Sct.dg a.u.toNat]) ++ [Sct.dg a.n.toNat]) ++ [Sct.dg a.t.toNat])).toArray⟩)) wz from ⟨by rw [TX.out], B7.trans (bz.mono B7.size)⟩)
  clear bz
  go_wp2
  go_ret
  exact TT.out

set_option maxHeartbeats 4000000 in
theorem textOf_12 (a : Sct.Av) (v : Value) (w : World) (hv : Vs w) (hok : Sct.Ok a) (h : IsO w v a.ops) (hk : a.k = 12) : Calls Tryz.prog 28 #[acv a v] w (TRet w a) := by
  obtain ⟨oa, oc, rfl, _, _⟩ := h.shape
  obtain ⟨w1, hw1, s1, b1, ab⟩ := blk_step w #[.int .i64 a.k, .int .i64 a.u, .int .i64 a.n, .int .i64 a.t, .string a.key, .slice oa a.ops.length oc] 24
  have V0 := hide hv
  have V1 := hv.below b1
  have N1 : w1.cell? ⟨0, 12, none⟩ = some (.string (nmA 12)) := V1.nms 12 (by omega)
  obtain ⟨w2, hw2, s2, b2, own⟩ := rows_step fsc 1 fsc_len 9 w1 #[.string (nmA 12)] 1 [nmA 12] rfl rfl (by simp [maxLen])
  have ab2 := (b2.block w.heap.size (by omega)).trans ab
  rw [hk] at ab ab2 hw1
  have B2 := b1.trans (b2.mono (by omega))
  have JN := hide (jnS_one 12 (by decide))
  have OK := hide hok
  have HK := hide hk
  have V2 := hide (V1.below b2)
  have TL := hide (txt_len hok)
  obtain ⟨u0, u1⟩ := hok.u
  obtain ⟨n0, n1⟩ := hok.n
  obtain ⟨t0, t1⟩ := hok.t
  have hky := hide hok.key
  have hop := hide hok.ops
  have HO := hide h
  rw [s1] at own
  have a0 := blk_cell ab 0 rfl
  have a02 := blk_cell ab2 0 rfl
  unfold acv acc
  rw [hk]
  clear hok h hk hv V1 b1 b2
  go_enter Tryz.func28, Tryz.ntmps28
  go_wp2_with fail
  refine (shapeOf_any 12 w2 (by omega)).mono ?_
  rintro E w3 ⟨rfl, b3⟩
  rw [show shV 12 = .agg #[.int .i64 0, .int .i64 0, .int .i64 0, .bool false, .bool false] by rfl]
  obtain ⟨w4, hw4, s4, b4, sb⟩ := blk_step w3 #[.int .i64 0, .int .i64 0, .int .i64 0, .bool false, .bool false] 89
  have b24 := b3.trans (b4.mono b3.size)
  have g3 := b3.size
  have ab4 := (b24.block w.heap.size (by omega)).trans ab2
  have own4 := own.below b24
  have B4 := B2.trans (b24.mono (by omega))
  have V4 := hide (V2.out.below b24)
  have p0 := blk_froz sb 0; have p1 := blk_froz sb 1; have p2 := blk_froz sb 2; have p3 := blk_froz sb 3; have p4 := blk_froz sb 4
  have d0 := blk_cell sb 0 rfl; have d1 := blk_cell sb 1 rfl; have d2 := blk_cell sb 2 rfl; have d3 := blk_cell sb 3 rfl; have d4 := blk_cell sb 4 rfl
  have x0 := set_same sb (j := 0) (u := .int .i64 0) rfl; have x1 := set_same sb (j := 1) (u := .int .i64 0) rfl; have x2 := set_same sb (j := 2) (u := .int .i64 0) rfl; have x3 := set_same sb (j := 3) (u := .bool false) rfl; have x4 := set_same sb (j := 4) (u := .bool false) rfl
  have A4 := sx_of ab4
  obtain ⟨c0, c1, c2, c3, c4, c5⟩ := A4
  clear a0 a02 N1 ab ab2 own B2 b3 b4 b24
  have hz : a.ops = [] := by
    have := hop.out
    rw [show Sct.ho a.k = false by rw [HK.out]; decide] at this
    exact this
  have hl0 : (a.ops.length : Int) = 0 := by rw [hz]; rfl
  have TX : Hid (Sct.txt a = [Sct.nm (12 : Nat)]) := hide (by
    unfold Sct.txt Sct.tail
    rw [HK.out, hz]
    rfl)
  clear hz
  go_wp2
  refine wp_loop_rounds 1 ?_
  rw [rounds_succ]
  go_wp2_with fail
  refine (join_any (w.heap.size + 1) 1 _ [nmA 12] [Sct.nm (12 : Nat)] w4 _ own4 (by rfl) JN.out (by rw [← TX.out]; exact TL.out.1) (by rw [← TX.out]; exact TL.out.2) (by simp) (by simp)).mono ?_
  rintro E wz ⟨rfl, bz⟩
  have TT := hide (show TRet w a (.returned (.string ⟨(Sct.jn [Sct.nm (12 : Nat)]).toArray⟩)) wz from ⟨by rw [TX.out], B4.trans (bz.mono B4.size)⟩)
  clear bz
  go_wp2
  go_ret
  exact TT.out

end Go.Proofs.YtdlogcdpapknaaaGreatDoor
