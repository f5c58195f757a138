/- Texts of one layer, one behind the other. -/
import Derived.Test.YtdlogcdpapknaaaGreatDoorSxw
import Derived.Test.YtdlogcdpapknaaaGreatDoorSxx
/- Package script (layer 25): an act's text. -/
namespace Go.Proofs.YtdlogcdpapknaaaGreatDoor
open Go.RowKit
set_option linter.unusedVariables false
set_option maxRecDepth 100000

set_option maxHeartbeats 4000000 in
theorem textOf_1 (a : Sct.Av) (v : Value) (w : World) (hv : Vs w) (hok : Sct.Ok a) (h : IsO w v a.ops) (hk : a.k = 1) : Calls Tryz.prog 28 #[acv a v] w (TRet w a) := by
  obtain ⟨oa, oc, rfl, _, _⟩ := h.shape
  obtain ⟨w1, hw1, s1, b1, ab⟩ := blk_step w #[.int .i64 a.k, .int .i64 a.u, .int .i64 a.n, .int .i64 a.t, .string a.key, .slice oa a.ops.length oc] 24
  have V0 := hide hv
  have V1 := hv.below b1
  have N1 : w1.cell? ⟨0, 1, none⟩ = some (.string (nmA 1)) := V1.nms 1 (by omega)
  obtain ⟨w2, hw2, s2, b2, own⟩ := rows_step fsc 1 fsc_len 9 w1 #[.string (nmA 1)] 1 [nmA 1] rfl rfl (by simp [maxLen])
  have ab2 := (b2.block w.heap.size (by omega)).trans ab
  rw [hk] at ab ab2 hw1
  have B2 := b1.trans (b2.mono (by omega))
  have JN := hide (jnS_one 1 (by decide))
  have OK := hide hok
  have HK := hide hk
  have V2 := hide (V1.below b2)
  have TL := hide (txt_len hok)
  obtain ⟨u0, u1⟩ := hok.u
  obtain ⟨n0, n1⟩ := hok.n
  obtain ⟨t0, t1⟩ := hok.t
  have hky := hide hok.key
  have hop := hide hok.ops
  have HO := hide h
  rw [s1] at own
  have a0 := blk_cell ab 0 rfl
  have a02 := blk_cell ab2 0 rfl
  unfold acv acc
  rw [hk]
  clear hok h hk hv V1 b1 b2
  go_enter Tryz.func28, Tryz.ntmps28
  go_wp2_with fail
  refine (shapeOf_any 1 w2 (by omega)).mono ?_
  rintro E w3 ⟨rfl, b3⟩
  rw [show shV 1 = .agg #[.int .i64 1, .int .i64 0, .int .i64 0, .bool false, .bool true] by rfl]
  obtain ⟨w4, hw4, s4, b4, sb⟩ := blk_step w3 #[.int .i64 1, .int .i64 0, .int .i64 0, .bool false, .bool true] 89
  have b24 := b3.trans (b4.mono b3.size)
  have g3 := b3.size
  have ab4 := (b24.block w.heap.size (by omega)).trans ab2
  have own4 := own.below b24
  have B4 := B2.trans (b24.mono (by omega))
  have V4 := hide (V2.out.below b24)
  have p0 := blk_froz sb 0; have p1 := blk_froz sb 1; have p2 := blk_froz sb 2; have p3 := blk_froz sb 3; have p4 := blk_froz sb 4
  have d0 := blk_cell sb 0 rfl; have d1 := blk_cell sb 1 rfl; have d2 := blk_cell sb 2 rfl; have d3 := blk_cell sb 3 rfl; have d4 := blk_cell sb 4 rfl
  have x0 := set_same sb (j := 0) (u := .int .i64 1) rfl; have x1 := set_same sb (j := 1) (u := .int .i64 0) rfl; have x2 := set_same sb (j := 2) (u := .int .i64 0) rfl; have x3 := set_same sb (j := 3) (u := .bool false) rfl; have x4 := set_same sb (j := 4) (u := .bool true) rfl
  have A4 := sx_of ab4
  obtain ⟨c0, c1, c2, c3, c4, c5⟩ := A4
  clear a0 a02 N1 ab ab2 own B2 b3 b4 b24
  go_wp2_with fail
  refine (itoa_any a.u w4 (by omega) (by omega) V4.out).mono ?_
  rintro E y5 ⟨rfl, b5⟩
  obtain ⟨e5, he5⟩ : ∃ e, (⟨(Lib.itoa a.u).toArray⟩ : ByteArray) = e := ⟨_, rfl⟩
  rw [he5]
  have JN5 := hide (show JnS ([nmA 1] ++ [e5]) ([Sct.nm (1 : Nat)] ++ [Sct.dg a.u.toNat]) from JN.out.add (by simp) (by rw [← he5]; exact itoa_word (by omega)))
  clear he5
  obtain ⟨z5, hz5, t5, q5, own5a⟩ := rows_step fsc 1 fsc_len 9 y5 #[.string e5] 1 [e5] rfl rfl (by simp [maxLen])
  have own5b := (own4.below b5).below q5
  have b5' := b5.trans (q5.mono b5.size)
  have ab5a := (b5'.block _ (blk_lt ab4)).trans ab4
  have sb5a := (b5'.block _ (blk_lt sb)).trans sb
  have B5a := B4.trans (b5'.mono B4.size)
  have o5s := B4.size
  have o5t := b5.size
  go_wp2_with (at_builtin; refine wpList_append_rows fsc 1 16 fsc_len (by decide) (by decide) (.string ⟨#[]⟩) rfl rfl (.tmp 20) (.tmp 24) 29 rfl 9 (w.heap.size + 1) Tryz.underlying29 Tryz.info9 _ [nmA 1] rfl own5b _ [e5] rfl own5a.row (fsc_one _) (by simp) (by omega) ?_)
  intro v5 w5 own5 hg5
  have ab5 := row_other own5b hg5 ab5a (by decide)
  have sb5 := row_other own5b hg5 sb5a (by decide)
  have B5 := row_below own5b hg5 B5a B5a.size (by omega)
  have V5 := hide (V0.out.below B5)
  obtain ⟨g5, k5, hv5, r5, _, _⟩ := own5.form (by simp)
  replace hv5 : v5 = .slice (some ⟨g5, 0, none⟩) 2 k5 := hv5
  replace r5 : 2 ≤ k5 := r5
  subst hv5
  have D5 := sx_of ab5
  clear c0 c1 c2 c3 c4 c5 d0 d1 d2 d3 d4
  obtain ⟨c0, c1, c2, c3, c4, c5⟩ := D5
  have d0 := blk_cell sb5 0 rfl; have d1 := blk_cell sb5 1 rfl; have d2 := blk_cell sb5 2 rfl; have d3 := blk_cell sb5 3 rfl; have d4 := blk_cell sb5 4 rfl
  clear own5b own5a ab5a sb5a B5a hg5 b5 b5' q5 ab4 sb own4 B4
  obtain ⟨m, hm⟩ : ∃ m, a.ops.length = m := ⟨_, rfl⟩
  have HM := hide hm
  have CZ := hide (Bm.chkL_zero (by have := hop.out; rw [show Sct.ho a.k = true by rw [HK.out]; decide] at this; exact this))
  have hm8 : m ≤ 8 := by have := CZ.out.2.1; omega
  have TX : Hid (Sct.txt a = ([Sct.nm (1 : Nat)] ++ [Sct.dg a.u.toNat]) ++ Sct.opw a.ops) := hide (by
    unfold Sct.txt Sct.tail
    rw [HK.out]
    rfl)
  rw [hm] at c5 ⊢
  clear hm x0 x1 x2 x3 x4 p0 p1 p2 p3 p4
  rw [show a.ops.length = m from HM.out] at HO
  go_wp2
  go_loopw [3, 55] (fun wv iv wr => ∃ (i : Nat) (ws : List ByteArray) (g k : Nat), i ≤ m ∧ iv = .int .i64 i ∧ wv = .slice (some ⟨g, 0, none⟩) (2 + i) k ∧ ws.length = 2 + i ∧ OwnG fsc 1 9 (w.heap.size + 1) wr (.slice (some ⟨g, 0, none⟩) (2 + i) k) ws ∧ Hid (JnS ws (([Sct.nm (1 : Nat)] ++ [Sct.dg a.u.toNat]) ++ Sct.opw (a.ops.take i))) ∧ Below w.heap.size w wr ∧ 2 + i ≤ k) (fun _ iv _ => m - (intOf iv).toNat)
  case atStart => exact ⟨0, ([nmA 1] ++ [e5]), g5, k5, by omega, rfl, rfl, rfl, own5, hide (by simpa [Sct.opw] using JN5.out), B5, r5⟩
  case round =>
    obtain ⟨i, ws, g, k, hi, rfl, rfl, hwl, own, J, bel, hgk⟩ := hrel
    have hbs := bel.size
    by_cases hlt : i < m
    · have hlt' : (i : Int) < m := by omega
      obtain ⟨ob, off, cap, hvx, _, _, hob, hc⟩ := (HO.out.below bel).full (by have := HM.out; omega)
      rw [HM.out] at hvx
      cases hvx
      obtain ⟨o, ho⟩ : ∃ o, a.ops[i]? = some o := ⟨a.ops[i]'(by have := HM.out; omega), List.getElem?_eq_getElem _⟩
      obtain ⟨p0, p1, p2⟩ := hc i o ho
      have hoc : o.c = 0 := CZ.out.2.2 o (List.mem_of_getElem? ho)
      have hck := Om.chk_ok' (show Om.chk o.p o.kl o.vl = 0 from hoc)
      have hk16 : o.k.size ≤ 16 := by rw [Lib.size_eq]; exact hck.2.1
      have hv32 : o.v.size ≤ 32 := by rw [Lib.size_eq]; exact hck.2.2.1
      obtain ⟨wb, hwb, sb', bb, obk⟩ := blk_step wr #[.bool o.p, .string o.k, .string o.v] 77
      have TXT := hide (text_any o.p o.k o.v wb (by omega) (by omega))
      unfold opv at TXT
      have r0 := blk_cell obk 0 rfl; have r1 := blk_cell obk 1 rfl; have r2 := blk_cell obk 2 rfl
      have f0 := blk_froz obk 0; have f1 := blk_froz obk 1; have f2 := blk_froz obk 2
      have x0 := set_same obk (j := 0) (u := .bool o.p) rfl; have x1 := set_same obk (j := 1) (u := .string o.k) rfl; have x2 := set_same obk (j := 2) (u := .string o.v) rfl
      have OW := hide (own.below bb)
      have HOC := hide hoc
      have HOI := hide ho
      have BB := hide (bel.trans (bb.mono hbs))
      clear hc own bb obk hoc hck ho
      go_wp2_with fail
      refine TXT.out.mono ?_
      rintro E wc ⟨t, rfl, ht, bc⟩
      have JN2 := hide (show JnS (ws ++ [t]) (([Sct.nm (1 : Nat)] ++ [Sct.dg a.u.toNat]) ++ Sct.opw (a.ops.take (i + 1))) from by
        have h1 := J.out.add (G := Sct.opw [o]) (s := t) (opw_ne o) (by rw [ht]; exact txd_words HOC.out)
        rw [List.take_add_one, HOI.out]
        show JnS _ (_ ++ Sct.opw (a.ops.take i ++ [o]))
        rw [opw_app, ← List.append_assoc]
        exact h1)
      obtain ⟨wd, hwd, sd, bd, ownd⟩ := rows_step fsc 1 fsc_len 9 wc #[.string t] 1 [t] rfl rfl (by simp [maxLen])
      have own2 := (OW.out.below bc).below bd
      have B2 := BB.out.trans ((bc.trans (bd.mono bc.size)).mono BB.out.size)
      have hsz2 := B2.size
      have hsc := bc.size
      have hsb := BB.out.size
      clear TXT ht bc bd J OW r0 r1 r2 f0 f1 f2 x0 x1 x2 p0 p1 p2
      go_wp2_with (at_builtin; refine wpList_append_rows fsc 1 16 fsc_len (by decide) (by decide) (.string ⟨#[]⟩) rfl rfl (.tmp 64) (.tmp 66) 29 rfl 9 (w.heap.size + 1) Tryz.underlying29 Tryz.info9 _ ws rfl own2 _ [t] rfl ownd.row (fsc_one _) (by simp; omega) (by omega) ?_)
      intro v3 we own3 hg3
      have B3 := row_below own2 hg3 B2 B2.size (by omega)
      obtain ⟨g3, k3, hv3, r3, _, _⟩ := own3.form (by simp)
      have hl3 : (ws ++ [t]).length = 2 + (i + 1) := by rw [List.length_append, hwl]; rfl
      rw [hl3] at hv3 r3
      subst hv3
      clear own2 ownd B2 hg3
      go_wp2
      go_roundw
      case rel => exact ⟨i + 1, ws ++ [t], g3, k3, by omega, by go_num, rfl, hl3, own3, JN2, B3, r3⟩
      case measure => simp [intOf]; omega
    · have hlt' : ¬ (i : Int) < m := by omega
      obtain rfl : i = m := by omega
      have hT : ([Sct.nm (1 : Nat)] ++ [Sct.dg a.u.toNat]) ++ Sct.opw (a.ops.take i) = Sct.txt a := by rw [TX.out, List.take_of_length_le (by rw [HM.out]; exact Nat.le_refl _)]
      rw [hT] at J
      go_wp2_with fail
      refine (join_any g k _ ws (Sct.txt a) wr _ own hwl.symm J.out TL.out.1 TL.out.2 (by omega) (by omega)).mono ?_
      rintro E wz ⟨rfl, bz⟩
      have TT := hide (show TRet w a (.returned (.string ⟨(Sct.jn (Sct.txt a)).toArray⟩)) wz from ⟨rfl, bel.trans (bz.mono bel.size)⟩)
      clear bz
      go_wp2
      go_ret
      exact TT.out

end Go.Proofs.YtdlogcdpapknaaaGreatDoor

/- Package script (layer 25): an act's text. -/
namespace Go.Proofs.YtdlogcdpapknaaaGreatDoor
open Go.RowKit
set_option linter.unusedVariables false
set_option maxRecDepth 100000

theorem textOf_any (a : Sct.Av) (v : Value) (w : World) (hv : Vs w) (hok : Sct.Ok a) (h : IsO w v a.ops) : Calls Tryz.prog 28 #[acv a v] w (TRet w a) := by
  obtain k | k | k | k | k | k | k | k | k | k | k | k : a.k = 1 ∨ a.k = 2 ∨ a.k = 3 ∨ a.k = 4 ∨ a.k = 5 ∨ a.k = 6 ∨ a.k = 7 ∨ a.k = 8 ∨ a.k = 9 ∨ a.k = 10 ∨ a.k = 11 ∨ a.k = 12 := by have := hok.k; omega
  · exact textOf_1 a v w hv hok h k
  · exact textOf_2 a v w hv hok h k
  · exact textOf_3 a v w hv hok h k
  · exact textOf_4 a v w hv hok h k
  · exact textOf_5 a v w hv hok h k
  · exact textOf_6 a v w hv hok h k
  · exact textOf_7 a v w hv hok h k
  · exact textOf_8 a v w hv hok h k
  · exact textOf_9 a v w hv hok h k
  · exact textOf_10 a v w hv hok h k
  · exact textOf_11 a v w hv hok h k
  · exact textOf_12 a v w hv hok h k

end Go.Proofs.YtdlogcdpapknaaaGreatDoor
