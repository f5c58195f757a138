/- Texts of one layer, one behind the other. -/
import Derived.Test.YthmecljkackmbaaGreatG21
import Derived.Test.YthmecljkackmbaaGreatGK5
import Derived.Test.YthmecljkackmbaaGreatGK1
import Derived.Test.YthmecljkackmbaaGreatGK4
import Derived.Test.YthmecljkackmbaaGreatG8
/- Runs that are none, or that nobody made. -/
namespace Go.Proofs.YthmecljkackmbaaGreat
open Go.RowKit
set_option linter.unusedVariables false

/-- None, or nobody's. -/
def NoR (w : World) (v : Value) : Prop := v = .pointer none ∨ ∃ p, v = .pointer (some ⟨p, 0, none⟩) ∧ w.heap[p]? = some (.cells #[.pointer none, .bool false, .slice none 0 0] 71 (0, 0))

theorem NoR.below {w w' : World} {v : Value} (h : NoR w v) (hb : Below w.heap.size w w') : NoR w' v := by
  rcases h with h | ⟨p, h1, h2⟩
  · exact .inl h
  · exact .inr ⟨p, h1, (hb.block p (blk_lt h2)).trans h2⟩

theorem rmade_no (w : World) (v : Value) (h : NoR w v) : Calls Tryz.prog 90 #[v] w fun E w' => E = .returned (.bool false) ∧ w = w' := by
  rcases h with rfl | ⟨p, rfl, hB⟩
  · go_enter Tryz.func90, Tryz.ntmps90
    go_wp2
    go_ret
    exact ⟨rfl, rfl⟩
  · have c0 : w.cell? ⟨p, 0, none⟩ = some (.pointer none) := blk_cell hB 0 rfl
    clear hB
    go_enter Tryz.func90, Tryz.ntmps90
    go_wp2
    go_ret
    exact ⟨rfl, rfl⟩

theorem NoR.form {w : World} {v : Value} (h : NoR w v) : ∃ a, v = .pointer a := by
  rcases h with rfl | ⟨p, rfl, _⟩
  · exact ⟨_, rfl⟩
  · exact ⟨_, rfl⟩

theorem rrefuses_no (w : World) (v : Value) (h : NoR w v) : Calls Tryz.prog 117 #[v] w fun E w' => E = .returned (.int .i64 1) ∧ w = w' := by
  have HM := hide (rmade_no w v h)
  obtain ⟨a, rfl⟩ := h.form
  clear h
  go_enter Tryz.func117, Tryz.ntmps117
  go_wp2_with fail
  refine HM.out.mono ?_
  rintro E w1 ⟨rfl, rfl⟩
  go_wp2
  go_ret
  exact ⟨rfl, rfl⟩

theorem rflush_no (w : World) (v : Value) (e n : Int) (vo : Value) (ho : ∃ a k c, vo = .slice a k c) (h : NoR w v) : Calls Tryz.prog 54 #[v, .agg #[.int .i64 e, .int .i64 n, vo]] w fun E w' => E = .returned (.int .i64 1) ∧ Below w.heap.size w w' := by
  obtain ⟨w1, hw1, sz1, bel1, hB⟩ := blk_step w #[.int .i64 e, .int .i64 n, vo] 93
  have HM := hide (rrefuses_no w1 v (h.below bel1))
  have HM0 := hide (rrefuses_no w v h)
  obtain ⟨a, rfl⟩ := h.form
  obtain ⟨xa, xk, xc, rfl⟩ := ho
  clear h hB
  go_enter Tryz.func54, Tryz.ntmps54
  go_wp2_with fail
  first
  | refine HM0.out.mono ?_
    rintro E w2 ⟨rfl, rfl⟩
    go_wp2
    go_ret
    exact ⟨rfl, Below.refl _ _⟩
  | refine HM.out.mono ?_
    rintro E w2 ⟨rfl, rfl⟩
    go_wp2
    go_ret
    exact ⟨rfl, bel1⟩

theorem rget_no (w : World) (v : Value) (k : ByteArray) (h : NoR w v) : Calls Tryz.prog 95 #[v, .string k] w fun E w' => E = .returned (.tuple #[.string ⟨#[]⟩, .bool false, .bool false]) ∧ Below w.heap.size w w' := by
  obtain ⟨w1, hw1, sz1, bel1, B1⟩ := blk_step w #[.string k] 9
  obtain ⟨w2, hw2, sz2, bel2, B2⟩ := blk_step w1 #[.string ⟨#[]⟩] 9
  obtain ⟨w3, hw3, sz3, bel3, B3⟩ := blk_step w2 #[.bool false] 4
  obtain ⟨w4, hw4, sz4, bel4, B4⟩ := blk_step w3 #[.bool false] 4
  rw [sz1] at B2 bel2
  rw [show w2.heap.size = w.heap.size + 2 by omega] at B3 bel3
  rw [show w3.heap.size = w.heap.size + 3 by omega] at B4 bel4
  have bel04 : Below w.heap.size w w4 := ((bel1.trans (bel2.mono (by omega))).trans (bel3.mono (by omega))).trans (bel4.mono (by omega))
  have HM := hide (rmade_no w4 v (h.below bel04))
  have D1 : w4.heap[w.heap.size + 1]? = some (.cells #[.string ⟨#[]⟩] 9 (0, 0)) := (bel4.block _ (by omega)).trans ((bel3.block _ (by omega)).trans B2)
  have D2 : w4.heap[w.heap.size + 2]? = some (.cells #[.bool false] 4 (0, 0)) := (bel4.block _ (by omega)).trans B3
  have r1 := blk_cell D1 0 rfl; have r2 := blk_cell D2 0 rfl; have r3 := blk_cell B4 0 rfl
  have f1 := blk_froz D1 0; have f2 := blk_froz D2 0; have f3 := blk_froz B4 0
  simp only [List.getElem_toArray, List.getElem_cons_zero] at r1 r2 r3
  have s1 : w4.setCell ⟨w.heap.size + 1, 0, none⟩ (.string ⟨#[]⟩) = w4 := set_same D1 (j := 0) rfl
  have s2 : w4.setCell ⟨w.heap.size + 2, 0, none⟩ (.bool false) = w4 := set_same D2 (j := 0) rfl
  have s3 : w4.setCell ⟨w.heap.size + 3, 0, none⟩ (.bool false) = w4 := set_same B4 (j := 0) rfl
  obtain ⟨a, rfl⟩ := h.form
  clear h D1 D2 B1 B2 B3 B4 bel1 bel2 bel3 bel4
  go_enter Tryz.func95, Tryz.ntmps95
  go_wp2_with fail
  refine HM.out.mono ?_
  rintro E w5 ⟨rfl, rfl⟩
  go_wp2
  refine bodyPost_ret (v := .tuple #[.string ⟨#[]⟩, .bool false, .bool false]) (by simp [results, Tryz.results95, go_sem, r1, r2, r3]) rfl ?_
  exact ⟨rfl, bel04⟩

theorem rend_no (w : World) (v : Value) (h : NoR w v) : Calls Tryz.prog 40 #[v] w fun E w' => E = .returned (.int .i64 0) ∧ w = w' := by
  have HM := hide (rmade_no w v h)
  obtain ⟨a, rfl⟩ := h.form
  clear h
  go_enter Tryz.func40, Tryz.ntmps40
  go_wp2_with fail
  refine HM.out.mono ?_
  rintro E w1 ⟨rfl, rfl⟩
  go_wp2
  go_ret
  exact ⟨rfl, rfl⟩

theorem rlist_no (w : World) (v : Value) (h : NoR w v) : Calls Tryz.prog 46 #[v] w fun E w' => E = .returned (.slice none 0 0) ∧ w = w' := by
  have HM := hide (rmade_no w v h)
  obtain ⟨a, rfl⟩ := h.form
  clear h
  go_enter Tryz.func46, Tryz.ntmps46
  go_wp2_with fail
  refine HM.out.mono ?_
  rintro E w1 ⟨rfl, rfl⟩
  go_wp2
  go_ret
  exact ⟨rfl, rfl⟩

/-- A disk that is none, or nobody's. -/
def NoD (w : World) (v : Value) : Prop := v = .pointer none ∨ ∃ p, v = .pointer (some ⟨p, 0, none⟩) ∧ w.heap[p]? = some (.cells #[.bool false, .bool false, .int .i64 0, .slice none 0 0, .slice none 0 0, .slice none 0 0, .slice none 0 0, .slice none 0 0, .int .i64 0] 116 (0, 0))

theorem NoD.form {w : World} {v : Value} (h : NoD w v) : ∃ a, v = .pointer a := by
  rcases h with rfl | ⟨p, rfl, _⟩
  · exact ⟨_, rfl⟩
  · exact ⟨_, rfl⟩

theorem dmade_no (w : World) (v : Value) (h : NoD w v) : Calls Tryz.prog 83 #[v] w fun E w' => E = .returned (.bool false) ∧ w = w' := by
  rcases h with rfl | ⟨p, rfl, hB⟩
  · go_enter Tryz.func83, Tryz.ntmps83
    go_wp2
    go_ret
    exact ⟨rfl, rfl⟩
  · have c0 : w.cell? ⟨p, 0, none⟩ = some (.bool false) := blk_cell hB 0 rfl
    clear hB
    go_enter Tryz.func83, Tryz.ntmps83
    go_wp2
    go_ret
    exact ⟨rfl, rfl⟩

theorem drefuses_no (w : World) (v : Value) (h : NoD w v) : Calls Tryz.prog 66 #[v] w fun E w' => E = .returned (.int .i64 1) ∧ w = w' := by
  have HM := hide (dmade_no w v h)
  obtain ⟨a, rfl⟩ := h.form
  clear h
  go_enter Tryz.func66, Tryz.ntmps66
  go_wp2_with fail
  refine HM.out.mono ?_
  rintro E w1 ⟨rfl, rfl⟩
  go_wp2
  go_ret
  exact ⟨rfl, rfl⟩

theorem dread_no (w : World) (v : Value) (f : Int) (h : NoD w v) : Calls Tryz.prog 60 #[v, .int .i64 f] w fun E w' => E = .returned (.tuple #[.slice none 0 0, .int .i64 1]) ∧ w = w' := by
  have HM := hide (drefuses_no w v h)
  obtain ⟨a, rfl⟩ := h.form
  clear h
  go_enter Tryz.func60, Tryz.ntmps60
  go_wp2_with fail
  refine HM.out.mono ?_
  rintro E w1 ⟨rfl, rfl⟩
  go_wp2
  go_ret2
  exact ⟨rfl, rfl⟩

theorem open_no (w : World) (v : Value) (h : NoD w v) : Calls Tryz.prog 19 #[v] w fun E w' => E = .returned (.tuple #[.pointer none, .int .i64 1]) ∧ w = w' := by
  have HM := hide (dread_no w v 2 h)
  obtain ⟨a, rfl⟩ := h.form
  clear h
  go_enter Tryz.func19, Tryz.ntmps19
  go_wp2_with fail
  refine HM.out.mono ?_
  rintro E w1 ⟨rfl, rfl⟩
  go_wp2
  go_ret2
  exact ⟨rfl, rfl⟩

end Go.Proofs.YthmecljkackmbaaGreat

/- Open of a store. -/
namespace Go.Proofs.YthmecljkackmbaaGreat
open Go.RowKit
open Bm (Ov)
set_option linter.unusedVariables false

set_option maxHeartbeats 1000000 in
theorem refuses0_any (p q : Nat) (F1 : Nat → Prop) (w : World) (d : Dm.Ds) (bk : Bool) (v : Value) (hB : w.heap[p]? = some (.cells #[.pointer (some ⟨q, 0, none⟩), .bool bk, v] 71 (0, 0))) (h1 : Pk q F1 w d) :
    Calls Tryz.prog 117 #[.pointer (some ⟨p, 0, none⟩)] w fun E w' => (E = .returned (.int .i64 6) ∧ Out (fun g => g = p) w w') ∨ (E = .returned (.int .i64 0) ∧ w = w') := by
  have HM := hide (hmade_any p q w _ _ hB)
  have HO := hide (on_any q F1 w d h1)
  have c0 := blk_cell hB 0 rfl
  have c1 := blk_cell hB 1 rfl
  have f1 := blk_froz hB 1
  simp only [List.getElem_toArray, List.getElem_cons_zero, List.getElem_cons_succ] at c0 c1
  have OX : Hid (Out (fun g => g = p) w (w.setCell ⟨p, 1, none⟩ (.bool true))) := hide (Out.of_grown (grown_setCell w ⟨p, 1, none⟩ (.bool true)) fun g hg => by simp at hg; exact hg.symm)
  generalize d.on = on at HO
  clear hB h1
  cases bk <;> cases on
  · go_enter Tryz.func117, Tryz.ntmps117
    go_wp2_with fail
    refine HM.out.mono ?_
    rintro E w1 ⟨rfl, rfl⟩
    go_wp2_with fail
    refine HO.out.mono ?_
    rintro E w1 ⟨rfl, rfl⟩
    go_wp2
    go_ret
    exact .inl ⟨rfl, OX.out⟩
  · go_enter Tryz.func117, Tryz.ntmps117
    go_wp2_with fail
    refine HM.out.mono ?_
    rintro E w1 ⟨rfl, rfl⟩
    go_wp2_with fail
    refine HO.out.mono ?_
    rintro E w1 ⟨rfl, rfl⟩
    go_wp2
    go_ret
    exact .inr ⟨rfl, rfl⟩
  · go_enter Tryz.func117, Tryz.ntmps117
    go_wp2_with fail
    refine HM.out.mono ?_
    rintro E w1 ⟨rfl, rfl⟩
    go_wp2
    go_ret
    exact .inl ⟨rfl, OX.out⟩
  · go_enter Tryz.func117, Tryz.ntmps117
    go_wp2_with fail
    refine HM.out.mono ?_
    rintro E w1 ⟨rfl, rfl⟩
    go_wp2
    go_ret
    exact .inl ⟨rfl, OX.out⟩

theorem flush0_any (p q : Nat) (F1 : Nat → Prop) (w : World) (d : Dm.Ds) (bk : Bool) (v : Value) (hB : w.heap[p]? = some (.cells #[.pointer (some ⟨q, 0, none⟩), .bool bk, v] 71 (0, 0))) (h1 : Pk q F1 w d) :
    Calls Tryz.prog 54 #[.pointer (some ⟨p, 0, none⟩), .agg #[.int .i64 0, .int .i64 0, .slice none 0 0]] w fun E w' => (E = .returned (.int .i64 6) ∨ E = .returned (.int .i64 2)) ∧ Out (fun g => g = p) w w' := by
  obtain ⟨w1, hw1, sz1, bel1, hB0⟩ := blk_step w #[.int .i64 0, .int .i64 0, .slice none 0 0] 93
  have c0 : w1.cell? ⟨w.heap.size, 0, none⟩ = some (.int .i64 0) := blk_cell hB0 0 rfl
  have c1 : w1.cell? ⟨w.heap.size, 1, none⟩ = some (.int .i64 0) := blk_cell hB0 1 rfl
  have c2 : w1.cell? ⟨w.heap.size, 2, none⟩ = some (.slice none 0 0) := blk_cell hB0 2 rfl
  have HR := hide (refuses0_any p q F1 w1 d bk v ((bel1.block p (blk_lt hB)).trans hB) (h1.below bel1))
  have HFR := hide (hframed_any 0 0 (.slice none 0 0) [] w1 (IsO.nil _) (fun o ho => by simp at ho) (by simp))
  unfold cmv at HFR
  rw [show Rn.chk 0 0 [] = 2 from rfl] at HFR
  have B1 := hide bel1
  clear hB h1 hB0 bel1 sz1
  go_enter Tryz.func54, Tryz.ntmps54
  go_wp2_with fail
  refine HR.out.mono ?_
  rintro E w2 (⟨rfl, o2⟩ | ⟨rfl, rfl⟩)
  · have O2 := hide ((Out.of_below (F := fun g => g = p) B1.out).trans o2 fun g hg => .inl hg)
    clear o2 HR
    go_wp2
    go_ret
    exact ⟨.inl rfl, O2.out⟩
  · clear HR
    go_wp2_with fail
    refine HFR.out.mono ?_
    rintro E w2 ⟨vb, rfl, own, bel2⟩
    obtain ⟨ab, cb, hvb, _, _⟩ := own.is.shape
    have O2 := hide (Out.of_below (F := fun g => g = p) (B1.out.trans (bel2.mono B1.out.size)))
    subst hvb
    clear own bel2
    go_wp2
    go_ret
    exact ⟨.inr rfl, O2.out⟩

/-- Are runs made? A copy of theirs is asked. -/
theorem aremade_any (p q : Nat) (F : Nat → Prop) (w : World) (s : Rl.Rs) (h : RW p q F w s) :
    Calls Tryz.prog 57 #[.pointer (some ⟨p, 0, none⟩)] w fun E w' => E = .returned (.bool true) ∧ Below w.heap.size w w' := by
  obtain ⟨F1, G1, h1, ⟨v, rs, hv, hG⟩, hF⟩ := h
  have c0 := blk_cell hv.blk 0 rfl
  have c1 := blk_cell hv.blk 1 rfl
  have c2 := blk_cell hv.blk 2 rfl
  simp only [List.getElem_toArray, List.getElem_cons_zero, List.getElem_cons_succ] at c0 c1 c2
  obtain ⟨V, hV1, hV, szV, bV, BV, x0, x1, x2⟩ := new_step w 71 (.pointer none) (.bool false) (.slice none 0 0) (.pointer (some ⟨q, 0, none⟩)) (.bool s.bk) v
  have HFL := hide (flush0_any w.heap.size q F1 V s.d s.bk v BV (h1.below bV))
  obtain ⟨la, ln, lk, hlv⟩ : ∃ a n k, v = .slice a n k := by
    obtain ⟨a1, k1, h1, _⟩ := hv.log.row.row.shape
    exact ⟨a1, _, k1, h1⟩
  have B1 := hide bV
  generalize s.bk = bk at *
  subst hlv
  clear hv h1 hF hG bV BV szV
  go_enter Tryz.func57, Tryz.ntmps57
  go_wp2_with fail
  refine HFL.out.mono ?_
  rintro E w2 ⟨rfl | rfl, o2⟩
  all_goals
    have O2 := hide (B1.out.trans (o2.below (base := w.heap.size) (fun g hg => by omega) B1.out.size))
    clear o2 HFL
    go_wp2
    go_ret
    exact ⟨rfl, O2.out⟩

theorem aremade_no (w : World) (v : Value) (h : NoR w v) :
    Calls Tryz.prog 57 #[v] w fun E w' => E = .returned (.bool false) ∧ Below w.heap.size w w' := by
  rcases h with rfl | ⟨p, rfl, hB⟩
  · go_enter Tryz.func57, Tryz.ntmps57
    go_wp2
    go_ret
    exact ⟨rfl, Below.refl _ _⟩
  · have c0 := blk_cell hB 0 rfl
    have c1 := blk_cell hB 1 rfl
    have c2 := blk_cell hB 2 rfl
    simp only [List.getElem_toArray, List.getElem_cons_zero, List.getElem_cons_succ] at c0 c1 c2
    obtain ⟨V, hV, szV, bV, BV⟩ := blk_step w #[.pointer none, .bool false, .slice none 0 0] 71
    have s0 : V.setCell ⟨w.heap.size, 0, none⟩ (.pointer none) = V := set_same BV (j := 0) rfl
    have s1 : V.setCell ⟨w.heap.size, 1, none⟩ (.bool false) = V := set_same BV (j := 1) rfl
    have s2 : V.setCell ⟨w.heap.size, 2, none⟩ (.slice none 0 0) = V := set_same BV (j := 2) rfl
    have d0 := blk_cell BV 0 rfl
    have d1 := blk_cell BV 1 rfl
    have d2 := blk_cell BV 2 rfl
    have f0 := blk_froz BV 0
    have f1 := blk_froz BV 1
    have f2 := blk_froz BV 2
    simp only [List.getElem_toArray, List.getElem_cons_zero, List.getElem_cons_succ] at d0 d1 d2
    have HFL := hide (rflush_no V (.pointer (some ⟨w.heap.size, 0, none⟩)) 0 0 (.slice none 0 0) ⟨_, _, _, rfl⟩ (.inr ⟨_, rfl, BV⟩))
    have B1 := hide bV
    clear hB bV BV szV
    go_enter Tryz.func57, Tryz.ntmps57
    go_wp2_with fail
    refine HFL.out.mono ?_
    rintro E w2 ⟨rfl, b2⟩
    have B2 := hide (B1.out.trans (b2.mono B1.out.size))
    clear b2 HFL
    go_wp2
    go_ret
    exact ⟨rfl, B2.out⟩

theorem sopen_no (w : World) (v : Value) (vr : Value) (hr : ∃ a n k, vr = .slice a n k) (h : NoR w v) :
    Calls Tryz.prog 15 #[v, vr] w fun E w' => E = .returned (.tuple #[.pointer none, .int .i64 1]) ∧ Below w.heap.size w w' := by
  have HM := hide (aremade_no w v h)
  obtain ⟨a, rfl⟩ := h.form
  obtain ⟨ra, rn, rk, rfl⟩ := hr
  clear h
  go_enter Tryz.func15, Tryz.ntmps15
  go_wp2_with fail
  refine HM.out.mono ?_
  rintro E w1 ⟨rfl, b1⟩
  go_wp2
  go_ret2
  exact ⟨rfl, b1⟩

/-- A new object over runs. -/
theorem sw_new {p q : Nat} {F : Nat → Prop} {w w1 w2 : World} {r : Rl.Rs} (h : RW p q F w r) (hb : Below w.heap.size w w1) (ht : Tb (w.heap.size + 1) w.heap.size w1 []) (hw : w1.alloc (.cells #[.pointer (some ⟨p, 0, none⟩), .slice none 0 0, .pointer (some ⟨w.heap.size + 1, 0, none⟩)] 66) = w2) :
    Sk w1.heap.size p (SB w1.heap.size (w.heap.size + 1) w.heap.size (.slice none 0 0) []) w2 [] ∧ Below w.heap.size w w2 ∧ ∀ g, SB w1.heap.size (w.heap.size + 1) w.heap.size (.slice none 0 0) [] g → w.heap.size ≤ g := by
  obtain ⟨W, hW, sz, bel, hB⟩ := blk_step w1 #[.pointer (some ⟨p, 0, none⟩), .slice none 0 0, .pointer (some ⟨w.heap.size + 1, 0, none⟩)] 66
  rw [hw] at hW
  subst hW
  have hs := hb.size
  have hge : ∀ g, SB w1.heap.size (w.heap.size + 1) w.heap.size (.slice none 0 0) [] g → w.heap.size ≤ g := by
    rintro g (e | e | e | e | ⟨c, hc, _⟩)
    · omega
    · omega
    · omega
    · simp [Value.ownBlock] at e
    · simp at hc
  exact ⟨⟨_, _, _, _, ⟨hB, Rt.nil _ _, ht.below bel⟩, rfl⟩, hb.trans (bel.mono hs), hge⟩

set_option maxRecDepth 20000 in
set_option maxHeartbeats 4000000 in
theorem sopen_any (p q : Nat) (F : Nat → Prop) (w : World) (r : Rl.Rs) (vr : Value) (rs : List Cw) (h : RW p q F w r) (hr : IsC w vr rs) (hf : FitC rs) (hl : rs.length ≤ 100000) :
    Calls Tryz.prog 15 #[.pointer (some ⟨p, 0, none⟩), vr] w fun E w' => ((Cm.fol 1 (Cm.lastN 0 r.l) 0 (cvs rs)).1 ≠ 0 ∧ E = .returned (.tuple #[.pointer none, .int .i64 (Cm.fol 1 (Cm.lastN 0 r.l) 0 (cvs rs)).1]) ∧ Below w.heap.size w w') ∨ ((Cm.fol 1 (Cm.lastN 0 r.l) 0 (cvs rs)).1 = 0 ∧ ∃ ps, E = .returned (.tuple #[.pointer (some ⟨ps, 0, none⟩), .int .i64 0]) ∧ ∃ G, Sk ps p G w' (cvs rs) ∧ (∀ g, G g → w.heap.size ≤ g) ∧ Below w.heap.size w w') := by
  have HM := hide (aremade_any p q F w r h)
  have HW := hide h
  have HI := hide hr
  have HFC := hide hf
  have hgl := Rl.good_len h.good
  obtain ⟨ra, rk, hvr, _, _⟩ := hr.1.shape
  obtain ⟨fe, hfe⟩ : ∃ x, (Cm.fol 1 (Cm.lastN 0 r.l) 0 (cvs rs)).1 = x := ⟨_, rfl⟩
  obtain ⟨fp, hfp⟩ : ∃ x, (Cm.fol 1 (Cm.lastN 0 r.l) 0 (cvs rs)).2 = x := ⟨_, rfl⟩
  have hat := Cm.fol_at (cvs rs) 1 (Cm.lastN 0 r.l) 0
  rw [hfe, hfp] at hat
  rw [hfe]
  have HAT := hide hat
  have HGD : Hid (fe = 0 → Cm.Good 1 (Cm.lastN 0 r.l) (cvs rs)) := hide fun e => (Cm.fol_good _ _ _ 0).1 (by rw [hfe]; exact e)
  have HFE := hide (And.intro hfe hfp)
  obtain ⟨n, hn⟩ : ∃ n, rs.length = n := ⟨_, rfl⟩
  have HN := hide hn
  rw [hn] at hvr hl
  have HVR := hide hvr
  have q1 := Tryz.neqF fe fp 0 0
  have q2 := Tryz.guardF .neq
  clear h hr hf hat hfe hfp hn hgl
  rw [hvr]
  clear hvr
  go_enter Tryz.func15, Tryz.ntmps15
  go_wp2_with fail
  refine HM.out.mono ?_
  rintro E w1 ⟨rfl, bel1⟩
  have W1 := hide (HW.out.below bel1)
  have I1 := hide (show IsC w1 vr rs from ⟨HI.out.1.below bel1, fun c hc => ⟨(HI.out.2 c hc).1.below bel1, (HI.out.2 c hc).2⟩⟩)
  have HE := hide (hrend_any p q F w1 r W1.out)
  have B1 := hide bel1
  clear HM bel1
  go_wp2_with fail
  refine HE.out.mono ?_
  rintro E w2 ⟨rfl, rfl⟩
  have HF := hide (cfol_any 1 (Cm.lastN 0 r.l) vr rs w1 I1.out HFC.out (by have := HN.out; omega))
  unfold flv at HF
  rw [HFE.out.1, HFE.out.2, HVR.out] at HF
  clear HE
  go_wp2_with fail
  refine HF.out.mono ?_
  rintro E w2 ⟨rfl, bel2⟩
  obtain ⟨w3, hw3, hw32, sz3, bel3, hF3, x0, x1⟩ := new_two w2 109 (.int .i64 0) (.int .i64 0) (.int .i64 fe) (.int .i64 fp)
  have b13 := bel2.trans (bel3.mono bel2.size)
  have B3 := hide (B1.out.trans (b13.mono B1.out.size))
  have W3 := hide (W1.out.below b13)
  have I3 := hide (show IsC w3 vr rs from ⟨I1.out.1.below b13, fun c hc => ⟨(I1.out.2 c hc).1.below b13, (I1.out.2 c hc).2⟩⟩)
  have HF3 := hide hF3
  clear HF bel2 bel3 b13 hF3 W1 I1 HW HI B1 sz3
  by_cases hf0 : fe = 0
  · have hp0 := HAT.out hf0
    have gd := HGD.out hf0
    subst hf0
    subst hp0
    have GD := hide gd
    have z0 : w3.setCell ⟨w2.heap.size, 0, none⟩ (.int .i64 0) = w3 := set_same HF3.out (j := 0) rfl
    have z1 : w3.setCell ⟨w2.heap.size, 1, none⟩ (.int .i64 0) = w3 := set_same HF3.out (j := 1) rfl
    have f0 := blk_froz HF3.out 0
    have f1 := blk_froz HF3.out 1
    clear gd HGD HAT HFE HF3
    go_wp2_with fail
    refine (tnew_any w3).mono ?_
    rintro E w4 ⟨rfl, T4, b4⟩
    obtain ⟨w5, hw5⟩ : ∃ x, w4.alloc (.cells #[.pointer (some ⟨p, 0, none⟩), .slice none 0 0, .pointer (some ⟨w3.heap.size + 1, 0, none⟩)] 66) = x := ⟨_, rfl⟩
    obtain ⟨S5, b35, hge⟩ := sw_new W3.out b4 T4 hw5
    have Q0 : Hid (∃ G, Sk w4.heap.size p G w5 (cvs (rs.take 0)) ∧ (∀ g, G g → w3.heap.size ≤ g) ∧ Below w3.heap.size w3 w5) := hide ⟨_, S5, hge, b35⟩
    clear S5 b35 hge T4 b4
    go_wp2
    go_loopw [28] (fun iv wr => ∃ k : Nat, k ≤ n ∧ iv = .int .i64 k ∧ Hid (∃ G, Sk w4.heap.size p G wr (cvs (rs.take k)) ∧ (∀ g, G g → w3.heap.size ≤ g) ∧ Below w3.heap.size w3 wr)) (fun iv _ => n - (intOf iv).toNat)
    case atStart => exact ⟨0, by omega, rfl, Q0⟩
    case round =>
      obtain ⟨k, hk, rfl, HQ⟩ := hrel
      clear Q0
      by_cases hlt : k < n
      · obtain ⟨⟨ce, cn, cv, cl⟩, hc⟩ : ∃ c, rs[k]? = some c := ⟨rs[k]'(by have := HN.out; omega), by rw [List.getElem?_eq_getElem]⟩
        obtain ⟨g, off, cq, hvx, _, _, hgw, hcell⟩ := I3.out.1.full (by have := HN.out; omega)
        rw [HN.out, HVR.out] at hvx
        simp only [Value.slice.injEq, true_and] at hvx
        obtain ⟨rfl, rfl⟩ := hvx
        obtain ⟨c0, c1, c2⟩ := hcell k _ hc
        have hm := List.mem_of_getElem? hc
        obtain ⟨G, ⟨pm, bm, v, rr, hs, rfl⟩, hge, BR⟩ := HQ.out
        have hio := ((I3.out.2 _ hm).1).below BR
        have d0 := (BR.cell (p := ⟨g, off + k * 3, none⟩) hgw).trans c0
        have d1 := (BR.cell (p := ⟨g, off + k * 3 + 1, none⟩) hgw).trans c1
        have d2 := (BR.cell (p := ⟨g, off + k * 3 + 2, none⟩) hgw).trans c2
        obtain ⟨oa, ok, hvo, _, _⟩ := hio.shape
        obtain ⟨wc, hwc, hwc2, szc, belc, bC, y0, y1, y2⟩ := new_step wr 55 (.int .i64 0) (.int .i64 0) (.slice none 0 0) (.int .i64 ce) (.int .i64 cn) cv
        have hnx := cvs_next hc
        have hgk : Cm.Good 1 (Cm.lastN 0 r.l) (cvs (rs.take k)) := by
          rw [cvs_take]
          exact Cm.good_take GD.out _
        have hch : Cm.chk ce cn cl = 0 := (Sto.good_all GD.out _ (List.mem_map.2 ⟨_, hm, rfl⟩)).1
        have HA := hide (sadd_fine w4.heap.size p pm bm wc (cvs (rs.take k)) v rr ⟨ce, cn, cv, cl⟩ (hs.below belc) (hio.below belc) hch (fun hp b hb hf => by
          have h1 := hge b hf
          obtain ⟨g', off', cap', hv', _, _, hg', _⟩ := ((I3.out.2 _ hm).1).full hp
          simp only at hv' hb
          rw [hv'] at hb
          simp [Value.ownBlock] at hb
          omega) (by rw [cvs, List.length_map, List.length_take]; omega) (Sto.tab_len hgk))
        unfold cmv at HA
        simp only at c0 c1 c2 d0 d1 d2 hvo HA
        rw [show cvs (rs.take k) ++ [(⟨ce, cn, cv, cl⟩ : Cw).c] = cvs (rs.take (k + 1)) from hnx.symm] at HA
        subst hvo
        have hlt' : (k : Int) < n := by omega
        have hk0 : (0 : Int) ≤ (k : Int) := by omega
        have HX := hide (And.intro BR (And.intro belc hge))
        clear hcell c0 c1 c2 hc hm hio bC belc hnx hgk hch hs BR hge
        go_wp2_with fail
        refine HA.out.mono ?_
        rintro E w6 ⟨⟨uu, rfl⟩, S6⟩
        have HQ2 : Hid (∃ G, Sk w4.heap.size p G w6 (cvs (rs.take (k + 1))) ∧ (∀ g, G g → w3.heap.size ≤ g) ∧ Below w3.heap.size w3 w6) := hide (by
          obtain ⟨BR, belc, hge⟩ := HX.out
          obtain ⟨G', k1, k2, k3⟩ := S6
          have b1 := BR.trans (belc.mono BR.size)
          have hz := b1.size
          refine ⟨G', k1, fun g hg => ?_, b1.trans (k2.below hge hz)⟩
          rcases k3 g hg with e | e
          · exact hge g e
          · omega)
        clear S6 HA HX
        go_wp2
        go_roundw
        case rel => exact ⟨k + 1, by omega, by go_num, HQ2⟩
        case measure => simp [intOf]; omega
      · have hlt' : ¬ (k : Int) < n := by omega
        obtain rfl : k = n := by omega
        have HQ2 := HQ.out
        rw [List.take_of_length_le (by have := HN.out; omega)] at HQ2
        have FIN : Hid (∃ G, Sk w4.heap.size p G wr (cvs rs) ∧ (∀ g, G g → w.heap.size ≤ g) ∧ Below w.heap.size w wr) := hide (by
          obtain ⟨G, k1, k2, k3⟩ := HQ2
          exact ⟨G, k1, fun g hg => Nat.le_trans B3.out.size (k2 g hg), B3.out.trans (k3.mono B3.out.size)⟩)
        clear HQ2 HQ
        go_wp2
        go_ret2
        first | exact ⟨_, rfl, FIN.out⟩ | exact .inr ⟨rfl, _, rfl, FIN.out⟩
  · have hne : (fe == 0) = false := by simpa using hf0
    go_wp2
    go_quiet (fail)
    go_wp2
    go_ret2
    first | exact ⟨rfl, below_drewN B3.out _⟩ | exact .inl ⟨hf0, rfl, below_drewN B3.out _⟩

/-- With its runs. -/
theorem sk_sw {ps p q : Nat} {F G : Nat → Prop} {w w' : World} {r : Rl.Rs} {l : List Cm.Cv} (h : RW p q F w r) (hb : Below w.heap.size w w') (hk : Sk ps p G w' l) (hg : ∀ g, G g → w.heap.size ≤ g) (ok : Sto.Ok ⟨r, l⟩) : SW ps p q (fun g => F g ∨ G g) w' ⟨r, l⟩ :=
  ⟨F, G, h.below hb, hk, fun g h1 h2 => by
    have e1 := hg g h1
    have e2 := h.lt g h2
    omega, ok, rfl⟩

end Go.Proofs.YthmecljkackmbaaGreat

/- A disk grows by a Flush only so much. -/
namespace Go.Proofs.YthmecljkackmbaaGreat
open Go.RowKit
set_option linter.unusedVariables false

theorem big_ext {t u : Nat} {st : Dm.Ds} {bs : List Int} (h : Big t u st) (hl : bs.length ≤ 52236) : Big (t + 52236) (u + 818) (Rl.ext st bs).2 := by
  have hb := (big_write h 2 bs).mono (t' := t + 52236) (u' := u + 817) (by omega) (by have := cnt_run hl; omega)
  unfold Rl.ext
  split
  · exact hb.mono (Nat.le_refl _) (by omega)
  · exact big_sync hb

theorem big_flu {t u : Nat} {s : Rl.Rs} {c : Cm.Cv} (h : Big t u s.d) : Big (t + 52236) (u + 818) (Rl.flu s c).2.d := by
  have hm : Big (t + 52236) (u + 818) s.d := h.mono (by omega) (by omega)
  unfold Rl.flu
  split
  · exact hm
  split
  · exact hm
  split
  · exact hm
  · rename_i h1 h2
    have hf := big_ext (bs := Rl.fr c) h (Rl.fr_small (c := c) (by simpa using h1))
    split
    · exact hf
    · exact hf

theorem rbig_of {t u : Nat} {s : Rl.Rs} (h : Big t u s.d) (ht : t ≤ 90000000) (hu : u ≤ 700000) : RBig s := Big.mono h ht hu

end Go.Proofs.YthmecljkackmbaaGreat

/- The statement's own: a store of its own, the chapter's example, that the program lives. -/
namespace Go.Proofs.YthmecljkackmbaaGreat
open Go.RowKit
open Bm (Ov)
set_option linter.unusedVariables false

/-- A store that is the statement's own. -/
structure Sn (w wr : World) (ps p q : Nat) (F : Nat → Prop) (s : Sto.Ss) : Prop where
  sw : SW ps p q F wr s
  fb : ∀ g, F g → w.heap.size ≤ g
  bel : Below w.heap.size w wr

section
variable {w wr w' : World} {ps p q : Nat} {F : Nat → Prop} {s s' : Sto.Ss}

theorem Sn.below (h : Sn w wr ps p q F s) (hb : Below wr.heap.size wr w') : Sn w w' ps p q F s := ⟨h.sw.below hb, h.fb, h.bel.trans (hb.mono h.bel.size)⟩

theorem Sn.step (h : Sn w wr ps p q F s) (k : StS ps p q F wr w' s') : ∃ F', Sn w w' ps p q F' s' ∧ Out F wr w' ∧ ∀ g, F' g → F g ∨ wr.heap.size ≤ g := by
  obtain ⟨F2, h1, h2, h3⟩ := k
  have hs := h.bel.size
  refine ⟨F2, ⟨h1, fun g hg => ?_, h.bel.trans (h2.below h.fb h.bel.size)⟩, h2, h3⟩
  rcases h3 g hg with e | e
  · exact h.fb g e
  · omega

theorem Sn.all (h : Sn w wr ps p q F s) (n : Nat) (h1 : s.l.length ≤ 10000) (h2 : s.r.l.length ≤ 800) : Calls Tryz.prog 31 #[.pointer (some ⟨ps, 0, none⟩), .int .i64 n] wr fun E w' => ∃ v, E = .returned v ∧ OwnO 81 wr.heap.size w' v ((Tm.live (Sto.fold s)).take n) ∧ Below wr.heap.size wr w' := by
  have ok := h.sw.ok
  have hl := Sto.tab_len ok.rest
  have := sall_of (.pointer (some ⟨ps, 0, none⟩)) wr s.r.l (Rl.tab s.l) n (Sto.tab_c ok.rest) (by omega) (fun w1 hb => sAll_any ps p q F w1 s (h.sw.below hb) (by omega))
  rw [show fldS s.r.l (Rl.tab s.l) = Sto.fold s from (Sto.fold_app s).symm] at this
  exact this

end

theorem smade_any (w : World) (vr : Value) (rs : List Cw) (hr : IsC w vr rs) (hf : FitC rs) (hl : rs.length ≤ 100000) :
    Calls Tryz.prog 10 #[vr] w fun E w' => ((Cm.fol 1 0 0 (cvs rs)).1 ≠ 0 ∧ E = .returned (.tuple #[.pointer none, .int .i64 (Cm.fol 1 0 0 (cvs rs)).1]) ∧ Below w.heap.size w w') ∨ ((Cm.fol 1 0 0 (cvs rs)).1 = 0 ∧ ∃ ps, E = .returned (.tuple #[.pointer (some ⟨ps, 0, none⟩), .int .i64 0]) ∧ ∃ p q F, Sn w w' ps p q F ⟨rs0, cvs rs⟩) := by
  have HI := hide hr
  have HF := hide hf
  have HL := hide hl
  obtain ⟨ra, rn, rk, hvr⟩ : ∃ a n k, vr = .slice a n k := by
    obtain ⟨a1, k1, h1, _⟩ := hr.1.shape
    exact ⟨a1, _, k1, h1⟩
  subst hvr
  obtain ⟨fe, hfe⟩ : ∃ x, (Cm.fol 1 0 0 (cvs rs)).1 = x := ⟨_, rfl⟩
  rw [hfe]
  have HFE := hide hfe
  clear hr hf hl hfe
  go_enter Tryz.func10, Tryz.ntmps10
  go_wp2_with fail
  refine (new_any w).mono ?_
  rintro E w1 ⟨rfl, K1, b1⟩
  have HO := hide (rnew_any w w1 w.heap.size (Nat.le_refl _) K1 b1)
  clear K1 b1
  go_wp2_with fail
  refine HO.out.mono ?_
  rintro E w2 ⟨p, F2, rfl, W2, g2, b2⟩
  have HS := hide (sopen_any p w.heap.size F2 w2 rs0 (.slice ra rn rk) rs W2 ⟨HI.out.1.below b2, fun c hc => ⟨(HI.out.2 c hc).1.below b2, (HI.out.2 c hc).2⟩⟩ HF.out HL.out)
  rw [show Cm.lastN 0 rs0.l = 0 from rfl, HFE.out] at HS
  have HW := hide (And.intro g2 (And.intro b2 W2))
  clear HO W2 g2 b2
  go_wp2_with fail
  refine HS.out.mono ?_
  rintro E w3 (⟨hne, rfl, b3⟩ | ⟨rfl, ps, rfl, S3⟩)
  · have B3 := hide (HW.out.2.1.trans (b3.mono HW.out.2.1.size))
    clear b3 HS
    go_wp2
    go_ret2
    first | exact ⟨rfl, B3.out⟩ | exact .inl ⟨hne, rfl, B3.out⟩
  · have FIN : Hid (∃ p q F, Sn w w3 ps p q F ⟨rs0, cvs rs⟩) := hide (by
      obtain ⟨G, k1, k2, k3⟩ := S3
      obtain ⟨g2, b2, W2⟩ := HW.out
      have hz := b2.size
      refine ⟨_, _, _, sk_sw W2 k3 k1 k2 ⟨trivial, (Cm.fol_good _ _ _ 0).1 HFE.out⟩, ?_, b2.trans (k3.mono hz)⟩
      rintro g (e | e)
      · exact g2 g e
      · have := k2 g e
        omega)
    clear S3 HS
    go_wp2
    go_ret2
    first | exact ⟨_, rfl, FIN.out⟩ | exact .inr ⟨rfl, _, rfl, FIN.out⟩

def sA : Ov := ⟨true, ⟨#[97]⟩, ⟨#[49]⟩⟩
def sB : Ov := ⟨true, ⟨#[98]⟩, ⟨#[50]⟩⟩
def sD : Ov := ⟨false, ⟨#[97]⟩, ⟨#[]⟩⟩
def exS : List Cm.Cv := [⟨1, 1, [sA]⟩, ⟨1, 2, [sD, sB]⟩]

/-- Commits of one's own: a row, and the ops of each. -/
structure RwC (base : Nat) (w : World) (v : Value) (rs : List Cw) : Prop where
  row : OwnR 55 base w v rs
  cop : CopyR base w rs

theorem RwC.below {base : Nat} {w w' : World} {v : Value} {rs : List Cw} (h : RwC base w v rs) (hb : Below w.heap.size w w') : RwC base w' v rs := ⟨h.row.below hb, h.cop.below hb⟩

set_option maxHeartbeats 1000000 in
theorem sexample_any (w : World) : Calls Tryz.prog 11 #[] w fun E w' => ∃ v, E = .returned v ∧ ∃ a b c d, v = .slice (some ⟨a, 0, none⟩) 2 2 ∧ RwC w.heap.size w' v [⟨1, 1, .slice (some ⟨b, 0, none⟩) 1 1, [sA]⟩, ⟨1, 2, .slice (some ⟨c, 0, none⟩) d d, [sD, sB]⟩] ∧ Below w.heap.size w w' := by
  obtain ⟨w1, hw1, sz1, b1, o1⟩ := ops_step 81 w #[.bool true, .string ⟨#[97]⟩, .string ⟨#[49]⟩] 1 [sA] rfl rfl (by decide)
  obtain ⟨w2, hw2, sz2, b2, o2⟩ := ops_step 81 w1 #[.bool false, .string ⟨#[97]⟩, .string ⟨#[]⟩, .bool true, .string ⟨#[98]⟩, .string ⟨#[50]⟩] 2 [sD, sB] rfl rfl (by decide)
  rw [sz1] at o2
  obtain ⟨w3, hw3, sz3, b3, o3⟩ := coms_step 55 w2 #[.int .i64 1, .int .i64 1, .slice (some ⟨w.heap.size, 0, none⟩) 1 1, .int .i64 1, .int .i64 2, .slice (some ⟨w.heap.size + 1, 0, none⟩) 2 2] 2 [⟨1, 1, .slice (some ⟨w.heap.size, 0, none⟩) 1 1, [sA]⟩, ⟨1, 2, .slice (some ⟨w.heap.size + 1, 0, none⟩) 2 2, [sD, sB]⟩] rfl rfl (by decide)
  rw [sz2, sz1] at o3
  have HE : Hid (RwC w.heap.size w3 (.slice (some ⟨w.heap.size + 1 + 1, 0, none⟩) 2 2) [⟨1, 1, .slice (some ⟨w.heap.size, 0, none⟩) 1 1, [sA]⟩, ⟨1, 2, .slice (some ⟨w.heap.size + 1, 0, none⟩) 2 2, [sD, sB]⟩] ∧ Below w.heap.size w w3) := hide ⟨⟨o3.rebase (by omega), fun c hc => by
    simp only [List.mem_cons, List.not_mem_nil, or_false] at hc
    rcases hc with rfl | rfl
    · exact (o1.below b2).below b3
    · exact (o2.below b3).rebase (by omega)⟩, b1.trans ((b2.mono (by omega)).trans (b3.mono (by omega)))⟩
  clear o1 o2 o3 b1 b2 b3
  go_enter Tryz.func11, Tryz.ntmps11
  go_wp2
  go_ret
  exact ⟨_, rfl, _, _, _, _, rfl, HE.out⟩

theorem exS_fol : (Cm.fol 1 0 0 exS).1 = 0 := by decide
theorem exS_fold : Sto.fold ⟨rs0, exS⟩ = [sD, sB] := by rfl
theorem exS_live : (Tm.live [sD, sB]).take 9 = [sB] := by rfl
theorem exS_a : gv [sD, sB] ⟨#[97]⟩ = ⟨#[]⟩ ∧ gp [sD, sB] ⟨#[97]⟩ = false := ⟨rfl, rfl⟩
theorem exS_b : gv [sD, sB] ⟨#[98]⟩ = ⟨#[50]⟩ ∧ gp [sD, sB] ⟨#[98]⟩ = true := ⟨rfl, rfl⟩

theorem FitC.two {c d : Cw} (h1 : Cm.chk c.e c.n c.l = 0) (h2 : Cm.chk d.e d.n d.l = 0) : FitC [c, d] := fun x hx => by
  simp only [List.mem_cons, List.not_mem_nil, or_false] at hx
  rcases hx with rfl | rfl
  · exact ⟨(fit_com h1).1, (fit_com h1).2.1⟩
  · exact ⟨(fit_com h2).1, (fit_com h2).2.1⟩

theorem RwC.isc {base : Nat} {w : World} {v : Value} {rs : List Cw} (h : RwC base w v rs) (hg : ∀ c ∈ rs, Cm.chk c.e c.n c.l = 0) : IsC w v rs ∧ FitC rs :=
  ⟨⟨h.row.row, fun c hc => ⟨(h.cop c hc).is, (fit_com (hg c hc)).2.2.1, (fit_com (hg c hc)).2.2.2.1⟩⟩, fun c hc => ⟨(fit_com (hg c hc)).1, (fit_com (hg c hc)).2.1⟩⟩

theorem exS_chk {v1 v2 : Value} : ∀ c ∈ [(⟨1, 1, v1, [sA]⟩ : Cw), ⟨1, 2, v2, [sD, sB]⟩], Cm.chk c.e c.n c.l = 0 := fun c hc => by
  simp only [List.mem_cons, List.not_mem_nil, or_false] at hc
  rcases hc with rfl | rfl
  · show Cm.chk 1 1 [sA] = 0; decide
  · show Cm.chk 1 2 [sD, sB] = 0; decide

/-- The chapter's store. -/
theorem smex_any (w : World) (v : Value) (b c d : Nat) (a : Nat) (h : RwC w.heap.size w v [⟨1, 1, .slice (some ⟨b, 0, none⟩) 1 1, [sA]⟩, ⟨1, 2, .slice (some ⟨c, 0, none⟩) d d, [sD, sB]⟩] ∨ ∃ b0, RwC b0 w v [⟨1, 1, .slice (some ⟨b, 0, none⟩) 1 1, [sA]⟩, ⟨1, 2, .slice (some ⟨c, 0, none⟩) d d, [sD, sB]⟩]) :
    Calls Tryz.prog 10 #[v] w fun E w' => ∃ ps, E = .returned (.tuple #[.pointer (some ⟨ps, 0, none⟩), .int .i64 0]) ∧ ∃ p q F, Sn w w' ps p q F ⟨rs0, exS⟩ := by
  have h' : ∃ b0, RwC b0 w v [⟨1, 1, .slice (some ⟨b, 0, none⟩) 1 1, [sA]⟩, ⟨1, 2, .slice (some ⟨c, 0, none⟩) d d, [sD, sB]⟩] := h.elim (fun h => ⟨_, h⟩) id
  obtain ⟨b0, h⟩ := h'
  obtain ⟨i1, i2⟩ := h.isc exS_chk
  refine (smade_any w v _ i1 i2 (by simp)).mono ?_
  rintro E w' (⟨h0, _⟩ | ⟨_, ps, rfl, hx⟩)
  · exact absurd exS_fol h0
  · exact ⟨ps, rfl, hx⟩

set_option maxRecDepth 20000 in
set_option maxHeartbeats 4000000 in
theorem slives_any (w : World) : Calls Tryz.prog 9 #[] w fun E w' => E = .returned (.bool true) ∧ Below w.heap.size w w' := by
  go_enter Tryz.func9, Tryz.ntmps9
  go_wp2_with fail
  refine (sexample_any w).mono ?_
  rintro E w1 ⟨v1, rfl, a, b, c, d, hv, R1, b1⟩
  have HM := hide (smex_any w1 v1 b c d a (.inr ⟨_, R1⟩))
  subst hv
  clear R1
  go_wp2_with fail
  refine HM.out.mono ?_
  rintro E w2 ⟨ps, rfl, p, q, F, N2⟩
  have HG := hide (sget_any ps p q F w2 _ ⟨#[97]⟩ N2.sw (by decide))
  rw [exS_fold, exS_a.1, exS_a.2] at HG
  have N2 := hide N2
  clear HM
  go_wp2_with fail
  refine HG.out.mono ?_
  rintro E w3 ⟨rfl, b3⟩
  have N3 := hide (N2.out.below b3)
  have HG2 := hide (sget_any ps p q F w3 _ ⟨#[98]⟩ N3.out.sw (by decide))
  rw [exS_fold, exS_b.1, exS_b.2] at HG2
  clear HG N2 b3
  go_wp2_with fail
  refine HG2.out.mono ?_
  rintro E w4 ⟨rfl, b4⟩
  have N4 := hide (N3.out.below b4)
  have HE := hide (sEnd_any ps p q F w4 _ N4.out.sw)
  rw [show Sto.fin ⟨rs0, exS⟩ = 2 from rfl] at HE
  clear HG2 N3 b4
  go_wp2_with fail
  refine HE.out.mono ?_
  rintro E w5 ⟨rfl, b5⟩
  have N5 := hide (N4.out.below b5)
  have HR := hide (sRest_any ps p q F w5 _ N5.out.sw)
  rw [show ((exS.length : Nat) : Int) = 2 from rfl] at HR
  clear HE N4 b5
  go_wp2_with fail
  refine HR.out.mono ?_
  rintro E w6 ⟨rfl, b6⟩
  have N6 := hide (N5.out.below b6)
  have HA := hide (N6.out.all 9 (by decide) (by decide))
  rw [exS_fold, exS_live] at HA
  clear HR N5 b6
  go_wp2_with fail
  refine HA.out.mono ?_
  rintro E w7 ⟨v7, rfl, o7, b7⟩
  obtain ⟨w8, hw8, sz8, b8, o8⟩ := ops_step 81 w7 #[.bool true, .string ⟨#[98]⟩, .string ⟨#[50]⟩] 1 [sB] rfl rfl (by decide)
  have HS := hide (sameO_any v7 _ [sB] [sB] w8 (o7.below b8).is o8.is (by decide) (by decide))
  rw [show Bm.sameL [sB] [sB] = true from rfl] at HS
  have b68 := b7.trans (b8.mono b7.size)
  have N8 := hide (N6.out.below b68)
  obtain ⟨xa, xk, hx, _, _⟩ := o7.is.shape
  subst hx
  clear HA N6 o7 o8 b7 b8 b68 sz8
  go_wp2_with fail
  refine HS.out.mono ?_
  rintro E w9 ⟨rfl, b9⟩
  have B9 := hide (b1.trans (((N8.out.below b9).bel).mono b1.size))
  clear HS N8 b9
  go_wp2
  go_ret
  exact ⟨rfl, B9.out⟩

end Go.Proofs.YthmecljkackmbaaGreat

/- A store on a disk that stays on: each Flush is done. -/
namespace Go.Proofs.YthmecljkackmbaaGreat
open Go.RowKit
open Bm (Ov)
set_option linter.unusedVariables false

theorem sflu_safe {s : Sto.Ss} {la : List Cm.Cv} (ok : Sto.Ok s) (hk : Rl.Kin s.r la) (hh : s.r.d.has = false) (u : Int) (h1 : Cm.lastN 0 s.r.l < u) (h2 : u ≤ Sto.fin s) (h3 : s.l.length ≤ 128) :
    (Sto.flu s u).1 = 0 ∧ (Sto.flu s u).2.l = s.l.drop (u - Cm.lastN 0 s.r.l).toNat ∧ Rl.Kin (Sto.flu s u).2.r (la ++ [Sto.rnn s u]) ∧ (Sto.flu s u).2.r.d.has = false ∧ Cm.lastN 0 (Sto.flu s u).2.r.l = u := by
  have hn1 : ¬ (u < Cm.lastN 0 s.r.l ∨ Sto.fin s < u) := by omega
  have hn2 : ¬ u = Cm.lastN 0 s.r.l := by omega
  have hn3 : ¬ 1024 < (Sto.rnn s u).l.length := by
    have := Sto.tab_len (Cm.good_take ok.rest (u - Cm.lastN 0 s.r.l).toNat)
    rw [List.length_take] at this
    show ¬ 1024 < (Rl.tab (s.l.take (u - Cm.lastN 0 s.r.l).toNat)).length
    omega
  obtain ⟨k1, k2⟩ := Sto.rnn_ok ok hn1 hn2 hn3
  obtain ⟨g1, g2, g3⟩ := Rl.flu_safe hk hh (Sto.rnn s u) k1 (by rw [← hk.l]; exact k2)
  have e : Sto.flu s u = (0, ⟨(Rl.flu s.r (Sto.rnn s u)).2, s.l.drop (u - Cm.lastN 0 s.r.l).toNat⟩) := by
    unfold Sto.flu
    rw [if_neg hn1, if_neg hn2, if_neg hn3, if_neg (by rw [g1]; simp)]
  rw [e]
  refine ⟨rfl, rfl, g2, g3, ?_⟩
  show Cm.lastN 0 (Rl.flu s.r (Sto.rnn s u)).2.l = u
  rw [Sto.rflu_l g1]
  exact Rl.last_snoc _ _ _

theorem sflu_arg {s : Sto.Ss} {u : Int} (h : u < Cm.lastN 0 s.r.l ∨ Sto.fin s < u) : Sto.flu s u = (2, s) := by
  unfold Sto.flu
  rw [if_pos h]

theorem sflu_nil {s : Sto.Ss} {u : Int} (h : u = Cm.lastN 0 s.r.l) (h2 : u ≤ Sto.fin s) : Sto.flu s u = (0, s) := by
  unfold Sto.flu
  rw [if_neg (by omega), if_pos h]

theorem big_sflu {t u : Nat} {s : Sto.Ss} {n : Int} (h : Big t u s.r.d) : Big (t + 52236) (u + 818) (Sto.flu s n).2.r.d := by
  have hm : Big (t + 52236) (u + 818) s.r.d := h.mono (by omega) (by omega)
  unfold Sto.flu
  split
  · exact hm
  split
  · exact hm
  split
  · exact hm
  split
  · exact big_flu h
  · exact big_flu h

def t0 : Sto.Ss := ⟨rs0, exS⟩
def t1 : Sto.Ss := (Sto.flu t0 1).2
def t2 : Sto.Ss := (Sto.flu t1 2).2

theorem t0_ok : Sto.Ok t0 := ⟨trivial, (Cm.fol_good _ _ _ 0).1 exS_fol⟩
theorem t1_is : (Sto.flu t0 1).1 = 0 ∧ t1.l = [⟨1, 2, [sD, sB]⟩] ∧ Rl.Kin t1.r [Sto.rnn t0 1] ∧ t1.r.d.has = false ∧ Cm.lastN 0 t1.r.l = 1 :=
  sflu_safe (la := []) t0_ok rnew_kin rfl 1 (by decide) (by decide) (by decide)
theorem t1_ok : Sto.Ok t1 ∧ Sto.fold t1 = [sD, sB] ∧ Sto.fin t1 = 2 := by
  obtain ⟨h1, h2, h3⟩ := Sto.flu_ok t0_ok 1
  exact ⟨h1, h2.trans exS_fold, h3⟩
theorem t2_is : (Sto.flu t1 2).1 = 0 ∧ t2.l = [] ∧ Cm.lastN 0 t2.r.l = 2 := by
  obtain ⟨h1, h2, h3, h4, h5⟩ := t1_is
  obtain ⟨k1, k2, k3, k4, k5⟩ := sflu_safe t1_ok.1 h3 h4 2 (by rw [h5]; decide) (by rw [t1_ok.2.2]; decide) (by rw [h2]; decide)
  refine ⟨k1, ?_, k5⟩
  show (Sto.flu t1 2).2.l = []
  rw [k2, h2, h5]
  rfl
theorem t0_big : RBig t0.r := rnew_big
theorem t1_big : RBig t1.r := rbig_of (s := t1.r) (big_sflu (s := t0) (n := 1) big_new) (by decide) (by decide)
theorem t2_big : RBig t2.r := rbig_of (s := t2.r) (big_sflu (s := t1) (n := 2) (big_sflu (s := t0) (n := 1) big_new)) (by decide) (by decide)

theorem Sn.flush {w wr : World} {ps p q : Nat} {F : Nat → Prop} {s : Sto.Ss} (h : Sn w wr ps p q F s) (u : Int) (hb : RBig s.r) (hu : In64 u) (hn : s.l.length ≤ 100000) :
    Calls Tryz.prog 12 #[.pointer (some ⟨ps, 0, none⟩), .int .i64 u] wr fun E w' => E = .returned (.int .i64 (Sto.flu s u).1) ∧ ∃ F', Sn w w' ps p q F' (Sto.flu s u).2 :=
  (sflush_any ps p q F wr s u h.sw hb hu hn).mono fun E w' k => ⟨k.1, by
    obtain ⟨F', k1, _⟩ := h.step k.2
    exact ⟨F', k1⟩⟩

end Go.Proofs.YthmecljkackmbaaGreat
