/- Texts of one layer, one behind the other. -/
import Derived.Test.YthchcnflflafeaaG11
import Derived.Test.YthchcnflflafeaaG13
import Derived.Test.YthchcnflflafeaaG12
import Derived.Test.YthchcnflflafeaaG15
import Derived.Test.YthchcnflflafeaaG16
import Derived.BigQuiet
import Derived.Test.YthchcnflflafeaaG10
import Derived.Test.YthchcnflflafeaaG8
/- Of runs: a copy, the end, what follows, a frame, the disk's two steps, why nothing is taken. -/
namespace Go.Proofs.Ythchcnflflafeaa
open Go.RowKit
set_option linter.unusedVariables false

theorem put_c2 {V : World} {R : Nat} {t : TypeId} {x y z : Value} (hR : V.heap[R]? = some (.cells #[x, y, z] t (0, 0))) (c : Value) :
    ∃ V', V.setCell ⟨R, 2, none⟩ c = V' ∧ V'.heap[R]? = some (.cells #[x, y, c] t (0, 0)) ∧ V.grownBy V' (some R) ∧ V.cell? ⟨R, 2, none⟩ = some z ∧ V.frozen? ⟨R, 2, none⟩ = false :=
  ⟨_, rfl, set_cells hR 2 c, grown_setCell V ⟨R, 2, none⟩ c, blk_cell hR 2 rfl, blk_froz hR 2⟩

set_option maxHeartbeats 400000 in
theorem hcopied_any (e n : Int) (v : Value) (l : List Bm.Ov) (w : World) (h : IsO w v l) (hl : l.length * 40 ≤ 140737488351232) :
    Calls Try.prog 45 #[cmv e n v] w fun E w' => ∃ v', E = .returned (cmv e n v') ∧ OwnO 35 w.heap.size w' v' l ∧ Below w.heap.size w w' := by
  unfold cmv
  obtain ⟨w1, hw1, sz1, bel1, hB⟩ := blk_step w #[.int .i64 e, .int .i64 n, v] 32
  obtain ⟨w2, hw2, sz2, bel2, hR⟩ := blk_step w1 #[.int .i64 0, .int .i64 0, .slice none 0 0] 32
  rw [sz1] at hR
  have hB2 := (bel2.block w.heap.size (by omega)).trans hB
  have bel02 : Below w.heap.size w w2 := bel1.trans (bel2.mono (by omega))
  have h2 := h.below bel02
  obtain ⟨ao, cap, rfl, _, _⟩ := h.shape
  have c2 := blk_cell hB2 2 rfl
  have HB := hide hB2
  have HR := hide hR
  clear hB hB2 hR bel1 bel2
  go_enter Try.func45, Try.ntmps45
  go_wp2_with fail
  refine (cloneO_any _ l _ h2 hl).mono ?_
  rintro E w3 ⟨v3, rfl, own3, bel3⟩
  have sz3 := bel3.size
  have hB3 := (bel3.block w.heap.size (by omega)).trans HB.out
  have hR3 := (bel3.block (w.heap.size + 1) (by omega)).trans HR.out
  have bel03 := bel02.trans (bel3.mono (by omega))
  obtain ⟨ah, ch, hvl, _, _⟩ := own3.is.shape
  subst hvl
  obtain ⟨X, hX, cX, gX, q2, q3⟩ := put_c2 hB3 (.slice ah l.length ch)
  have szX := gX.size
  have hRX := (gX.block (w.heap.size + 1) (by omega) (by simp)).trans hR3
  have ownX := own3.keptg gX (by omega)
  have bel0X := below_put bel03 gX (Nat.le_refl _) (by omega)
  have d0 := blk_cell cX 0 rfl
  have d1 := blk_cell cX 1 rfl
  have d2 := blk_cell cX 2 rfl
  obtain ⟨V', hV', bV', gV', ⟨a0, a1, a2⟩, ⟨f0, f1, f2⟩, ⟨z0, z1, z2⟩⟩ := res_step hRX (.int .i64 e) (.int .i64 n) (.slice ah l.length ch)
  have belV' := below_put bel0X gV' (by omega) (by omega)
  have ownV' := (ownX.keptg gV' (by omega)).rebase (base' := w.heap.size) (by omega)
  clear HB HR hB3 hR3 cX gX hRX bV' gV' own3 ownX bel03 bel0X bel3 c2
  go_wp2
  refine bodyPost_ret (v := .agg #[.int .i64 e, .int .i64 n, .slice ah l.length ch]) (by simp [results, Try.results45, go_sem, z0, z1, z2]) rfl ?_
  exact ⟨_, rfl, ownV', belV'⟩

theorem last_run {l : List Cm.Cv} {k : Nat} {c : Cm.Cv} (hk : l[k]? = some c) (hl : l.length = k + 1) (e : Int) : Cm.lastN e l = c.n := by
  rcases List.eq_nil_or_concat l with rfl | ⟨r, d, rfl⟩
  · simp at hk
  · rw [List.concat_eq_append] at hk hl ⊢
    rw [List.length_append, List.length_singleton] at hl
    obtain rfl : r.length = k := by omega
    rw [Rl.last_snoc r d e]
    simp at hk
    rw [hk]

theorem hend_any (v : Value) (rs : List Cw) (w : World) (h : RowC w v rs) (hl : rs.length ≤ 1048576) :
    Calls Try.prog 65 #[v] w fun E w' => E = .returned (.int .i64 (Cm.lastN 0 (cvs rs))) ∧ w = w' := by
  by_cases h0 : rs.length = 0
  · have hr : rs = [] := List.eq_nil_of_length_eq_zero h0
    subst hr
    obtain ⟨ao, cap, rfl, _, _⟩ := h.shape
    clear h
    go_enter Try.func65, Try.ntmps65
    go_wp2
    go_ret
    exact ⟨rfl, rfl⟩
  · obtain ⟨k, hk⟩ : ∃ k, rs.length = k + 1 := ⟨rs.length - 1, by omega⟩
    obtain ⟨g, off, cap, rfl, _, _, _, hcell⟩ := h.full (by omega)
    obtain ⟨c, hck⟩ : ∃ c, rs[k]? = some c := ⟨rs[k]'(by omega), by rw [List.getElem?_eq_getElem]⟩
    obtain ⟨_, c1, _⟩ := hcell k c hck
    have hL : Cm.lastN 0 (cvs rs) = c.n := last_run (k := k) (c := c.c) (by unfold cvs; rw [List.getElem?_map, hck]; rfl) (by unfold cvs; rw [List.length_map]; exact hk) 0
    rw [hL, hk]
    have hne : (((k + 1 : Nat) : Int) == 0) = false := by simp; omega
    have hw : IntKind.i64.wrap (((k + 1 : Nat) : Int) - 1) = (k : Int) := by rw [wrap_i64_small _ (by omega) (by omega)]; omega
    have hk1 : (k : Int) < ((k + 1 : Nat) : Int) := by omega
    clear h hcell hck hL
    go_enter Try.func65, Try.ntmps65
    go_wp2
    go_ret
    exact ⟨rfl, rfl⟩

set_option maxHeartbeats 400000 in
theorem hfollows_any (v : Value) (rs : List Cw) (e n : Int) (vo : Value) (w : World) (h : RowC w v rs) (hl : rs.length ≤ 1048576) (ho : ∃ a m k, vo = .slice a m k) (hn : 0 ≤ Cm.lastN 0 (cvs rs) ∧ Cm.lastN 0 (cvs rs) ≤ 1048576) :
    Calls Try.prog 43 #[v, cmv e n vo] w fun E w' => E = .returned (.bool (decide (e - 1 = Cm.lastN 0 (cvs rs)))) ∧ Below w.heap.size w w' := by
  unfold cmv
  obtain ⟨w1, hw1, sz1, bel1, hB⟩ := blk_step w #[.int .i64 e, .int .i64 n, vo] 32
  have c0 := blk_cell hB 0 rfl
  have HE : Hid (∀ m, Calls Try.prog 65 #[v] (w1.drewN m) fun E w' => E = .returned (.int .i64 (Cm.lastN 0 (cvs rs))) ∧ ∃ q, w' = (w1.drewN m).drewN q) := hide fun m =>
    (hend_any v rs (w1.drewN m) ((h.below bel1).below (below_drewN (Below.refl _ _) m)) hl).mono fun E w' h => ⟨h.1, 0, by rw [← h.2]; rfl⟩
  obtain ⟨ao, cap, hv, _, _⟩ := h.shape
  obtain ⟨a, m, k, rfl⟩ := ho
  generalize Cm.lastN 0 (cvs rs) = z at *
  have hw : IntKind.i64.wrap (z + 1) = z + 1 := wrap_i64_small _ (by omega) (by omega)
  have hd : decide (e - 1 = z) = (e == z + 1) := by
    by_cases h : e - 1 = z
    · rw [decide_eq_true h]; simp; omega
    · rw [decide_eq_false h]; simp; omega
  rw [hd]
  clear h hB hd
  subst hv
  go_enter Try.func43, Try.ntmps43
  go_wp2_with fail
  go_quiet ((go_at_call 65; refine Calls.quiet_of (HE.out _)))
  go_wp2
  go_ret
  exact ⟨rfl, below_drewN bel1 _⟩

theorem hmade_any (p q : Nat) (w : World) (u1 u2 : Value) (hB : w.heap[p]? = some (.cells #[.pointer (some ⟨q, 0, none⟩), u1, u2] 55 (0, 0))) :
    Calls Try.prog 46 #[.pointer (some ⟨p, 0, none⟩)] w fun E w' => E = .returned (.bool true) ∧ w = w' := by
  have c0 := blk_cell hB 0 rfl
  clear hB
  go_enter Try.func46, Try.ntmps46
  go_wp2
  go_ret
  exact ⟨rfl, rfl⟩

/-- A run's frame, none of one that may not be. -/
def frdR (e n : Int) (l : List Bm.Ov) : List Int := if Rn.chk e n l = 0 then Rl.fr ⟨e, n, l⟩ else []

set_option maxRecDepth 20000 in
set_option maxHeartbeats 1000000 in
theorem hframed_any (e n : Int) (v : Value) (l : List Bm.Ov) (w : World) (h : IsO w v l) (hf : FitO l) (hl : l.length ≤ 140737488355328) :
    Calls Try.prog 42 #[cmv e n v] w fun E w' => ∃ vb, E = .returned (.tuple #[vb, .int .i64 (Rn.chk e n l)]) ∧ Own .u8 5 w.heap.size w' vb (frdR e n l) ∧ Below w.heap.size w w' := by
  obtain ⟨ao, cap, hv, _, _⟩ := h.shape
  obtain ⟨w1, hw1, sz1, bel1, hB⟩ := blk_step w #[.int .i64 e, .int .i64 n, v] 32
  have c0 : w1.cell? ⟨w.heap.size, 0, none⟩ = some (.int .i64 e) := blk_cell hB 0 rfl
  have c1 : w1.cell? ⟨w.heap.size, 1, none⟩ = some (.int .i64 n) := blk_cell hB 1 rfl
  have c2 : w1.cell? ⟨w.heap.size, 2, none⟩ = some v := blk_cell hB 2 rfl
  have HC := hide (henc_any e n v l w1 (h.below bel1) hf hl)
  unfold cmv at HC ⊢
  rw [hv] at hw1 c2 HC ⊢
  obtain ⟨ch, hch⟩ : ∃ c, Rn.chk e n l = c := ⟨_, rfl⟩
  have KC := hide hch
  rw [hch] at HC ⊢
  clear h hf hl hB hv hch
  go_enter Try.func42, Try.ntmps42
  go_wp2_with fail
  refine HC.out.mono ?_
  rintro E w2 ⟨vb, rfl, own, bel2⟩
  have bel02 := bel1.trans (bel2.mono bel1.size)
  obtain ⟨ab, cb, hvb, _, _⟩ := own.is.shape
  by_cases hc0 : ch = 0
  · have hz : (Rn.out e n l).length ≤ 52233 := Rn.out_small e n l
    have HF := hide (fapp_any (.slice none 0 0) vb [] (Rn.out e n l) w2 (Is.nil _ _) own.is (by simp) (by omega))
    have ea : ape (Rn.out e n l) = 0 := by unfold ape; rw [if_pos (by omega)]
    have ed : apd [] (Rn.out e n l) = frdR e n l := by
      unfold apd frdR
      rw [if_pos (by omega), if_pos (by rw [KC.out]; exact hc0), Rn.out_ok (by rw [KC.out]; exact hc0)]
      rfl
    rw [ea, ed] at HF
    subst hvb
    subst hc0
    clear own bel1 bel2 ea ed hz HC
    go_wp2_with fail
    refine HF.out.mono ?_
    rintro E w3 ⟨vf, rfl, own3, bel3⟩
    obtain ⟨af, cf, hvf, _, _⟩ := own3.is.shape
    have O3 := hide (own3.rebase (base' := w.heap.size) bel02.size)
    have B3 := hide (bel02.trans (bel3.mono bel02.size))
    subst hvf
    clear own3 bel3 bel02 HF
    go_wp2
    go_ret2
    exact ⟨_, rfl, O3.out, B3.out⟩
  · have ed : frdR e n l = [] := by unfold frdR; rw [if_neg (by rw [KC.out]; exact hc0)]
    have ED := hide ed
    have hne : (ch != 0) = true := by simp [hc0]
    subst hvb
    clear own bel1 bel2 ed HC
    go_wp2
    go_ret2
    exact ⟨_, rfl, by rw [ED.out]; exact Own.nil _ _ _ _, bel02⟩

set_option maxHeartbeats 400000 in
theorem htrim_any (q : Nat) (F : Nat → Prop) (w : World) (st : Dm.Ds) (len : Int) (h : Pk q F w st) (hs : Big 100000000 800000 st) :
    Calls Try.prog 40 #[.pointer (some ⟨q, 0, none⟩), .int .i64 len] w fun E w' => E = .returned (.int .i64 (if (Dm.cutD st 2 len).1 ≠ 0 then (Dm.cutD st 2 len).1 else (Dm.sync (Dm.cutD st 2 len).2).1)) ∧ PStep q F w w' (if (Dm.cutD st 2 len).1 ≠ 0 then (Dm.cutD st 2 len).2 else (Dm.sync (Dm.cutD st 2 len).2).2) := by
  have HC := hide (cut_any q F w st 2 len h (fun f => Nat.le_trans (hs.1.1 f) (by decide)) (Nat.le_trans hs.1.2.1 (by decide)) hs.2 (Nat.lt_of_le_of_lt hs.1.2.2 (by decide)))
  have hs2 := big_cut hs 2 len
  have HS : Hid (∀ W G, Pk q G W (Dm.cutD st 2 len).2 → Calls Try.prog 80 #[.pointer (some ⟨q, 0, none⟩)] W fun E w' => E = .returned (.int .i64 (Dm.sync (Dm.cutD st 2 len).2).1) ∧ PStep q G W w' (Dm.sync (Dm.cutD st 2 len).2).2) := hide fun W G hk => sync_any q G W _ hk (fun f => Nat.le_trans (hs2.1.1 f) (by decide)) (Nat.le_trans hs2.1.2.1 (by decide)) hs2.2 (Nat.lt_of_le_of_lt hs2.1.2.2 (by decide))
  generalize Dm.cutD st 2 len = x at *
  obtain ⟨e, st2⟩ := x
  simp only at *
  generalize Dm.sync st2 = y at *
  obtain ⟨f, st3⟩ := y
  simp only at *
  clear h hs hs2
  by_cases he : e = 0
  · subst he
    simp only [ne_eq, not_true, if_false]
    go_enter Try.func40, Try.ntmps40
    go_wp2_with fail
    refine HC.out.mono ?_
    rintro E w1 ⟨rfl, F1, k1, k2, k3⟩
    have HS1 := hide (HS.out w1 F1 k1)
    have K2 := hide k2
    have K3 := hide k3
    clear k1 k2 k3 HC HS
    go_wp2_with fail
    refine HS1.out.mono ?_
    rintro E w2 ⟨rfl, J⟩
    have J := hide (PStep.trans K2.out K3.out J)
    go_wp2
    go_ret
    exact ⟨rfl, J.out⟩
  · simp only [ne_eq, he, not_false_eq_true, if_true]
    have hne : (e != 0) = true := by simp [he]
    go_enter Try.func40, Try.ntmps40
    go_wp2_with fail
    refine HC.out.mono ?_
    rintro E w1 ⟨rfl, J⟩
    have J := hide J
    clear HC HS
    go_wp2
    go_ret
    exact ⟨rfl, J.out⟩

/-- The flag is written. -/
theorem RkV.put {p q : Nat} {w : World} {l : List Cm.Cv} {bk : Bool} {v : Value} {rs : List Cw} (h : RkV p q w l bk v rs) (b : Bool) : RkV p q (w.setCell ⟨p, 1, none⟩ (.bool b)) l b v rs ∧ Out (fun g => g = p) w (w.setCell ⟨p, 1, none⟩ (.bool b)) := by
  have ho : Out (fun g => g = p) w (w.setCell ⟨p, 1, none⟩ (.bool b)) := Out.of_grown (grown_setCell w ⟨p, 1, none⟩ (.bool b)) fun g hg => by simp at hg; exact hg.symm
  refine ⟨⟨by rw [set_cells h.blk]; rfl, h.log.agree fun g hg => ho.block g (h.log.lt g hg) fun e => ?_⟩, ho⟩
  exact h.log.ne h.blk (by decide) (by decide) (e ▸ hg)

theorem RW.flag {p q : Nat} {F : Nat → Prop} {w : World} {s : Rl.Rs} (h : RW p q F w s) (b : Bool) : RStep p q F w (w.setCell ⟨p, 1, none⟩ (.bool b)) ⟨s.d, s.l, b⟩ := by
  obtain ⟨F1, G1, h1, h2, rfl⟩ := h
  obtain ⟨v, rs, hv, rfl⟩ := h2
  obtain ⟨k1, k2⟩ := hv.put b
  have h2 : Rk p q (fun g => g = p ∨ QB v rs g) w s.l s.bk := ⟨v, rs, hv, rfl⟩
  refine ⟨_, ⟨F1, _, h1.out k2 fun g hg e => rk_pk h2 h1 g (.inl e) hg, ⟨v, rs, k1, rfl⟩, rfl⟩, k2.mono fun g hg => .inl (.inr (.inl hg)), fun g hg => .inl hg⟩

set_option maxHeartbeats 1000000 in
theorem hrefuses_any (p q : Nat) (F : Nat → Prop) (w : World) (s : Rl.Rs) (h : RW p q F w s) :
    Calls Try.prog 41 #[.pointer (some ⟨p, 0, none⟩)] w fun E w' => (Rl.ask s = true ∧ E = .returned (.int .i64 6) ∧ RStep p q F w w' (Rl.brk s)) ∨ (Rl.ask s = false ∧ E = .returned (.int .i64 0) ∧ w = w') := by
  have HF := hide (h.flag true)
  obtain ⟨F1, G1, h1, h2, rfl⟩ := h
  obtain ⟨v, rs, hv, rfl⟩ := h2
  have HM := hide (hmade_any p q w _ _ hv.blk)
  have HO := hide (on_any q F1 w s.d h1)
  have c0 := blk_cell hv.blk 0 rfl
  have c1 := blk_cell hv.blk 1 rfl
  have f1 := blk_froz hv.blk 1
  simp only [List.getElem_toArray, List.getElem_cons_zero, List.getElem_cons_succ] at c0 c1
  unfold Rl.ask
  generalize s.d.on = on at HO ⊢
  generalize s.bk = bk at c1 ⊢
  clear hv h1
  cases bk <;> cases on
  · go_enter Try.func41, Try.ntmps41
    go_wp2_with fail
    refine HM.out.mono ?_
    rintro E w1 ⟨rfl, rfl⟩
    go_wp2_with fail
    refine HO.out.mono ?_
    rintro E w1 ⟨rfl, rfl⟩
    go_wp2
    go_ret
    exact .inl ⟨rfl, rfl, HF.out⟩
  · go_enter Try.func41, Try.ntmps41
    go_wp2_with fail
    refine HM.out.mono ?_
    rintro E w1 ⟨rfl, rfl⟩
    go_wp2_with fail
    refine HO.out.mono ?_
    rintro E w1 ⟨rfl, rfl⟩
    go_wp2
    go_ret
    exact .inr ⟨rfl, rfl, rfl⟩
  · go_enter Try.func41, Try.ntmps41
    go_wp2_with fail
    refine HM.out.mono ?_
    rintro E w1 ⟨rfl, rfl⟩
    go_wp2
    go_ret
    exact .inl ⟨rfl, rfl, HF.out⟩
  · go_enter Try.func41, Try.ntmps41
    go_wp2_with fail
    refine HM.out.mono ?_
    rintro E w1 ⟨rfl, rfl⟩
    go_wp2
    go_ret
    exact .inl ⟨rfl, rfl, HF.out⟩

theorem hrend_any (p q : Nat) (F : Nat → Prop) (w : World) (s : Rl.Rs) (h : RW p q F w s) :
    Calls Try.prog 28 #[.pointer (some ⟨p, 0, none⟩)] w fun E w' => E = .returned (.int .i64 (Cm.lastN 0 s.l)) ∧ w = w' := by
  obtain ⟨F1, G1, h1, h2, rfl⟩ := h
  obtain ⟨v, rs, hv, rfl⟩ := h2
  have HM := hide (hmade_any p q w _ _ hv.blk)
  have HE := hide (hend_any v rs w hv.log.row.row hv.log.len_le)
  rw [hv.log.is] at HE
  have c2 := blk_cell hv.blk 2 rfl
  simp only [List.getElem_toArray, List.getElem_cons_zero, List.getElem_cons_succ] at c2
  clear hv h1
  go_enter Try.func28, Try.ntmps28
  go_wp2_with fail
  refine HM.out.mono ?_
  rintro E w1 ⟨rfl, rfl⟩
  go_wp2_with fail
  refine HE.out.mono ?_
  rintro E w1 ⟨rfl, rfl⟩
  go_wp2
  go_ret
  exact ⟨rfl, rfl⟩

end Go.Proofs.Ythchcnflflafeaa

/- Runs are read out of a file's bytes; bytes are put behind the file. -/
namespace Go.Proofs.Ythchcnflflafeaa
open Go.RowKit
set_option linter.unusedVariables false

/-- Read so far. -/
def RdS (bs : List Int) (l : List Cm.Cv) : Prop := Rl.Good 0 l ∧ Rl.lgb l <+: bs

theorem RdS.nil (bs : List Int) : RdS bs [] := ⟨trivial, List.nil_prefix⟩

theorem RdS.le {bs : List Int} {l : List Cm.Cv} (h : RdS bs l) : (Rl.lgb l).length ≤ bs.length := h.2.length_le

theorem RdS.stop {bs z : List Int} {l : List Cm.Cv} {n : Nat} (h : RdS bs l) (hr : Fm.Rd (bs.drop (Rl.lgb l).length) z n 5) : Rl.Lg 0 bs l := by
  refine ⟨h.1, h.2, fun c hc hp => ?_⟩
  rcases hr with ⟨h0, _⟩ | ⟨_, _, _, h3⟩
  · cases h0
  · have := Rl.rec_small hc.1
    exact h3 (Rl.rec c) (by omega) hp

theorem rds_zero {bs z : List Int} {n : Nat} (hr : Fm.Rd bs z n 0) : z.length ≤ 131072 ∧ n = (Fm.frm z).length ∧ Fm.frm z <+: bs := by
  rcases hr with ⟨_, h1, h2, h3⟩ | ⟨h0, _⟩
  · exact ⟨h1, by rw [h2, Fm.frm_len], h3⟩
  · cases h0

theorem RdS.stopC {bs z : List Int} {l : List Cm.Cv} {n : Nat} {e k : Int} {ops : List Bm.Ov} (h : RdS bs l) (hr : Fm.Rd (bs.drop (Rl.lgb l).length) z n 0) (hc : Rn.Dc z e k ops 5) : Rl.Lg 0 bs l := by
  obtain ⟨_, _, h3⟩ := rds_zero hr
  refine ⟨h.1, h.2, fun c hg hp => ?_⟩
  have e1 : Rl.rec c = z := Fm.frm_one hp h3
  rcases hc with ⟨h0, _⟩ | ⟨_, _, _, _, h4⟩
  · cases h0
  · exact h4 c.e c.n c.l hg.1 e1

theorem RdS.stopT {bs z : List Int} {l : List Cm.Cv} {n : Nat} {e k : Int} {ops : List Bm.Ov} (h : RdS bs l) (hr : Fm.Rd (bs.drop (Rl.lgb l).length) z n 0) (hc : Rn.Dc z e k ops 0) (ht : ¬ e - 1 = Cm.lastN 0 l) : Rl.Lg 0 bs l := by
  obtain ⟨_, _, h3⟩ := rds_zero hr
  refine ⟨h.1, h.2, fun c hg hp => ?_⟩
  have e1 : Rl.rec c = z := Fm.frm_one hp h3
  rcases hc with ⟨_, h1, h2⟩ | ⟨h0, _⟩
  · obtain ⟨a1, _, _⟩ := Rn.encR_one h1 hg.1 (bs := z) (h2 ▸ List.prefix_rfl) (e1 ▸ List.prefix_rfl)
    have := hg.2.1
    rw [a1] at this
    exact ht this
  · cases h0

theorem RdS.next {bs z : List Int} {l : List Cm.Cv} {n : Nat} {e k : Int} {ops : List Bm.Ov} (h : RdS bs l) (hr : Fm.Rd (bs.drop (Rl.lgb l).length) z n 0) (hc : Rn.Dc z e k ops 0) (ht : e - 1 = Cm.lastN 0 l) :
    RdS bs (l ++ [⟨e, k, ops⟩]) ∧ (Rl.lgb (l ++ [⟨e, k, ops⟩])).length = (Rl.lgb l).length + n ∧ 1 ≤ n := by
  obtain ⟨_, h2, h3⟩ := rds_zero hr
  rcases hc with ⟨_, h1, h4⟩ | ⟨h0, _⟩
  · have e1 : Rl.fr ⟨e, k, ops⟩ = Fm.frm z := by
      unfold Rl.fr Rl.rec
      rw [← h4]
    have e2 : Rl.lgb (l ++ [⟨e, k, ops⟩]) = Rl.lgb l ++ Fm.frm z := by rw [Rl.lgb_app, Rl.lgb_one, e1]
    refine ⟨⟨(Rl.good_snoc h.1).2 ⟨h1, ht⟩, ?_⟩, by rw [e2, List.length_append, h2], by rw [h2]; exact Fm.frm_pos _⟩
    rw [e2]
    exact Fm.pre_drop h.2 h3
  · cases h0

/-- A run more in a list of them. -/
theorem Rq.grow {base : Nat} {w w' : World} {l : List Cm.Cv} {v v' : Value} {rs : List Cw} {c : Cw} (h : Rq base w l v rs) (ho : OwnR 32 base w' v' (rs ++ [c])) (hk : KeepT 32 w w') (hc : OwnO 35 base w c.v c.l) (hg : Rl.Good 0 (l ++ [c.c])) : Rq base w' (l ++ [c.c]) v' (rs ++ [c]) := by
  refine ⟨ho, fun d hd => ?_, by unfold cvs; rw [List.map_append, ← h.is]; rfl, hg⟩
  rcases List.mem_append.1 hd with hd | hd
  · exact (h.cop d hd).keepT hk (by decide)
  · rw [List.mem_singleton.1 hd]
    exact hc.keepT hk (by decide)

set_option maxRecDepth 20000 in
set_option maxHeartbeats 4000000 in
theorem hscan_any (vb : Value) (bs : List Int) (w : World) (hb : Is .u8 w vb bs) (hl : bs.length ≤ 1000000000) :
    Calls Try.prog 39 #[vb] w fun E w' => ∃ (l : List Cm.Cv) (v : Value) (rs : List Cw), E = .returned (.tuple #[v, .int .i64 (Rl.lgb l).length]) ∧ Rq w.heap.size w' l v rs ∧ Below w.heap.size w w' ∧ Hid (Rl.Lg 0 bs l) := by
  have HB := hide hb
  obtain ⟨ba, bc, hvb, _, _⟩ := hb.shape
  have Q0 : Hid (RdS bs [] ∧ Rq w.heap.size w [] (.slice none 0 0) [] ∧ Below w.heap.size w w) := hide ⟨RdS.nil _, Rq.nil _ _, Below.refl _ _⟩
  clear hb
  subst hvb
  go_enter Try.func39, Try.ntmps39
  go_wp2
  go_loopw [2, 3] (fun lv gv wr => ∃ (l : List Cm.Cv) (n : Nat) (rs : List Cw), gv = .int .i64 n ∧ n = (Rl.lgb l).length ∧ Hid (RdS bs l ∧ Rq w.heap.size wr l lv rs ∧ Below w.heap.size w wr)) (fun _ gv _ => bs.length - (intOf gv).toNat)
  case atStart => exact ⟨[], 0, [], rfl, rfl, Q0⟩
  case round =>
    clear Q0
    obtain ⟨l, n, rs, rfl, hn, RS⟩ := hrel
    obtain ⟨sa, sn, sk, hsv⟩ : ∃ a n k, u2 = .slice a n k := by
      obtain ⟨a1, k1, h1, _⟩ := RS.out.2.1.row.row.shape
      exact ⟨a1, _, k1, h1⟩
    subst hsv
    have hle := RS.out.1.le
    have szr := RS.out.2.2.size
    have HN := hide hn
    rw [← hn] at hle
    obtain ⟨vs, hsl, isl⟩ := (HB.out.below RS.out.2.2).slice_l Try.elemB3 Try.sizeB3 n hle
    have HF := hide (fread_any vs _ wr isl (by rw [List.length_drop]; omega))
    clear isl hn
    go_wp2_with fail
    refine HF.out.mono ?_
    rintro E wa ⟨v1, z, k, e, rfl, own1, bel1, R⟩
    have sza := bel1.size
    have RA := hide (show RdS bs l ∧ Rq w.heap.size wa l (.slice sa sn sk) rs ∧ Below w.heap.size w wa from ⟨RS.out.1, RS.out.2.1.below bel1, RS.out.2.2.trans (bel1.mono szr)⟩)
    clear HF RS hsl
    have R' : Hid (Fm.Rd (bs.drop (Rl.lgb l).length) z k e) := hide (by rw [← HN.out]; exact R.out)
    clear R
    have R := R'
    clear R'
    have he : e = 0 ∨ e = 5 := by
      rcases R.out with h | h
      · exact .inl h.1
      · exact .inr h.1
    rcases he with rfl | rfl
    · have hzl : z.length ≤ 131072 := (rds_zero R.out).1
      have HD := hide (hdec_any v1 z wa own1.is (by omega))
      obtain ⟨o1, k1, hv1, _, _⟩ := own1.is.shape
      subst hv1
      clear own1 bel1
      go_wp2_with fail
      refine HD.out.mono ?_
      rintro E wb ⟨ee, nn, g, vo, ops, rfl, ownc, hcr, bel2⟩
      have szb := bel2.size
      have hgg := Rn.dc_e hcr.out
      obtain ⟨oa, on, ok, hvo⟩ : ∃ a n k, vo = .slice a n k := by
        obtain ⟨a1, k1, h1, _⟩ := ownc.is.shape
        exact ⟨a1, _, k1, h1⟩
      subst hvo
      obtain ⟨wc, hwc, hwc2, szc, belc, bC, x0, x1, x2⟩ := new_step wb 32 (.int .i64 0) (.int .i64 0) (.slice none 0 0) (.int .i64 ee) (.int .i64 nn) (.slice oa on ok)
      have belac := bel2.trans (belc.mono szb)
      have RC := hide (show RdS bs l ∧ Rq w.heap.size wc l (.slice sa sn sk) rs ∧ Below w.heap.size w wc from ⟨RA.out.1, RA.out.2.1.below belac, RA.out.2.2.trans (belac.mono (by omega))⟩)
      have OC := hide (ownc.below belc)
      unfold cmv
      clear RA HD ownc bel2 belc belac
      rcases hgg with rfl | rfl
      · have hgl := Rl.good_len RC.out.1.1
        have FO := hide (hfollows_any (.slice sa sn sk) rs ee nn (.slice oa on ok) wc RC.out.2.1.row.row RC.out.2.1.len_le ⟨_, _, _, rfl⟩ (by rw [RC.out.2.1.is]; exact hgl.2))
        rw [RC.out.2.1.is] at FO
        unfold cmv at FO
        obtain ⟨ans, hans⟩ : ∃ x, decide (ee - 1 = Cm.lastN 0 l) = x := ⟨_, rfl⟩
        rw [hans] at FO
        have HA := hide hans
        clear hans
        go_wp2_with fail
        refine FO.out.mono ?_
        rintro E wd ⟨rfl, beld⟩
        have szd := beld.size
        have RD := hide (show RdS bs l ∧ Rq w.heap.size wd l (.slice sa sn sk) rs ∧ Below w.heap.size w wd from ⟨RC.out.1, RC.out.2.1.below beld, RC.out.2.2.trans (beld.mono (by omega))⟩)
        have OD := hide (OC.out.below beld)
        have bD := (beld.block _ (blk_lt bC)).trans bC
        have y0 := blk_cell bD 0 rfl
        have y1 := blk_cell bD 1 rfl
        have y2 := blk_cell bD 2 rfl
        simp only [List.getElem_toArray, List.getElem_cons_zero, List.getElem_cons_succ] at y0 y1 y2
        clear FO RC OC beld bC bD x0 x1 x2
        cases ans with
        | false =>
          have G := hide (show Rq w.heap.size wd l (.slice sa sn sk) rs ∧ Below w.heap.size w wd ∧ Hid (Rl.Lg 0 bs l) from ⟨RD.out.2.1, RD.out.2.2, hide (RD.out.1.stopT R.out hcr.out (of_decide_eq_false HA.out))⟩)
          clear RD OD hcr
          go_wp2
          go_ret2
          exact ⟨l, .slice sa sn sk, rs, by rw [← HN.out]; rfl, G.out⟩
        | true =>
          obtain ⟨g1, g2, g3⟩ := RD.out.1.next R.out hcr.out (of_decide_eq_true HA.out)
          obtain ⟨we, hwe, sze, bele, owne⟩ := coms_step 32 wd #[.int .i64 ee, .int .i64 nn, .slice oa on ok] 1 [⟨ee, nn, .slice oa on ok, ops⟩] rfl rfl (by simp [maxLen])
          have RQE := RD.out.2.1.below bele
          have OE := hide (OD.out.below bele)
          have REE := hide RQE
          have hre := RQE.row
          have hze : w.heap.size ≤ we.heap.size := by omega
          have hlen : (rs.length + [(⟨ee, nn, .slice oa on ok, ops⟩ : Cw)].length) * 40 ≤ 140737488355328 := by have := RQE.len_le; simp; omega
          have HG := hide (show RdS bs (l ++ [⟨ee, nn, ops⟩]) ∧ (Rl.lgb (l ++ [⟨ee, nn, ops⟩])).length = n + k ∧ 1 ≤ k from ⟨g1, by rw [g2, HN.out], g3⟩)
          have hkb : n + k ≤ bs.length := by rw [← HG.out.2.1]; exact g1.le
          have hwr := wrap_i64_small ((n : Int) + (k : Int)) (by omega) (by omega)
          have BE := hide (RD.out.2.2.trans (bele.mono (by omega)))
          have rowe := owne.row
          have hone : ∀ c ∈ [(⟨ee, nn, .slice oa on ok, ops⟩ : Cw)], c.v.oneCell' = true := fun c hc => by rw [List.mem_singleton.1 hc]; rfl
          clear g1 g2 RQE RD OD bele owne hcr
          go_wp2_with (at_builtin; refine wpList_append_coms rfl (.tmp 35) (.tmp 37) 47 rfl 32 w.heap.size Try.underlying47 Try.info32 _ rs rfl hre _ [⟨ee, nn, .slice oa on ok, ops⟩] rfl rowe hone hlen hze ?_)
          rintro v7 w7 own7 bel7 kp7
          have RN := hide (show RdS bs (l ++ [⟨ee, nn, ops⟩]) ∧ Rq w.heap.size w7 (l ++ [⟨ee, nn, ops⟩]) v7 (rs ++ [⟨ee, nn, .slice oa on ok, ops⟩]) ∧ Below w.heap.size w w7 from ⟨HG.out.1, REE.out.grow own7 kp7 (OE.out.rebase (by omega)) HG.out.1.1, BE.out.trans bel7⟩)
          clear own7 kp7 bel7 hre rowe REE OE BE
          go_wp2
          go_roundw
          case rel => exact ⟨_, n + k, _, by go_num, HG.out.2.1.symm, RN⟩
          case measure => simp [intOf]; omega
      · have G := hide (show Rq w.heap.size wc l (.slice sa sn sk) rs ∧ Below w.heap.size w wc ∧ Hid (Rl.Lg 0 bs l) from ⟨RC.out.2.1, RC.out.2.2, hide (RC.out.1.stopC R.out hcr.out)⟩)
        clear RC OC hcr
        go_wp2
        go_ret2
        exact ⟨l, .slice sa sn sk, rs, by rw [← HN.out]; rfl, G.out⟩
    · have G := hide (show Rq w.heap.size wa l (.slice sa sn sk) rs ∧ Below w.heap.size w wa ∧ Hid (Rl.Lg 0 bs l) from ⟨RA.out.2.1, RA.out.2.2, hide (RA.out.1.stop R.out)⟩)
      obtain ⟨o1, k1, hv1, _, _⟩ := own1.is.shape
      subst hv1
      clear RA own1 bel1 R
      go_wp2
      go_ret2
      exact ⟨l, .slice sa sn sk, rs, by rw [← HN.out]; rfl, G.out⟩

end Go.Proofs.Ythchcnflflafeaa

/- Open of runs, and what is put behind the file. -/
namespace Go.Proofs.Ythchcnflflafeaa
open Go.RowKit
set_option linter.unusedVariables false

/-- A list's blocks are none of a disk's. -/
theorem rq_pk {base q : Nat} {F : Nat → Prop} {w : World} {l : List Cm.Cv} {v : Value} {rs : List Cw} {st : Dm.Ds} (h : Rq base w l v rs) (k : Pk q F w st) : ∀ g, QB v rs g → ¬ F g := by
  intro g hg hf
  obtain ⟨cs, t, e, ht⟩ := h.ty g hg
  obtain ⟨cs', t', fr, e', ht'⟩ := k.ty g hf
  rw [e] at e'
  simp only [Option.some.injEq, Obj.cells.injEq] at e'
  obtain ⟨_, e2, _⟩ := e'
  subst e2
  rcases ht with rfl | rfl <;> rcases ht' with e | e | e <;> exact absurd e (by decide)

theorem Rq.out {base : Nat} {F : Nat → Prop} {w w' : World} {l : List Cm.Cv} {v : Value} {rs : List Cw} (h : Rq base w l v rs) (ho : Out F w w') (hd : ∀ g, QB v rs g → ¬ F g) : Rq base w' l v rs := h.agree fun g hg => ho.block g (h.lt g hg) (hd g hg)

/-- What Open answers, and what it leaves of the disk. -/
def ropE (st : Dm.Ds) (l : List Cm.Cv) : Int := if st.on = false then 6 else (Rl.trm st (Rl.lgb l).length).1
def ropD (st : Dm.Ds) (l : List Cm.Cv) : Dm.Ds := if st.on = false then st else (Rl.trm st (Rl.lgb l).length).2

theorem rtrm_e (st : Dm.Ds) (n : Nat) : (Rl.trm st n).1 = 0 ∨ (Rl.trm st n).1 = 6 := by
  unfold Rl.trm
  split
  · exact .inl rfl
  split
  · exact .inr rfl
  split
  · exact .inr rfl
  · exact .inl rfl

theorem rcut_e {st : Dm.Ds} {n : Nat} (ho : st.on = true) (hn : n ≤ (Rl.hld st).length) : (Dm.cutD st 2 n).1 = 0 ∨ (Dm.cutD st 2 n).1 = 6 := by
  unfold Dm.cutD
  rw [if_neg (by simp [ho]), if_neg (by decide), if_neg ?_]
  · split
    · exact .inr rfl
    · exact .inl rfl
  · unfold Rl.hld at hn
    simp
    omega

theorem rtrm_go {st : Dm.Ds} {n : Nat} (ho : st.on = true) (hn : n ≤ (Rl.hld st).length) (hne : (Rl.hld st).length ≠ n) :
    (if (Dm.cutD st 2 n).1 ≠ 0 then (Dm.cutD st 2 n).1 else (Dm.sync (Dm.cutD st 2 n).2).1) = (Rl.trm st n).1 ∧ (if (Dm.cutD st 2 n).1 ≠ 0 then (Dm.cutD st 2 n).2 else (Dm.sync (Dm.cutD st 2 n).2).2) = (Rl.trm st n).2 := by
  unfold Rl.trm
  rw [if_neg hne]
  rcases rcut_e ho hn with e | e
  · rw [e]
    simp only [ne_eq, not_true, if_false]
    rcases Rl.sync_e (Dm.cutD st 2 n).2 with f | f
    · rw [f]; simp
    · rw [f]; simp
  · rw [e]
    simp

theorem rhld_len {st : Dm.Ds} {t u : Nat} (h : Big t u st) : (Rl.hld st).length ≤ t := by
  unfold Rl.hld
  exact Nat.le_trans (Dm.hold_len st.wait (st.sure 2) 2) (h.1.1 2)

theorem rdB_rhld {st : Dm.Ds} (ho : st.on = true) : rdB st 2 = Rl.hld st ∧ rdE st 2 = 0 := by
  unfold rdB rdE
  rw [if_neg (by simp [ho]), if_neg (by decide), if_neg (by simp [ho]), if_neg (by decide)]
  exact ⟨rfl, rfl⟩

theorem PStep.post3 {p : Nat} {F : Nat → Prop} {w w1 w2 : World} {st : Dm.Ds} (h : PStep p F w w1 st) (hb : Below w1.heap.size w1 w2) : PStep p F w w2 st := by
  obtain ⟨F1, h1, h2, h3⟩ := h
  exact ⟨F1, h1.below hb, h2.trans (Out.of_below (F := F) hb) fun g hg => .inl hg, h3⟩

set_option maxRecDepth 20000 in
set_option maxHeartbeats 2000000 in
theorem hopen_any (q : Nat) (F : Nat → Prop) (w : World) (st : Dm.Ds) (h : Pk q F w st) (hs : Big 100000000 800000 st) :
    Calls Try.prog 9 #[.pointer (some ⟨q, 0, none⟩)] w fun E w' => ∃ l, Hid (Rl.Lg 0 (Rl.hld st) l) ∧ PStep q F w w' (ropD st l) ∧
      ((ropE st l ≠ 0 ∧ E = .returned (.tuple #[.pointer none, .int .i64 (ropE st l)])) ∨ (ropE st l = 0 ∧ ∃ p G, E = .returned (.tuple #[.pointer (some ⟨p, 0, none⟩), .int .i64 0]) ∧ Rk p q G w' l false ∧ ∀ g, G g → w.heap.size ≤ g)) := by
  have HR := hide (dread_any q F w st 2 h (fun f => Nat.le_trans (hs.1.1 f) (by decide)) (Nat.le_trans hs.1.2.1 (by decide)))
  have HK := hide h
  have HS := hide hs
  cases hon : st.on with
  | false =>
    obtain ⟨l, hl⟩ := Rl.lg_is 0 (Rl.hld st)
    have e1 : ropE st l = 6 := by unfold ropE; rw [if_pos hon]
    have e2 : ropD st l = st := by unfold ropD; rw [if_pos hon]
    have E1 := hide e1
    have E2 := hide e2
    have HL := hide hl
    have er : rdE st 2 = 6 := by unfold rdE; rw [if_pos hon]
    rw [er] at HR
    clear h hs hon e1 e2 hl er
    go_enter Try.func9, Try.ntmps9
    go_wp2_with fail
    refine HR.out.mono ?_
    rintro E w1 ⟨v, rfl, own, bel⟩
    obtain ⟨a, c, hv, _, _⟩ := own.is.shape
    subst hv
    have PS := hide (PStep.same HK.out bel)
    clear own bel HR
    go_wp2
    go_ret2
    exact ⟨l, HL, by rw [E2.out]; exact PS.out, .inl ⟨by rw [E1.out]; decide, by rw [E1.out]; rfl⟩⟩
  | true =>
    obtain ⟨er, ee⟩ := rdB_rhld hon
    rw [er, ee] at HR
    have hlen := rhld_len hs
    have HO := hide hon
    clear h hs er ee
    go_enter Try.func9, Try.ntmps9
    go_wp2_with fail
    refine HR.out.mono ?_
    rintro E w1 ⟨v, rfl, own, bel⟩
    have HW := hide (hscan_any v (Rl.hld st) w1 own.is (by omega))
    obtain ⟨a, c, hv, _, _⟩ := own.is.shape
    subst hv
    have sz1 := bel.size
    clear own HR
    go_wp2_with fail
    refine HW.out.mono ?_
    rintro E w2 ⟨l, vl, rs, rfl, L2, bel2, LG⟩
    have sz2 := bel2.size
    have b02 := bel.trans (bel2.mono bel.size)
    have K2 := hide (HK.out.below b02)
    have hle : (Rl.lgb l).length ≤ (Rl.hld st).length := LG.out.2.1.length_le
    obtain ⟨la, ln, lk, hvl⟩ : ∃ a n k, vl = .slice a n k := by
      obtain ⟨a1, k1, h1, _⟩ := L2.row.row.shape
      exact ⟨a1, _, k1, h1⟩
    subst hvl
    have HL2 := hide L2
    have B02 := hide b02
    obtain ⟨z, hz⟩ : ∃ z, (Rl.lgb l).length = z := ⟨_, rfl⟩
    rw [hz] at hle ⊢
    have HZ := hide hz
    obtain ⟨m, hm⟩ : ∃ m, (Rl.hld st).length = m := ⟨_, rfl⟩
    rw [hm] at hle hlen ⊢
    have HMM := hide hm
    clear L2 bel2 HW hz b02 bel hm
    by_cases hq : m = z
    · have e1 : ropE st l = 0 := by unfold ropE Rl.trm; rw [if_neg (by rw [HO.out]; decide), if_pos (by rw [HZ.out, HMM.out]; exact hq)]
      have e2 : ropD st l = st := by unfold ropD Rl.trm; rw [if_neg (by rw [HO.out]; decide), if_pos (by rw [HZ.out, HMM.out]; exact hq)]
      have E1 := hide e1
      have E2 := hide e2
      have hb : ¬ ((z : Int) < (m : Int)) := by omega
      obtain ⟨W, hW, szW, belW, bW⟩ := blk_step w2 #[.pointer (some ⟨q, 0, none⟩), .bool false, .slice la ln lk] 55
      have G := hide (show Rk w2.heap.size q (fun g => g = w2.heap.size ∨ QB (.slice la ln lk) rs g) W l false ∧ (∀ g, (g = w2.heap.size ∨ QB (.slice la ln lk) rs g) → w.heap.size ≤ g) ∧ Below w.heap.size w W from ⟨⟨_, rs, ⟨bW, (HL2.out.below belW).rebase (Nat.zero_le _)⟩, rfl⟩, by
        rintro g (e | e)
        · omega
        · have := HL2.out.ge g e
          omega, B02.out.trans (belW.mono (by omega))⟩)
      clear e1 e2 hq bW belW
      go_wp2
      go_ret2
      exact ⟨l, LG, by rw [E2.out]; exact PStep.same HK.out G.out.2.2, .inr ⟨E1.out, _, _, rfl, G.out.1, G.out.2.1⟩⟩
    · have hb : (z : Int) < (m : Int) := by omega
      have HT := hide (htrim_any q F w2 st (z : Int) K2.out HS.out)
      obtain ⟨t1, t2⟩ := rtrm_go (n := z) HO.out (by rw [HMM.out]; exact hle) (by rw [HMM.out]; exact hq)
      rw [t1, t2] at HT
      have e1 : ropE st l = (Rl.trm st z).1 := by unfold ropE; rw [if_neg (by rw [HO.out]; decide), HZ.out]
      have e2 : ropD st l = (Rl.trm st z).2 := by unfold ropD; rw [if_neg (by rw [HO.out]; decide), HZ.out]
      rw [← e1, ← e2] at HT
      have e01 : ropE st l = 0 ∨ ropE st l = 6 := by rw [e1]; exact rtrm_e st z
      clear e1 e2 t1 t2
      go_wp2_with fail
      refine HT.out.mono ?_
      rintro E w5 ⟨rfl, PS⟩
      have P0 := hide (PStep.pre B02.out PS)
      have L5 : Hid (Rq w1.heap.size w5 l (.slice la ln lk) rs ∧ w2.heap.size ≤ w5.heap.size) := hide (by
        obtain ⟨F', _, ho, _⟩ := PS
        exact ⟨HL2.out.out ho (rq_pk HL2.out K2.out), ho.size⟩)
      generalize hoe : ropE st l = oe at *
      have HOE := hide hoe
      clear PS HT hoe
      rcases e01 with rfl | rfl
      · obtain ⟨W, hW, szW, belW, bW⟩ := blk_step w5 #[.pointer (some ⟨q, 0, none⟩), .bool false, .slice la ln lk] 55
        have sz5 := L5.out.2
        have G := hide (show Rk w5.heap.size q (fun g => g = w5.heap.size ∨ QB (.slice la ln lk) rs g) W l false ∧ (∀ g, (g = w5.heap.size ∨ QB (.slice la ln lk) rs g) → w.heap.size ≤ g) ∧ PStep q F w W (ropD st l) from ⟨⟨_, rs, ⟨bW, (L5.out.1.below belW).rebase (Nat.zero_le _)⟩, rfl⟩, by
          rintro g (e | e)
          · omega
          · have := L5.out.1.ge g e
            omega, P0.out.post3 belW⟩)
        clear bW belW
        go_wp2
        go_ret2
        exact ⟨l, LG, G.out.2.2, .inr ⟨HOE.out, _, _, rfl, G.out.1, G.out.2.1⟩⟩
      · go_wp2
        go_ret2
        exact ⟨l, LG, P0.out, .inl ⟨by rw [HOE.out]; decide, by rw [HOE.out]; rfl⟩⟩

/-- Runs' sizes. -/
def RBig (s : Rl.Rs) : Prop := Big 90000000 700000 s.d
theorem RBig.big {s : Rl.Rs} (h : RBig s) : Big 100000000 800000 s.d := Big.mono h (by decide) (by decide)

theorem cnt_run {n : Nat} (h : n ≤ 52236) : cnt n ≤ 817 := by
  unfold cnt
  omega

set_option maxHeartbeats 1000000 in
theorem hextend_any (q : Nat) (F : Nat → Prop) (w : World) (st : Dm.Ds) (vb : Value) (bs : List Int) (h : Pk q F w st) (hs : Big 90000000 700000 st) (hb : Own .u8 5 0 w vb bs) (hbF : ∀ b, vb.ownBlock = some b → ¬ F b) (hl : bs.length ≤ 52236) :
    Calls Try.prog 44 #[.pointer (some ⟨q, 0, none⟩), vb] w fun E w' => E = .returned (.int .i64 (Rl.ext st bs).1) ∧ PStep q F w w' (Rl.ext st bs).2 := by
  have hc := cnt_run hl
  have HW := hide (write_any q F w st 2 vb bs h hb.is (fun _ => hbF) (by omega) (by have := hs.1.2.1; omega) hs.2 (by have := hs.1.2.2; omega))
  have hs2 : Big 100000000 800000 (Dm.write st 2 bs).2 := (big_write hs 2 bs).mono (by omega) (by omega)
  have HSY : Hid (∀ W G, Pk q G W (Dm.write st 2 bs).2 → Calls Try.prog 80 #[.pointer (some ⟨q, 0, none⟩)] W fun E w' => E = .returned (.int .i64 (Dm.sync (Dm.write st 2 bs).2).1) ∧ PStep q G W w' (Dm.sync (Dm.write st 2 bs).2).2) := hide fun W G hk => sync_any q G W _ hk (fun f => Nat.le_trans (hs2.1.1 f) (by decide)) (Nat.le_trans hs2.1.2.1 (by decide)) hs2.2 (Nat.lt_of_le_of_lt hs2.1.2.2 (by decide))
  obtain ⟨a, c, hv, _, _⟩ := hb.is.shape
  unfold Rl.ext
  generalize Dm.write st 2 bs = x at *
  obtain ⟨e, st2⟩ := x
  simp only at *
  generalize Dm.sync st2 = y at *
  obtain ⟨f, st3⟩ := y
  simp only at *
  subst hv
  clear h hs hs2 hb
  by_cases he : e = 0
  · subst he
    simp only [ne_eq, not_true, if_false]
    go_enter Try.func44, Try.ntmps44
    go_wp2_with fail
    refine HW.out.mono ?_
    rintro E w1 ⟨rfl, F1, k1, k2, k3⟩
    have HS1 := hide (HSY.out w1 F1 k1)
    have K2 := hide k2
    have K3 := hide k3
    clear k1 k2 k3 HW HSY
    go_wp2_with fail
    refine HS1.out.mono ?_
    rintro E w2 ⟨rfl, J⟩
    have J := hide (PStep.trans K2.out K3.out J)
    go_wp2
    go_ret
    exact ⟨rfl, J.out⟩
  · simp only [ne_eq, he, not_false_eq_true, if_true]
    have hne : (e != 0) = true := by simp [he]
    go_enter Try.func44, Try.ntmps44
    go_wp2_with fail
    refine HW.out.mono ?_
    rintro E w1 ⟨rfl, J⟩
    have J := hide J
    clear HW HSY
    go_wp2
    go_ret
    exact ⟨rfl, J.out⟩

end Go.Proofs.Ythchcnflflafeaa

/- 'append' of ops and of rows of runs or commits, as one step. No program. -/
namespace Go.Proofs.Ythchcnflflafeaa
open Go.RowKit
set_option linter.unusedVariables false

section
variable {P : Program} {w : World}

theorem run_append_ops_at (t ty e : TypeId) (base : Nat) (ht : P.underlying t = some (.slice e)) (hinfo : (P.info? e).map (fun i => (i.zero, i.size, i.bytes)) = some (some (.agg #[.bool false, .string ⟨#[]⟩, .string ⟨#[]⟩]), 3, 40))
    (v : Value) (l : List Bm.Ov) (hown : OwnO e base w v l) (vx : Value) (m : List Bm.Ov) (his : IsO w vx m) (hlen : (l.length + m.length) * 40 ≤ 140737488355328) (hbase : base ≤ w.heap.size) :
    ∃ v' w', (Builtin.append_ #[t, t] ty #[v, vx]).run P w = .ok v' w' ∧ OwnO e base w' v' (l ++ m) ∧ w.grownBy w' v.ownBlock ∧ (v'.ownBlock = v.ownBlock ∨ v'.ownBlock = some w.heap.size) := by
  obtain ⟨i, hi, hz, hsize, hb⟩ := info_parts hinfo
  rcases his with ⟨hv, hy⟩ | ⟨ad, cap, hv, h1, h2, hc⟩
  · subst hy hv
    have hrun := run_append_owned_none (P := P) (w := w) base t ty e i 3 ht hi v l.length _ hown
    exact ⟨v, w, hrun, by simpa using hown, World.grownBy.refl _ _, .inl rfl⟩
  · subst hv
    obtain ⟨v', w', hr, h3, h4, _, h5⟩ := run_append_own_at (P := P) w base t ty e i _ 3 40 ht hi hz hsize hb rfl (by decide) v l.length _ hown ad m.length cap (ocells m) (ocells_len m) hc (ocells_cell m) (by unfold maxLen; omega) hlen hbase
    exact ⟨v', w', hr, by unfold OwnO; rw [ocells_app, List.length_append]; exact h3, h4, h5⟩

theorem run_append_coms_at (t ty e : TypeId) (base : Nat) (ht : P.underlying t = some (.slice e)) (hinfo : (P.info? e).map (fun i => (i.zero, i.size, i.bytes)) = some (some (.agg #[.int .i64 0, .int .i64 0, .slice none 0 0]), 3, 40))
    (v : Value) (l : List Cw) (hown : OwnR e base w v l) (vx : Value) (m : List Cw) (his : RowC w vx m) (hone : ∀ c ∈ m, c.v.oneCell' = true) (hlen : (l.length + m.length) * 40 ≤ 140737488355328) (hbase : base ≤ w.heap.size) :
    ∃ v' w', (Builtin.append_ #[t, t] ty #[v, vx]).run P w = .ok v' w' ∧ OwnR e base w' v' (l ++ m) ∧ w.grownBy w' v.ownBlock ∧ (v'.ownBlock = v.ownBlock ∨ v'.ownBlock = some w.heap.size) := by
  obtain ⟨i, hi, hz, hsize, hb⟩ := info_parts hinfo
  rcases his with ⟨hv, hy⟩ | ⟨ad, cap, hv, h1, h2, hc⟩
  · subst hy hv
    have hrun := run_append_owned_none (P := P) (w := w) base t ty e i 3 ht hi v l.length _ hown
    exact ⟨v, w, hrun, by simpa using hown, World.grownBy.refl _ _, .inl rfl⟩
  · subst hv
    obtain ⟨v', w', hr, h3, h4, _, h5⟩ := run_append_own_at (P := P) w base t ty e i _ 3 40 ht hi hz hsize hb rfl (by decide) v l.length _ hown ad m.length cap (ccells m) (ccells_len m) hc (ccells_cell m hone) (by unfold maxLen; omega) hlen hbase
    exact ⟨v', w', hr, by unfold OwnR; rw [ccells_app, List.length_append]; exact h3, h4, h5⟩

end

end Go.Proofs.Ythchcnflflafeaa
