/- A commit's frame; why a wal does nothing; what a disk answered; what a wal tells. -/
import Derived.Test.YtimmohpnlieefaaVh
import Derived.Test.YtimmohpnlieefaaA7
namespace Go.Proofs.Ytimmohpnlieefaa
open Go.RowKit
set_option linter.unusedVariables false

/-- A commit's frame, none of one that may not be. -/
def frd (e n : Int) (l : List Bm.Ov) : List Int := if Cm.chk e n l = 0 then Wl.fr ⟨e, n, l⟩ else []

set_option maxRecDepth 20000 in
set_option maxHeartbeats 1000000 in
theorem framed_any (e n : Int) (v : Value) (l : List Bm.Ov) (w : World) (h : IsO w v l) (hf : FitO l) (hl : l.length ≤ 140737488355328) :
    Calls Try.prog 42 #[cmv e n v] w fun E w' => ∃ vb, E = .returned (.tuple #[vb, .int .i64 (Cm.chk e n l)]) ∧ Own .u8 5 w.heap.size w' vb (frd e n l) ∧ Below w.heap.size w w' := by
  obtain ⟨ao, cap, hv, _, _⟩ := h.shape
  obtain ⟨w1, hw1, sz1, bel1, hB⟩ := blk_step w #[.int .i64 e, .int .i64 n, v] 32
  have c0 : w1.cell? ⟨w.heap.size, 0, none⟩ = some (.int .i64 e) := blk_cell hB 0 rfl
  have c1 : w1.cell? ⟨w.heap.size, 1, none⟩ = some (.int .i64 n) := blk_cell hB 1 rfl
  have c2 : w1.cell? ⟨w.heap.size, 2, none⟩ = some v := blk_cell hB 2 rfl
  have HC := hide (cenc_any e n v l w1 (h.below bel1) hf hl)
  unfold cmv at HC ⊢
  rw [hv] at hw1 c2 HC ⊢
  obtain ⟨ch, hch⟩ : ∃ c, Cm.chk e n l = c := ⟨_, rfl⟩
  have KC := hide hch
  rw [hch] at HC ⊢
  clear h hf hl hB hv hch
  go_enter Try.func42, Try.ntmps42
  go_wp2_with fail
  refine HC.out.mono ?_
  rintro E w2 ⟨vb, rfl, own, bel2⟩
  have bel02 := bel1.trans (bel2.mono bel1.size)
  obtain ⟨ab, cb, hvb, _, _⟩ := own.is.shape
  by_cases hc0 : ch = 0
  · have hz : (Cm.out e n l).length ≤ 430 := Cm.out_small e n l
    have HF := hide (fapp_any (.slice none 0 0) vb [] (Cm.out e n l) w2 (Is.nil _ _) own.is (by simp) (by omega))
    have ea : ape (Cm.out e n l) = 0 := by unfold ape; rw [if_pos (by omega)]
    have ed : apd [] (Cm.out e n l) = frd e n l := by
      unfold apd frd
      rw [if_pos (by omega), if_pos (by rw [KC.out]; exact hc0), Cm.out_ok (by rw [KC.out]; exact hc0)]
      rfl
    rw [ea, ed] at HF
    subst hvb
    subst hc0
    clear own bel1 bel2 ea ed hz HC
    go_wp2_with fail
    refine HF.out.mono ?_
    rintro E w3 ⟨vf, rfl, own3, bel3⟩
    obtain ⟨af, cf, hvf, _, _⟩ := own3.is.shape
    have O3 := hide (own3.rebase (base' := w.heap.size) bel02.size)
    have B3 := hide (bel02.trans (bel3.mono bel02.size))
    subst hvf
    clear own3 bel3 bel02 HF
    go_wp2
    go_ret2
    exact ⟨_, rfl, O3.out, B3.out⟩
  · have ed : frd e n l = [] := by unfold frd; rw [if_neg (by rw [KC.out]; exact hc0)]
    have ED := hide ed
    have hne : (ch != 0) = true := by simp [hc0]
    subst hvb
    clear own bel1 bel2 ed HC
    go_wp2
    go_ret2
    exact ⟨_, rfl, by rw [ED.out]; exact Own.nil _ _ _ _, bel02⟩

/-- The flag is written. -/
theorem WkV.put {p q : Nat} {w : World} {l : List Cm.Cv} {bk : Bool} {vc ve : Value} {rs : List Cw} (h : WkV p q w l bk vc ve rs) (b : Bool) : WkV p q (w.setCell ⟨p, 1, none⟩ (.bool b)) l b vc ve rs ∧ Out (fun g => g = p) w (w.setCell ⟨p, 1, none⟩ (.bool b)) := by
  have ho : Out (fun g => g = p) w (w.setCell ⟨p, 1, none⟩ (.bool b)) := Out.of_grown (grown_setCell w ⟨p, 1, none⟩ (.bool b)) fun g hg => by simp at hg; exact hg.symm
  refine ⟨⟨by rw [set_cells h.blk]; rfl, h.log.agree fun g hg => ho.block g (h.log.lt g hg) fun e => ?_⟩, ho⟩
  exact h.log.r.ne h.blk (by decide) (by decide) (by decide) (e ▸ hg)

theorem WW.flag {p q : Nat} {F : Nat → Prop} {w : World} {s : Wl.Ws} (h : WW p q F w s) (b : Bool) : WStep p q F w (w.setCell ⟨p, 1, none⟩ (.bool b)) ⟨s.d, s.l, b⟩ := by
  obtain ⟨F1, G1, h1, h2, rfl⟩ := h
  obtain ⟨vc, ve, rs, hv, rfl⟩ := h2
  obtain ⟨k1, k2⟩ := hv.put b
  have h2 : Wk p q (fun g => g = p ∨ LB vc ve rs g) w s.l s.bk := ⟨vc, ve, rs, hv, rfl⟩
  refine ⟨_, ⟨F1, _, h1.out k2 fun g hg e => wk_pk h2 h1 g (.inl e) hg, ⟨vc, ve, rs, k1, rfl⟩, rfl⟩, k2.mono fun g hg => .inl (.inr (.inl hg)), fun g hg => .inl hg⟩

set_option maxHeartbeats 1000000 in
theorem wrefuses_any (p q : Nat) (F : Nat → Prop) (w : World) (s : Wl.Ws) (h : WW p q F w s) :
    Calls Try.prog 41 #[.pointer (some ⟨p, 0, none⟩)] w fun E w' => (Wl.ask s = true ∧ E = .returned (.int .i64 6) ∧ WStep p q F w w' (Wl.brk s)) ∨ (Wl.ask s = false ∧ E = .returned (.int .i64 0) ∧ w = w') := by
  have HF := hide (h.flag true)
  obtain ⟨F1, G1, h1, h2, rfl⟩ := h
  obtain ⟨vc, ve, rs, hv, rfl⟩ := h2
  have HM := hide (made2_any p q w #[] _ _ _ hv.blk)
  have HO := hide (on_any q F1 w s.d h1)
  have c0 := blk_cell hv.blk 0 rfl
  have c1 := blk_cell hv.blk 1 rfl
  have f1 := blk_froz hv.blk 1
  simp only [List.getElem_toArray, List.getElem_cons_zero, List.getElem_cons_succ] at c0 c1
  unfold Wl.ask
  generalize s.d.on = on at HO ⊢
  generalize s.bk = bk at c1 ⊢
  clear hv h1
  cases bk <;> cases on
  · go_enter Try.func41, Try.ntmps41
    go_wp2_with fail
    refine HM.out.mono ?_
    rintro E w1 ⟨rfl, rfl⟩
    go_wp2_with fail
    refine HO.out.mono ?_
    rintro E w1 ⟨rfl, rfl⟩
    go_wp2
    go_ret
    exact .inl ⟨rfl, rfl, HF.out⟩
  · go_enter Try.func41, Try.ntmps41
    go_wp2_with fail
    refine HM.out.mono ?_
    rintro E w1 ⟨rfl, rfl⟩
    go_wp2_with fail
    refine HO.out.mono ?_
    rintro E w1 ⟨rfl, rfl⟩
    go_wp2
    go_ret
    exact .inr ⟨rfl, rfl, rfl⟩
  · go_enter Try.func41, Try.ntmps41
    go_wp2_with fail
    refine HM.out.mono ?_
    rintro E w1 ⟨rfl, rfl⟩
    go_wp2
    go_ret
    exact .inl ⟨rfl, rfl, HF.out⟩
  · go_enter Try.func41, Try.ntmps41
    go_wp2_with fail
    refine HM.out.mono ?_
    rintro E w1 ⟨rfl, rfl⟩
    go_wp2
    go_ret
    exact .inl ⟨rfl, rfl, HF.out⟩

theorem wheed_any (p q : Nat) (F : Nat → Prop) (w : World) (s : Wl.Ws) (e : Int) (h : WW p q F w s) :
    Calls Try.prog 44 #[.pointer (some ⟨p, 0, none⟩), .int .i64 e] w fun E w' => E = .returned (.int .i64 e) ∧ WStep p q F w w' ⟨s.d, s.l, e == 6⟩ := by
  have HF := hide (h.flag (e == 6))
  obtain ⟨F1, G1, h1, h2, rfl⟩ := h
  obtain ⟨vc, ve, rs, hv, rfl⟩ := h2
  have c1 := blk_cell hv.blk 1 rfl
  have f1 := blk_froz hv.blk 1
  simp only [List.getElem_toArray, List.getElem_cons_zero, List.getElem_cons_succ] at c1
  clear hv h1
  go_enter Try.func44, Try.ntmps44
  go_wp2
  go_ret
  exact ⟨rfl, HF.out⟩

theorem wend_any (p q : Nat) (F : Nat → Prop) (w : World) (s : Wl.Ws) (h : WW p q F w s) :
    Calls Try.prog 22 #[.pointer (some ⟨p, 0, none⟩)] w fun E w' => E = .returned (.int .i64 s.l.length) ∧ w = w' := by
  obtain ⟨F1, G1, h1, h2, rfl⟩ := h
  obtain ⟨vc, ve, rs, hv, rfl⟩ := h2
  have HM := hide (made2_any p q w #[] _ _ _ hv.blk)
  have HE := hide (lend_any p 2 w vc rs (blk_cell hv.blk 2 rfl) hv.log.r.row.row)
  rw [hv.log.len] at HE
  clear hv h1
  go_enter Try.func22, Try.ntmps22
  go_wp2_with fail
  refine HM.out.mono ?_
  rintro E w1 ⟨rfl, rfl⟩
  go_wp2_with fail
  refine HE.out.mono ?_
  rintro E w1 ⟨rfl, rfl⟩
  go_wp2
  go_ret
  exact ⟨rfl, rfl⟩

theorem wepoch_any (p q : Nat) (F : Nat → Prop) (w : World) (s : Wl.Ws) (h : WW p q F w s) :
    Calls Try.prog 15 #[.pointer (some ⟨p, 0, none⟩)] w fun E w' => E = .returned (.int .i64 (Cm.lastE 0 s.l)) ∧ ∃ m, w' = w.drewN m := by
  obtain ⟨F1, G1, h1, h2, rfl⟩ := h
  obtain ⟨vc, ve, rs, hv, rfl⟩ := h2
  have HM := hide (made2_any p q w #[] _ _ _ hv.blk)
  have hgl := good_len hv.log.good
  have HE := hide (lepoch_any p 2 w vc rs (blk_cell hv.blk 2 rfl) hv.log.r.row.row (by rw [hv.log.len]; exact hgl))
  rw [hv.log.is] at HE
  clear hv h1
  go_enter Try.func15, Try.ntmps15
  go_wp2_with fail
  refine HM.out.mono ?_
  rintro E w1 ⟨rfl, rfl⟩
  go_wp2_with fail
  refine HE.out.mono ?_
  rintro E w1 ⟨rfl, m, rfl⟩
  go_wp2
  go_ret
  exact ⟨rfl, m, rfl⟩

set_option maxHeartbeats 1000000 in
theorem wlength_v (p q : Nat) (w : World) (l : List Cm.Cv) (bk : Bool) (vc ve : Value) (rs : List Cw) (hv : WkV p q w l bk vc ve rs) :
    Calls Try.prog 25 #[.pointer (some ⟨p, 0, none⟩)] w fun E w' => E = .returned (.int .i64 (Wl.lgb l).length) ∧ ∃ m, w' = w.drewN m := by
  have HM := hide (made2_any p q w #[] _ _ _ hv.blk)
  have hgl := good_len hv.log.good
  have HE : Hid (∀ n, Calls Try.prog 49 #[.pointer (some ⟨p, 2, none⟩)] (w.drewN n) fun E w' => E = .returned (.int .i64 l.length) ∧ ∃ m, w' = (w.drewN n).drewN m) := hide fun n => by
    have := lend_any p 2 (w.drewN n) vc rs (blk_cell hv.blk 2 rfl) (hv.log.r.row.row.below (below_drewN (Below.refl _ _) n))
    rw [hv.log.len] at this
    exact this.mono fun E w' h => ⟨h.1, 0, by rw [← h.2]; rfl⟩
  have HP : Hid (∀ n, Calls Try.prog 48 #[.pointer (some ⟨p, 2, none⟩), .int .i64 l.length] (w.drewN n) fun E w' => E = .returned (.int .i64 (Wl.lgb l).length) ∧ ∃ m, w' = (w.drewN n).drewN m) := hide fun n => by
    have := lplace_any p 2 (w.drewN n) ve l l.length (Nat.le_refl _) hgl (blk_cell hv.blk 3 rfl) (hv.log.r.en.is.drewN n)
    rw [List.take_length] at this
    exact this.mono fun E w' h => ⟨h.1, 0, by rw [← h.2]; rfl⟩
  clear hv
  go_enter Try.func25, Try.ntmps25
  go_wp2_with fail
  refine HM.out.mono ?_
  rintro E w1 ⟨rfl, rfl⟩
  go_wp2
  go_quiet (first | (go_at_call 49; refine Calls.quiet_of (HE.out _)) | (go_at_call 48; refine Calls.quiet_of (HP.out _)))
  go_wp2
  go_ret
  exact ⟨rfl, _, rfl⟩

theorem wlength_any (p q : Nat) (F : Nat → Prop) (w : World) (s : Wl.Ws) (h : WW p q F w s) :
    Calls Try.prog 25 #[.pointer (some ⟨p, 0, none⟩)] w fun E w' => E = .returned (.int .i64 (Wl.lgb s.l).length) ∧ ∃ m, w' = w.drewN m := by
  obtain ⟨F1, G1, h1, h2, rfl⟩ := h
  obtain ⟨vc, ve, rs, hv, rfl⟩ := h2
  exact wlength_v p q w s.l s.bk vc ve rs hv

end Go.Proofs.Ytimmohpnlieefaa
