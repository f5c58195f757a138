/- Texts of one layer, one behind the other. -/
import Derived.Test.YtajlhdmnincehaaGreatDoorH23
import Derived.Test.YtajlhdmnincehaaGreatDoorH2
import Derived.Test.YtajlhdmnincehaaGreatDoorH24
import Derived.Test.YtajlhdmnincehaaGreatDoorH10
import Derived.Test.YtajlhdmnincehaaGreatDoorH7
import Derived.Test.YtajlhdmnincehaaGreatDoorH6
import Derived.Test.YtajlhdmnincehaaGreatDoorH9
import Derived.Test.YtajlhdmnincehaaGreatDoorH3
import Derived.Test.YtajlhdmnincehaaGreatDoorH17
import Derived.Test.YtajlhdmnincehaaGreatDoorH8
import Derived.Test.YtajlhdmnincehaaGreatDoorH21
import Derived.Test.YtajlhdmnincehaaGreatDoorM3
/- A commit's frame; why a wal does nothing; what a disk answered; what a wal tells. -/
namespace Go.Proofs.YtajlhdmnincehaaGreatDoor
open Go.RowKit
set_option linter.unusedVariables false

/-- A commit's frame, none of one that may not be. -/
def frd (e n : Int) (l : List Bm.Ov) : List Int := if Cm.chk e n l = 0 then Wl.fr ⟨e, n, l⟩ else []

set_option maxRecDepth 20000 in
set_option maxHeartbeats 1000000 in
theorem framed_any (e n : Int) (v : Value) (l : List Bm.Ov) (w : World) (h : IsO w v l) (hf : FitO l) (hl : l.length ≤ 140737488355328) :
    Calls Tryz.prog 219 #[cmv e n v] w fun E w' => ∃ vb, E = .returned (.tuple #[vb, .int .i64 (Cm.chk e n l)]) ∧ Own .u8 5 w.heap.size w' vb (frd e n l) ∧ Below w.heap.size w w' := by
  obtain ⟨ao, cap, hv, _, _⟩ := h.shape
  obtain ⟨w1, hw1, sz1, bel1, hB⟩ := blk_step w #[.int .i64 e, .int .i64 n, v] 93
  have c0 : w1.cell? ⟨w.heap.size, 0, none⟩ = some (.int .i64 e) := blk_cell hB 0 rfl
  have c1 : w1.cell? ⟨w.heap.size, 1, none⟩ = some (.int .i64 n) := blk_cell hB 1 rfl
  have c2 : w1.cell? ⟨w.heap.size, 2, none⟩ = some v := blk_cell hB 2 rfl
  have HC := hide (cenc_any e n v l w1 (h.below bel1) hf hl)
  unfold cmv at HC ⊢
  rw [hv] at hw1 c2 HC ⊢
  obtain ⟨ch, hch⟩ : ∃ c, Cm.chk e n l = c := ⟨_, rfl⟩
  have KC := hide hch
  rw [hch] at HC ⊢
  clear h hf hl hB hv hch
  go_enter Tryz.func219, Tryz.ntmps219
  go_wp2_with fail
  refine HC.out.mono ?_
  rintro E w2 ⟨vb, rfl, own, bel2⟩
  have bel02 := bel1.trans (bel2.mono bel1.size)
  obtain ⟨ab, cb, hvb, _, _⟩ := own.is.shape
  by_cases hc0 : ch = 0
  · have hz : (Cm.out e n l).length ≤ 430 := Cm.out_small e n l
    have HF := hide (fapp_any (.slice none 0 0) vb [] (Cm.out e n l) w2 (Is.nil _ _) own.is (by simp) (by omega))
    have ea : ape (Cm.out e n l) = 0 := by unfold ape; rw [if_pos (by omega)]
    have ed : apd [] (Cm.out e n l) = frd e n l := by
      unfold apd frd
      rw [if_pos (by omega), if_pos (by rw [KC.out]; exact hc0), Cm.out_ok (by rw [KC.out]; exact hc0)]
      rfl
    rw [ea, ed] at HF
    subst hvb
    subst hc0
    clear own bel1 bel2 ea ed hz HC
    go_wp2_with fail
    refine HF.out.mono ?_
    rintro E w3 ⟨vf, rfl, own3, bel3⟩
    obtain ⟨af, cf, hvf, _, _⟩ := own3.is.shape
    have O3 := hide (own3.rebase (base' := w.heap.size) bel02.size)
    have B3 := hide (bel02.trans (bel3.mono bel02.size))
    subst hvf
    clear own3 bel3 bel02 HF
    go_wp2
    go_ret2
    exact ⟨_, rfl, O3.out, B3.out⟩
  · have ed : frd e n l = [] := by unfold frd; rw [if_neg (by rw [KC.out]; exact hc0)]
    have ED := hide ed
    have hne : (ch != 0) = true := by simp [hc0]
    subst hvb
    clear own bel1 bel2 ed HC
    go_wp2
    go_ret2
    exact ⟨_, rfl, by rw [ED.out]; exact Own.nil _ _ _ _, bel02⟩

/-- The flag is written. -/
theorem WkV.put {p q : Nat} {w : World} {l : List Cm.Cv} {bk : Bool} {vc ve : Value} {rs : List Cw} (h : WkV p q w l bk vc ve rs) (b : Bool) : WkV p q (w.setCell ⟨p, 1, none⟩ (.bool b)) l b vc ve rs ∧ Out (fun g => g = p) w (w.setCell ⟨p, 1, none⟩ (.bool b)) := by
  have ho : Out (fun g => g = p) w (w.setCell ⟨p, 1, none⟩ (.bool b)) := Out.of_grown (grown_setCell w ⟨p, 1, none⟩ (.bool b)) fun g hg => by simp at hg; exact hg.symm
  refine ⟨⟨by rw [set_cells h.blk]; rfl, h.log.agree fun g hg => ho.block g (h.log.lt g hg) fun e => ?_⟩, ho⟩
  exact h.log.r.ne h.blk (by decide) (by decide) (by decide) (e ▸ hg)

theorem WW.flag {p q : Nat} {F : Nat → Prop} {w : World} {s : Wl.Ws} (h : WW p q F w s) (b : Bool) : WStep p q F w (w.setCell ⟨p, 1, none⟩ (.bool b)) ⟨s.d, s.l, b⟩ := by
  obtain ⟨F1, G1, h1, h2, rfl⟩ := h
  obtain ⟨vc, ve, rs, hv, rfl⟩ := h2
  obtain ⟨k1, k2⟩ := hv.put b
  have h2 : Wk p q (fun g => g = p ∨ LB vc ve rs g) w s.l s.bk := ⟨vc, ve, rs, hv, rfl⟩
  refine ⟨_, ⟨F1, _, h1.out k2 fun g hg e => wk_pk h2 h1 g (.inl e) hg, ⟨vc, ve, rs, k1, rfl⟩, rfl⟩, k2.mono fun g hg => .inl (.inr (.inl hg)), fun g hg => .inl hg⟩

set_option maxHeartbeats 1000000 in
theorem wrefuses_any (p q : Nat) (F : Nat → Prop) (w : World) (s : Wl.Ws) (h : WW p q F w s) :
    Calls Tryz.prog 218 #[.pointer (some ⟨p, 0, none⟩)] w fun E w' => (Wl.ask s = true ∧ E = .returned (.int .i64 6) ∧ WStep p q F w w' (Wl.brk s)) ∨ (Wl.ask s = false ∧ E = .returned (.int .i64 0) ∧ w = w') := by
  have HF := hide (h.flag true)
  obtain ⟨F1, G1, h1, h2, rfl⟩ := h
  obtain ⟨vc, ve, rs, hv, rfl⟩ := h2
  have HM := hide (made2_any p q w #[] _ _ _ hv.blk)
  have HO := hide (on_any q F1 w s.d h1)
  have c0 := blk_cell hv.blk 0 rfl
  have c1 := blk_cell hv.blk 1 rfl
  have f1 := blk_froz hv.blk 1
  simp only [List.getElem_toArray, List.getElem_cons_zero, List.getElem_cons_succ] at c0 c1
  unfold Wl.ask
  generalize s.d.on = on at HO ⊢
  generalize s.bk = bk at c1 ⊢
  clear hv h1
  cases bk <;> cases on
  · go_enter Tryz.func218, Tryz.ntmps218
    go_wp2_with fail
    refine HM.out.mono ?_
    rintro E w1 ⟨rfl, rfl⟩
    go_wp2_with fail
    refine HO.out.mono ?_
    rintro E w1 ⟨rfl, rfl⟩
    go_wp2
    go_ret
    exact .inl ⟨rfl, rfl, HF.out⟩
  · go_enter Tryz.func218, Tryz.ntmps218
    go_wp2_with fail
    refine HM.out.mono ?_
    rintro E w1 ⟨rfl, rfl⟩
    go_wp2_with fail
    refine HO.out.mono ?_
    rintro E w1 ⟨rfl, rfl⟩
    go_wp2
    go_ret
    exact .inr ⟨rfl, rfl, rfl⟩
  · go_enter Tryz.func218, Tryz.ntmps218
    go_wp2_with fail
    refine HM.out.mono ?_
    rintro E w1 ⟨rfl, rfl⟩
    go_wp2
    go_ret
    exact .inl ⟨rfl, rfl, HF.out⟩
  · go_enter Tryz.func218, Tryz.ntmps218
    go_wp2_with fail
    refine HM.out.mono ?_
    rintro E w1 ⟨rfl, rfl⟩
    go_wp2
    go_ret
    exact .inl ⟨rfl, rfl, HF.out⟩

theorem wheed_any (p q : Nat) (F : Nat → Prop) (w : World) (s : Wl.Ws) (e : Int) (h : WW p q F w s) :
    Calls Tryz.prog 221 #[.pointer (some ⟨p, 0, none⟩), .int .i64 e] w fun E w' => E = .returned (.int .i64 e) ∧ WStep p q F w w' ⟨s.d, s.l, e == 6⟩ := by
  have HF := hide (h.flag (e == 6))
  obtain ⟨F1, G1, h1, h2, rfl⟩ := h
  obtain ⟨vc, ve, rs, hv, rfl⟩ := h2
  have c1 := blk_cell hv.blk 1 rfl
  have f1 := blk_froz hv.blk 1
  simp only [List.getElem_toArray, List.getElem_cons_zero, List.getElem_cons_succ] at c1
  clear hv h1
  go_enter Tryz.func221, Tryz.ntmps221
  go_wp2
  go_ret
  exact ⟨rfl, HF.out⟩

theorem wend_any (p q : Nat) (F : Nat → Prop) (w : World) (s : Wl.Ws) (h : WW p q F w s) :
    Calls Tryz.prog 131 #[.pointer (some ⟨p, 0, none⟩)] w fun E w' => E = .returned (.int .i64 s.l.length) ∧ w = w' := by
  obtain ⟨F1, G1, h1, h2, rfl⟩ := h
  obtain ⟨vc, ve, rs, hv, rfl⟩ := h2
  have HM := hide (made2_any p q w #[] _ _ _ hv.blk)
  have HE := hide (lend_any p 2 w vc rs (blk_cell hv.blk 2 rfl) hv.log.r.row.row)
  rw [hv.log.len] at HE
  clear hv h1
  go_enter Tryz.func131, Tryz.ntmps131
  go_wp2_with fail
  refine HM.out.mono ?_
  rintro E w1 ⟨rfl, rfl⟩
  go_wp2_with fail
  refine HE.out.mono ?_
  rintro E w1 ⟨rfl, rfl⟩
  go_wp2
  go_ret
  exact ⟨rfl, rfl⟩

theorem wepoch_any (p q : Nat) (F : Nat → Prop) (w : World) (s : Wl.Ws) (h : WW p q F w s) :
    Calls Tryz.prog 96 #[.pointer (some ⟨p, 0, none⟩)] w fun E w' => E = .returned (.int .i64 (Cm.lastE 0 s.l)) ∧ ∃ m, w' = w.drewN m := by
  obtain ⟨F1, G1, h1, h2, rfl⟩ := h
  obtain ⟨vc, ve, rs, hv, rfl⟩ := h2
  have HM := hide (made2_any p q w #[] _ _ _ hv.blk)
  have hgl := good_len hv.log.good
  have HE := hide (lepoch_any p 2 w vc rs (blk_cell hv.blk 2 rfl) hv.log.r.row.row (by rw [hv.log.len]; exact hgl))
  rw [hv.log.is] at HE
  clear hv h1
  go_enter Tryz.func96, Tryz.ntmps96
  go_wp2_with fail
  refine HM.out.mono ?_
  rintro E w1 ⟨rfl, rfl⟩
  go_wp2_with fail
  refine HE.out.mono ?_
  rintro E w1 ⟨rfl, m, rfl⟩
  go_wp2
  go_ret
  exact ⟨rfl, m, rfl⟩

set_option maxHeartbeats 1000000 in
theorem wlength_v (p q : Nat) (w : World) (l : List Cm.Cv) (bk : Bool) (vc ve : Value) (rs : List Cw) (hv : WkV p q w l bk vc ve rs) :
    Calls Tryz.prog 195 #[.pointer (some ⟨p, 0, none⟩)] w fun E w' => E = .returned (.int .i64 (Wl.lgb l).length) ∧ ∃ m, w' = w.drewN m := by
  have HM := hide (made2_any p q w #[] _ _ _ hv.blk)
  have hgl := good_len hv.log.good
  have HE : Hid (∀ n, Calls Tryz.prog 147 #[.pointer (some ⟨p, 2, none⟩)] (w.drewN n) fun E w' => E = .returned (.int .i64 l.length) ∧ ∃ m, w' = (w.drewN n).drewN m) := hide fun n => by
    have := lend_any p 2 (w.drewN n) vc rs (blk_cell hv.blk 2 rfl) (hv.log.r.row.row.below (below_drewN (Below.refl _ _) n))
    rw [hv.log.len] at this
    exact this.mono fun E w' h => ⟨h.1, 0, by rw [← h.2]; rfl⟩
  have HP : Hid (∀ n, Calls Tryz.prog 256 #[.pointer (some ⟨p, 2, none⟩), .int .i64 l.length] (w.drewN n) fun E w' => E = .returned (.int .i64 (Wl.lgb l).length) ∧ ∃ m, w' = (w.drewN n).drewN m) := hide fun n => by
    have := lplace_any p 2 (w.drewN n) ve l l.length (Nat.le_refl _) hgl (blk_cell hv.blk 3 rfl) (hv.log.r.en.is.drewN n)
    rw [List.take_length] at this
    exact this.mono fun E w' h => ⟨h.1, 0, by rw [← h.2]; rfl⟩
  clear hv
  go_enter Tryz.func195, Tryz.ntmps195
  go_wp2_with fail
  refine HM.out.mono ?_
  rintro E w1 ⟨rfl, rfl⟩
  go_wp2
  go_quiet (first | (go_at_call 147; refine Calls.quiet_of (HE.out _)) | (go_at_call 256; refine Calls.quiet_of (HP.out _)))
  go_wp2
  go_ret
  exact ⟨rfl, _, rfl⟩


end Go.Proofs.YtajlhdmnincehaaGreatDoor

/- The program's From. -/
namespace Go.Proofs.YtajlhdmnincehaaGreatDoor
open Go.RowKit
set_option linter.unusedVariables false

/-- What From answers. -/
def frl (l : List Cm.Cv) (n most : Int) : List Cm.Cv := if n < 1 ∨ (l.length : Int) < n ∨ most < 1 then [] else (l.drop (n.toNat - 1)).take most.toNat

set_option maxRecDepth 20000 in
set_option maxHeartbeats 2000000 in
theorem wfrom_any (p q : Nat) (F : Nat → Prop) (w : World) (s : Wl.Ws) (n most : Int) (h : WW p q F w s) :
    Calls Tryz.prog 82 #[.pointer (some ⟨p, 0, none⟩), .int .i64 n, .int .i64 most] w fun E w' => ∃ v rs, E = .returned v ∧ OwnR 93 w.heap.size w' v rs ∧ CopyR w.heap.size w' rs ∧ cvs rs = frl s.l n most ∧ ApC rs ∧ Below w.heap.size w w' := by
  obtain ⟨F1, G1, h1, ⟨vc, ve, rs, hv, rfl⟩, rfl⟩ := h
  have HM := hide (made2_any p q w #[] _ _ _ hv.blk)
  have c2 : w.cell? ⟨p, 2, none⟩ = some vc := blk_cell hv.blk 2 rfl
  have HE := hide (lend_any p 2 w vc rs c2 hv.log.r.row.row)
  have hlen := hv.log.len
  rw [hlen] at HE
  have hgl := good_len hv.log.good
  have HNO : Hid (∀ W m, W = w.drewN m → n < 1 ∨ (s.l.length : Int) < n ∨ most < 1 → OwnR 93 w.heap.size W (.slice none 0 0) [] ∧ CopyR w.heap.size W [] ∧ cvs [] = frl s.l n most ∧ ApC [] ∧ Below w.heap.size w W) := hide fun W m hW hc => by
    subst hW
    exact ⟨OwnR.nil _ _ _, fun c hc => by simp at hc, by unfold frl; rw [if_pos hc]; rfl, fun i j c d _ hc => by simp at hc, below_drewN (Below.refl _ _) m⟩
  by_cases a1 : n < 1
  · clear hv h1 HE
    have NO := hide (HNO.out w 0 rfl (.inl a1))
    clear HNO
    go_enter Tryz.func82, Tryz.ntmps82
    go_wp2_with fail
    refine HM.out.mono ?_
    rintro E w1 ⟨rfl, rfl⟩
    go_wp2
    go_ret
    exact ⟨_, [], rfl, NO.out⟩
  · by_cases a2 : (s.l.length : Int) < n
    · clear hv h1
      have NO := hide (HNO.out w 0 rfl (.inr (.inl a2)))
      clear HNO
      go_enter Tryz.func82, Tryz.ntmps82
      go_wp2_with fail
      refine HM.out.mono ?_
      rintro E w1 ⟨rfl, rfl⟩
      go_wp2_with fail
      refine HE.out.mono ?_
      rintro E w1 ⟨rfl, rfl⟩
      go_wp2
      go_ret
      exact ⟨_, [], rfl, NO.out⟩
    · by_cases a3 : most < 1
      · clear hv h1
        have NO := hide (HNO.out w 0 rfl (.inr (.inr a3)))
        clear HNO
        go_enter Tryz.func82, Tryz.ntmps82
        go_wp2_with fail
        refine HM.out.mono ?_
        rintro E w1 ⟨rfl, rfl⟩
        go_wp2_with fail
        refine HE.out.mono ?_
        rintro E w1 ⟨rfl, rfl⟩
        go_wp2
        go_ret
        exact ⟨_, [], rfl, NO.out⟩
      · obtain ⟨j, rfl⟩ : ∃ j : Nat, n = (j : Int) + 1 := ⟨(n - 1).toNat, by omega⟩
        obtain ⟨mm, rfl⟩ : ∃ mm : Nat, most = mm := ⟨most.toNat, by omega⟩
        have hj : j < rs.length := by omega
        have hfr : frl s.l ((j : Int) + 1) mm = (s.l.drop j).take mm := by
          unfold frl
          rw [if_neg (by omega)]
          congr 2
        obtain ⟨b0, off, cap0, hvc, hcap, hcm, _, _⟩ := hv.log.r.row.row.full (by omega)
        obtain ⟨v1, hs1, row1⟩ := hv.log.r.row.row.slice_l Tryz.elemC Tryz.sizeC j hj
        have hv1 : v1 = .slice (some ⟨b0, off + j * 3, none⟩) (rs.length - j) (cap0 - j) := by
          have := hs1 w
          rw [hvc, run_slice_l w 25 _ rs.length cap0 Tryz.elemC .i64 _ (by omega) (by omega), Tryz.sizeC] at this
          have hne : ¬ cap0 = j := by omega
          simp [Result.andThen, sliced, hne, add_at] at this
          exact this.symm
        obtain ⟨m, hm⟩ : ∃ m, m = min mm (rs.length - j) := ⟨_, rfl⟩
        have hm1 : 1 ≤ m := by omega
        have hmle : m ≤ (rs.drop j).length := by rw [List.length_drop]; omega
        obtain ⟨v2, hs2, row2⟩ := row1.slice_h Tryz.elemC Tryz.sizeC m hmle
        have hv2 : v2 = .slice (some ⟨b0, off + j * 3, none⟩) m (cap0 - j) := by
          have := hs2 w
          rw [hv1, run_slice_h w 25 _ (rs.length - j) (cap0 - j) Tryz.elemC .i64 _ (by omega) (by rw [List.length_drop] at hmle; omega), Tryz.sizeC] at this
          simp [Result.andThen, sliced, Addr.add] at this
          exact this.symm
        obtain ⟨rest, hrest⟩ : ∃ rest, rest = (rs.drop j).take m := ⟨_, rfl⟩
        have hrl : rest.length = m := by rw [hrest, List.length_take]; omega
        have hcv : cvs rest = (s.l.drop j).take mm := by
          rw [hrest, cvs, List.map_take, List.map_drop, ← cvs, hv.log.is, hm]
          rw [hlen]
          apply List.ext_getElem?
          intro i
          rw [List.getElem?_take, List.getElem?_take]
          by_cases hi : i < min mm (s.l.length - j)
          · rw [if_pos hi, if_pos (by omega)]
          · rw [if_neg hi]
            by_cases hi2 : i < mm
            · rw [if_pos hi2, List.getElem?_drop, List.getElem?_eq_none (by omega)]
            · rw [if_neg hi2]
        have hin : ∀ c ∈ rest, c ∈ rs := fun c hc => List.mem_of_mem_drop (List.mem_of_mem_take (hrest ▸ hc))
        have HOPS : Hid (∀ W, Below w.heap.size w W → ∀ c ∈ rest, IsO W c.v c.l ∧ c.l.length * 40 ≤ 140737488351232) := hide fun W hb c hc => ⟨((hv.log.r.cop c (hin c hc)).is).below hb, by have := ((fit_good hv.log.good hv.log.is).2 c (hin c hc)).2.2; omega⟩
        have HCL : Hid (Calls Tryz.prog 148 #[v2] w fun e w' => ∃ g cap, e = .returned (.slice (some ⟨g, 0, none⟩) m cap) ∧ m ≤ cap ∧ Fst w w' g m cap rest 0 rest) := hide (by
          refine (cloneC_any v2 rest w (by rw [hrest]; exact row2) (fun c hc => (hv.log.r.cop c (hin c hc)).is.one) (by rw [hrl]; omega)).mono ?_
          rintro E w' ⟨v, rfl, own, bel⟩
          rcases own.2 with ⟨_, h0⟩ | ⟨g, cap, cur, hvv, _, _, hc, _⟩
          · omega
          · refine ⟨g, cap, by rw [hvv, hrl], by omega, by rw [← hrl, ← hvv]; exact own, hrl, rfl, fun c hc => by simp at hc, rfl, fun i j c d _ hc => by simp at hc, bel⟩)
        have hwr : IntKind.i64.wrap (((j : Int) + 1) - 1) = (j : Int) := by rw [wrap_i64_small _ (by omega) (by omega)]; omega
        have hne0 : ¬ cap0 = j := by omega
        rw [hv2] at HCL
        rw [hvc] at c2
        rw [hlen] at c2 hm hcap
        have FIN : Hid (∀ W g cap rk, Fst w W g m cap rest m rk → OwnR 93 w.heap.size W (.slice (some ⟨g, 0, none⟩) m cap) rk ∧ CopyR w.heap.size W rk ∧ cvs rk = frl s.l ((j : Int) + 1) mm ∧ ApC rk ∧ Below w.heap.size w W) := hide fun W g cap rk hF => by
          have ht : rk.take m = rk := List.take_of_length_le (by rw [hF.len]; omega)
          have h1 := hF.cop
          have h2 := hF.ap
          rw [ht] at h1 h2
          exact ⟨hF.row, h1, by rw [hF.is, hcv, hfr], h2, hF.bel⟩
        have HRL := hide hrl
        have hj' : j < s.l.length := by omega
        have hm3 : m ≤ 1048576 := by omega
        clear hv h1 HNO row1 row2 hv1 hv2 hs1 hs2 hrest hcv hfr hrl hin hmle hvc hj hcm
        clear hlen
        have HCL2 : Hid (∀ z : Nat, z = m → Calls Tryz.prog 148 #[.slice (some ⟨b0, off + j * 3, none⟩) z (cap0 - j)] w fun e w' => ∃ g cap, e = .returned (.slice (some ⟨g, 0, none⟩) m cap) ∧ m ≤ cap ∧ Fst w w' g m cap rest 0 rest) := hide fun z hz => by rw [hz]; exact HCL.out
        have HMM := hide hm
        clear HCL hm
        go_enter Tryz.func82, Tryz.ntmps82
        go_wp2_with fail
        refine HM.out.mono ?_
        rintro E w1 ⟨rfl, rfl⟩
        go_wp2_with fail
        refine HE.out.mono ?_
        rintro E w1 ⟨rfl, rfl⟩
        go_wp2_with fail
        all_goals
          refine (HCL2.out _ (by rw [HMM.out]; omega)).mono ?_
          rintro E w1 ⟨g, cap, rfl, hcp, F0⟩
          have F0 := hide F0
          clear HCL2 HM HE
          go_wp2
          go_loopw [47] (fun iv wr => ∃ (k : Nat) (rk : List Cw), k ≤ m ∧ iv = .int .i64 k ∧ Hid (Fst w wr g m cap rest k rk)) (fun iv _ => m - (intOf iv).toNat)
          case atStart => exact ⟨0, rest, by omega, rfl, F0⟩
          case round =>
            obtain ⟨k, rk, hk, rfl, FSX⟩ := hrel
            by_cases hlt : k < m
            · obtain ⟨c, hc⟩ : ∃ c, rest[k]? = some c := ⟨rest[k]'(by rw [HRL.out]; omega), by rw [List.getElem?_eq_getElem]⟩
              have hcm := List.mem_of_getElem? hc
              have hrk : rk[k]? = some c := by
                have e1 : (rk.drop k)[0]? = (rest.drop k)[0]? := by rw [FSX.out.left]
                rw [List.getElem?_drop, List.getElem?_drop] at e1
                simpa using e1.trans (by simpa using hc)
              obtain ⟨⟨d0, d1, d2⟩, _⟩ := own_atC FSX.out.row FSX.out.len k c hrk
              obtain ⟨wa, hwa, hwa2, sza, bela, bA, x0, x1, x2⟩ := new_step wr 93 (.int .i64 0) (.int .i64 0) (.slice none 0 0) (.int .i64 c.e) (.int .i64 c.n) c.v
              obtain ⟨hio, hlo⟩ := HOPS.out wr FSX.out.bel c hcm
              have CP : Hid (Calls Tryz.prog 83 #[.agg #[.int .i64 c.e, .int .i64 c.n, c.v]] wa fun E w2 => ∃ v2, E = .returned (.agg #[.int .i64 c.e, .int .i64 c.n, v2]) ∧ (∃ a n z, v2 = .slice a n z) ∧ (∃ W, ((w2.setCell ⟨g, k * 3, none⟩ (.int .i64 c.e)).setCell ⟨g, k * 3 + 1, none⟩ (.int .i64 c.n)).setCell ⟨g, k * 3 + 2, none⟩ v2 = W ∧ ∃ rk', Fst w W g m cap rest (k + 1) rk') ∧ (w2.cell? ⟨g, k * 3, none⟩ = some (.int .i64 c.e) ∧ w2.cell? ⟨g, k * 3 + 1, none⟩ = some (.int .i64 c.n) ∧ w2.cell? ⟨g, k * 3 + 2, none⟩ = some c.v) ∧ (w2.frozen? ⟨g, k * 3, none⟩ = false ∧ w2.frozen? ⟨g, k * 3 + 1, none⟩ = false ∧ w2.frozen? ⟨g, k * 3 + 2, none⟩ = false)) := hide (by
                refine (ccopy_any c.e c.n c.v c.l wa (hio.below bela) hlo).mono ?_
                rintro E w2 ⟨v2, rfl, own2, bel2⟩
                have b2 : Below wr.heap.size wr w2 := bela.trans (bel2.mono bela.size)
                have hrow2 : OwnR 93 w.heap.size w2 (.slice (some ⟨g, 0, none⟩) m cap) rk := FSX.out.row.below b2
                obtain ⟨W, hW, oW, gW⟩ := own_putC hrow2 FSX.out.len k hlt ⟨c.e, c.n, v2, c.l⟩
                obtain ⟨y, z⟩ := own_atC hrow2 FSX.out.len k c hrk
                exact ⟨v2, rfl, (by obtain ⟨xa, xc, hx, _⟩ := own2.is.shape; exact ⟨_, _, _, hx⟩), ⟨W, hW, _, FSX.out.next hc hlt (own2.rebase bela.size) b2 oW gW⟩, y, z⟩)
              obtain ⟨ca, cc, hcv, _, _⟩ := hio.shape
              rw [hcv] at d2 hwa hwa2 x2 CP
              have hlt' : (k : Int) < m := by omega
              clear FSX hio hlo hrk bela bA hc hcm
              go_wp2_with fail
              refine CP.out.mono ?_
              rintro E w2 ⟨v2, rfl, ⟨a2, n2, z2, rfl⟩, ⟨W, hW, rk2, F2⟩, ⟨y0, y1, y2⟩, ⟨f0, f1, f2⟩⟩
              have F2 := hide F2
              clear CP
              go_wp2
              go_roundw
              case rel => exact ⟨k + 1, rk2, by omega, by go_num, F2⟩
              case measure => simp [intOf]; omega
            · obtain rfl : k = m := by omega
              have hlt' : ¬ (k : Int) < k := by omega
              have G := hide (FIN.out _ g cap rk FSX.out)
              clear FSX
              go_wp2
              go_ret
              first
              | exact ⟨_, rk, rfl, G.out⟩
              | exact ⟨_, rfl, rk, G.out⟩

end Go.Proofs.YtajlhdmnincehaaGreatDoor

/- The program's Open, Append, Sync and Cut. -/
namespace Go.Proofs.YtajlhdmnincehaaGreatDoor
open Go.RowKit
set_option linter.unusedVariables false




theorem sync_e (st : Dm.Ds) : (Dm.sync st).1 = 0 ∨ (Dm.sync st).1 = 6 := by
  unfold Dm.sync
  split
  · exact .inr rfl
  split
  · exact .inr rfl
  · exact .inl rfl

theorem wrt_e : ∀ (n : Nat) (st : Dm.Ds) (bs : List Int), (Dm.wrt 0 n st bs).1 = 0 ∨ (Dm.wrt 0 n st bs).1 = 6
  | 0, _, _ => .inl rfl
  | n + 1, st, bs => by
    unfold Dm.wrt
    split
    · exact .inl rfl
    split
    · exact .inr rfl
    · exact wrt_e n _ _

theorem write_e {st : Dm.Ds} (bs : List Int) : (Dm.write st 0 bs).1 = 0 ∨ (Dm.write st 0 bs).1 = 6 := by
  unfold Dm.write
  split
  · exact .inr rfl
  rw [if_neg (by decide)]
  exact wrt_e _ _ _





/-- A wal's sizes. -/
def WBig (s : Wl.Ws) : Prop := Big 90000000 700000 s.d

theorem WBig.big {s : Wl.Ws} (h : WBig s) : Big 100000000 800000 s.d := Big.mono h (by decide) (by decide)

set_option maxHeartbeats 1000000 in
theorem wsync_any (p q : Nat) (F : Nat → Prop) (w : World) (s : Wl.Ws) (h : WW p q F w s) (hs : WBig s) :
    Calls Tryz.prog 158 #[.pointer (some ⟨p, 0, none⟩)] w fun E w' => E = .returned (.int .i64 (Wl.wsyn s).1) ∧ WStep p q F w w' (Wl.wsyn s).2 := by
  have HR := hide (wrefuses_any p q F w s h)
  have HH := hide h
  have hb := hs.big
  unfold Wl.wsyn
  cases ha : Wl.ask s with
  | true =>
    simp only [if_true]
    clear h hs
    go_enter Tryz.func158, Tryz.ntmps158
    go_wp2_with fail
    refine HR.out.mono ?_
    rintro E w1 (⟨_, rfl, J⟩ | ⟨h0, _⟩)
    · have J := hide J
      go_wp2
      go_ret
      exact ⟨rfl, J.out⟩
    · rw [ha] at h0
      cases h0
  | false =>
    simp only [Bool.false_eq_true, if_false]
    obtain ⟨F1, G1, h1, h2, rfl⟩ := h
    have HS := hide (sync_any q F1 w s.d h1 (fun f => Nat.le_trans (hb.1.1 f) (by decide)) (Nat.le_trans hb.1.2.1 (by decide)) hb.2 (Nat.lt_of_le_of_lt hb.1.2.2 (by decide)))
    obtain ⟨vc, ve, rs, hv, rfl⟩ := h2
    have c0 : w.cell? ⟨p, 0, none⟩ = some (.pointer (some ⟨q, 0, none⟩)) := blk_cell hv.blk 0 rfl
    have h2 : Hid (Wk p q (fun g => g = p ∨ LB vc ve rs g) w s.l s.bk) := hide ⟨vc, ve, rs, hv, rfl⟩
    have H1 := hide h1
    have e01 := sync_e s.d
    have HD : Hid (∀ x : Int, (x = 0 ∨ x = 6) → (x == 6) = decide (x ≠ 0)) := hide (fun x hx => by rcases hx with rfl | rfl <;> rfl)
    clear h1 hs hb hv
    go_enter Tryz.func158, Tryz.ntmps158
    go_wp2_with fail
    refine HR.out.mono ?_
    rintro E w1 (⟨h0, _⟩ | ⟨_, rfl, rfl⟩)
    · rw [ha] at h0
      cases h0
    clear HR
    go_wp2_with fail
    refine HS.out.mono ?_
    rintro E w2 ⟨rfl, PS⟩
    obtain ⟨F2, k1, k2, k3, k4⟩ := WW.disk H1.out h2.out PS
    have HE := hide (wheed_any p q _ w2 ⟨(Dm.sync s.d).2, s.l, s.bk⟩ (Dm.sync s.d).1 ⟨F2, _, k1, k2, rfl⟩)
    simp only at HE
    rw [HD.out _ e01] at HE
    have K3 := hide k3
    have K4 := hide k4
    clear PS k1 k2 k3 k4 HS h2 H1 HD
    go_wp2_with fail
    refine HE.out.mono ?_
    rintro E w3 ⟨rfl, J⟩
    have J := hide (WStep.trans (K3.out.mono fun g hg => .inl (Or.inl hg)) (fun g hg => by
      rcases hg with hg | hg
      · rcases K4.out g hg with e | e
        · exact .inl (.inl e)
        · exact .inr e
      · exact .inl (.inr hg)) J)
    go_wp2
    go_ret
    exact ⟨rfl, J.out⟩

end Go.Proofs.YtajlhdmnincehaaGreatDoor

/- The program's restart (layer 21): a torn end is cut off; how far file 3's sections go. -/
namespace Go.Proofs.YtajlhdmnincehaaGreatDoor
open Go.RowKit
set_option linter.unusedVariables false




theorem rd_none {r : List Int} {n : Nat} {e : Int} (h : Fm.Rd [] r n e) : e = 5 ∧ r = [] ∧ n = 0 := by
  rcases h with ⟨_, _, _, h⟩ | ⟨h1, h2, h3, _⟩
  · have h1 := (Fm.frm_pre h).2.2
    have h2 := Vm.sz_pos r.length
    simp at h1
    omega
  · exact ⟨h1, h2, h3⟩

set_option maxHeartbeats 1000000 in
theorem oread0_any (vb : Value) (w : World) (hb : Is .u8 w vb []) :
    Calls Tryz.prog 203 #[vb] w fun E w' => E = .returned (.tuple #[.agg #[.int .i64 0, .int .i64 0, .slice none 0 0], .int .i64 0, .bool false]) ∧ Below w.heap.size w w' := by
  obtain ⟨w1, hw1, s1, b1, P1⟩ := blk_step w #[.int .i64 0, .int .i64 0, .slice none 0 0] 241
  have HB := hide P1
  have HF := hide (fread_any vb [] w1 (hb.below b1) (by simp))
  have B1 := hide b1
  obtain ⟨ao, cap, hvb, _, _⟩ := hb.shape
  subst hvb
  clear hb P1 b1
  go_enter Tryz.func203, Tryz.ntmps203
  go_wp2_with fail
  refine HF.out.mono ?_
  rintro E w2 ⟨v2, r, n, e, rfl, own2, bel2, R2⟩
  have B2 := (bel2.block _ (blk_lt HB.out)).trans HB.out
  have RR := hide (B1.out.trans (bel2.mono (by omega)))
  obtain ⟨rfl, rfl, rfl⟩ := rd_none R2.out
  obtain ⟨o1, k1, hv1, _, _⟩ := own2.is.shape
  subst hv1
  have z0 : w2.cell? ⟨w.heap.size, 0, none⟩ = some (.int .i64 0) := blk_cell B2 0 rfl
  have z1 : w2.cell? ⟨w.heap.size, 1, none⟩ = some (.int .i64 0) := blk_cell B2 1 rfl
  have z2 : w2.cell? ⟨w.heap.size, 2, none⟩ = some (.slice none 0 0) := blk_cell B2 2 rfl
  have u0 : w2.setCell ⟨w.heap.size, 0, none⟩ (.int .i64 0) = w2 := set_same B2 (j := 0) rfl
  have u1 : w2.setCell ⟨w.heap.size, 1, none⟩ (.int .i64 0) = w2 := set_same B2 (j := 1) rfl
  have u2 : w2.setCell ⟨w.heap.size, 2, none⟩ (.slice none 0 0) = w2 := set_same B2 (j := 2) rfl
  have f0 := blk_froz B2 0; have f1 := blk_froz B2 1; have f2 := blk_froz B2 2
  clear B2 R2 HB HF B1 bel2 own2
  go_wp2
  refine bodyPost_ret (v := .tuple #[.agg #[.int .i64 0, .int .i64 0, .slice none 0 0], .int .i64 0, .bool false]) (by simp [results, Tryz.results203, go_sem, z0, z1, z2]) rfl ?_
  exact ⟨rfl, RR.out⟩

set_option maxHeartbeats 1000000 in
theorem oscan0_any (vb : Value) (bs : List Int) (w : World) (hb : Is .u8 w vb bs) (h0 : bs = []) :
    Calls Tryz.prog 136 #[vb] w fun E w' => E = .returned (.tuple #[.slice none 0 0, .int .i64 0]) ∧ Below w.heap.size w w' := by
  obtain ⟨n, hn⟩ : ∃ n : Nat, n = 0 := ⟨0, rfl⟩
  have hl : bs.length ≤ 1000 := by simp [h0]
  have hle : n ≤ bs.length := by omega
  have HN := hide hn
  obtain ⟨vs, hsl, isl⟩ := hb.slice_l Tryz.elemB3 Tryz.sizeB3 n hle
  have HF := hide (oread0_any vs w (by rw [h0, List.drop_nil] at isl; exact isl))
  obtain ⟨ba, bc, hvb, _, _⟩ := hb.shape
  clear hb isl hn h0
  subst hvb
  go_enter Tryz.func136, Tryz.ntmps136
  go_wp2
  go_loopw [4, 5, 6] (fun lv ev gv wr => lv = .slice none 0 0 ∧ ev = .int .i64 0 ∧ gv = .int .i64 n ∧ wr = w) (fun _ _ _ _ => 0)
  case atStart => exact ⟨rfl, rfl, by rw [HN.out]; rfl, rfl⟩
  case round =>
    obtain ⟨rfl, rfl, rfl, hwr⟩ := hrel
    subst hwr
    go_wp2_with fail
    refine HF.out.mono ?_
    rintro E wa ⟨rfl, ba'⟩
    obtain ⟨V, hV, sV, bV, PV⟩ := blk_step wa #[.int .i64 0, .int .i64 0, .slice none 0 0] 241
    have BA := hide (ba'.trans (bV.mono ba'.size))
    have c0 : V.cell? ⟨wa.heap.size, 0, none⟩ = some (.int .i64 0) := blk_cell PV 0 rfl
    have c1 : V.cell? ⟨wa.heap.size, 1, none⟩ = some (.int .i64 0) := blk_cell PV 1 rfl
    have c2 : V.cell? ⟨wa.heap.size, 2, none⟩ = some (.slice none 0 0) := blk_cell PV 2 rfl
    have u0 : V.setCell ⟨wa.heap.size, 0, none⟩ (.int .i64 0) = V := set_same PV (j := 0) rfl
    have u1 : V.setCell ⟨wa.heap.size, 1, none⟩ (.int .i64 0) = V := set_same PV (j := 1) rfl
    have u2 : V.setCell ⟨wa.heap.size, 2, none⟩ (.slice none 0 0) = V := set_same PV (j := 2) rfl
    have f0 := blk_froz PV 0; have f1 := blk_froz PV 1; have f2 := blk_froz PV 2
    clear HF hsl ba' bV PV sV
    go_wp2
    go_ret2
    exact ⟨by rw [HN.out]; rfl, BA.out⟩

theorem psec_any (p q : Nat) (F : Nat → Prop) (w : World) (st : Dm.Ds) (h : Pk q F w st) (hs : Big 90000000 700000 st) (hp : w.cell? ⟨p, 0, none⟩ = some (.pointer (some ⟨q, 0, none⟩))) (ho : st.on = true) (he : Rst.hf 3 st = []) :
    Calls Tryz.prog 138 #[.pointer (some ⟨p, 0, none⟩)] w fun E w' => E = .returned (.int .i64 0) ∧ Below w.heap.size w w' := by
  have hr : rdB st 3 = Rst.hf 3 st := by unfold rdB; rw [if_neg (by simp [ho]), if_neg (by decide)]; rfl
  have R1 := hide (dread_any q F w st 3 h (fun f => Nat.le_trans (hs.1.1 f) (by decide)) (Nat.le_trans hs.1.2.1 (by decide)))
  rw [hr] at R1
  have HE := hide he
  clear h hs hr he
  go_enter Tryz.func138, Tryz.ntmps138
  go_wp2_with fail
  refine R1.out.mono ?_
  rintro E w1 ⟨v, rfl, O1, B1⟩
  have S1 := hide (oscan0_any v _ w1 O1.is HE.out)
  have B1 := hide B1
  clear R1 O1
  go_wp2_with fail
  refine S1.out.mono ?_
  rintro E w2 ⟨rfl, b2⟩
  have X := hide (B1.out.trans (b2.mono B1.out.size))
  clear S1 b2
  go_wp2
  go_ret
  exact ⟨rfl, X.out⟩

end Go.Proofs.YtajlhdmnincehaaGreatDoor
