/- Texts of one layer, one behind the other. -/
import Derived.Test.YtmkpaedemjiboaaGreatB3
import Derived.Test.YtmkpaedemjiboaaGreatB4
import Derived.Test.YtmkpaedemjiboaaGreatB5
import Derived.Test.YtmkpaedemjiboaaGreatA4
import Derived.Test.YtmkpaedemjiboaaGreatB6
/- The document's wal in memory, and its small calls. -/
namespace Go.Proofs.YtmkpaedemjiboaaGreat
open Go.RowKit
set_option linter.unusedVariables false

/-- The document's wal: its block p, its disk's block q, its row of commits. -/
structure XkV (p q : Nat) (w : World) (l : List Cm.Cv) (bk : Bool) (v : Value) (rs : List Cw) : Prop where
  blk : w.heap[p]? = some (.cells #[.bool true, .pointer (some ⟨q, 0, none⟩), v, .bool bk] 109 (0, 0))
  row : OwnR 37 0 w v rs
  cop : CopyR 0 w rs
  is : cvs rs = l
  good : Cm.Good 0 0 l

/-- Its own blocks. -/
def XB (p : Nat) (v : Value) (rs : List Cw) (g : Nat) : Prop := g = p ∨ v.ownBlock = some g ∨ ∃ c ∈ rs, c.v.ownBlock = some g

section
variable {p q : Nat} {F G : Nat → Prop} {w w' w1 w2 : World} {s s' : Wl.Ws} {l : List Cm.Cv} {bk : Bool} {v : Value} {rs : List Cw}

theorem XkV.ty (h : XkV p q w l bk v rs) : ∀ g, XB p v rs g → ∃ cs t, w.heap[g]? = some (.cells cs t (0, 0)) ∧ (t = 109 ∨ t = 37 ∨ t = 71) := by
  rintro g (rfl | hb | ⟨c, hc, hb⟩)
  · exact ⟨_, _, h.blk, .inl rfl⟩
  · obtain ⟨cs, e⟩ := h.row.type hb
    exact ⟨_, _, e, .inr (.inl rfl)⟩
  · obtain ⟨cs, e⟩ := (h.cop c hc).type hb
    exact ⟨_, _, e, .inr (.inr rfl)⟩

theorem XkV.lt (h : XkV p q w l bk v rs) : ∀ g, XB p v rs g → g < w.heap.size := fun g hg => by
  obtain ⟨cs, t, e, _⟩ := h.ty g hg
  exact blk_lt e

theorem XkV.agree (h : XkV p q w l bk v rs) (ha : ∀ g, XB p v rs g → w'.heap[g]? = w.heap[g]?) : XkV p q w' l bk v rs :=
  ⟨(ha p (.inl rfl)).trans h.blk, row_agree h.row fun b hb => ha b (.inr (.inl hb)), fun c hc => row_agree (h.cop c hc) fun b hb => ha b (.inr (.inr ⟨c, hc, hb⟩)), h.is, h.good⟩

theorem XkV.len (h : XkV p q w l bk v rs) : rs.length = l.length := by rw [← h.is, cvs, List.length_map]

theorem XkV.isc (h : XkV p q w l bk v rs) : IsC w v rs ∧ FitC rs := by
  obtain ⟨f, g⟩ := fit_good h.good h.is
  exact ⟨⟨h.row.row, fun c hc => ⟨(h.cop c hc).is, (g c hc).1, (g c hc).2.1⟩⟩, f⟩

/-- The document's wal and its disk. -/
def XX (p q : Nat) (F : Nat → Prop) (w : World) (s : Wl.Ws) : Prop := ∃ F1 v rs, Dk q F1 w s.d ∧ XkV p q w s.l s.bk v rs ∧ (∀ g, XB p v rs g → ¬ F1 g) ∧ F = fun g => F1 g ∨ XB p v rs g

def XStep (p q : Nat) (F : Nat → Prop) (w w' : World) (s' : Wl.Ws) : Prop := ∃ F', XX p q F' w' s' ∧ Out F w w' ∧ ∀ g, F' g → F g ∨ w.heap.size ≤ g

theorem XX.lt (h : XX p q F w s) : ∀ g, F g → g < w.heap.size := by
  obtain ⟨F1, v, rs, h1, h2, _, rfl⟩ := h
  rintro g (hg | hg)
  · exact h1.lt g hg
  · exact h2.lt g hg

theorem XX.agree (h : XX p q F w s) (ha : ∀ g, F g → w'.heap[g]? = w.heap[g]?) (hs : w.heap.size ≤ w'.heap.size) : XX p q F w' s := by
  obtain ⟨F1, v, rs, h1, h2, h3, rfl⟩ := h
  exact ⟨F1, v, rs, h1.agree (fun g hg => ha g (.inl hg)) hs, h2.agree fun g hg => ha g (.inr hg), h3, rfl⟩
theorem XX.below (h : XX p q F w s) (hb : Below w.heap.size w w') : XX p q F w' s := h.agree (fun g hg => hb.block g (h.lt g hg)) hb.size
theorem XX.out (h : XX p q F w s) (ho : Out G w w') (hd : ∀ g, F g → ¬ G g) : XX p q F w' s := h.agree (fun g hg => ho.block g (h.lt g hg) (hd g hg)) ho.size
theorem XX.good (h : XX p q F w s) : Cm.Good 0 0 s.l := by
  obtain ⟨F1, v, rs, h1, h2, _, rfl⟩ := h
  exact h2.good

theorem XStep.trans {F1 : Nat → Prop} (ho : Out F w w1) (hs : ∀ g, F1 g → F g ∨ w.heap.size ≤ g) (k : XStep p q F1 w1 w2 s') : XStep p q F w w2 s' := by
  obtain ⟨F2, h1, h2, h3⟩ := k
  refine ⟨F2, h1, ho.trans h2 hs, fun g hg => ?_⟩
  rcases h3 g hg with h | h
  · exact hs g h
  · exact .inr (Nat.le_trans ho.size h)
theorem XStep.same (h : XX p q F w s) (hb : Below w.heap.size w w') : XStep p q F w w' s := ⟨F, h.below hb, Out.of_below hb, fun g hg => .inl hg⟩
theorem XStep.pre (hb : Below w.heap.size w w1) (h : XStep p q F w1 w2 s') : XStep p q F w w2 s' := h.trans (Out.of_below hb) fun g hg => .inl hg
theorem XStep.next (h : XStep p q F w w1 s) (k : ∀ F1, XX p q F1 w1 s → XStep p q F1 w1 w2 s') : XStep p q F w w2 s' := by
  obtain ⟨F1, h1, h2, h3⟩ := h
  exact XStep.trans h2 h3 (k F1 h1)

/-- The disk alone. -/
theorem XX.disk {F1 : Nat → Prop} {st st' : Dm.Ds} (h1 : Dk q F1 w st) (h2 : XkV p q w l bk v rs) (h3 : ∀ g, XB p v rs g → ¬ F1 g) (k : DStep q F1 w w' st') : XStep p q (fun g => F1 g ∨ XB p v rs g) w w' ⟨st', l, bk⟩ := by
  obtain ⟨F2, k1, k2, k3⟩ := k
  refine ⟨_, ⟨F2, v, rs, k1, h2.agree fun g hg => k2.block g (h2.lt g hg) (h3 g hg), fun g hg hf => ?_, rfl⟩, k2.mono fun g hg => .inl (.inl hg), ?_⟩
  · rcases k3 g hf with e | e
    · exact h3 g hg e
    · have := h2.lt g hg
      omega
  · rintro g (e | e)
    · rcases k3 g e with e | e
      · exact .inl (.inl e)
      · exact .inr e
    · exact .inl (.inr e)

/-- The flag is written. -/
theorem XX.flag (h : XX p q F w s) (b : Bool) : XStep p q F w (w.setCell ⟨p, 3, none⟩ (.bool b)) ⟨s.d, s.l, b⟩ := by
  obtain ⟨F1, v, rs, h1, h2, h3, rfl⟩ := h
  have ho : Out (fun g => g = p) w (w.setCell ⟨p, 3, none⟩ (.bool b)) := Out.of_grown (grown_setCell w ⟨p, 3, none⟩ (.bool b)) fun g hg => by simp at hg; exact hg.symm
  have hne : ∀ g, (v.ownBlock = some g ∨ ∃ c ∈ rs, c.v.ownBlock = some g) → g ≠ p := by
    rintro g hg rfl
    rcases hg with hb | ⟨c, hc, hb⟩
    · obtain ⟨cs, e⟩ := h2.row.type hb
      rw [h2.blk] at e
      simp only [Option.some.injEq, Obj.cells.injEq] at e
      exact absurd e.2.1 (by decide)
    · obtain ⟨cs, e⟩ := (h2.cop c hc).type hb
      rw [h2.blk] at e
      simp only [Option.some.injEq, Obj.cells.injEq] at e
      exact absurd e.2.1 (by decide)
  have h2' : XkV p q (w.setCell ⟨p, 3, none⟩ (.bool b)) s.l b v rs := ⟨by rw [set_cells h2.blk]; rfl, row_agree h2.row fun g hg => ho.block g (World.ownsRow.lt h2.row g hg).2 (hne g (.inl hg)), fun c hc => row_agree (h2.cop c hc) fun g hg => ho.block g (World.ownsRow.lt (h2.cop c hc) g hg).2 (hne g (.inr ⟨c, hc, hg⟩)), h2.is, h2.good⟩
  exact ⟨_, ⟨F1, v, rs, h1.out ho fun g hg e => h3 g (.inl e) hg, h2', h3, rfl⟩, ho.mono fun g hg => .inl (.inr (.inl hg)), fun g hg => .inl hg⟩

end

theorem noneX_any (p q : Nat) (w : World) (u1 u2 u3 : Value) (hB : w.heap[p]? = some (.cells #[.bool true, u1, u2, u3] 109 (0, 0))) :
    Calls Tryz.prog 91 #[.pointer (some ⟨p, 0, none⟩)] w fun E w' => E = .returned (.bool false) ∧ w = w' := by
  have c0 : w.cell? ⟨p, 0, none⟩ = some (.bool true) := blk_cell hB 0 rfl
  clear hB
  go_enter Tryz.func91, Tryz.ntmps91
  go_wp2
  go_ret
  exact ⟨rfl, rfl⟩

set_option maxHeartbeats 1000000 in
theorem askedX_any (p q : Nat) (F : Nat → Prop) (w : World) (s : Wl.Ws) (h : XX p q F w s) :
    Calls Tryz.prog 83 #[.pointer (some ⟨p, 0, none⟩)] w fun E w' => (Wl.ask s = true ∧ E = .returned (.int .i64 6) ∧ XStep p q F w w' (Wl.brk s)) ∨ (Wl.ask s = false ∧ E = .returned (.int .i64 0) ∧ w = w') := by
  have HF := hide (h.flag true)
  obtain ⟨F1, v, rs, h1, h2, h3, rfl⟩ := h
  have HM := hide (noneX_any p q w _ _ _ h2.blk)
  have c1 : w.cell? ⟨p, 1, none⟩ = some (.pointer (some ⟨q, 0, none⟩)) := blk_cell h2.blk 1 rfl
  have c3 : w.cell? ⟨p, 3, none⟩ = some (.bool s.bk) := blk_cell h2.blk 3 rfl
  have f3 := blk_froz h2.blk 3
  obtain ⟨ds, dwv, drs, hd⟩ := h1
  have d6 := hd.c6
  unfold Wl.ask
  generalize s.d.on = on at d6 ⊢
  generalize s.bk = bk at c3 ⊢
  clear h2 h3 hd
  cases bk <;> cases on
  · go_enter Tryz.func83, Tryz.ntmps83
    go_wp2_with fail
    refine HM.out.mono ?_
    rintro E w1 ⟨rfl, rfl⟩
    go_wp2
    go_ret
    exact .inl ⟨rfl, rfl, HF.out⟩
  · go_enter Tryz.func83, Tryz.ntmps83
    go_wp2_with fail
    refine HM.out.mono ?_
    rintro E w1 ⟨rfl, rfl⟩
    go_wp2
    go_ret
    exact .inr ⟨rfl, rfl, rfl⟩
  · go_enter Tryz.func83, Tryz.ntmps83
    go_wp2_with fail
    refine HM.out.mono ?_
    rintro E w1 ⟨rfl, rfl⟩
    go_wp2
    go_ret
    exact .inl ⟨rfl, rfl, HF.out⟩
  · go_enter Tryz.func83, Tryz.ntmps83
    go_wp2_with fail
    refine HM.out.mono ?_
    rintro E w1 ⟨rfl, rfl⟩
    go_wp2
    go_ret
    exact .inl ⟨rfl, rfl, HF.out⟩

theorem offX_any (p q : Nat) (F : Nat → Prop) (w W : World) (s : Wl.Ws) (e : Int) (h : XStep p q F w W s) :
    Calls Tryz.prog 86 #[.pointer (some ⟨p, 0, none⟩), .int .i64 e] W fun E w' => E = .returned (.int .i64 e) ∧ XStep p q F w w' ⟨s.d, s.l, e != 0⟩ := by
  have HF := hide (h.next fun F1 k => k.flag (e != 0))
  obtain ⟨F0, ⟨F1, v, rs, h1, h2, h3, _⟩, _, _⟩ := h
  have c3 : W.cell? ⟨p, 3, none⟩ = some (.bool s.bk) := blk_cell h2.blk 3 rfl
  have f3 := blk_froz h2.blk 3
  clear h1 h2 h3
  go_enter Tryz.func86, Tryz.ntmps86
  go_wp2
  go_ret
  exact ⟨rfl, HF.out⟩

theorem endX_any (p q : Nat) (F : Nat → Prop) (w : World) (s : Wl.Ws) (h : XX p q F w s) :
    Calls Tryz.prog 30 #[.pointer (some ⟨p, 0, none⟩)] w fun E w' => E = .returned (.int .i64 s.l.length) ∧ w = w' := by
  obtain ⟨F1, v, rs, h1, h2, h3, rfl⟩ := h
  have HM := hide (noneX_any p q w _ _ _ h2.blk)
  have c2 : w.cell? ⟨p, 2, none⟩ = some v := blk_cell h2.blk 2 rfl
  obtain ⟨ao, cap, hv, _, _⟩ := h2.row.row.shape
  rw [hv, h2.len] at c2
  clear h1 h2 h3 hv
  go_enter Tryz.func30, Tryz.ntmps30
  go_wp2_with fail
  refine HM.out.mono ?_
  rintro E w1 ⟨rfl, rfl⟩
  go_wp2
  go_ret
  exact ⟨rfl, rfl⟩

set_option maxHeartbeats 1000000 in
theorem epochX_any (p q : Nat) (F : Nat → Prop) (w : World) (s : Wl.Ws) (h : XX p q F w s) :
    Calls Tryz.prog 29 #[.pointer (some ⟨p, 0, none⟩)] w fun E w' => E = .returned (.int .i64 (Cm.lastE 0 s.l)) ∧ ∃ m, w' = w.drewN m := by
  obtain ⟨F1, v, rs, h1, h2, h3, rfl⟩ := h
  have HM := hide (noneX_any p q w _ _ _ h2.blk)
  have c2 : w.cell? ⟨p, 2, none⟩ = some v := blk_cell h2.blk 2 rfl
  have hgl := good_len h2.good
  have hlen := h2.len
  by_cases h0 : rs.length = 0
  · have hl : s.l = [] := List.eq_nil_of_length_eq_zero (by omega)
    rw [hl]
    obtain ⟨ao, cap, hv, _, _⟩ := h2.row.row.shape
    rw [hv, h0] at c2
    clear h1 h2 h3 hv h0 hlen hgl
    go_enter Tryz.func29, Tryz.ntmps29
    go_wp2_with fail
    refine HM.out.mono ?_
    rintro E w1 ⟨rfl, rfl⟩
    go_wp2
    go_ret
    exact ⟨rfl, 0, rfl⟩
  · obtain ⟨k, hk⟩ : ∃ k, rs.length = k + 1 := ⟨rs.length - 1, by omega⟩
    obtain ⟨g, off, cap, hv, _, _, _, hcell⟩ := h2.row.row.full (by omega)
    obtain ⟨c, hck⟩ : ∃ c, rs[k]? = some c := ⟨rs[k]'(by omega), by rw [List.getElem?_eq_getElem]⟩
    obtain ⟨c0, _, _⟩ := hcell k c hck
    have hL : Cm.lastE 0 s.l = c.e := by
      rw [← h2.is]
      exact last_at (k := k) (c := c.c) (by unfold cvs; rw [List.getElem?_map, hck]; rfl) (by unfold cvs; rw [List.length_map]; exact hk) 0
    rw [hL]
    rw [hv, hk] at c2
    have hne : (((k + 1 : Nat) : Int) == 0) = false := by simp; omega
    have hw : IntKind.i64.wrap (((k + 1 : Nat) : Int) - 1) = (k : Int) := by rw [wrap_i64_small _ (by omega) (by omega)]; omega
    have hw2 : IntKind.i64.wrap (k : Int) = (k : Int) := wrap_i64_small _ (by omega) (by omega)
    have hk1 : (k : Int) < ((k + 1 : Nat) : Int) := by omega
    clear h1 h2 h3 hv hcell hck hL h0 hlen hgl hk
    go_enter Tryz.func29, Tryz.ntmps29
    go_wp2_with fail
    refine HM.out.mono ?_
    rintro E w1 ⟨rfl, rfl⟩
    go_wp2
    go_quiet (fail)
    go_wp2
    go_ret
    exact ⟨rfl, _, rfl⟩

end Go.Proofs.YtmkpaedemjiboaaGreat

/- The document's Frame, Sync, Trim and Open. -/
namespace Go.Proofs.YtmkpaedemjiboaaGreat
open Go.RowKit
set_option linter.unusedVariables false

set_option maxHeartbeats 1000000 in
theorem frameX_any (e n : Int) (v : Value) (l : List Bm.Ov) (w : World) (h : IsO w v l) (hf : FitO l) (hl : l.length ≤ 140737488355328) (hc : Cm.chk e n l = 0) :
    Calls Tryz.prog 88 #[cmv e n v] w fun E w' => ∃ vb, E = .returned vb ∧ Own .u8 5 w.heap.size w' vb (Wl.fr ⟨e, n, l⟩) ∧ Below w.heap.size w w' := by
  obtain ⟨ao, cap, hv, _, _⟩ := h.shape
  obtain ⟨w1, hw1, sz1, bel1, hB⟩ := blk_step w #[.int .i64 e, .int .i64 n, v] 37
  have c0 : w1.cell? ⟨w.heap.size, 0, none⟩ = some (.int .i64 e) := blk_cell hB 0 rfl
  have c1 : w1.cell? ⟨w.heap.size, 1, none⟩ = some (.int .i64 n) := blk_cell hB 1 rfl
  have c2 : w1.cell? ⟨w.heap.size, 2, none⟩ = some v := blk_cell hB 2 rfl
  have HC := hide (cencR_any e n v l w1 (h.below bel1) hf hl)
  unfold cmv at HC ⊢
  rw [hv] at hw1 c2 HC ⊢
  have KC := hide hc
  clear h hf hl hB hv hc
  go_enter Tryz.func88, Tryz.ntmps88
  go_wp2_with fail
  refine HC.out.mono ?_
  rintro E w2 ⟨vb, rfl, own, bel2⟩
  have bel02 := bel1.trans (bel2.mono bel1.size)
  obtain ⟨ab, cb, hvb, _, _⟩ := own.is.shape
  have hz : (Cm.out e n l).length ≤ 430 := Cm.out_small e n l
  have HF := hide (fappR_any (.slice none 0 0) vb [] (Cm.out e n l) w2 (Is.nil _ _) own.is (by simp) (by omega))
  have ea : ape (Cm.out e n l) = 0 := by unfold ape; rw [if_pos (by omega)]
  have ed : apd [] (Cm.out e n l) = Wl.fr ⟨e, n, l⟩ := by
    unfold apd
    rw [if_pos (by omega), Cm.out_ok KC.out]
    rfl
  rw [ea, ed] at HF
  subst hvb
  clear own bel1 bel2 ea ed hz HC
  go_wp2_with fail
  refine HF.out.mono ?_
  rintro E w3 ⟨vf, rfl, own3, bel3⟩
  obtain ⟨af, cf, hvf, _, _⟩ := own3.is.shape
  have O3 := hide (own3.rebase (base' := w.heap.size) bel02.size)
  have B3 := hide (bel02.trans (bel3.mono bel02.size))
  subst hvf
  clear own3 bel3 bel02 HF
  go_wp2
  go_ret
  exact ⟨_, rfl, O3.out, B3.out⟩

theorem bne_e {x : Int} : (x != 0) = decide (x ≠ 0) := by
  by_cases h : x = 0 <;> simp [h]

set_option maxHeartbeats 1000000 in
theorem syncX_any (p q : Nat) (F : Nat → Prop) (w : World) (s : Wl.Ws) (h : XX p q F w s) (hs : WBig s) :
    Calls Tryz.prog 33 #[.pointer (some ⟨p, 0, none⟩)] w fun E w' => E = .returned (.int .i64 (Wl.wsyn s).1) ∧ XStep p q F w w' (Wl.wsyn s).2 := by
  have HR := hide (askedX_any p q F w s h)
  have hb := hs.big
  unfold Wl.wsyn
  cases ha : Wl.ask s with
  | true =>
    simp only [if_true]
    clear h hs
    go_enter Tryz.func33, Tryz.ntmps33
    go_wp2_with fail
    refine HR.out.mono ?_
    rintro E w1 (⟨_, rfl, J⟩ | ⟨h0, _⟩)
    · have J := hide J
      go_wp2
      go_ret
      exact ⟨rfl, J.out⟩
    · rw [ha] at h0
      cases h0
  | false =>
    simp only [Bool.false_eq_true, if_false]
    obtain ⟨F1, v, rs, h1, h2, h3, rfl⟩ := h
    have HS := hide (syncR_any q F1 w s.d h1 (fun f => Nat.le_trans (hb.1.1 f) (by decide)) (Nat.le_trans hb.1.2.1 (by decide)) hb.2 (Nat.lt_of_le_of_lt hb.1.2.2 (by decide)))
    have c1 : w.cell? ⟨p, 1, none⟩ = some (.pointer (some ⟨q, 0, none⟩)) := blk_cell h2.blk 1 rfl
    have H1 := hide h1
    have H2 := hide h2
    have H3 := hide h3
    clear h1 h2 h3 hs hb
    go_enter Tryz.func33, Tryz.ntmps33
    go_wp2_with fail
    refine HR.out.mono ?_
    rintro E w1 (⟨h0, _⟩ | ⟨_, rfl, rfl⟩)
    · rw [ha] at h0
      cases h0
    clear HR
    go_wp2_with fail
    refine HS.out.mono ?_
    rintro E w2 ⟨rfl, DS⟩
    have HE := hide (offX_any p q _ w w2 _ (Dm.sync s.d).1 (XX.disk H1.out H2.out H3.out DS))
    rw [bne_e] at HE
    clear DS HS H1 H2 H3
    go_wp2_with fail
    refine HE.out.mono ?_
    rintro E w3 ⟨rfl, J⟩
    have J := hide J
    go_wp2
    go_ret
    exact ⟨rfl, J.out⟩

set_option maxHeartbeats 1000000 in
theorem trimX_any (q : Nat) (F : Nat → Prop) (w : World) (st : Dm.Ds) (n : Nat) (h : Dk q F w st) (hs : Big 100000000 800000 st) :
    Calls Tryz.prog 81 #[.pointer (some ⟨q, 0, none⟩), .int .i64 0, .int .i64 n] w fun E w' => E = .returned (.int .i64 (Wl.trm st n).1) ∧ DStep q F w w' (Wl.trm st n).2 := by
  have HH := hide (holdsR_any q F w st 0 h (by decide) (Nat.le_trans (hs.1.1 0) (by decide)) (Nat.le_trans hs.1.2.1 (by decide)))
  have HD := hide h
  have hs2 := big_cut hs 0 n
  have HC : Hid (∀ W, Below w.heap.size w W → Calls Tryz.prog 97 #[.pointer (some ⟨q, 0, none⟩), .int .i64 0, .int .i64 n] W fun E w' => E = .returned (.int .i64 (Dm.cutD st 0 n).1) ∧ DStep q F w w' (Dm.cutD st 0 n).2) := hide fun W hW => by
    refine (cutR_any q F W st 0 n (h.below hW) (fun f => Nat.le_trans (hs.1.1 f) (by decide)) (Nat.le_trans hs.1.2.1 (by decide)) hs.2 (Nat.lt_of_le_of_lt hs.1.2.2 (by decide))).mono ?_
    rintro E w' ⟨rfl, k⟩
    exact ⟨rfl, DStep.pre hW k⟩
  have HS : Hid (∀ W, DStep q F w W (Dm.cutD st 0 n).2 → Calls Tryz.prog 94 #[.pointer (some ⟨q, 0, none⟩)] W fun E w' => E = .returned (.int .i64 (Dm.sync (Dm.cutD st 0 n).2).1) ∧ DStep q F w w' (Dm.sync (Dm.cutD st 0 n).2).2) := hide fun W hW => by
    obtain ⟨F2, k1, k2, k3⟩ := hW
    refine (syncR_any q F2 W _ k1 (fun f => Nat.le_trans (hs2.1.1 f) (by decide)) (Nat.le_trans hs2.1.2.1 (by decide)) hs2.2 (Nat.lt_of_le_of_lt hs2.1.2.2 (by decide))).mono ?_
    rintro E w' ⟨rfl, k⟩
    exact ⟨rfl, DStep.trans k2 k3 k⟩
  have eh : Dm.hold 0 (st.sure 0) st.wait = Wl.hld st := rfl
  rw [eh] at HH
  unfold Wl.trm
  generalize hl : (Wl.hld st).length = z at *
  have HZ := hide hl
  clear h hs hs2 hl eh
  by_cases hz : z = n
  · rw [if_pos hz]
    have hb : ((z : Int) == (n : Int)) = true := by simp [hz]
    go_enter Tryz.func81, Tryz.ntmps81
    go_wp2_with fail
    refine HH.out.mono ?_
    rintro E w1 ⟨v, rfl, own, bel⟩
    obtain ⟨a, c, hv, _, _⟩ := own.is.shape
    rw [HZ.out] at hv
    subst hv
    have DS := hide (DStep.same HD.out bel)
    clear own bel HH HC HS
    go_wp2
    go_ret
    exact ⟨rfl, DS.out⟩
  · rw [if_neg hz]
    have hb : ((z : Int) == (n : Int)) = false := by simp; omega
    generalize Dm.cutD st 0 n = x at *
    obtain ⟨e, st2⟩ := x
    simp only at *
    generalize Dm.sync st2 = y at *
    obtain ⟨f, st3⟩ := y
    simp only at *
    by_cases he : e = 0
    · subst he
      by_cases hf : f = 0
      · subst hf
        simp only [ne_eq, not_true, if_false]
        go_enter Tryz.func81, Tryz.ntmps81
        go_wp2_with fail
        refine HH.out.mono ?_
        rintro E w1 ⟨v, rfl, own, bel⟩
        obtain ⟨a, c, hv, _, _⟩ := own.is.shape
        rw [HZ.out] at hv
        subst hv
        have HC1 := hide (HC.out w1 bel)
        clear own bel HH HC
        go_wp2_with fail
        refine HC1.out.mono ?_
        rintro E w2 ⟨rfl, D2⟩
        have HS1 := hide (HS.out w2 D2)
        clear D2 HS HC1
        go_wp2_with fail
        refine HS1.out.mono ?_
        rintro E w3 ⟨rfl, D3⟩
        have J := hide D3
        go_wp2
        go_ret
        exact ⟨rfl, J.out⟩
      · have hfb : (f != 0) = true := by simp [hf]
        simp only [ne_eq, not_true, if_false, hf, not_false_eq_true, if_true]
        go_enter Tryz.func81, Tryz.ntmps81
        go_wp2_with fail
        refine HH.out.mono ?_
        rintro E w1 ⟨v, rfl, own, bel⟩
        obtain ⟨a, c, hv, _, _⟩ := own.is.shape
        rw [HZ.out] at hv
        subst hv
        have HC1 := hide (HC.out w1 bel)
        clear own bel HH HC
        go_wp2_with fail
        refine HC1.out.mono ?_
        rintro E w2 ⟨rfl, D2⟩
        have HS1 := hide (HS.out w2 D2)
        clear D2 HS HC1
        go_wp2_with fail
        refine HS1.out.mono ?_
        rintro E w3 ⟨rfl, D3⟩
        have J := hide D3
        go_wp2
        go_ret
        exact ⟨rfl, J.out⟩
    · have heb : (e != 0) = true := by simp [he]
      simp only [ne_eq, he, not_false_eq_true, if_true]
      go_enter Tryz.func81, Tryz.ntmps81
      go_wp2_with fail
      refine HH.out.mono ?_
      rintro E w1 ⟨v, rfl, own, bel⟩
      obtain ⟨a, c, hv, _, _⟩ := own.is.shape
      rw [HZ.out] at hv
      subst hv
      have HC1 := hide (HC.out w1 bel)
      clear own bel HH HC
      go_wp2_with fail
      refine HC1.out.mono ?_
      rintro E w2 ⟨rfl, D2⟩
      have J := hide D2
      clear HS HC1
      go_wp2
      go_ret
      exact ⟨rfl, J.out⟩

end Go.Proofs.YtmkpaedemjiboaaGreat

/- The document's Open. -/
namespace Go.Proofs.YtmkpaedemjiboaaGreat
open Go.RowKit
set_option linter.unusedVariables false

set_option maxRecDepth 20000 in
set_option maxHeartbeats 2000000 in
theorem openX_any (q : Nat) (F : Nat → Prop) (w : World) (st : Dm.Ds) (h : Dk q F w st) (hs : Big 100000000 800000 st) :
    Calls Tryz.prog 23 #[.pointer (some ⟨q, 0, none⟩)] w fun E w' => ∃ l, Hid (Wl.Lg 0 0 (Wl.hld st) l) ∧
      ((opE st l ≠ 0 ∧ E = .returned (.tuple #[.pointer none, .int .i64 (opE st l)]) ∧ DStep q F w w' (opD st l)) ∨ (opE st l = 0 ∧ ∃ p F', E = .returned (.tuple #[.pointer (some ⟨p, 0, none⟩), .int .i64 0]) ∧ XX p q F' w' ⟨opD st l, l, false⟩ ∧ Out F w w' ∧ ∀ g, F' g → F g ∨ w.heap.size ≤ g)) := by
  have HH := hide (holdsR_any q F w st 0 h (by decide) (Nat.le_trans (hs.1.1 0) (by decide)) (Nat.le_trans hs.1.2.1 (by decide)))
  rw [show Dm.hold 0 (st.sure 0) st.wait = Wl.hld st from rfl] at HH
  have HK := hide h
  have HS := hide hs
  have hlen := hld_len hs
  obtain ⟨ds, dwv, drs, hd⟩ := h
  have d0 := hd.c0
  have d6 := hd.c6
  clear hd
  cases hon : st.on with
  | false =>
    obtain ⟨l, hl⟩ := Wl.lg_is 0 0 (Wl.hld st)
    have e1 : opE st l = 6 := by unfold opE; rw [if_pos hon]
    have e2 : opD st l = st := by unfold opD; rw [if_pos hon]
    have E1 := hide e1
    have E2 := hide e2
    have HL := hide hl
    rw [hon] at d6
    clear hs hon e1 e2 hl HH
    go_enter Tryz.func23, Tryz.ntmps23
    go_wp2
    go_ret2
    exact ⟨l, HL, .inl ⟨by rw [E1.out]; decide, by rw [E1.out]; rfl, by rw [E2.out]; exact DStep.same HK.out (Below.refl _ _)⟩⟩
  | true =>
    rw [hon] at d6
    have HO := hide hon
    clear hs hon
    go_enter Tryz.func23, Tryz.ntmps23
    go_wp2_with fail
    refine HH.out.mono ?_
    rintro E w1 ⟨v, rfl, own, bel⟩
    have HW := hide (wscanR_any v (Wl.hld st) w1 own.is (by omega))
    obtain ⟨a, c, hv, _, _⟩ := own.is.shape
    have B1 := hide bel
    subst hv
    have sz1 := bel.size
    clear own HH bel
    go_wp2_with fail
    refine HW.out.mono ?_
    rintro E w2 ⟨l, vc, rs, rfl, O2, P2, is2, b2, LG⟩
    have B2 := hide (B1.out.trans (b2.mono B1.out.size))
    have sz2 := b2.size
    have e1 : opE st l = (Wl.trm st (Wl.lgb l).length).1 := by unfold opE; rw [if_neg (by rw [HO.out]; decide)]
    have e2 : opD st l = (Wl.trm st (Wl.lgb l).length).2 := by unfold opD; rw [if_neg (by rw [HO.out]; decide)]
    have HT := hide (trimX_any q F w2 st (Wl.lgb l).length (HK.out.below B2.out) HS.out)
    rw [← e1, ← e2] at HT
    have e01 : opE st l = 0 ∨ opE st l = 6 := by rw [e1]; exact trm_e st _
    obtain ⟨x1, y1, hvc, _, _⟩ := O2.row.shape
    have O2h := hide O2
    have P2h := hide P2
    have I2 := hide is2
    have LT2 := hide HK.out.lt
    have HVC := hide hvc
    rw [hvc]
    clear HW O2 P2 is2 b2 e1 e2 hvc
    go_wp2_with fail
    refine HT.out.mono ?_
    rintro E w3 ⟨rfl, F3, K3, o3, s3⟩
    have D0 : Hid (DStep q F w w3 (opD st l)) := hide (DStep.pre B2.out ⟨F3, K3, o3, s3⟩)
    obtain ⟨hr3, hp3⟩ : OwnR 37 w1.heap.size w3 vc rs ∧ CopyR w1.heap.size w3 rs := ⟨row_out O2h.out o3 fun g hg => by have := LT2.out g hg; omega, fun c hc => row_out (P2h.out c hc) o3 fun g hg => by have := LT2.out g hg; omega⟩
    obtain ⟨W, hW, szW, belW, bW⟩ := blk_step w3 #[.bool true, .pointer (some ⟨q, 0, none⟩), vc, .bool false] 109
    have sz3 := o3.size
    have XV : XkV w3.heap.size q W l false vc rs := ⟨bW, (hr3.below belW).rebase (Nat.zero_le _), fun c hc => ((hp3 c hc).below belW).rebase (Nat.zero_le _), I2.out, LG.out.1⟩
    have rng : ∀ g, XB w3.heap.size vc rs g → w1.heap.size ≤ g ∧ (g < w2.heap.size ∨ g = w3.heap.size) := by
      rintro g (e | e | ⟨c, hc, e⟩)
      · exact ⟨by omega, .inr e⟩
      · exact ⟨(World.ownsRow.lt O2h.out g e).1, .inl (World.ownsRow.lt O2h.out g e).2⟩
      · exact ⟨(World.ownsRow.lt (P2h.out c hc) g e).1, .inl (World.ownsRow.lt (P2h.out c hc) g e).2⟩
    have FIN : Hid (XX w3.heap.size q (fun g => F3 g ∨ XB w3.heap.size vc rs g) W ⟨opD st l, l, false⟩ ∧ Out F w W ∧ ∀ g, (F3 g ∨ XB w3.heap.size vc rs g) → F g ∨ w.heap.size ≤ g) := hide (by
      refine ⟨⟨F3, vc, rs, K3.below belW, XV, fun g hg hf => ?_, rfl⟩, ((Out.of_below (F := F) B2.out).trans o3 fun g hg => .inl hg).trans (Out.of_below (F := F) belW) fun g hg => .inl hg, ?_⟩
      · obtain ⟨g1, g2⟩ := rng g hg
        have g3 := K3.lt g hf
        rcases s3 g hf with e | e
        · have := LT2.out g e
          omega
        · omega
      · rintro g (e | e)
        · rcases s3 g e with e | e
          · exact .inl e
          · exact .inr (by omega)
        · have := (rng g e).1
          exact .inr (by omega))
    rw [HVC.out] at hW
    clear HT K3 o3 s3 hr3 hp3 belW bW XV rng O2h P2h
    generalize hoe : opE st l = oe at *
    have HOE := hide hoe
    clear hoe
    rcases e01 with rfl | rfl
    · go_wp2
      go_ret2
      exact ⟨l, LG, .inr ⟨HOE.out, _, _, rfl, FIN.out⟩⟩
    · go_wp2
      go_ret2
      exact ⟨l, LG, .inl ⟨by rw [HOE.out]; decide, by rw [HOE.out]; rfl, D0.out⟩⟩

end Go.Proofs.YtmkpaedemjiboaaGreat

/- The document's length and Length, Copy and Copies, Starts. -/
namespace Go.Proofs.YtmkpaedemjiboaaGreat
open Go.RowKit
set_option linter.unusedVariables false

set_option maxHeartbeats 1000000 in
theorem startsX_any (p q : Nat) (F : Nat → Prop) (w : World) (s : Wl.Ws) (h : XX p q F w s) (hl : s.l.length ≤ 1000000) :
    Calls Tryz.prog 44 #[.pointer (some ⟨p, 0, none⟩)] w fun E w' => ∃ v, E = .returned v ∧ OwnS w.heap.size w' v (ofs s.l) ∧ Below w.heap.size w w' := by
  obtain ⟨F1, v, rs, h1, h2, h3, rfl⟩ := h
  have HM := hide (noneX_any p q w _ _ _ h2.blk)
  have c2 : w.cell? ⟨p, 2, none⟩ = some v := blk_cell h2.blk 2 rfl
  have HO := hide (ofR_any v rs w h2.isc.1 h2.isc.2 (by rw [h2.len]; exact hl))
  rw [h2.is] at HO
  obtain ⟨x1, y1, hvc, _, _⟩ := h2.row.row.shape
  unfold flv at HO
  subst hvc
  generalize hz : Cm.fol 0 0 0 s.l = z at *
  obtain ⟨z1, z2⟩ := z
  clear h1 h2 h3 hz
  go_enter Tryz.func44, Tryz.ntmps44
  go_wp2_with fail
  refine HM.out.mono ?_
  rintro E w1 ⟨rfl, rfl⟩
  go_wp2_with fail
  refine HO.out.mono ?_
  rintro E w2 ⟨v, rfl, own, bel⟩
  obtain ⟨V, hV, hV2, szV, belV, bV, k0, k1⟩ := new_two w2 91 (.int .i64 0) (.int .i64 0) (.int .i64 z1) (.int .i64 z2)
  have OV := hide (ownS_below own belV)
  have BV := hide (bel.trans (belV.mono bel.size))
  obtain ⟨a, c, hva, _⟩ := own.row.shape
  subst hva
  clear own bel belV bV HO HM
  go_wp2
  go_ret
  exact ⟨_, rfl, OV.out, BV.out⟩

end Go.Proofs.YtmkpaedemjiboaaGreat

/- The document's length of a log. -/
namespace Go.Proofs.YtmkpaedemjiboaaGreat
open Go.RowKit
set_option linter.unusedVariables false

set_option maxRecDepth 20000 in
set_option maxHeartbeats 2000000 in
theorem lengthL_any (vl : Value) (rs : List Cw) (l : List Cm.Cv) (w : World) (h : IsC w vl rs) (he : cvs rs = l) (hg : Cm.Good 0 0 l) :
    Calls Tryz.prog 98 #[vl] w fun E w' => E = .returned (.int .i64 (Wl.lgb l).length) ∧ Below w.heap.size w w' := by
  have hgl := good_len hg
  have hle := lgb_le hg
  have hlen : rs.length = l.length := by rw [← he, cvs_length]
  obtain ⟨fit, g64⟩ := fit_good hg he
  have HC : Hid (∀ c ∈ rs, Cm.chk c.e c.n c.l = 0) := hide fun c hc => by
    obtain ⟨k, hk⟩ := List.getElem?_of_mem hc
    have : l[k]? = some c.c := by rw [← he, cvs, List.getElem?_map, hk]; rfl
    exact (Cm.good_at l 0 0 k c.c hg this).1
  have HI := hide h
  have HF := hide fit
  have HE := hide he
  obtain ⟨ao, cap, hv, _, _⟩ := h.1.shape
  subst hv
  obtain ⟨n, hn⟩ : ∃ n, rs.length = n := ⟨_, rfl⟩
  have HN := hide hn
  rw [hn] at HI ⊢
  have hnn : n ≤ 1048576 := by omega
  have HL := hide hlen
  clear h fit g64 hn hlen
  go_enter Tryz.func98, Tryz.ntmps98
  go_wp2
  go_loopw [3, 4] (fun sv iv wr => ∃ k : Nat, k ≤ n ∧ iv = .int .i64 k ∧ sv = .int .i64 (Wl.lgb (l.take k)).length ∧ Hid (Below w.heap.size w wr)) (fun _ iv _ => n - (intOf iv).toNat)
  case atStart => exact ⟨0, by omega, rfl, rfl, hide (Below.refl _ _)⟩
  case round =>
    obtain ⟨k, hk, rfl, rfl, BR⟩ := hrel
    by_cases hlt : k < n
    · have hkr : k < rs.length := by rw [HN.out]; exact hlt
      obtain ⟨b, off, cq, hvx, _, _, _, hcell⟩ := (HI.out.below BR.out).1.full (by omega)
      simp only [Value.slice.injEq] at hvx
      obtain ⟨rfl, hmid, rfl⟩ := hvx
      clear hmid
      obtain ⟨c, hc⟩ : ∃ c, rs[k]? = some c := ⟨rs[k], by rw [List.getElem?_eq_getElem]⟩
      have hcm := List.mem_of_getElem? hc
      obtain ⟨x0, x1, x2⟩ := hcell k c hc
      have HFR := hide (frameX_any c.e c.n c.v c.l wr ((HI.out.below BR.out).2 c hcm).1 (HF.out c hcm).1 (by have := (HF.out c hcm).2; omega) (HC.out c hcm))
      unfold cmv at HFR
      obtain ⟨oa, oc, hov, _, _⟩ := ((HI.out.below BR.out).2 c hcm).1.shape
      rw [hov] at x2 HFR
      have hlk : l[k]? = some c.c := by rw [← HE.out, cvs, List.getElem?_map, hc]; rfl
      have hkl : k < l.length := (List.getElem?_eq_some_iff.1 hlk).1
      have hsum : (Wl.lgb (l.take (k + 1))).length = (Wl.lgb (l.take k)).length + (Wl.fr c.c).length := by
        rw [List.take_succ_eq_append_getElem hkl, (List.getElem?_eq_some_iff.1 hlk).2, Wl.lgb_app, Wl.lgb_one, List.length_append]
      have hb2 := lgb_take_le l (k + 1)
      have hlt' : (k : Int) < n := by omega
      have hk0 : (0 : Int) ≤ (k : Int) := by omega
      have hw : IntKind.i64.wrap (((Wl.lgb (l.take k)).length : Int) + ((Wl.fr c.c).length : Int)) = ((Wl.lgb (l.take k)).length : Int) + ((Wl.fr c.c).length : Int) := wrap_i64_small _ (by omega) (by omega)
      have HSU := hide hsum
      clear hcell hc hcm hov hlk hsum hkr
      go_wp2_with fail
      refine HFR.out.mono ?_
      rintro E w1 ⟨vb, rfl, own, bel⟩
      obtain ⟨ab, cb, hvb, _, _⟩ := own.is.shape
      have hvb' : vb = .slice ab (Wl.fr c.c).length cb := hvb
      subst hvb'
      have B1 := hide (BR.out.trans (bel.mono BR.out.size))
      clear HFR own bel hvb
      go_wp2
      go_roundw
      case rel => exact ⟨k + 1, by omega, by go_num, by rw [HSU.out]; go_num, B1⟩
      case measure => simp [intOf]; omega
    · obtain rfl : k = n := by omega
      have hlt' : ¬ (k : Int) < k := by omega
      have hall : l.take k = l := List.take_of_length_le (by have h1 := HN.out; have h2 := HL.out; omega)
      rw [hall]
      go_wp2
      go_ret
      exact ⟨rfl, BR.out⟩

theorem lengthX_any (p q : Nat) (F : Nat → Prop) (w : World) (s : Wl.Ws) (h : XX p q F w s) :
    Calls Tryz.prog 42 #[.pointer (some ⟨p, 0, none⟩)] w fun E w' => E = .returned (.int .i64 (Wl.lgb s.l).length) ∧ Below w.heap.size w w' := by
  obtain ⟨F1, v, rs, h1, h2, h3, rfl⟩ := h
  have HM := hide (noneX_any p q w _ _ _ h2.blk)
  have c2 : w.cell? ⟨p, 2, none⟩ = some v := blk_cell h2.blk 2 rfl
  have HL := hide (lengthL_any v rs s.l w h2.isc.1 h2.is h2.good)
  obtain ⟨ao, cap, hv, _, _⟩ := h2.row.row.shape
  subst hv
  clear h1 h2 h3
  go_enter Tryz.func42, Tryz.ntmps42
  go_wp2_with fail
  refine HM.out.mono ?_
  rintro E w1 ⟨rfl, rfl⟩
  go_wp2_with fail
  refine HL.out.mono ?_
  rintro E w1 ⟨rfl, b1⟩
  go_wp2
  go_ret
  exact ⟨rfl, b1⟩

end Go.Proofs.YtmkpaedemjiboaaGreat

/- The document's Copy and Copies of commits. -/
namespace Go.Proofs.YtmkpaedemjiboaaGreat
open Go.RowKit
set_option linter.unusedVariables false

theorem ocells_g : ∀ (r : List Bm.Ov), ocells r = gcells ocell r
  | [] => rfl
  | c :: r => by rw [ocells, gcells, ocells_g r]

theorem ocell_len (o : Bm.Ov) : (ocell o).length = 3 := rfl

theorem ownO_g {e base : Nat} {w : World} {v : Value} {r : List Bm.Ov} : OwnO e base w v r ↔ OwnG ocell 3 e base w v r := by
  unfold OwnO OwnG
  rw [ocells_g]

theorem isO_g {w : World} {v : Value} {r : List Bm.Ov} : IsO w v r ↔ RowG ocell w v r := by
  unfold IsO RowG
  rw [ocells_g]

set_option maxRecDepth 20000 in
set_option maxHeartbeats 2000000 in
theorem copyX_any (e n : Int) (v : Value) (l : List Bm.Ov) (w : World) (h : IsO w v l) (hl : l.length * 40 ≤ 140737488351232) :
    Calls Tryz.prog 89 #[cmv e n v] w fun E w' => ∃ v', E = .returned (cmv e n v') ∧ OwnO 71 w.heap.size w' v' l ∧ Below w.heap.size w w' := by
  unfold cmv
  obtain ⟨w1, hw1, sz1, bel1, hB⟩ := blk_step w #[.int .i64 e, .int .i64 n, v] 37
  obtain ⟨w2, hw2, sz2, bel2, hR⟩ := blk_step w1 #[.int .i64 0, .int .i64 0, .slice none 0 0] 37
  rw [sz1] at hR
  have hB2 := (bel2.block w.heap.size (by omega)).trans hB
  have bel02 : Below w.heap.size w w2 := bel1.trans (bel2.mono (by omega))
  have h2 := h.below bel02
  have c0 : w2.cell? ⟨w.heap.size, 0, none⟩ = some (.int .i64 e) := blk_cell hB2 0 rfl
  have c1 : w2.cell? ⟨w.heap.size, 1, none⟩ = some (.int .i64 n) := blk_cell hB2 1 rfl
  have c2 : w2.cell? ⟨w.heap.size, 2, none⟩ = some v := blk_cell hB2 2 rfl
  have X : Hid (∀ ty, ∃ v' w', (Builtin.append_ #[35, 35] ty #[.slice none 0 0, v]).run Tryz.prog w2.drew = .ok v' w' ∧ ((∃ a k, v' = .slice a l.length k) ∧ (w'.cell? ⟨w.heap.size, 0, none⟩ = some (.int .i64 e) ∧ w'.cell? ⟨w.heap.size, 1, none⟩ = some (.int .i64 n) ∧ w'.cell? ⟨w.heap.size, 2, none⟩ = some v) ∧ (∃ V, ((w'.setCell ⟨w.heap.size + 1, 0, none⟩ (.int .i64 e)).setCell ⟨w.heap.size + 1, 1, none⟩ (.int .i64 n)).setCell ⟨w.heap.size + 1, 2, none⟩ v' = V ∧ (w'.cell? ⟨w.heap.size + 1, 0, none⟩ = some (.int .i64 0) ∧ w'.cell? ⟨w.heap.size + 1, 1, none⟩ = some (.int .i64 0) ∧ w'.cell? ⟨w.heap.size + 1, 2, none⟩ = some (.slice none 0 0)) ∧ (w'.frozen? ⟨w.heap.size + 1, 0, none⟩ = false ∧ w'.frozen? ⟨w.heap.size + 1, 1, none⟩ = false ∧ w'.frozen? ⟨w.heap.size + 1, 2, none⟩ = false) ∧ (V.cell? ⟨w.heap.size + 1, 0, none⟩ = some (.int .i64 e) ∧ V.cell? ⟨w.heap.size + 1, 1, none⟩ = some (.int .i64 n) ∧ V.cell? ⟨w.heap.size + 1, 2, none⟩ = some v') ∧ Hid (OwnO 71 w.heap.size V v' l ∧ Below w.heap.size w V)))) := hide fun ty => by
    obtain ⟨v', w', hr, hown, hg, _⟩ := run_append_rows_at (P := Tryz.prog) (w := w2.drew) 35 ty ocell 3 40 ocell_len (by decide) (by decide) (.agg #[.bool false, .string ⟨#[]⟩, .string ⟨#[]⟩]) rfl 71 w2.heap.size Tryz.underlying35 Tryz.info71 (.slice none 0 0) [] (OwnG.nil _ _ _ _ _) v l (isO_g.1 (h2.drewN 1)) (by
      rw [← ocells_g]
      exact ocells_cell l) (by simp; omega) (Nat.le_refl _)
    rw [List.nil_append] at hown
    have bw : Below w2.heap.size w2 w' := ((Below.refl w2.heap.size w2).drew).grown hg (Nat.le_refl _) fun g e => by simp [Value.ownBlock] at e
    have szw := bw.size
    have k1 := (bw.block w.heap.size (by omega)).trans hB2
    have k2 := (bw.block (w.heap.size + 1) (by omega)).trans hR
    obtain ⟨V, hV, bV, gV, a, f, z⟩ := res_step k2 (.int .i64 e) (.int .i64 n) v'
    have ownV := ((ownO_g.2 hown).keptg gV (by omega)).rebase (base' := w.heap.size) (by omega)
    obtain ⟨xa, xc, hx, _⟩ := hown.row.shape
    exact ⟨v', w', hr, ⟨xa, xc, hx⟩, ⟨blk_cell k1 0 rfl, blk_cell k1 1 rfl, blk_cell k1 2 rfl⟩, V, hV, a, f, z, hide ⟨ownV, below_put (bel02.trans (bw.mono (by omega))) gV (by omega) (by omega)⟩⟩
  obtain ⟨ao, cap, hv, _, _⟩ := h.shape
  rw [hv] at hw1 c2 X ⊢
  clear h h2 hB hB2 hR bel1 bel2 bel02 hv hl
  go_enter Tryz.func89, Tryz.ntmps89
  go_wp2_with fail
  go_region_law (refine step_append_at rfl (.tmp 8) (.tmp 10) 35 rfl (.slice none 0 0) (.slice ao l.length cap) (by first | rfl | (simp [Act.eval]; done)) (by first | rfl | (simp [Act.eval]; done)) X.out ?_; rintro v7 w7 ⟨⟨a7, k7, rfl⟩, ⟨y0, y1, y2⟩, V, hV, ⟨a0, a1, a2⟩, ⟨f0, f1, f2⟩, ⟨z0, z1, z2⟩, J⟩)
  all_goals
    go_wp2
    refine bodyPost_ret (v := .agg #[.int .i64 e, .int .i64 n, .slice a7 l.length k7]) (by simp [results, Tryz.results89, go_sem, z0, z1, z2]) rfl ?_
    exact ⟨_, rfl, J.out⟩

end Go.Proofs.YtmkpaedemjiboaaGreat
