/- Texts of one layer, one behind the other. -/
import Derived.Test.YtmkpaedemjiboaaGreatA5
import Derived.Test.YtmkpaedemjiboaaGreatA6
import Derived.Test.YtmkpaedemjiboaaGreatA4
import Derived.Test.YtmkpaedemjiboaaGreatB2
import Derived.Test.YtmkpaedemjiboaaGreatA7
import Derived.Test.YtmkpaedemjiboaaGreatB1
/- The program reads a log out of bytes. -/
namespace Go.Proofs.YtmkpaedemjiboaaGreat
open Go.RowKit
set_option linter.unusedVariables false

/-- What reading has by now: the log's block B + 1, the answer's B. -/
structure Rst12 (w wr : World) (bs : List Int) (l : List Cm.Cv) (vc ve : Value) (rs : List Cw) : Prop where
  rd : Rdl bs l
  log : Lw (w.heap.size + 2) wr l vc ve rs
  ap : ApC rs
  bR : wr.heap[w.heap.size]? = some (.cells #[.slice none 0 0, .slice none 0 0] 84 (0, 0))
  bL : wr.heap[w.heap.size + 1]? = some (.cells #[vc, ve] 84 (0, 0))
  bel : Below w.heap.size w wr
  sz : w.heap.size + 2 ≤ wr.heap.size

theorem Rst12.below {w wr w' : World} {bs : List Int} {l : List Cm.Cv} {vc ve : Value} {rs : List Cw} (h : Rst12 w wr bs l vc ve rs) (hb : Below wr.heap.size wr w') : Rst12 w w' bs l vc ve rs :=
  ⟨h.rd, h.log.below hb, h.ap, (hb.block _ (by have := h.sz; omega)).trans h.bR, (hb.block _ (by have := h.sz; omega)).trans h.bL, h.bel.trans (hb.mono h.bel.size), Nat.le_trans h.sz hb.size⟩

/-- It ends here. -/
theorem Rst12.fin {w wr : World} {bs : List Int} {l : List Cm.Cv} {vc ve : Value} {rs : List Cw} (h : Rst12 w wr bs l vc ve rs) :
    ∃ V, (wr.setCell ⟨w.heap.size, 0, none⟩ vc).setCell ⟨w.heap.size, 1, none⟩ ve = V ∧ (wr.cell? ⟨w.heap.size, 0, none⟩ = some (.slice none 0 0) ∧ wr.cell? ⟨w.heap.size, 1, none⟩ = some (.slice none 0 0)) ∧ (wr.frozen? ⟨w.heap.size, 0, none⟩ = false ∧ wr.frozen? ⟨w.heap.size, 1, none⟩ = false) ∧ (V.cell? ⟨w.heap.size, 0, none⟩ = some vc ∧ V.cell? ⟨w.heap.size, 1, none⟩ = some ve) ∧ Lw w.heap.size V l vc ve rs ∧ Below w.heap.size w V := by
  obtain ⟨V, hV, bV, gV, hc, hf, hz⟩ := res_two h.bR vc ve
  refine ⟨V, hV, hc, hf, hz, (h.log.agree fun g hg => gV.block g (h.log.lt g hg) fun e => ?_).rebase (by omega), below_put h.bel gV (Nat.le_refl _) h.bel.size⟩
  have := h.log.ge g hg
  simp at e
  omega

/-- A commit more. -/
theorem Rst12.grow {w wr w' : World} {bs : List Int} {l : List Cm.Cv} {vc ve vc' ve' : Value} {rs : List Cw} {c : Cw} (h : Rst12 w wr bs l vc ve rs) (hr : Rdl bs (l ++ [c.c])) (hN : ∃ N, (∀ d ∈ rs, ∀ b, d.v.ownBlock = some b → b < N) ∧ ∀ b, c.v.ownBlock = some b → N ≤ b)
    (hB : w'.heap[w.heap.size + 1]? = some (.cells #[vc', ve'] 84 (0, 0))) (hL : Lw (w.heap.size + 2) w' (l ++ [c.c]) vc' ve' (rs ++ [c])) (ho : Out (fun g => g = w.heap.size + 1 ∨ LB vc ve rs g) wr w') : Rst12 w w' bs (l ++ [c.c]) vc' ve' (rs ++ [c]) := by
  have hge : ∀ g, (g = w.heap.size + 1 ∨ LB vc ve rs g) → w.heap.size + 1 ≤ g := fun g hg => by
    rcases hg with e | e
    · omega
    · have := h.log.ge g e
      omega
  obtain ⟨N, h1, h2⟩ := hN
  refine ⟨hr, hL, apc_snoc h.ap h1 h2, (ho.block _ (by have := h.sz; omega) fun e => by have := hge _ e; omega).trans h.bR, hB, ?_, Nat.le_trans h.sz ho.size⟩
  exact h.bel.trans (ho.below (fun g hg => by have := hge g hg; omega) h.bel.size)

set_option maxRecDepth 20000 in
set_option maxHeartbeats 4000000 in
theorem wread_any (vb : Value) (bs : List Int) (w : World) (hb : Is .u8 w vb bs) (hl : bs.length ≤ 1000000000) :
    Calls Tryz.prog 65 #[vb] w fun E w' => ∃ (l : List Cm.Cv) (vc ve : Value) (rs : List Cw), E = .returned (.agg #[vc, ve]) ∧ Lw w.heap.size w' l vc ve rs ∧ ApC rs ∧ Below w.heap.size w w' ∧ Hid (Wl.Lg 0 0 bs l) := by
  obtain ⟨w1, hw1, sz1, bel1, hR⟩ := blk_step w #[.slice none 0 0, .slice none 0 0] 84
  obtain ⟨w2, hw2, sz2, bel2, hL⟩ := blk_step w1 #[.slice none 0 0, .slice none 0 0] 84
  have R0 : Rst12 w w2 bs [] (.slice none 0 0) (.slice none 0 0) [] := ⟨Rdl.nil bs, Lw.nil _ _, fun i j c d _ hc => by simp at hc, (bel2.block _ (by omega)).trans hR, by rw [← sz1]; exact hL, bel1.trans (bel2.mono bel1.size), by omega⟩
  have HB := hide hb
  have HR0 := hide R0
  obtain ⟨ba, bc, hvb, _, _⟩ := hb.shape
  clear hb R0 bel1 bel2 hR hL
  subst hvb
  go_enter Tryz.func65, Tryz.ntmps65
  go_wp2
  go_loopw [0] (fun fv wr => ∃ (l : List Cm.Cv) (vc ve : Value) (rs : List Cw), Hid (Rst12 w wr bs l vc ve rs) ∧ Hid (Is .u8 w fv (bs.drop (Wl.lgb l).length)) ∧ w.heap.size + 2 ≤ wr.heap.size) (fun fv _ => lenOf fv)
  case atStart => exact ⟨[], _, _, [], HR0, by simpa [Wl.lgb, Fm.cat] using HB, by omega⟩
  case round =>
    obtain ⟨l, vc, ve, rs, RS, HI, szr⟩ := hrel
    have HF := hide (fread_any _ _ wr (HI.out.below RS.out.bel) (by rw [List.length_drop]; omega))
    go_wp2_with fail
    refine HF.out.mono ?_
    rintro E wa ⟨v1, z, n, e, rfl, own1, bel1, R⟩
    have RA := hide (RS.out.below bel1)
    have sza := bel1.size
    clear HF RS
    have he : e = 0 ∨ e = 5 := by
      rcases R.out with h | h
      · exact .inl h.1
      · exact .inr h.1
    rcases he with rfl | rfl
    · have HZ := hide (rd_zero R.out)
      have hzl : z.length ≤ 131072 := HZ.out.1
      have HD := hide (cdec_any v1 z wa own1.is (by omega))
      obtain ⟨o1, k1, hv1, _, _⟩ := own1.is.shape
      subst hv1
      clear own1 bel1
      go_wp2_with fail
      refine HD.out.mono ?_
      rintro E wb ⟨ee, nn, g, vo, ops, rfl, ownc, hcr, bel2⟩
      have RB := RA.out.below bel2
      have szb := bel2.size
      have hgg := Cm.cres_e hcr
      have hbd := Cm.cres_bounds hcr
      obtain ⟨o2, k2, hv2, _, _⟩ := ownc.is.shape
      obtain ⟨wc, hwc, hwc2, szc, belc, bC, x0, x1, x2⟩ := new_step wb 37 (.int .i64 0) (.int .i64 0) (.slice none 0 0) (.int .i64 ee) (.int .i64 nn) vo
      have RC := RB.below belc
      have OC := hide (ownc.below belc)
      have HC := hide hcr
      unfold cmv
      have hvo := hide hv2
      rw [hv2] at hwc hwc2 x2 ⊢
      have F := hide RC.fin
      have c0 := blk_cell RC.bL 0 rfl
      have c1 := blk_cell RC.bL 1 rfl
      obtain ⟨ac, ncap, hvc, _, _⟩ := RC.log.r.row.row.shape
      obtain ⟨ae, ecap, hve, _, _⟩ := RC.log.r.en.is.shape
      have R3 := hide RC
      have BA := hide (show (∀ d ∈ rs, ∀ b, d.v.ownBlock = some b → b < wa.heap.size) ∧ ∀ b, vo.ownBlock = some b → wa.heap.size ≤ b from ⟨fun d hd b hb => RA.out.log.lt b (.inr (.inr ⟨d, hd, hb⟩)), fun b hb => (ownc.block b hb).1⟩)
      clear RA HD RC RB ownc hcr bel2 belc bC hv2
      rcases hgg with rfl | rfl
      · have h64 : In64 ee ∧ In64 nn := ⟨⟨by omega, by omega⟩, ⟨by omega, by omega⟩⟩
        have hfit : FitO ops ∧ ops.length * 40 ≤ 140737488351232 := by
          rcases HC.out with ⟨_, h1, _⟩ | ⟨h0, _⟩
          · obtain ⟨_, _, _, _, h5⟩ := Cm.chk_zero h1
            exact ⟨(small_of h5).fit, by have := (Bm.chkL_zero h5).2.1; omega⟩
          · cases h0
        have TK := hide (takes_any (w.heap.size + 1) 0 wc vc rs c0 R3.out.log.r.row.row (by have := good_len R3.out.log.good; have := R3.out.log.len; omega) ⟨ee, nn, vo, ops⟩ OC.out.is h64.1 h64.2 hfit.1 hfit.2)
        unfold cmv at TK
        simp only at TK
        rw [R3.out.log.is] at TK
        rw [hvo.out] at TK
        obtain ⟨ans, hans⟩ : ∃ x, tk l ⟨ee, nn, ops⟩ = x := ⟨_, rfl⟩
        have HA := hide hans
        have TK2 : Hid (Calls Tryz.prog 69 #[.pointer (some ⟨w.heap.size + 1, 0, none⟩), .agg #[.int .i64 ee, .int .i64 nn, .slice o2 ops.length k2]] wc fun E w' => E = .returned (.bool ans) ∧ Below wc.heap.size wc w') := hide (by rw [← hans]; exact TK.out)
        clear TK hans F c0 c1
        go_wp2_with fail
        refine TK2.out.mono ?_
        rintro E wd ⟨rfl, beld⟩
        have RD := R3.out.below beld
        have OD := OC.out.below beld
        have szd := beld.size
        have y0 := (beld.cell (p := ⟨wb.heap.size, 0, none⟩) (show wb.heap.size < wc.heap.size by omega)).trans x0
        have y1 := (beld.cell (p := ⟨wb.heap.size, 1, none⟩) (show wb.heap.size < wc.heap.size by omega)).trans x1
        have y2 := (beld.cell (p := ⟨wb.heap.size, 2, none⟩) (show wb.heap.size < wc.heap.size by omega)).trans x2
        clear TK2 R3 OC beld x0 x1 x2
        cases ans with
        | false =>
          obtain ⟨V, hV, ⟨a0, a1⟩, ⟨f0, f1⟩, ⟨z0, z1⟩, LV, bV⟩ := RD.fin
          have c0 := blk_cell RD.bL 0 rfl
          have c1 := blk_cell RD.bL 1 rfl
          have G := hide (show Lw w.heap.size V l vc ve rs ∧ ApC rs ∧ Below w.heap.size w V ∧ Hid (Wl.Lg 0 0 bs l) from ⟨LV, RD.ap, bV, hide (RD.rd.stopT R.out HC.out HA.out)⟩)
          clear RD OD LV bV HC HA
          subst hvc hve
          go_wp2
          try rw [Exit.noGoto_ret]
          refine bodyPost_ret (v := .agg #[.slice ac rs.length ncap, .slice ae (ends l).length ecap]) (by simp [results, Tryz.results65, go_sem, z0, z1]) rfl ?_
          exact ⟨_, _, _, _, rfl, G.out⟩
        | true =>
          obtain ⟨g1, g2, g3⟩ := RD.rd.next R.out HC.out HA.out
          have GR := hide (lgrow_any (w.heap.size + 2) (w.heap.size + 1) 0 84 #[vc, ve] wd l vc ve rs ⟨ee, nn, vo, ops⟩ n RD.bL rfl rfl (by decide) (by decide) (by decide) RD.log (by omega) (OD.rebase (by omega)) g1.1 g2)
          unfold cmv at GR
          simp only at GR
          rw [hvo.out] at GR
          have hnl : n ≤ (bs.drop (Wl.lgb l).length).length := by
            obtain ⟨_, h2, h3⟩ := HZ.out
            rw [h2]
            exact h3.length_le
          obtain ⟨vs, hsl, isl⟩ := HI.out.slice_l Tryz.elemP Tryz.sizeP n hnl
          have HI2 : Hid (Is .u8 w vs (bs.drop (Wl.lgb (l ++ [⟨ee, nn, ops⟩])).length)) := hide (by rw [g3, ← List.drop_drop]; exact isl)
          have hn1 : 1 ≤ n := by rw [g2]; exact Wl.fr_pos _
          have c0 := blk_cell RD.bL 0 rfl
          have c1 := blk_cell RD.bL 1 rfl
          have RDH := hide RD
          have G1 := hide g1
          have HL : lenOf vs < lenOf u0 := by
            obtain ⟨_, _, e1, _, _⟩ := isl.shape
            obtain ⟨_, _, e2, _, _⟩ := HI.out.shape
            rw [e1, e2]
            simp only [lenOf, List.length_drop]
            rw [List.length_drop] at hnl
            omega
          clear RD OD HC HA R g1 g2 g3 isl hnl
          go_wp2_with fail
          refine GR.out.mono ?_
          rintro E wf ⟨rfl, vc2, ve2, bf, Lf, of, _⟩
          have szf := of.size
          rw [← hvo.out] at Lf
          have RF := hide (RDH.out.grow (c := ⟨ee, nn, vo, ops⟩) G1.out ⟨_, BA.out⟩ (by simpa using bf) Lf of)
          clear GR bf Lf of
          go_wp2
          go_roundw
          case rel => exact ⟨_, _, _, _, RF, HI2, by omega⟩
          case measure => exact HL
      · obtain ⟨V, hV, ⟨a0, a1⟩, ⟨f0, f1⟩, ⟨z0, z1⟩, LV, bV⟩ := F.out
        have G := hide (show Lw w.heap.size V l vc ve rs ∧ ApC rs ∧ Below w.heap.size w V ∧ Hid (Wl.Lg 0 0 bs l) from ⟨LV, R3.out.ap, bV, hide (R3.out.rd.stopC R.out HC.out)⟩)
        clear LV bV R3 HC F OC
        subst hvc hve
        go_wp2
        try rw [Exit.noGoto_ret]
        refine bodyPost_ret (v := .agg #[.slice ac rs.length ncap, .slice ae (ends l).length ecap]) (by simp [results, Tryz.results65, go_sem, z0, z1]) rfl ?_
        exact ⟨_, _, _, _, rfl, G.out⟩
    · obtain ⟨V, hV, ⟨a0, a1⟩, ⟨f0, f1⟩, ⟨z0, z1⟩, LV, bV⟩ := RA.out.fin
      have c0 := blk_cell RA.out.bL 0 rfl
      have c1 := blk_cell RA.out.bL 1 rfl
      obtain ⟨ac, ncap, hvc, _, _⟩ := RA.out.log.r.row.row.shape
      obtain ⟨ae, ecap, hve, _, _⟩ := RA.out.log.r.en.is.shape
      have G := hide (show Lw w.heap.size V l vc ve rs ∧ ApC rs ∧ Below w.heap.size w V ∧ Hid (Wl.Lg 0 0 bs l) from ⟨LV, RA.out.ap, bV, hide (RA.out.rd.stop R.out)⟩)
      clear LV bV RA own1 bel1 R
      subst hvc hve
      go_wp2
      try rw [Exit.noGoto_ret]
      refine bodyPost_ret (v := .agg #[.slice ac rs.length ncap, .slice ae (ends l).length ecap]) (by simp [results, Tryz.results65, go_sem, z0, z1]) rfl ?_
      exact ⟨_, _, _, _, rfl, G.out⟩

end Go.Proofs.YtmkpaedemjiboaaGreat

/- The program's Scan; a wal's small calls. -/
namespace Go.Proofs.YtmkpaedemjiboaaGreat
open Go.RowKit
set_option linter.unusedVariables false

end Go.Proofs.YtmkpaedemjiboaaGreat

/- A commit's frame; why a wal does nothing; what a disk answered; what a wal tells. -/
namespace Go.Proofs.YtmkpaedemjiboaaGreat
open Go.RowKit
set_option linter.unusedVariables false

/-- A commit's frame, none of one that may not be. -/
def frd (e n : Int) (l : List Bm.Ov) : List Int := if Cm.chk e n l = 0 then Wl.fr ⟨e, n, l⟩ else []

set_option maxRecDepth 20000 in
set_option maxHeartbeats 1000000 in
theorem framed_any (e n : Int) (v : Value) (l : List Bm.Ov) (w : World) (h : IsO w v l) (hf : FitO l) (hl : l.length ≤ 140737488355328) :
    Calls Tryz.prog 68 #[cmv e n v] w fun E w' => ∃ vb, E = .returned (.tuple #[vb, .int .i64 (Cm.chk e n l)]) ∧ Own .u8 5 w.heap.size w' vb (frd e n l) ∧ Below w.heap.size w w' := by
  obtain ⟨ao, cap, hv, _, _⟩ := h.shape
  obtain ⟨w1, hw1, sz1, bel1, hB⟩ := blk_step w #[.int .i64 e, .int .i64 n, v] 37
  have c0 : w1.cell? ⟨w.heap.size, 0, none⟩ = some (.int .i64 e) := blk_cell hB 0 rfl
  have c1 : w1.cell? ⟨w.heap.size, 1, none⟩ = some (.int .i64 n) := blk_cell hB 1 rfl
  have c2 : w1.cell? ⟨w.heap.size, 2, none⟩ = some v := blk_cell hB 2 rfl
  have HC := hide (cenc_any e n v l w1 (h.below bel1) hf hl)
  unfold cmv at HC ⊢
  rw [hv] at hw1 c2 HC ⊢
  obtain ⟨ch, hch⟩ : ∃ c, Cm.chk e n l = c := ⟨_, rfl⟩
  have KC := hide hch
  rw [hch] at HC ⊢
  clear h hf hl hB hv hch
  go_enter Tryz.func68, Tryz.ntmps68
  go_wp2_with fail
  refine HC.out.mono ?_
  rintro E w2 ⟨vb, rfl, own, bel2⟩
  have bel02 := bel1.trans (bel2.mono bel1.size)
  obtain ⟨ab, cb, hvb, _, _⟩ := own.is.shape
  by_cases hc0 : ch = 0
  · have hz : (Cm.out e n l).length ≤ 430 := Cm.out_small e n l
    have HF := hide (fapp_any (.slice none 0 0) vb [] (Cm.out e n l) w2 (Is.nil _ _) own.is (by simp) (by omega))
    have ea : ape (Cm.out e n l) = 0 := by unfold ape; rw [if_pos (by omega)]
    have ed : apd [] (Cm.out e n l) = frd e n l := by
      unfold apd frd
      rw [if_pos (by omega), if_pos (by rw [KC.out]; exact hc0), Cm.out_ok (by rw [KC.out]; exact hc0)]
      rfl
    rw [ea, ed] at HF
    subst hvb
    subst hc0
    clear own bel1 bel2 ea ed hz HC
    go_wp2_with fail
    refine HF.out.mono ?_
    rintro E w3 ⟨vf, rfl, own3, bel3⟩
    obtain ⟨af, cf, hvf, _, _⟩ := own3.is.shape
    have O3 := hide (own3.rebase (base' := w.heap.size) bel02.size)
    have B3 := hide (bel02.trans (bel3.mono bel02.size))
    subst hvf
    clear own3 bel3 bel02 HF
    go_wp2
    go_ret2
    exact ⟨_, rfl, O3.out, B3.out⟩
  · have ed : frd e n l = [] := by unfold frd; rw [if_neg (by rw [KC.out]; exact hc0)]
    have ED := hide ed
    have hne : (ch != 0) = true := by simp [hc0]
    subst hvb
    clear own bel1 bel2 ed HC
    go_wp2
    go_ret2
    exact ⟨_, rfl, by rw [ED.out]; exact Own.nil _ _ _ _, bel02⟩

/-- The flag is written. -/
theorem WkV.put {p q : Nat} {w : World} {l : List Cm.Cv} {bk : Bool} {vc ve : Value} {rs : List Cw} (h : WkV p q w l bk vc ve rs) (b : Bool) : WkV p q (w.setCell ⟨p, 1, none⟩ (.bool b)) l b vc ve rs ∧ Out (fun g => g = p) w (w.setCell ⟨p, 1, none⟩ (.bool b)) := by
  have ho : Out (fun g => g = p) w (w.setCell ⟨p, 1, none⟩ (.bool b)) := Out.of_grown (grown_setCell w ⟨p, 1, none⟩ (.bool b)) fun g hg => by simp at hg; exact hg.symm
  refine ⟨⟨by rw [set_cells h.blk]; rfl, h.log.agree fun g hg => ho.block g (h.log.lt g hg) fun e => ?_⟩, ho⟩
  exact h.log.r.ne h.blk (by decide) (by decide) (by decide) (e ▸ hg)

theorem WW.flag {p q : Nat} {F : Nat → Prop} {w : World} {s : Wl.Ws} (h : WW p q F w s) (b : Bool) : WStep p q F w (w.setCell ⟨p, 1, none⟩ (.bool b)) ⟨s.d, s.l, b⟩ := by
  obtain ⟨F1, G1, h1, h2, rfl⟩ := h
  obtain ⟨vc, ve, rs, hv, rfl⟩ := h2
  obtain ⟨k1, k2⟩ := hv.put b
  have h2 : Wk p q (fun g => g = p ∨ LB vc ve rs g) w s.l s.bk := ⟨vc, ve, rs, hv, rfl⟩
  refine ⟨_, ⟨F1, _, h1.out k2 fun g hg e => wk_pk h2 h1 g (.inl e) hg, ⟨vc, ve, rs, k1, rfl⟩, rfl⟩, k2.mono fun g hg => .inl (.inr (.inl hg)), fun g hg => .inl hg⟩

set_option maxHeartbeats 1000000 in
theorem wrefuses_any (p q : Nat) (F : Nat → Prop) (w : World) (s : Wl.Ws) (h : WW p q F w s) :
    Calls Tryz.prog 67 #[.pointer (some ⟨p, 0, none⟩)] w fun E w' => (Wl.ask s = true ∧ E = .returned (.int .i64 6) ∧ WStep p q F w w' (Wl.brk s)) ∨ (Wl.ask s = false ∧ E = .returned (.int .i64 0) ∧ w = w') := by
  have HF := hide (h.flag true)
  obtain ⟨F1, G1, h1, h2, rfl⟩ := h
  obtain ⟨vc, ve, rs, hv, rfl⟩ := h2
  have HM := hide (made2_any p q w #[] _ _ _ hv.blk)
  have HO := hide (on_any q F1 w s.d h1)
  have c0 := blk_cell hv.blk 0 rfl
  have c1 := blk_cell hv.blk 1 rfl
  have f1 := blk_froz hv.blk 1
  simp only [List.getElem_toArray, List.getElem_cons_zero, List.getElem_cons_succ] at c0 c1
  unfold Wl.ask
  generalize s.d.on = on at HO ⊢
  generalize s.bk = bk at c1 ⊢
  clear hv h1
  cases bk <;> cases on
  · go_enter Tryz.func67, Tryz.ntmps67
    go_wp2_with fail
    refine HM.out.mono ?_
    rintro E w1 ⟨rfl, rfl⟩
    go_wp2_with fail
    refine HO.out.mono ?_
    rintro E w1 ⟨rfl, rfl⟩
    go_wp2
    go_ret
    exact .inl ⟨rfl, rfl, HF.out⟩
  · go_enter Tryz.func67, Tryz.ntmps67
    go_wp2_with fail
    refine HM.out.mono ?_
    rintro E w1 ⟨rfl, rfl⟩
    go_wp2_with fail
    refine HO.out.mono ?_
    rintro E w1 ⟨rfl, rfl⟩
    go_wp2
    go_ret
    exact .inr ⟨rfl, rfl, rfl⟩
  · go_enter Tryz.func67, Tryz.ntmps67
    go_wp2_with fail
    refine HM.out.mono ?_
    rintro E w1 ⟨rfl, rfl⟩
    go_wp2
    go_ret
    exact .inl ⟨rfl, rfl, HF.out⟩
  · go_enter Tryz.func67, Tryz.ntmps67
    go_wp2_with fail
    refine HM.out.mono ?_
    rintro E w1 ⟨rfl, rfl⟩
    go_wp2
    go_ret
    exact .inl ⟨rfl, rfl, HF.out⟩

theorem wheed_any (p q : Nat) (F : Nat → Prop) (w : World) (s : Wl.Ws) (e : Int) (h : WW p q F w s) :
    Calls Tryz.prog 70 #[.pointer (some ⟨p, 0, none⟩), .int .i64 e] w fun E w' => E = .returned (.int .i64 e) ∧ WStep p q F w w' ⟨s.d, s.l, e == 6⟩ := by
  have HF := hide (h.flag (e == 6))
  obtain ⟨F1, G1, h1, h2, rfl⟩ := h
  obtain ⟨vc, ve, rs, hv, rfl⟩ := h2
  have c1 := blk_cell hv.blk 1 rfl
  have f1 := blk_froz hv.blk 1
  simp only [List.getElem_toArray, List.getElem_cons_zero, List.getElem_cons_succ] at c1
  clear hv h1
  go_enter Tryz.func70, Tryz.ntmps70
  go_wp2
  go_ret
  exact ⟨rfl, HF.out⟩

theorem wend_any (p q : Nat) (F : Nat → Prop) (w : World) (s : Wl.Ws) (h : WW p q F w s) :
    Calls Tryz.prog 21 #[.pointer (some ⟨p, 0, none⟩)] w fun E w' => E = .returned (.int .i64 s.l.length) ∧ w = w' := by
  obtain ⟨F1, G1, h1, h2, rfl⟩ := h
  obtain ⟨vc, ve, rs, hv, rfl⟩ := h2
  have HM := hide (made2_any p q w #[] _ _ _ hv.blk)
  have HE := hide (lend_any p 2 w vc rs (blk_cell hv.blk 2 rfl) hv.log.r.row.row)
  rw [hv.log.len] at HE
  clear hv h1
  go_enter Tryz.func21, Tryz.ntmps21
  go_wp2_with fail
  refine HM.out.mono ?_
  rintro E w1 ⟨rfl, rfl⟩
  go_wp2_with fail
  refine HE.out.mono ?_
  rintro E w1 ⟨rfl, rfl⟩
  go_wp2
  go_ret
  exact ⟨rfl, rfl⟩

theorem wepoch_any (p q : Nat) (F : Nat → Prop) (w : World) (s : Wl.Ws) (h : WW p q F w s) :
    Calls Tryz.prog 22 #[.pointer (some ⟨p, 0, none⟩)] w fun E w' => E = .returned (.int .i64 (Cm.lastE 0 s.l)) ∧ ∃ m, w' = w.drewN m := by
  obtain ⟨F1, G1, h1, h2, rfl⟩ := h
  obtain ⟨vc, ve, rs, hv, rfl⟩ := h2
  have HM := hide (made2_any p q w #[] _ _ _ hv.blk)
  have hgl := good_len hv.log.good
  have HE := hide (lepoch_any p 2 w vc rs (blk_cell hv.blk 2 rfl) hv.log.r.row.row (by rw [hv.log.len]; exact hgl))
  rw [hv.log.is] at HE
  clear hv h1
  go_enter Tryz.func22, Tryz.ntmps22
  go_wp2_with fail
  refine HM.out.mono ?_
  rintro E w1 ⟨rfl, rfl⟩
  go_wp2_with fail
  refine HE.out.mono ?_
  rintro E w1 ⟨rfl, m, rfl⟩
  go_wp2
  go_ret
  exact ⟨rfl, m, rfl⟩

set_option maxHeartbeats 1000000 in
theorem wlength_v (p q : Nat) (w : World) (l : List Cm.Cv) (bk : Bool) (vc ve : Value) (rs : List Cw) (hv : WkV p q w l bk vc ve rs) :
    Calls Tryz.prog 18 #[.pointer (some ⟨p, 0, none⟩)] w fun E w' => E = .returned (.int .i64 (Wl.lgb l).length) ∧ ∃ m, w' = w.drewN m := by
  have HM := hide (made2_any p q w #[] _ _ _ hv.blk)
  have hgl := good_len hv.log.good
  have HE : Hid (∀ n, Calls Tryz.prog 59 #[.pointer (some ⟨p, 2, none⟩)] (w.drewN n) fun E w' => E = .returned (.int .i64 l.length) ∧ ∃ m, w' = (w.drewN n).drewN m) := hide fun n => by
    have := lend_any p 2 (w.drewN n) vc rs (blk_cell hv.blk 2 rfl) (hv.log.r.row.row.below (below_drewN (Below.refl _ _) n))
    rw [hv.log.len] at this
    exact this.mono fun E w' h => ⟨h.1, 0, by rw [← h.2]; rfl⟩
  have HP : Hid (∀ n, Calls Tryz.prog 73 #[.pointer (some ⟨p, 2, none⟩), .int .i64 l.length] (w.drewN n) fun E w' => E = .returned (.int .i64 (Wl.lgb l).length) ∧ ∃ m, w' = (w.drewN n).drewN m) := hide fun n => by
    have := lplace_any p 2 (w.drewN n) ve l l.length (Nat.le_refl _) hgl (blk_cell hv.blk 3 rfl) (hv.log.r.en.is.drewN n)
    rw [List.take_length] at this
    exact this.mono fun E w' h => ⟨h.1, 0, by rw [← h.2]; rfl⟩
  clear hv
  go_enter Tryz.func18, Tryz.ntmps18
  go_wp2_with fail
  refine HM.out.mono ?_
  rintro E w1 ⟨rfl, rfl⟩
  go_wp2
  go_quiet (first | (go_at_call 59; refine Calls.quiet_of (HE.out _)) | (go_at_call 73; refine Calls.quiet_of (HP.out _)))
  go_wp2
  go_ret
  exact ⟨rfl, _, rfl⟩

theorem wlength_any (p q : Nat) (F : Nat → Prop) (w : World) (s : Wl.Ws) (h : WW p q F w s) :
    Calls Tryz.prog 18 #[.pointer (some ⟨p, 0, none⟩)] w fun E w' => E = .returned (.int .i64 (Wl.lgb s.l).length) ∧ ∃ m, w' = w.drewN m := by
  obtain ⟨F1, G1, h1, h2, rfl⟩ := h
  obtain ⟨vc, ve, rs, hv, rfl⟩ := h2
  exact wlength_v p q w s.l s.bk vc ve rs hv

end Go.Proofs.YtmkpaedemjiboaaGreat

/- slices.Delete of a row's end, and slices.Clone, of commits; the program's log is cut. -/
namespace Go.Proofs.YtmkpaedemjiboaaGreat
open Go.RowKit
set_option linter.unusedVariables false

theorem Tryz.zeroC (wx : World) : (zeroValue 37).run Tryz.prog wx = .ok (.agg #[.int .i64 0, .int .i64 0, .slice none 0 0]) wx := by kernel_rfl

theorem Tryz.elemI : Tryz.prog.underlying 82 = some (.slice (Tryz.prog.elem 82)) := by kernel_rfl
theorem Tryz.sizeI (wx : World) : (sizeOf (Tryz.prog.elem 82)).run Tryz.prog wx = .ok 1 wx := by kernel_rfl

set_option maxRecDepth 20000 in
set_option maxHeartbeats 4000000 in
theorem delC_any (w : World) (base : Nat) (v : Value) (rs : List Cw) (k : Nat) (hrow : OwnR 37 base w v rs) (hk : k ≤ rs.length) (hlen : rs.length ≤ 1048576) :
    Calls Tryz.prog 128 #[v, .int .i64 k, .int .i64 rs.length] w fun E w' => ∃ v', E = .returned v' ∧ OwnR 37 base w' v' (rs.take k) ∧ Out (fun g => v.ownBlock = some g) w w' ∧ v'.ownBlock = v.ownBlock := by
  by_cases h0 : k = rs.length
  · obtain ⟨ao, cap, hv, hcap, hcm⟩ := hrow.row.shape
    have R := hide (show OwnR 37 base w v (rs.take k) by rw [h0, List.take_length]; exact hrow)
    subst hv
    rw [h0] at R ⊢
    clear hrow h0 hk
    go_enter Tryz.func128, Tryz.ntmps128
    go_wp2
    all_goals (go_ret; exact ⟨_, rfl, R.out, Out.refl _ _, rfl⟩)
  · obtain ⟨L, hL⟩ : ∃ L, L = rs.length := ⟨_, rfl⟩
    have hkL : k < L := by omega
    obtain ⟨g, cap, hv, hcap, hcm, hcell, hfroz⟩ : ∃ g cap, v = .slice (some ⟨g, 0, none⟩) L cap ∧ L ≤ cap ∧ cap ≤ maxLen ∧ (∀ j, j < cap * 3 → (w.cell? ⟨g, j, none⟩).isSome = true) ∧ ∀ j, w.frozen? ⟨g, j, none⟩ = false := by
      rcases hrow.2 with ⟨_, h⟩ | ⟨g, cap, cur, hv, _, hg, hc, hm', hs, _⟩
      · omega
      · refine ⟨g, cap, by rw [hL]; exact hv, by rw [hL]; exact hc, hm', fun j hj => ?_, fun j => blk_froz hg j⟩
        rw [blk_cell hg j (Array.getElem?_eq_getElem (by omega : j < cur.size))]
        rfl
    have hrow0 := hrow
    unfold OwnR at hrow0
    rw [hv, ← hL] at hrow0
    have own1 : w.ownsRow base 37 3 (.slice (some ⟨g, 0, none⟩) k cap) k (ccells (rs.take k)) := by
      rw [ccells_take]
      exact own_cut hrow0 k (by omega)
    obtain ⟨i, hi, hz, hsize, hby⟩ := info_parts Tryz.info37
    obtain ⟨ad, cx, hs3⟩ : ∃ ad c, ∀ wx, (Instr.slice 41 v (some (.int .i64 L)) none none).run Tryz.prog wx = .ok (.slice (some ad) 0 c) wx := by
      by_cases hc : cap = L
      · refine ⟨⟨g, 0, none⟩, 0, fun wx => ?_⟩
        rw [hv, run_slice_l wx 41 (some ⟨g, 0, none⟩) L cap Tryz.elemC .i64 _ (by omega) (by omega), Tryz.sizeC]
        simp [Result.andThen, sliced, hc]
      · refine ⟨⟨g, L * 3, none⟩, cap - L, fun wx => ?_⟩
        rw [hv, run_slice_l wx 41 (some ⟨g, 0, none⟩) L cap Tryz.elemC .i64 _ (by omega) (by omega), Tryz.sizeC]
        simp [Result.andThen, sliced, hc, add_at]
    have hrun : ∃ w1, (∀ ty, (Builtin.append_ #[41, 41] ty #[.slice (some ⟨g, 0, none⟩) k cap, .slice (some ad) 0 cx]).run Tryz.prog w.drew = .ok (.slice (some ⟨g, 0, none⟩) k cap) w1) ∧ w1.ownsRow base 37 3 (.slice (some ⟨g, 0, none⟩) k cap) k (ccells (rs.take k)) ∧ w.drew.grownBy w1 (some g) := by
      have key := fun ty => run_append_fits (P := Tryz.prog) w.drew base 41 ty 37 i 3 Tryz.underlying41 hi hsize g k cap (ccells (rs.take k)) own1 ad 0 cx [] (by simp) (by simp) (by simp) (by omega)
      obtain ⟨w1, h1, h2, h3⟩ := key 0
      exact ⟨w1, fun ty => h1, by simpa using h2, h3⟩
    obtain ⟨w1, hrun, own2, gr1⟩ := hrun
    obtain ⟨cur1, hg1, hs1⟩ : ∃ cur, w1.heap[g]? = some (.cells cur 37 (0, 0)) ∧ cur.size = cap * 3 := by
      rcases own2.2 with ⟨h, _⟩ | ⟨g', cap', cur, h, _, hg, _, _, hs, _⟩
      · simp at h
      · simp only [Value.slice.injEq, Option.some.injEq, Addr.mk.injEq, and_true, true_and] at h
        obtain ⟨rfl, rfl⟩ := h
        exact ⟨cur, hg, hs⟩
    obtain ⟨m, hm⟩ : ∃ m, m = L - k := ⟨_, rfl⟩
    have hzl : (Builtin.zeroCells (Value.agg #[.int .i64 0, .int .i64 0, .slice none 0 0]).cells m).toList.length = m * 3 := by rw [zeroCells_len]; rfl
    obtain ⟨w2, hw2⟩ : ∃ w2, w2 = w1.setCells g (k * 3) (Builtin.zeroCells (Value.agg #[.int .i64 0, .int .i64 0, .slice none 0 0]).cells m).toList := ⟨_, rfl⟩
    have hcl : ∀ ty, (Builtin.clear_ #[41] ty #[.slice (some ⟨g, k * 3, none⟩) m (cap - k)]).run Tryz.prog w1 = .ok (.tuple #[]) w2 := fun ty => by
      rw [hw2]
      exact run_clear_rows w1 _ _ ty _ Tryz.underlying41 Tryz.zeroC (zeroCells_one m (by decide)) g (k * 3) (cap - k) (by omega) (fun j hj => by rw [hzl] at hj; rw [blk_cell hg1 _ (Array.getElem?_eq_getElem (by omega : k * 3 + j < cur1.size))]; rfl) (fun j _ => blk_froz hg1 _)
    have htl : (rs.take k).length = k := by rw [List.length_take]; omega
    have R : Hid (OwnR 37 base w2 (.slice (some ⟨g, 0, none⟩) k cap) (rs.take k)) := hide (by
      unfold OwnR
      rw [htl, hw2]
      exact own_setCells own2 _ (Nat.le_refl _) _)
    have O : Hid (Out (fun b => (Value.slice (some ⟨g, 0, none⟩) L cap).ownBlock = some b) w w2) := hide (by
      rw [hw2]
      exact Out.of_grown (grown_trans (grown_trans (grown_drewN w 1 _) gr1) (setCells_grown g _ (k * 3) w1)) fun b hb => hb)
    obtain ⟨x1, hsA⟩ : ∃ x, ∀ wx, (Instr.slice 41 v (some (.int .i64 k)) (some (.int .i64 L)) (some (.int .i64 L))).run Tryz.prog wx = .ok x wx := by
      refine ⟨sliced (some ⟨g, 0, none⟩) k L L 3, fun wx => ?_⟩
      rw [hv, run_slice_lhm wx 41 (some ⟨g, 0, none⟩) L cap Tryz.elemC .i64 .i64 .i64 _ _ _ (by omega) (by omega) (by omega) (by omega), Tryz.sizeC]
      simp [Result.andThen]
    have hs2 : ∀ wx, (Instr.slice 41 v none (some (.int .i64 k)) none).run Tryz.prog wx = .ok (.slice (some ⟨g, 0, none⟩) k cap) wx := fun wx => by
      rw [hv, run_slice_h wx 41 (some ⟨g, 0, none⟩) L cap Tryz.elemC .i64 _ (by omega) (by omega), Tryz.sizeC]
      simp [Result.andThen, sliced, Addr.add]
    have hlr : ∀ ty wx, (Builtin.len_ #[41] ty #[v]).run Tryz.prog wx = .ok (.int .i64 L) wx := fun ty wx => by
      rw [hv]
      simp [Builtin.len_, run_underlying Tryz.underlying41, goInt]
    have hob : v.ownBlock = some g := by rw [hv]; rfl
    rw [← hv] at O
    rw [← hL]
    have hmc : ¬ cap = k := by omega
    have hmL : (k : Int) ≤ L := by omega
    have hLc : (L : Int) ≤ cap := by omega
    rw [hm] at hcl
    have hne : ((k : Int) == (L : Int)) = false := by simp; omega
    have HB := hide hob
    have HR := hide hrun
    clear hrun hw2 hzl hg1 hs1 own1 own2 gr1 hrow0 hcell hfroz hrow hi hz hsize hby hL hm hv h0 hk hlen hcap hcm hob htl hkL
    go_enter Tryz.func128, Tryz.ntmps128
    go_wp2
    go_region_law (refine step_append_at rfl (.tmp 22) (.tmp 25) 41 rfl (.slice (some ⟨g, 0, none⟩) k cap) (.slice (some ad) 0 cx) (by first | rfl | (simp [Act.eval]; done)) (by first | rfl | (simp [Act.eval]; done)) (R := fun v' w' => v' = .slice (some ⟨g, 0, none⟩) k cap ∧ w' = w1) (fun ty => ⟨_, _, HR.out ty, rfl, rfl⟩) ?_; rintro _ _ ⟨rfl, rfl⟩)
    all_goals (go_wp2; go_ret; exact ⟨_, rfl, R.out, O.out, HB.out.symm⟩)

theorem cloneC_any (vl : Value) (r : List Cw) (w : World) (h : RowC w vl r) (hone : ∀ c ∈ r, c.v.oneCell' = true) (hl : r.length ≤ 1048576) :
    Calls Tryz.prog 60 #[vl] w fun e w' => ∃ v, e = .returned v ∧ OwnR 37 w.heap.size w' v r ∧ Below w.heap.size w w' := by
  have q : ∀ (w : World) (a : Option Addr) (n c n' c' : Nat), (binOp .eql 41 (.slice a n c) (.slice none n' c')).run Tryz.prog w = .ok (.bool a.isNone) w := fun w a n c n' c' => Lib.run_eql_slice_nil w _ _ a n c n' c' Tryz.underlying41
  by_cases hn : vl = .slice none 0 0
  · subst hn
    have : r = [] := by
      rcases h with ⟨_, h⟩ | ⟨ad, cap, h, _⟩
      · exact h
      · simp at h
    subst this
    clear h hl
    go_enter Tryz.func60, Tryz.ntmps60
    go_wp2
    go_ret
    exact ⟨_, rfl, OwnR.nil _ _ _, Below.refl _ _⟩
  · obtain ⟨ad, cap, rfl⟩ : ∃ ad cap, vl = .slice (some ad) r.length cap := by
      rcases h with ⟨h, _⟩ | ⟨ad, cap, h, _⟩
      · exact absurd h hn
      · exact ⟨ad, cap, h⟩
    clear hn
    obtain ⟨w1, hw1, sz1, bel1, own1⟩ := coms_step 37 w #[] 0 [] rfl rfl (by simp [maxLen])
    have h1 := h.below bel1
    go_enter Tryz.func60, Tryz.ntmps60
    go_wp2_with (at_builtin; refine wpList_append_coms rfl (.tmp 5) (.tmp 6) 41 rfl 37 w.heap.size Tryz.underlying41 Tryz.info37 _ [] rfl own1 _ r rfl h1 hone (by simp; omega) (by omega) ?_)
    intro v2 w2 own2 bel2 _
    go_wp2
    go_ret
    exact ⟨_, rfl, by simpa using own2, bel1.trans bel2⟩

/-- The first commits are left. -/
theorem Lw.cut {base : Nat} {w : World} {l : List Cm.Cv} {vc ve : Value} {rs : List Cw} (h : Lw base w l vc ve rs) (k : Nat) (hk : k ≤ l.length) {b o : Nat} {t : TypeId} {cs : Array Value} (hB : w.heap[b]? = some (.cells cs t (0, 0))) (h1 : t ≠ 37) (h2 : t ≠ 3) (h3 : t ≠ 71)
    {w' : World} {v' : Value} (hr : OwnR 37 base w' v' (rs.take k)) (ho : Out (fun g => vc.ownBlock = some g) w w') (hb : v'.ownBlock = vc.ownBlock) :
    w'.heap[b]? = some (.cells cs t (0, 0)) ∧ ∃ vs, (∀ wx, (Instr.slice 82 ve none (some (.int .i64 k)) none).run Tryz.prog wx = .ok vs wx) ∧
      (∀ U, U.heap[b]? = some (.cells ((cs.setIfInBounds o v').setIfInBounds (o + 1) vs) t (0, 0)) → Out (fun g => g = b) w' U → Lw base U (l.take k) v' vs (rs.take k) ∧ (∀ g, LB v' vs (rs.take k) g → LB vc ve rs g) ∧ Out (fun g => g = b ∨ LB vc ve rs g) w U) := by
  have hne := h.r.ne hB h1 h2 h3
  have hB' : w'.heap[b]? = some (.cells cs t (0, 0)) := (ho.block b (blk_lt hB) fun e => hne (.inl e)).trans hB
  have en' : Own .i64 3 base w' ve (ends l) := h.r.en.agree fun g hg => ho.block g (h.r.en.block g hg).2 fun e => by
    obtain ⟨c1, e1⟩ := h.r.en.type hg
    obtain ⟨c2, e2⟩ := h.r.row.type e
    rw [e1] at e2
    simp only [Option.some.injEq, Obj.cells.injEq] at e2
    exact absurd e2.2.1 (by decide)
  obtain ⟨vs, hvs, own, hvb⟩ := en'.slice_h Tryz.elemI Tryz.sizeI k (by rw [ends_len]; exact hk)
  refine ⟨hB', vs, hvs, fun U hU oU => ⟨⟨⟨?_, ?_, ?_⟩, ?_, Cm.good_take h.good k⟩, ?_, ?_⟩⟩
  · refine row_agree hr fun g hg => oU.block g (World.ownsRow.lt hr g hg).2 fun e => hne (.inl ?_)
    rw [← e, ← hb]
    exact hg
  · intro c hc
    have hc' := h.r.cop c (List.mem_of_mem_take hc)
    have := ho.trans oU (G := fun g => g = b) (F := fun g => vc.ownBlock = some g)
    have s1 : OwnO 71 base w' c.v c.l := row_agree hc' fun g hg => ho.block g (OwnO.block hc' g hg).2 fun e => by
      obtain ⟨c1, e1⟩ := hc'.type hg
      obtain ⟨c2, e2⟩ := h.r.row.type e
      rw [e1] at e2
      simp only [Option.some.injEq, Obj.cells.injEq] at e2
      exact absurd e2.2.1 (by decide)
    exact row_agree s1 fun g hg => oU.block g (OwnO.block s1 g hg).2 fun e => hne (.inr (.inr ⟨c, List.mem_of_mem_take hc, e ▸ hg⟩))
  · rw [ends_take l k hk]
    exact own.agree fun g hg => oU.block g (own.block g hg).2 fun e => hne (.inr (.inl (by rw [← e]; exact hvb g hg)))
  · rw [cvs_take, h.is]
  · rintro g (e | e | ⟨c, hc, e⟩)
    · exact .inl (by rw [← hb]; exact e)
    · exact .inr (.inl (hvb g e))
    · exact .inr (.inr ⟨c, List.mem_of_mem_take hc, e⟩)
  · refine (ho.mono (G := fun g => g = b ∨ LB vc ve rs g) fun g hg => .inl (.inr (.inl hg))).trans oU fun g hg => .inl (.inl hg)

end Go.Proofs.YtmkpaedemjiboaaGreat

/- The program's log is cut: the method; wal.trim. -/
namespace Go.Proofs.YtmkpaedemjiboaaGreat
open Go.RowKit
set_option linter.unusedVariables false

theorem Tryz.enters128 : ∀ args w, (callFunc 128 args).run Tryz.prog w = .ok (.enter 128 args) w := enters_of Tryz.func128 (by kernel_rfl) rfl

set_option maxRecDepth 20000 in
set_option maxHeartbeats 4000000 in
theorem ltrim_any (base b o : Nat) (t : TypeId) (cs : Array Value) (w : World) (l : List Cm.Cv) (vc ve : Value) (rs : List Cw) (k : Nat)
    (hB : w.heap[b]? = some (.cells cs t (0, 0))) (ho : cs[o]? = some vc) (ho1 : cs[o + 1]? = some ve) (h1 : t ≠ 37) (h2 : t ≠ 3) (h3 : t ≠ 71) (h : Lw base w l vc ve rs) (hk : k ≤ l.length) :
    Calls Tryz.prog 96 #[.pointer (some ⟨b, o, none⟩), .int .i64 k] w fun E w' => E = .returned (.tuple #[]) ∧
      ∃ vc' ve', w'.heap[b]? = some (.cells ((cs.setIfInBounds o vc').setIfInBounds (o + 1) ve') t (0, 0)) ∧ Lw base w' (l.take k) vc' ve' (rs.take k) ∧ (∀ g, LB vc' ve' (rs.take k) g → LB vc ve rs g) ∧ Out (fun g => g = b ∨ LB vc ve rs g) w w' := by
  have hll := good_len h.good
  have hlen := h.len
  have Ld := h.below ((Below.refl w.heap.size w).drew)
  have HE : Hid (Calls Tryz.prog 59 #[.pointer (some ⟨b, o, none⟩)] w.drew fun E w' => ∃ v, E = .returned v ∧ (v = .int .i64 rs.length ∧ w.drew = w')) := hide ((lend_any b o w.drew vc rs (blk_cell hB o ho) Ld.r.row.row).mono fun E w' h => ⟨_, h.1, rfl, h.2⟩)
  have HD : Hid (Calls Tryz.prog 128 #[vc, .int .i64 k, .int .i64 rs.length] w.drew fun E w1 => ∃ v', E = .returned v' ∧ ((w1.cell? ⟨b, o, none⟩ = some vc ∧ w1.frozen? ⟨b, o, none⟩ = false) ∧ (∃ a n c, v' = .slice a n c) ∧ ∃ U1, w1.setCell ⟨b, o, none⟩ v' = U1 ∧ U1.cell? ⟨b, o + 1, none⟩ = some ve ∧ U1.frozen? ⟨b, o + 1, none⟩ = false ∧ ∃ a2 n2 c2 U2, U1.setCell ⟨b, o + 1, none⟩ (.slice a2 n2 c2) = U2 ∧ (∀ wx, (Instr.slice 82 ve none (some (.int .i64 k)) none).run Tryz.prog wx = .ok (.slice a2 n2 c2) wx) ∧
      (U2.heap[b]? = some (.cells ((cs.setIfInBounds o v').setIfInBounds (o + 1) (.slice a2 n2 c2)) t (0, 0)) ∧ Lw base U2 (l.take k) v' (.slice a2 n2 c2) (rs.take k) ∧ (∀ g, LB v' (.slice a2 n2 c2) (rs.take k) g → LB vc ve rs g) ∧ Out (fun g => g = b ∨ LB vc ve rs g) w U2))) := hide (by
    refine (delC_any w.drew base vc rs k Ld.r.row (by omega) (by omega)).mono ?_
    rintro E w1 ⟨v', rfl, hr, hout, hob⟩
    obtain ⟨hB1, vs, hvs, key⟩ := Ld.cut (o := o) k hk (w' := w1) hB h1 h2 h3 hr hout hob
    obtain ⟨a, c, hv', _⟩ := hr.row.shape
    have hBU : (w1.setCell ⟨b, o, none⟩ v').heap[b]? = some (.cells (cs.setIfInBounds o v') t (0, 0)) := by rw [set_cells hB1]
    have ho1' : (cs.setIfInBounds o v')[o + 1]? = some ve := by rw [cells_other _ _ _ _ (by omega)]; exact ho1
    obtain ⟨a2, n2, c2, hvs2⟩ : ∃ a n c, vs = .slice a n c := by
      obtain ⟨xa, xc, hve, _, _⟩ := h.r.en.is.shape
      have := hvs w
      rw [hve, run_slice_h w 82 xa (ends l).length xc Tryz.elemI .i64 _ (by omega) (by rw [ends_len] at *; omega), Tryz.sizeI] at this
      simp [Result.andThen, sliced] at this
      exact ⟨_, _, _, this.symm⟩
    subst hvs2
    have oU : Out (fun g => g = b) w1 ((w1.setCell ⟨b, o, none⟩ v').setCell ⟨b, o + 1, none⟩ (.slice a2 n2 c2)) := Out.of_grown (grown_trans (grown_setCell w1 ⟨b, o, none⟩ v') (grown_setCell _ ⟨b, o + 1, none⟩ _)) fun g hg => by simp at hg; exact hg.symm
    obtain ⟨k1, k2, k3⟩ := key _ (by rw [set_cells hBU]) oU
    refine ⟨v', rfl, ⟨blk_cell hB1 o ho, blk_froz hB1 o⟩, ⟨a, _, c, hv'⟩, _, rfl, blk_cell hBU (o + 1) ho1', blk_froz hBU (o + 1), a2, n2, c2, _, rfl, hvs, ?_, k1, k2, (Out.of_below (F := fun g => g = b ∨ LB vc ve rs g) ((Below.refl w.heap.size w).drew)).trans k3 fun g hg => .inl hg⟩
    rw [set_cells hBU])
  have c0 := blk_cell hB o ho
  obtain ⟨ca, cc, hvc, _, _⟩ := h.r.row.row.shape
  obtain ⟨ea, ec, hve, _, _⟩ := h.r.en.is.shape
  subst hvc hve
  clear hB ho ho1 h1 h2 h3 h hk hll hlen Ld
  go_enter Tryz.func96, Tryz.ntmps96
  go_wp2_with fail
  go_region_law (first
    | (refine call_at rfl 59 #[.tmp 10] #[121] rfl Tryz.enters59 #[.pointer (some ⟨b, o, none⟩)] (by first | (simp [Act.eval]; done) | (simp [Act.eval, Act.put]; done)) HE.out ?_; rintro _ _ ⟨rfl, rfl⟩)
    | (refine call_at rfl 128 #[.tmp 8, .tmp 9, .tmp 11] #[41, 3, 3] rfl Tryz.enters128 #[.slice ca rs.length cc, .int .i64 k, .int .i64 rs.length] (by first | (simp [Act.eval]; done) | (simp [Act.eval, Act.put]; done)) HD.out ?_; rintro v7 w7 ⟨⟨d7, g7⟩, ⟨a7, n7, k7, rfl⟩, U1, hU1, d8, g8, a2, n2, c2, U2, hU2, hsl, J⟩; have J := hide J))
  all_goals
    go_wp2
    go_end0
    exact ⟨rfl, _, _, J.out⟩

set_option maxHeartbeats 1000000 in
theorem wtrim_any (q : Nat) (F : Nat → Prop) (w : World) (st : Dm.Ds) (len : Int) (h : Pk q F w st) (hs : Big 100000000 800000 st) :
    Calls Tryz.prog 66 #[.pointer (some ⟨q, 0, none⟩), .int .i64 len] w fun E w' => E = .returned (.int .i64 (if (Dm.cutD st 0 len).1 ≠ 0 then (Dm.cutD st 0 len).1 else (Dm.sync (Dm.cutD st 0 len).2).1)) ∧ PStep q F w w' (if (Dm.cutD st 0 len).1 ≠ 0 then (Dm.cutD st 0 len).2 else (Dm.sync (Dm.cutD st 0 len).2).2) := by
  have HC := hide (cut_any q F w st 0 len h (fun f => Nat.le_trans (hs.1.1 f) (by decide)) (Nat.le_trans hs.1.2.1 (by decide)) hs.2 (Nat.lt_of_le_of_lt hs.1.2.2 (by decide)))
  have hs2 := big_cut hs 0 len
  have HS : Hid (∀ W G, Pk q G W (Dm.cutD st 0 len).2 → Calls Tryz.prog 93 #[.pointer (some ⟨q, 0, none⟩)] W fun E w' => E = .returned (.int .i64 (Dm.sync (Dm.cutD st 0 len).2).1) ∧ PStep q G W w' (Dm.sync (Dm.cutD st 0 len).2).2) := hide fun W G hk => sync_any q G W _ hk (fun f => Nat.le_trans (hs2.1.1 f) (by decide)) (Nat.le_trans hs2.1.2.1 (by decide)) hs2.2 (Nat.lt_of_le_of_lt hs2.1.2.2 (by decide))
  generalize Dm.cutD st 0 len = x at *
  obtain ⟨e, st2⟩ := x
  simp only at *
  generalize Dm.sync st2 = y at *
  obtain ⟨f, st3⟩ := y
  simp only at *
  clear h hs hs2
  by_cases he : e = 0
  · subst he
    simp only [ne_eq, not_true, if_false]
    go_enter Tryz.func66, Tryz.ntmps66
    go_wp2_with fail
    refine HC.out.mono ?_
    rintro E w1 ⟨rfl, F1, k1, k2, k3⟩
    have HS1 := hide (HS.out w1 F1 k1)
    have K2 := hide k2
    have K3 := hide k3
    clear k1 k2 k3 HC HS
    go_wp2_with fail
    refine HS1.out.mono ?_
    rintro E w2 ⟨rfl, J⟩
    have J := hide (PStep.trans K2.out K3.out J)
    go_wp2
    go_ret
    exact ⟨rfl, J.out⟩
  · simp only [ne_eq, he, not_false_eq_true, if_true]
    have hne : (e != 0) = true := by simp [he]
    go_enter Tryz.func66, Tryz.ntmps66
    go_wp2_with fail
    refine HC.out.mono ?_
    rintro E w1 ⟨rfl, J⟩
    have J := hide J
    clear HC HS
    go_wp2
    go_ret
    exact ⟨rfl, J.out⟩

end Go.Proofs.YtmkpaedemjiboaaGreat

/- The program's Open, Append, Sync and Cut. -/
namespace Go.Proofs.YtmkpaedemjiboaaGreat
open Go.RowKit
set_option linter.unusedVariables false

/-- What Open answers of a disk. -/
def opE (st : Dm.Ds) (l : List Cm.Cv) : Int := if st.on = false then 6 else (Wl.trm st (Wl.lgb l).length).1
def opD (st : Dm.Ds) (l : List Cm.Cv) : Dm.Ds := if st.on = false then st else (Wl.trm st (Wl.lgb l).length).2

theorem trm_e (st : Dm.Ds) (n : Nat) : (Wl.trm st n).1 = 0 ∨ (Wl.trm st n).1 = 6 := by
  unfold Wl.trm
  split
  · exact .inl rfl
  split
  · exact .inr rfl
  split
  · exact .inr rfl
  · exact .inl rfl

theorem cut_e {st : Dm.Ds} {n : Nat} (ho : st.on = true) (hn : n ≤ (Wl.hld st).length) : (Dm.cutD st 0 n).1 = 0 ∨ (Dm.cutD st 0 n).1 = 6 := by
  unfold Dm.cutD
  rw [if_neg (by simp [ho]), if_neg (by decide), if_neg ?_]
  · split
    · exact .inr rfl
    · exact .inl rfl
  · unfold Wl.hld at hn
    simp
    omega

theorem sync_e (st : Dm.Ds) : (Dm.sync st).1 = 0 ∨ (Dm.sync st).1 = 6 := by
  unfold Dm.sync
  split
  · exact .inr rfl
  split
  · exact .inr rfl
  · exact .inl rfl

theorem wrt_e : ∀ (n : Nat) (st : Dm.Ds) (bs : List Int), (Dm.wrt 0 n st bs).1 = 0 ∨ (Dm.wrt 0 n st bs).1 = 6
  | 0, _, _ => .inl rfl
  | n + 1, st, bs => by
    unfold Dm.wrt
    split
    · exact .inl rfl
    split
    · exact .inr rfl
    · exact wrt_e n _ _

theorem write_e {st : Dm.Ds} (bs : List Int) : (Dm.write st 0 bs).1 = 0 ∨ (Dm.write st 0 bs).1 = 6 := by
  unfold Dm.write
  split
  · exact .inr rfl
  rw [if_neg (by decide)]
  exact wrt_e _ _ _

/-- Trim, as the program goes about it. -/
theorem trm_go {st : Dm.Ds} {n : Nat} (ho : st.on = true) (hn : n ≤ (Wl.hld st).length) (hne : (Wl.hld st).length ≠ n) :
    (if (Dm.cutD st 0 n).1 ≠ 0 then (Dm.cutD st 0 n).1 else (Dm.sync (Dm.cutD st 0 n).2).1) = (Wl.trm st n).1 ∧ (if (Dm.cutD st 0 n).1 ≠ 0 then (Dm.cutD st 0 n).2 else (Dm.sync (Dm.cutD st 0 n).2).2) = (Wl.trm st n).2 := by
  unfold Wl.trm
  rw [if_neg hne]
  rcases cut_e ho hn with e | e
  · rw [e]
    simp only [ne_eq, not_true, if_false]
    rcases sync_e (Dm.cutD st 0 n).2 with f | f
    · rw [f]; simp
    · rw [f]; simp
  · rw [e]
    simp

theorem hld_len {st : Dm.Ds} {t u : Nat} (h : Big t u st) : (Wl.hld st).length ≤ t := by
  unfold Wl.hld
  exact Nat.le_trans (Dm.hold_len st.wait (st.sure 0) 0) (h.1.1 0)

theorem rdB_hld {st : Dm.Ds} (ho : st.on = true) : rdB st 0 = Wl.hld st ∧ rdE st 0 = 0 := by
  unfold rdB rdE
  rw [if_neg (by simp [ho]), if_neg (by decide), if_neg (by simp [ho]), if_neg (by decide)]
  exact ⟨rfl, rfl⟩

theorem Out.flip {F : Nat → Prop} {w w1 w2 : World} (h : Out F w1 w2) (hb : Below w.heap.size w w1) : Out F w w2 := (Out.of_below (F := F) hb).trans h fun g hg => .inl hg

set_option maxRecDepth 20000 in
set_option maxHeartbeats 2000000 in
theorem wopen_any (q : Nat) (F : Nat → Prop) (w : World) (st : Dm.Ds) (h : Pk q F w st) (hs : Big 100000000 800000 st) :
    Calls Tryz.prog 15 #[.pointer (some ⟨q, 0, none⟩)] w fun E w' => ∃ l, Hid (Wl.Lg 0 0 (Wl.hld st) l) ∧ PStep q F w w' (opD st l) ∧
      ((opE st l ≠ 0 ∧ E = .returned (.tuple #[.pointer none, .int .i64 (opE st l)])) ∨ (opE st l = 0 ∧ ∃ p G, E = .returned (.tuple #[.pointer (some ⟨p, 0, none⟩), .int .i64 0]) ∧ Wk p q G w' l false ∧ ∀ g, G g → w.heap.size ≤ g)) := by
  have HR := hide (dread_any q F w st 0 h (fun f => Nat.le_trans (hs.1.1 f) (by decide)) (Nat.le_trans hs.1.2.1 (by decide)))
  have HK := hide h
  have HS := hide hs
  cases hon : st.on with
  | false =>
    obtain ⟨l, hl⟩ := Wl.lg_is 0 0 (Wl.hld st)
    have e1 : opE st l = 6 := by unfold opE; rw [if_pos hon]
    have e2 : opD st l = st := by unfold opD; rw [if_pos hon]
    have E1 := hide e1
    have E2 := hide e2
    have HL := hide hl
    have er : rdE st 0 = 6 := by unfold rdE; rw [if_pos hon]
    rw [er] at HR
    clear h hs hon e1 e2 hl er
    go_enter Tryz.func15, Tryz.ntmps15
    go_wp2_with fail
    refine HR.out.mono ?_
    rintro E w1 ⟨v, rfl, own, bel⟩
    obtain ⟨a, c, hv, _, _⟩ := own.is.shape
    subst hv
    have PS := hide (PStep.same HK.out bel)
    clear own bel HR
    go_wp2
    go_ret2
    exact ⟨l, HL, by rw [E2.out]; exact PS.out, .inl ⟨by rw [E1.out]; decide, by rw [E1.out]; rfl⟩⟩
  | true =>
    obtain ⟨er, ee⟩ := rdB_hld hon
    rw [er, ee] at HR
    have hlen := hld_len hs
    have HO := hide hon
    clear h hs er ee
    go_enter Tryz.func15, Tryz.ntmps15
    go_wp2_with fail
    refine HR.out.mono ?_
    rintro E w1 ⟨v, rfl, own, bel⟩
    have HW := hide (wread_any v (Wl.hld st) w1 own.is (by omega))
    obtain ⟨a, c, hv, _, _⟩ := own.is.shape
    have K1 := hide (HK.out.below bel)
    subst hv
    have sz1 := bel.size
    clear own HR
    go_wp2_with fail
    refine HW.out.mono ?_
    rintro E w2 ⟨l, vc, ve, rs, rfl, L2, ap, bel2, LG⟩
    obtain ⟨W, hW, szW, belW, bW⟩ := blk_step w2 #[.pointer (some ⟨q, 0, none⟩), .bool false, vc, ve] 86
    have sz2 := bel2.size
    have hv : WkV w2.heap.size q W l false vc ve rs := ⟨bW, (L2.below belW).rebase (Nat.zero_le _)⟩
    have ge : ∀ g, (g = w2.heap.size ∨ LB vc ve rs g) → w.heap.size ≤ g := by
      rintro g (e | e)
      · omega
      · have := L2.ge g e
        omega
    have b0W : Below w.heap.size w W := (bel.trans (bel2.mono bel.size)).trans (belW.mono (by omega))
    have HLen := hide (wlength_v w2.heap.size q W l false vc ve rs hv)
    have hle : (Wl.lgb l).length ≤ (Wl.hld st).length := LG.out.2.1.length_le
    obtain ⟨x1, y1, hvc, _, _⟩ := hv.log.r.row.row.shape
    obtain ⟨x2, y2, hve, _, _⟩ := hv.log.r.en.is.shape
    have HV := hide hv
    have GE := hide ge
    subst hvc hve
    clear L2 ap bel2 belW bW hv ge HW
    obtain ⟨z, hz⟩ : ∃ z, (Wl.lgb l).length = z := ⟨_, rfl⟩
    rw [hz] at HLen hle
    have HZ := hide hz
    clear hz
    go_wp2_with fail
    refine HLen.out.mono ?_
    rintro E w3 ⟨rfl, m, rfl⟩
    have b03 := below_drewN b0W m
    have K3 := hide (HK.out.below b03)
    have W3 : Hid (Wk w2.heap.size q (fun g => g = w2.heap.size ∨ LB _ _ rs g) (W.drewN m) l false) := hide (Wk.below ⟨_, _, rs, HV.out, rfl⟩ (below_drewN (Below.refl _ _) m))
    by_cases hq : (Wl.hld st).length = z
    · have e1 : opE st l = 0 := by unfold opE Wl.trm; rw [if_neg (by rw [HO.out]; decide), if_pos (by rw [HZ.out]; exact hq)]
      have e2 : opD st l = st := by unfold opD Wl.trm; rw [if_neg (by rw [HO.out]; decide), if_pos (by rw [HZ.out]; exact hq)]
      have E1 := hide e1
      have E2 := hide e2
      have hb : (((Wl.hld st).length : Int) == (z : Int)) = true := by simp [hq]
      have B3 := hide b03
      clear e1 e2 HLen b03 K1
      go_wp2
      go_ret2
      exact ⟨l, LG, by rw [E2.out]; exact PStep.same HK.out B3.out, .inr ⟨E1.out, _, _, rfl, W3.out, GE.out⟩⟩
    · have hb : (((Wl.hld st).length : Int) == (z : Int)) = false := by simp; omega
      have HL2 := hide (show Calls Tryz.prog 18 #[.pointer (some ⟨w2.heap.size, 0, none⟩)] (W.drewN m) fun E w' => E = .returned (.int .i64 z) ∧ ∃ n, w' = W.drewN n from by
        have := wlength_v w2.heap.size q (W.drewN m) l false _ _ rs ⟨by have := HV.out.blk; exact this, HV.out.log.below (below_drewN (Below.refl _ _) m)⟩
        rw [HZ.out] at this
        refine this.mono ?_
        rintro E w' ⟨rfl, n, rfl⟩
        exact ⟨rfl, m + n, by rw [World.drewN_drewN]⟩)
      clear HLen b03 K1 K3 W3
      go_wp2_with fail
      refine HL2.out.mono ?_
      rintro E w4 ⟨rfl, n, rfl⟩
      have b04 := below_drewN b0W n
      have W4 : Wk w2.heap.size q (fun g => g = w2.heap.size ∨ LB _ _ rs g) (W.drewN n) l false := Wk.below ⟨_, _, rs, HV.out, rfl⟩ (below_drewN (Below.refl _ _) n)
      have K4 := HK.out.below b04
      have HT := hide (wtrim_any q F (W.drewN n) st (z : Int) K4 HS.out)
      obtain ⟨t1, t2⟩ := trm_go HO.out hle hq
      rw [t1, t2] at HT
      have e1 : opE st l = (Wl.trm st z).1 := by unfold opE; rw [if_neg (by rw [HO.out]; decide), HZ.out]
      have e2 : opD st l = (Wl.trm st z).2 := by unfold opD; rw [if_neg (by rw [HO.out]; decide), HZ.out]
      rw [← e1, ← e2] at HT
      have e01 : opE st l = 0 ∨ opE st l = 6 := by rw [e1]; exact trm_e st z
      have HB4 := hide b04
      have HW4 := hide W4
      have HK4 := hide K4
      clear e1 e2 t1 t2 HL2 b04 K4 W4
      go_wp2_with fail
      refine HT.out.mono ?_
      rintro E w5 ⟨rfl, PS⟩
      have P0 := hide (PStep.pre HB4.out PS)
      have W5 : Hid (Wk w2.heap.size q (fun g => g = w2.heap.size ∨ LB _ _ rs g) w5 l false) := hide (by
        obtain ⟨F', _, ho, _⟩ := PS
        exact HW4.out.out ho (wk_pk HW4.out HK4.out))
      generalize hoe : opE st l = oe at *
      have HOE := hide hoe
      clear PS HT HB4 hoe
      rcases e01 with rfl | rfl
      · go_wp2
        go_ret2
        exact ⟨l, LG, P0.out, .inr ⟨HOE.out, _, _, rfl, W5.out, GE.out⟩⟩
      · go_wp2
        go_ret2
        exact ⟨l, LG, P0.out, .inl ⟨by rw [HOE.out]; decide, by rw [HOE.out]; rfl⟩⟩

/-- A wal's sizes. -/
def WBig (s : Wl.Ws) : Prop := Big 90000000 700000 s.d

theorem WBig.big {s : Wl.Ws} (h : WBig s) : Big 100000000 800000 s.d := Big.mono h (by decide) (by decide)

set_option maxHeartbeats 1000000 in
theorem wsync_any (p q : Nat) (F : Nat → Prop) (w : World) (s : Wl.Ws) (h : WW p q F w s) (hs : WBig s) :
    Calls Tryz.prog 32 #[.pointer (some ⟨p, 0, none⟩)] w fun E w' => E = .returned (.int .i64 (Wl.wsyn s).1) ∧ WStep p q F w w' (Wl.wsyn s).2 := by
  have HR := hide (wrefuses_any p q F w s h)
  have HH := hide h
  have hb := hs.big
  unfold Wl.wsyn
  cases ha : Wl.ask s with
  | true =>
    simp only [if_true]
    clear h hs
    go_enter Tryz.func32, Tryz.ntmps32
    go_wp2_with fail
    refine HR.out.mono ?_
    rintro E w1 (⟨_, rfl, J⟩ | ⟨h0, _⟩)
    · have J := hide J
      go_wp2
      go_ret
      exact ⟨rfl, J.out⟩
    · rw [ha] at h0
      cases h0
  | false =>
    simp only [Bool.false_eq_true, if_false]
    obtain ⟨F1, G1, h1, h2, rfl⟩ := h
    have HS := hide (sync_any q F1 w s.d h1 (fun f => Nat.le_trans (hb.1.1 f) (by decide)) (Nat.le_trans hb.1.2.1 (by decide)) hb.2 (Nat.lt_of_le_of_lt hb.1.2.2 (by decide)))
    obtain ⟨vc, ve, rs, hv, rfl⟩ := h2
    have c0 : w.cell? ⟨p, 0, none⟩ = some (.pointer (some ⟨q, 0, none⟩)) := blk_cell hv.blk 0 rfl
    have h2 : Hid (Wk p q (fun g => g = p ∨ LB vc ve rs g) w s.l s.bk) := hide ⟨vc, ve, rs, hv, rfl⟩
    have H1 := hide h1
    have e01 := sync_e s.d
    have HD : Hid (∀ x : Int, (x = 0 ∨ x = 6) → (x == 6) = decide (x ≠ 0)) := hide (fun x hx => by rcases hx with rfl | rfl <;> rfl)
    clear h1 hs hb hv
    go_enter Tryz.func32, Tryz.ntmps32
    go_wp2_with fail
    refine HR.out.mono ?_
    rintro E w1 (⟨h0, _⟩ | ⟨_, rfl, rfl⟩)
    · rw [ha] at h0
      cases h0
    clear HR
    go_wp2_with fail
    refine HS.out.mono ?_
    rintro E w2 ⟨rfl, PS⟩
    obtain ⟨F2, k1, k2, k3, k4⟩ := WW.disk H1.out h2.out PS
    have HE := hide (wheed_any p q _ w2 ⟨(Dm.sync s.d).2, s.l, s.bk⟩ (Dm.sync s.d).1 ⟨F2, _, k1, k2, rfl⟩)
    simp only at HE
    rw [HD.out _ e01] at HE
    have K3 := hide k3
    have K4 := hide k4
    clear PS k1 k2 k3 k4 HS h2 H1 HD
    go_wp2_with fail
    refine HE.out.mono ?_
    rintro E w3 ⟨rfl, J⟩
    have J := hide (WStep.trans (K3.out.mono fun g hg => .inl (Or.inl hg)) (fun g hg => by
      rcases hg with hg | hg
      · rcases K4.out g hg with e | e
        · exact .inl (.inl e)
        · exact .inr e
      · exact .inl (.inr hg)) J)
    go_wp2
    go_ret
    exact ⟨rfl, J.out⟩

end Go.Proofs.YtmkpaedemjiboaaGreat
