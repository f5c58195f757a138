/- The program reads a log out of bytes. -/
import Derived.Test.YtimmohpnlieefaaA5
import Derived.Test.YtimmohpnlieefaaA6
import Derived.Test.YtimmohpnlieefaaA4
namespace Go.Proofs.Ytimmohpnlieefaa
open Go.RowKit
set_option linter.unusedVariables false

/-- What reading has by now: the log's block B + 1, the answer's B. -/
structure Rst12 (w wr : World) (bs : List Int) (l : List Cm.Cv) (vc ve : Value) (rs : List Cw) : Prop where
  rd : Rdl bs l
  log : Lw (w.heap.size + 2) wr l vc ve rs
  ap : ApC rs
  bR : wr.heap[w.heap.size]? = some (.cells #[.slice none 0 0, .slice none 0 0] 48 (0, 0))
  bL : wr.heap[w.heap.size + 1]? = some (.cells #[vc, ve] 48 (0, 0))
  bel : Below w.heap.size w wr
  sz : w.heap.size + 2 ≤ wr.heap.size

theorem Rst12.below {w wr w' : World} {bs : List Int} {l : List Cm.Cv} {vc ve : Value} {rs : List Cw} (h : Rst12 w wr bs l vc ve rs) (hb : Below wr.heap.size wr w') : Rst12 w w' bs l vc ve rs :=
  ⟨h.rd, h.log.below hb, h.ap, (hb.block _ (by have := h.sz; omega)).trans h.bR, (hb.block _ (by have := h.sz; omega)).trans h.bL, h.bel.trans (hb.mono h.bel.size), Nat.le_trans h.sz hb.size⟩

/-- It ends here. -/
theorem Rst12.fin {w wr : World} {bs : List Int} {l : List Cm.Cv} {vc ve : Value} {rs : List Cw} (h : Rst12 w wr bs l vc ve rs) :
    ∃ V, (wr.setCell ⟨w.heap.size, 0, none⟩ vc).setCell ⟨w.heap.size, 1, none⟩ ve = V ∧ (wr.cell? ⟨w.heap.size, 0, none⟩ = some (.slice none 0 0) ∧ wr.cell? ⟨w.heap.size, 1, none⟩ = some (.slice none 0 0)) ∧ (wr.frozen? ⟨w.heap.size, 0, none⟩ = false ∧ wr.frozen? ⟨w.heap.size, 1, none⟩ = false) ∧ (V.cell? ⟨w.heap.size, 0, none⟩ = some vc ∧ V.cell? ⟨w.heap.size, 1, none⟩ = some ve) ∧ Lw w.heap.size V l vc ve rs ∧ Below w.heap.size w V := by
  obtain ⟨V, hV, bV, gV, hc, hf, hz⟩ := res_two h.bR vc ve
  refine ⟨V, hV, hc, hf, hz, (h.log.agree fun g hg => gV.block g (h.log.lt g hg) fun e => ?_).rebase (by omega), below_put h.bel gV (Nat.le_refl _) h.bel.size⟩
  have := h.log.ge g hg
  simp at e
  omega

/-- A commit more. -/
theorem Rst12.grow {w wr w' : World} {bs : List Int} {l : List Cm.Cv} {vc ve vc' ve' : Value} {rs : List Cw} {c : Cw} (h : Rst12 w wr bs l vc ve rs) (hr : Rdl bs (l ++ [c.c])) (hN : ∃ N, (∀ d ∈ rs, ∀ b, d.v.ownBlock = some b → b < N) ∧ ∀ b, c.v.ownBlock = some b → N ≤ b)
    (hB : w'.heap[w.heap.size + 1]? = some (.cells #[vc', ve'] 48 (0, 0))) (hL : Lw (w.heap.size + 2) w' (l ++ [c.c]) vc' ve' (rs ++ [c])) (ho : Out (fun g => g = w.heap.size + 1 ∨ LB vc ve rs g) wr w') : Rst12 w w' bs (l ++ [c.c]) vc' ve' (rs ++ [c]) := by
  have hge : ∀ g, (g = w.heap.size + 1 ∨ LB vc ve rs g) → w.heap.size + 1 ≤ g := fun g hg => by
    rcases hg with e | e
    · omega
    · have := h.log.ge g e
      omega
  obtain ⟨N, h1, h2⟩ := hN
  refine ⟨hr, hL, apc_snoc h.ap h1 h2, (ho.block _ (by have := h.sz; omega) fun e => by have := hge _ e; omega).trans h.bR, hB, ?_, Nat.le_trans h.sz ho.size⟩
  exact h.bel.trans (ho.below (fun g hg => by have := hge g hg; omega) h.bel.size)

set_option maxRecDepth 20000 in
set_option maxHeartbeats 4000000 in
theorem wread_any (vb : Value) (bs : List Int) (w : World) (hb : Is .u8 w vb bs) (hl : bs.length ≤ 1000000000) :
    Calls Try.prog 39 #[vb] w fun E w' => ∃ (l : List Cm.Cv) (vc ve : Value) (rs : List Cw), E = .returned (.agg #[vc, ve]) ∧ Lw w.heap.size w' l vc ve rs ∧ ApC rs ∧ Below w.heap.size w w' ∧ Hid (Wl.Lg 0 0 bs l) := by
  obtain ⟨w1, hw1, sz1, bel1, hR⟩ := blk_step w #[.slice none 0 0, .slice none 0 0] 48
  obtain ⟨w2, hw2, sz2, bel2, hL⟩ := blk_step w1 #[.slice none 0 0, .slice none 0 0] 48
  have R0 : Rst12 w w2 bs [] (.slice none 0 0) (.slice none 0 0) [] := ⟨Rdl.nil bs, Lw.nil _ _, fun i j c d _ hc => by simp at hc, (bel2.block _ (by omega)).trans hR, by rw [← sz1]; exact hL, bel1.trans (bel2.mono bel1.size), by omega⟩
  have HB := hide hb
  have HR0 := hide R0
  obtain ⟨ba, bc, hvb, _, _⟩ := hb.shape
  clear hb R0 bel1 bel2 hR hL
  subst hvb
  go_enter Try.func39, Try.ntmps39
  go_wp2
  go_loopw [0] (fun fv wr => ∃ (l : List Cm.Cv) (vc ve : Value) (rs : List Cw), Hid (Rst12 w wr bs l vc ve rs) ∧ Hid (Is .u8 w fv (bs.drop (Wl.lgb l).length)) ∧ w.heap.size + 2 ≤ wr.heap.size) (fun fv _ => lenOf fv)
  case atStart => exact ⟨[], _, _, [], HR0, by simpa [Wl.lgb, Fm.cat] using HB, by omega⟩
  case round =>
    obtain ⟨l, vc, ve, rs, RS, HI, szr⟩ := hrel
    have HF := hide (fread_any _ _ wr (HI.out.below RS.out.bel) (by rw [List.length_drop]; omega))
    go_wp2_with fail
    refine HF.out.mono ?_
    rintro E wa ⟨v1, z, n, e, rfl, own1, bel1, R⟩
    have RA := hide (RS.out.below bel1)
    have sza := bel1.size
    clear HF RS
    have he : e = 0 ∨ e = 5 := by
      rcases R.out with h | h
      · exact .inl h.1
      · exact .inr h.1
    rcases he with rfl | rfl
    · have HZ := hide (rd_zero R.out)
      have hzl : z.length ≤ 131072 := HZ.out.1
      have HD := hide (cdec_any v1 z wa own1.is (by omega))
      obtain ⟨o1, k1, hv1, _, _⟩ := own1.is.shape
      subst hv1
      clear own1 bel1
      go_wp2_with fail
      refine HD.out.mono ?_
      rintro E wb ⟨ee, nn, g, vo, ops, rfl, ownc, hcr, bel2⟩
      have RB := RA.out.below bel2
      have szb := bel2.size
      have hgg := Cm.cres_e hcr
      have hbd := Cm.cres_bounds hcr
      obtain ⟨o2, k2, hv2, _, _⟩ := ownc.is.shape
      obtain ⟨wc, hwc, hwc2, szc, belc, bC, x0, x1, x2⟩ := new_step wb 32 (.int .i64 0) (.int .i64 0) (.slice none 0 0) (.int .i64 ee) (.int .i64 nn) vo
      have RC := RB.below belc
      have OC := hide (ownc.below belc)
      have HC := hide hcr
      unfold cmv
      have hvo := hide hv2
      rw [hv2] at hwc hwc2 x2 ⊢
      have F := hide RC.fin
      have c0 := blk_cell RC.bL 0 rfl
      have c1 := blk_cell RC.bL 1 rfl
      obtain ⟨ac, ncap, hvc, _, _⟩ := RC.log.r.row.row.shape
      obtain ⟨ae, ecap, hve, _, _⟩ := RC.log.r.en.is.shape
      have R3 := hide RC
      have BA := hide (show (∀ d ∈ rs, ∀ b, d.v.ownBlock = some b → b < wa.heap.size) ∧ ∀ b, vo.ownBlock = some b → wa.heap.size ≤ b from ⟨fun d hd b hb => RA.out.log.lt b (.inr (.inr ⟨d, hd, hb⟩)), fun b hb => (ownc.block b hb).1⟩)
      clear RA HD RC RB ownc hcr bel2 belc bC hv2
      rcases hgg with rfl | rfl
      · have h64 : In64 ee ∧ In64 nn := ⟨⟨by omega, by omega⟩, ⟨by omega, by omega⟩⟩
        have hfit : FitO ops ∧ ops.length * 40 ≤ 140737488351232 := by
          rcases HC.out with ⟨_, h1, _⟩ | ⟨h0, _⟩
          · obtain ⟨_, _, _, _, h5⟩ := Cm.chk_zero h1
            exact ⟨(small_of h5).fit, by have := (Bm.chkL_zero h5).2.1; omega⟩
          · cases h0
        have TK := hide (takes_any (w.heap.size + 1) 0 wc vc rs c0 R3.out.log.r.row.row (by have := good_len R3.out.log.good; have := R3.out.log.len; omega) ⟨ee, nn, vo, ops⟩ OC.out.is h64.1 h64.2 hfit.1 hfit.2)
        unfold cmv at TK
        simp only at TK
        rw [R3.out.log.is] at TK
        rw [hvo.out] at TK
        obtain ⟨ans, hans⟩ : ∃ x, tk l ⟨ee, nn, ops⟩ = x := ⟨_, rfl⟩
        have HA := hide hans
        have TK2 : Hid (Calls Try.prog 43 #[.pointer (some ⟨w.heap.size + 1, 0, none⟩), .agg #[.int .i64 ee, .int .i64 nn, .slice o2 ops.length k2]] wc fun E w' => E = .returned (.bool ans) ∧ Below wc.heap.size wc w') := hide (by rw [← hans]; exact TK.out)
        clear TK hans F c0 c1
        go_wp2_with fail
        refine TK2.out.mono ?_
        rintro E wd ⟨rfl, beld⟩
        have RD := R3.out.below beld
        have OD := OC.out.below beld
        have szd := beld.size
        have y0 := (beld.cell (p := ⟨wb.heap.size, 0, none⟩) (show wb.heap.size < wc.heap.size by omega)).trans x0
        have y1 := (beld.cell (p := ⟨wb.heap.size, 1, none⟩) (show wb.heap.size < wc.heap.size by omega)).trans x1
        have y2 := (beld.cell (p := ⟨wb.heap.size, 2, none⟩) (show wb.heap.size < wc.heap.size by omega)).trans x2
        clear TK2 R3 OC beld x0 x1 x2
        cases ans with
        | false =>
          obtain ⟨V, hV, ⟨a0, a1⟩, ⟨f0, f1⟩, ⟨z0, z1⟩, LV, bV⟩ := RD.fin
          have c0 := blk_cell RD.bL 0 rfl
          have c1 := blk_cell RD.bL 1 rfl
          have G := hide (show Lw w.heap.size V l vc ve rs ∧ ApC rs ∧ Below w.heap.size w V ∧ Hid (Wl.Lg 0 0 bs l) from ⟨LV, RD.ap, bV, hide (RD.rd.stopT R.out HC.out HA.out)⟩)
          clear RD OD LV bV HC HA
          subst hvc hve
          go_wp2
          try rw [Exit.noGoto_ret]
          refine bodyPost_ret (v := .agg #[.slice ac rs.length ncap, .slice ae (ends l).length ecap]) (by simp [results, Try.results39, go_sem, z0, z1]) rfl ?_
          exact ⟨_, _, _, _, rfl, G.out⟩
        | true =>
          obtain ⟨g1, g2, g3⟩ := RD.rd.next R.out HC.out HA.out
          have GR := hide (lgrow_any (w.heap.size + 2) (w.heap.size + 1) 0 48 #[vc, ve] wd l vc ve rs ⟨ee, nn, vo, ops⟩ n RD.bL rfl rfl (by decide) (by decide) (by decide) RD.log (by omega) (OD.rebase (by omega)) g1.1 g2)
          unfold cmv at GR
          simp only at GR
          rw [hvo.out] at GR
          have hnl : n ≤ (bs.drop (Wl.lgb l).length).length := by
            obtain ⟨_, h2, h3⟩ := HZ.out
            rw [h2]
            exact h3.length_le
          obtain ⟨vs, hsl, isl⟩ := HI.out.slice_l Try.elemP Try.sizeP n hnl
          have HI2 : Hid (Is .u8 w vs (bs.drop (Wl.lgb (l ++ [⟨ee, nn, ops⟩])).length)) := hide (by rw [g3, ← List.drop_drop]; exact isl)
          have hn1 : 1 ≤ n := by rw [g2]; exact Wl.fr_pos _
          have c0 := blk_cell RD.bL 0 rfl
          have c1 := blk_cell RD.bL 1 rfl
          have RDH := hide RD
          have G1 := hide g1
          have HL : lenOf vs < lenOf u0 := by
            obtain ⟨_, _, e1, _, _⟩ := isl.shape
            obtain ⟨_, _, e2, _, _⟩ := HI.out.shape
            rw [e1, e2]
            simp only [lenOf, List.length_drop]
            rw [List.length_drop] at hnl
            omega
          clear RD OD HC HA R g1 g2 g3 isl hnl
          go_wp2_with fail
          refine GR.out.mono ?_
          rintro E wf ⟨rfl, vc2, ve2, bf, Lf, of, _⟩
          have szf := of.size
          rw [← hvo.out] at Lf
          have RF := hide (RDH.out.grow (c := ⟨ee, nn, vo, ops⟩) G1.out ⟨_, BA.out⟩ (by simpa using bf) Lf of)
          clear GR bf Lf of
          go_wp2
          go_roundw
          case rel => exact ⟨_, _, _, _, RF, HI2, by omega⟩
          case measure => exact HL
      · obtain ⟨V, hV, ⟨a0, a1⟩, ⟨f0, f1⟩, ⟨z0, z1⟩, LV, bV⟩ := F.out
        have G := hide (show Lw w.heap.size V l vc ve rs ∧ ApC rs ∧ Below w.heap.size w V ∧ Hid (Wl.Lg 0 0 bs l) from ⟨LV, R3.out.ap, bV, hide (R3.out.rd.stopC R.out HC.out)⟩)
        clear LV bV R3 HC F OC
        subst hvc hve
        go_wp2
        try rw [Exit.noGoto_ret]
        refine bodyPost_ret (v := .agg #[.slice ac rs.length ncap, .slice ae (ends l).length ecap]) (by simp [results, Try.results39, go_sem, z0, z1]) rfl ?_
        exact ⟨_, _, _, _, rfl, G.out⟩
    · obtain ⟨V, hV, ⟨a0, a1⟩, ⟨f0, f1⟩, ⟨z0, z1⟩, LV, bV⟩ := RA.out.fin
      have c0 := blk_cell RA.out.bL 0 rfl
      have c1 := blk_cell RA.out.bL 1 rfl
      obtain ⟨ac, ncap, hvc, _, _⟩ := RA.out.log.r.row.row.shape
      obtain ⟨ae, ecap, hve, _, _⟩ := RA.out.log.r.en.is.shape
      have G := hide (show Lw w.heap.size V l vc ve rs ∧ ApC rs ∧ Below w.heap.size w V ∧ Hid (Wl.Lg 0 0 bs l) from ⟨LV, RA.out.ap, bV, hide (RA.out.rd.stop R.out)⟩)
      clear LV bV RA own1 bel1 R
      subst hvc hve
      go_wp2
      try rw [Exit.noGoto_ret]
      refine bodyPost_ret (v := .agg #[.slice ac rs.length ncap, .slice ae (ends l).length ecap]) (by simp [results, Try.results39, go_sem, z0, z1]) rfl ?_
      exact ⟨_, _, _, _, rfl, G.out⟩

end Go.Proofs.Ytimmohpnlieefaa
