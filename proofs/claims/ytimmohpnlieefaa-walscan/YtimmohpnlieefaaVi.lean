/- The document's Scan. -/
import Derived.Test.YtimmohpnlieefaaA5
import Derived.BigQuiet
import Derived.Test.YtimmohpnlieefaaFf
import Derived.Test.YtimmohpnlieefaaA4
import Derived.Test.YtimmohpnlieefaaA3
namespace Go.Proofs.Ytimmohpnlieefaa
open Go.RowKit
set_option linter.unusedVariables false

/-- What the document's reading has by now. -/
structure RsR (w wr : World) (bs : List Int) (l : List Cm.Cv) (vc : Value) (rs : List Cw) : Prop where
  rd : Rdl bs l
  row : OwnR 32 w.heap.size wr vc rs
  cop : CopyR w.heap.size wr rs
  is : cvs rs = l
  bel : Below w.heap.size w wr

theorem RsR.below {w wr w' : World} {bs : List Int} {l : List Cm.Cv} {vc : Value} {rs : List Cw} (h : RsR w wr bs l vc rs) (hb : Below wr.heap.size wr w') : RsR w w' bs l vc rs :=
  ⟨h.rd, h.row.below hb, h.cop.below hb, h.is, h.bel.trans (hb.mono h.bel.size)⟩

theorem neq_fol (l : List Cm.Cv) (c : Cm.Cv) (hg : Cm.Good 0 0 l) : (!((((Cm.fol (Cm.lastE 0 l) (Cm.lastN 0 l) 0 [c]).1 == 0) && ((Cm.fol (Cm.lastE 0 l) (Cm.lastN 0 l) 0 [c]).2 == 0)))) = !tk l c := by
  rw [tk_fol, Wl.good_lastN hg]

set_option maxRecDepth 20000 in
set_option maxHeartbeats 1500000 in
theorem wscanR_any (vb : Value) (bs : List Int) (w : World) (hb : Is .u8 w vb bs) (hl : bs.length ≤ 1000000000) :
    Calls Try.prog 18 #[vb] w fun E w' => ∃ (l : List Cm.Cv) (vc : Value) (rs : List Cw), E = .returned (.tuple #[vc, .int .i64 (Wl.lgb l).length]) ∧ OwnR 32 w.heap.size w' vc rs ∧ CopyR w.heap.size w' rs ∧ cvs rs = l ∧ Below w.heap.size w w' ∧ Hid (Wl.Lg 0 0 bs l) := by
  have HB := hide hb
  obtain ⟨ba, bc, hvb, _, _⟩ := hb.shape
  clear hb
  subst hvb
  go_enter Try.func18, Try.ntmps18
  go_wp2
  go_loopw [4, 5, 6, 7] (fun ov av ev nv wr => ∃ (l : List Cm.Cv) (rs : List Cw), Hid (RsR w wr bs l ov rs) ∧ av = .int .i64 (Wl.lgb l).length ∧ ev = .int .i64 (Cm.lastE 0 l) ∧ nv = .int .i64 (Cm.lastN 0 l) ∧ (Wl.lgb l).length ≤ bs.length) (fun _ av _ _ _ => bs.length - (intOf av).toNat)
  case atStart => exact ⟨[], [], hide ⟨Rdl.nil bs, OwnR.nil _ _ _, fun c hc => by simp at hc, rfl, Below.refl _ _⟩, rfl, rfl, rfl, by simp [Wl.lgb, Fm.cat]⟩
  case round =>
    obtain ⟨l, rs, RS, rfl, rfl, rfl, hle⟩ := hrel
    obtain ⟨vs, hsl, isl⟩ := (HB.out.below RS.out.bel).slice_l Try.elemP Try.sizeP (Wl.lgb l).length hle
    have HF := hide (freadR_any vs _ wr isl (by rw [List.length_drop]; omega))
    clear isl
    have hbd : In64 (Cm.lastE 0 l) ∧ In64 (Cm.lastN 0 l) := by
      have h1 := Wl.good_lastN RS.out.rd.1
      have h2 := good_len RS.out.rd.1
      refine ⟨?_, by rw [h1]; exact ⟨by omega, by omega⟩⟩
      rcases List.eq_nil_or_concat l with rfl | ⟨r, c, rfl⟩
      · exact ⟨by simp [Cm.lastE], by simp [Cm.lastE]⟩
      · have hk : (r.concat c)[r.length]? = some c := by rw [List.concat_eq_append]; simp
        have h3 := Cm.chk_zero (Cm.good_at _ 0 0 r.length c RS.out.rd.1 hk).1
        rw [List.concat_eq_append, (Cm.last_snoc r c 0 0).1]
        exact ⟨by omega, by omega⟩
    generalize hL : Cm.lastE 0 l = le at *
    generalize hN : Cm.lastN 0 l = ln at *
    generalize hG : (Wl.lgb l).length = lg at *
    have KL := hide hL
    have KN := hide hN
    have KG := hide hG
    clear hL hN hG
    go_wp2_with fail
    refine HF.out.mono ?_
    rintro E wa ⟨v1, z, n, e, rfl, own1, bel1, R⟩
    have RA := hide (RS.out.below bel1)
    clear HF RS
    have he : e = 0 ∨ e = 5 := by
      rcases R.out with h | h
      · exact .inl h.1
      · exact .inr h.1
    rw [← KG.out] at R
    rcases he with rfl | rfl
    · have HZ := hide (rd_zero R.out)
      have hzl : z.length ≤ 131072 := HZ.out.1
      have HD := hide (cdecR_any v1 z wa own1.is (by omega))
      obtain ⟨o1, k1, hv1, _, _⟩ := own1.is.shape
      subst hv1
      clear own1 bel1
      go_wp2_with fail
      refine HD.out.mono ?_
      rintro E wb ⟨ee, nn, g, vo, ops, rfl, ownc, hcr, bel2⟩
      have RB := RA.out.below bel2
      have szb := bel2.size
      have sza := RA.out.bel.size
      have hgg := Cm.cres_e hcr
      have hbc := Cm.cres_bounds hcr
      obtain ⟨o2, k2, hv2, _, _⟩ := ownc.is.shape
      obtain ⟨wc, hwc, hwc2, szc, belc, bC, x0, x1, x2⟩ := new_step wb 32 (.int .i64 0) (.int .i64 0) (.slice none 0 0) (.int .i64 ee) (.int .i64 nn) vo
      have RC := hide (RB.below belc)
      have OC := hide (ownc.below belc)
      have HC := hide hcr
      unfold cmv
      have hvo := hide hv2
      rw [hv2] at hwc hwc2 x2 ⊢
      obtain ⟨ac, ncap, hvc, _, _⟩ := RC.out.row.row.shape
      have BK : Hid (∀ g, u4.ownBlock = some g → g < wb.heap.size) := hide (fun g hg => (World.ownsRow.lt RB.row g hg).2)
      clear RA HD RB ownc hcr bel2 belc bC hv2
      rcases hgg with rfl | rfl
      · have h64 : In64 ee ∧ In64 nn := ⟨⟨by omega, by omega⟩, ⟨by omega, by omega⟩⟩
        have hfit : FitO ops ∧ ops.length * 40 ≤ 140737488351232 := by
          rcases HC.out with ⟨_, h1, _⟩ | ⟨h0, _⟩
          · obtain ⟨_, _, _, _, h5⟩ := Cm.chk_zero h1
            exact ⟨(small_of h5).fit, by have := (Bm.chkL_zero h5).2.1; omega⟩
          · cases h0
        obtain ⟨wd, hwd, szd, beld, rowd⟩ := coms_step 32 wc #[.int .i64 ee, .int .i64 nn, vo] 1 [⟨ee, nn, vo, ops⟩] rfl rfl (by simp [maxLen])
        obtain ⟨fe, fp, hfol⟩ : ∃ fe fp, Cm.fol le ln 0 [⟨ee, nn, ops⟩] = (fe, fp) := ⟨_, _, rfl⟩
        have FO := hide (cfolR_any le ln _ [⟨ee, nn, vo, ops⟩] wd ⟨rowd.row, fun d hd => by rw [List.mem_singleton.1 hd]; exact ⟨(OC.out.below beld).is, h64.1, h64.2⟩⟩ (fun d hd => by rw [List.mem_singleton.1 hd]; exact hfit) (by simp))
        rw [show cvs [⟨ee, nn, vo, ops⟩] = [⟨ee, nn, ops⟩] from rfl, hfol] at FO
        unfold flv at FO
        simp only at FO
        obtain ⟨ans, hans⟩ : ∃ x, tk l ⟨ee, nn, ops⟩ = x := ⟨_, rfl⟩
        have HA := hide hans
        have hq : (!((fe == 0) && (fp == 0))) = !ans := by
          have := neq_fol l ⟨ee, nn, ops⟩ RC.out.rd.1
          rw [KL.out, KN.out, hfol, hans] at this
          exact this
        have q1 := Try.neqF fe fp 0 0
        rw [hq] at q1
        have q2 := Try.guardF .neq
        have RD := hide (RC.out.below beld)
        have OD := hide (OC.out.below beld)
        have y0 := (beld.cell (p := ⟨wb.heap.size, 0, none⟩) (show wb.heap.size < wc.heap.size by omega)).trans x0
        have y1 := (beld.cell (p := ⟨wb.heap.size, 1, none⟩) (show wb.heap.size < wc.heap.size by omega)).trans x1
        have y2 := (beld.cell (p := ⟨wb.heap.size, 2, none⟩) (show wb.heap.size < wc.heap.size by omega)).trans x2
        rw [hvo.out] at hwd
        have SZC := hide szc
        clear hfol hans hq OC RC beld rowd szc
        subst hvc
        go_wp2_with fail
        refine FO.out.mono ?_
        rintro E wf ⟨rfl, belf⟩
        have RF := hide (RD.out.below belf)
        have OF := hide (OD.out.below belf)
        have szf := belf.size
        have szc := SZC.out
        have x0 := (belf.cell (p := ⟨wb.heap.size, 0, none⟩) (show wb.heap.size < wd.heap.size by omega)).trans y0
        have x1 := (belf.cell (p := ⟨wb.heap.size, 1, none⟩) (show wb.heap.size < wd.heap.size by omega)).trans y1
        have x2 := (belf.cell (p := ⟨wb.heap.size, 2, none⟩) (show wb.heap.size < wd.heap.size by omega)).trans y2
        clear RD OD FO belf y0 y1 y2 szc
        cases ans with
        | false =>
          have D := hide (RF.out.rd.stopT R.out HC.out HA.out)
          clear R HC HA OF
          go_wp2
          try rw [Exit.noGoto_ret]
          go_ret2
          exact ⟨l, _, rs, by rw [KG.out]; rfl, RF.out.row, RF.out.cop, RF.out.is, RF.out.bel, D⟩
        | true =>
          obtain ⟨g1, g2, g3⟩ := RF.out.rd.next R.out HC.out HA.out
          have gle := g1.le
          have hn1 : 1 ≤ n := by rw [g2]; exact Wl.fr_pos _
          have hrl : rs.length ≤ 1048576 := by
            have := good_len RF.out.rd.1
            rw [← RF.out.is, cvs_length] at this
            exact this
          obtain ⟨wg, hwg, szg, belg, rowg⟩ := coms_step 32 wf #[.int .i64 ee, .int .i64 nn, vo] 1 [⟨ee, nn, vo, ops⟩] rfl rfl (by simp [maxLen])
          rw [hvo.out] at hwg
          have RG := RF.out.below belg
          have OG := hide (OF.out.below belg)
          have szc := SZC.out
          have y0 := (belg.cell (p := ⟨wb.heap.size, 0, none⟩) (show wb.heap.size < wf.heap.size by omega)).trans x0
          have y1 := (belg.cell (p := ⟨wb.heap.size, 1, none⟩) (show wb.heap.size < wf.heap.size by omega)).trans x1
          have e1 : IntKind.i64.wrap ((lg : Int) + (n : Int)) = (lg : Int) + n := wrap_i64_small _ (by rw [← KG.out]; omega) (by rw [← KG.out]; omega)
          have szw := RG.bel.size
          have G1 := hide g1
          have G3 := hide g3
          have RGH := hide RG
          have X := hide (fun ty => run_append_rows_at (P := Try.prog) (w := wg) 34 ty ccell 3 40 (fun _ => rfl) (by decide) (by decide) (.agg #[.int .i64 0, .int .i64 0, .slice none 0 0]) rfl 32 w.heap.size Try.underlying34 Try.info32 (.slice ac rs.length ncap) rs (ownR_g.1 RGH.out.row) _ [⟨ee, nn, vo, ops⟩] (ownR_g.1 rowg).row (by
            rw [← ccells_g]
            exact ccells_cell _ fun d hd => by rw [List.mem_singleton.1 hd]; exact OG.out.is.one) (by simp; omega) (by omega))
          clear RF OF R HC HA g1 g2 g3 RG szc rowg
          go_wp2_with (at_builtin; refine wpList_append_at rfl (.tmp 42) (.tmp 44) 34 rfl _ _ rfl rfl X.out ?_)
          intro v3 w3 own3 gr3 _
          have hlt : wb.heap.size < wg.heap.size := by have := SZC.out; omega
          have B3 : ∀ j, w3.cell? ⟨wb.heap.size, j, none⟩ = wg.cell? ⟨wb.heap.size, j, none⟩ := fun j => World.cell?_of_block (gr3.block _ hlt fun e => Nat.lt_irrefl _ (BK.out _ e.symm))
          have x0 := (B3 0).trans y0
          have x1 := (B3 1).trans y1
          obtain ⟨a3, k3, hv3, _, _⟩ := own3.row.shape
          have FIN : Hid (RsR w w3 bs (l ++ [⟨ee, nn, ops⟩]) v3 (rs ++ [⟨ee, nn, vo, ops⟩])) := hide ⟨G1.out, ownR_g.2 own3, (by
            have kt : KeepT 32 wg w3 := KeepT.of_row RGH.out.row gr3
            exact (RGH.out.cop.keepT kt).snoc (c := ⟨ee, nn, vo, ops⟩) ((OG.out.keepT kt (by decide)).rebase (by have := RGH.out.bel.size; omega))), (by
            rw [cvs, List.map_append, ← cvs, RGH.out.is]
            rfl), RGH.out.bel.grown gr3 szw (fun k hk => (World.ownsRow.lt RGH.out.row k hk).1)⟩
          rw [G3.out] at gle
          rw [KG.out] at G3 gle
          clear own3 gr3 X RGH OG B3
          subst hv3
          go_wp2
          go_quiet (fail)
          go_wp2
          go_roundw
          case rel => exact ⟨l ++ [⟨ee, nn, ops⟩], _, hide (FIN.out.below (by first | exact Below.refl _ _ | exact below_drewN (Below.refl _ _) _)), by rw [G3.out]; go_num, by rw [(Cm.last_snoc l _ 0 0).1], by rw [(Cm.last_snoc l _ 0 0).2], by rw [G3.out]; exact gle⟩
          case measure => simp [intOf]; omega
      · have D := hide (RC.out.rd.stopC R.out HC.out)
        clear R HC OC
        subst hvc
        go_wp2
        try rw [Exit.noGoto_ret]
        go_ret2
        exact ⟨l, _, rs, by rw [KG.out]; rfl, RC.out.row, RC.out.cop, RC.out.is, RC.out.bel, D⟩
    · have D := hide (RA.out.rd.stop R.out)
      obtain ⟨ac, ncap, hvc, _, _⟩ := RA.out.row.row.shape
      subst hvc
      clear R
      go_wp2
      try rw [Exit.noGoto_ret]
      go_ret2
      exact ⟨l, _, rs, by rw [KG.out]; rfl, RA.out.row, RA.out.cop, RA.out.is, RA.out.bel, D⟩

end Go.Proofs.Ytimmohpnlieefaa
