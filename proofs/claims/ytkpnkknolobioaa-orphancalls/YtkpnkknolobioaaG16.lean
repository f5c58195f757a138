/- Texts of one layer, one behind the other. -/
import Derived.Test.YtkpnkknolobioaaG15
import Derived.Test.YtkpnkknolobioaaG1
/- The document's reading of a section, walked (layer 19). -/
namespace Go.Proofs.Ytkpnkknolobioaa
open Go.RowKit
set_option linter.unusedVariables false

/-- A commit more. -/
theorem MdO.push {w wr w6 : World} {bs : List Int} {S x y m a : Nat} {v : Value} {cs : List Cw} (h : MdO w wr bs S x y m a v cs) (hb : Below wr.heap.size wr w6) (hlt : cs.length < m) {r : List Int} {n : Nat} (hr : Fm.Rd (bs.drop a) r n 0) {e k : Int} {l : List Bm.Ov} (hd : Cm.CRes r e k l 0) {v' : Value} (ho : OwnO 66 wr.heap.size w6 v' l) :
    ∃ V, w6.alloc (.cells #[.int .i64 e, .int .i64 k, v'] 32) = V ∧ V.cell? ⟨S, 2, none⟩ = some v ∧ Hid (∀ ty, ∃ v2 w2, (Builtin.append_ #[22, 22] ty #[v, .slice (some ⟨w6.heap.size, 0, none⟩) 1 1]).run Try.prog V = .ok v2 w2 ∧
      ((∃ U, w2.setCell ⟨S, 2, none⟩ v2 = U ∧ MdO w U bs S x y m (a + n) v2 (cs ++ [⟨e, k, v', l⟩])) ∧ w2.cell? ⟨S, 2, none⟩ = some v ∧ w2.frozen? ⟨S, 2, none⟩ = false ∧ ∃ a n k, v2 = .slice a n k)) := by
  obtain ⟨g1, g2, g3, g4, g5, g6⟩ := mdo_next (v' := v') h.hl h.hc h.at' hr hd
  have hS := blk_lt h.blk
  obtain ⟨V, hV, belV, szV, hpu⟩ := h.sh.push (by omega) hb ⟨e, k, v', l⟩ ho (cfit_ok g1) (by have := h.num; have := h.len; omega)
  have bwV : Below wr.heap.size wr V := hb.trans (belV.mono hb.size)
  have hBV := (bwV.block S hS).trans h.blk
  have hRV := (bwV.block w.heap.size (blk_lt h.r0)).trans h.r0
  refine ⟨V, hV, blk_cell hBV 2 rfl, hide fun ty => ?_⟩
  obtain ⟨v2, w2, hrun, sh2, gr2, hsl⟩ := hpu ty
  have hvb : ∀ g, v.ownBlock = some g → S + 1 ≤ g := fun g hg => (World.ownsRow.lt h.sh.c g hg).1
  have hB2 := (gr2.block S (blk_lt hBV) fun e => by have := hvb S e.symm; omega).trans hBV
  have hR2 := (gr2.block w.heap.size (blk_lt hRV) fun e => by have := hvb _ e.symm; have := h.lt; omega).trans hRV
  obtain ⟨U, hU, bU, gU, fU⟩ := put_c hB2 2 v2
  refine ⟨v2, w2, hrun, ⟨⟨U, hU, ?_⟩, blk_cell hB2 2 rfl, fU, hsl⟩⟩
  have b2 : Below w.heap.size w w2 := (h.bel.trans (bwV.mono h.bel.size)).grown gr2 (by have := bwV.size; have := h.bel.size; omega) fun g hg => by have := hvb g hg; have := h.lt; omega
  exact ⟨by rw [bU]; rfl, (gU.block _ (blk_lt hR2) (by simp; have := h.lt; omega)).trans hR2, h.lt, sh2.out (F := fun g => g = S) (Out.of_grown gU fun g hg => by simp at hg; exact hg.symm) (fun g hg => by rw [hg]; omega), below_put b2 gU (by have := h.lt; omega) b2.size, h.hh, g4, g5, g6, by rw [List.length_append, List.length_singleton]; omega, h.num⟩

set_option maxRecDepth 20000 in
set_option maxHeartbeats 8000000 in
theorem oreadR_any (vb : Value) (bs : List Int) (w : World) (hb : Is .u8 w vb bs) (hl : bs.length ≤ 140737488355328) : Calls Try.prog 44 #[vb] w (RdO w bs) := by
  obtain ⟨w1, hw1, sz1, bel1, hR1⟩ := blk_step w #[.int .i64 0, .int .i64 0, .slice none 0 0] 24
  have HB := hide hb
  have ZERO : Hid (∀ W : World, W.heap[w.heap.size]? = some (.cells #[.int .i64 0, .int .i64 0, .slice none 0 0] 24 (0, 0)) → (W.setCell ⟨w.heap.size, 0, none⟩ (.int .i64 0) = W ∧ W.setCell ⟨w.heap.size, 1, none⟩ (.int .i64 0) = W ∧ W.setCell ⟨w.heap.size, 2, none⟩ (.slice none 0 0) = W) ∧ (W.frozen? ⟨w.heap.size, 0, none⟩ = false ∧ W.frozen? ⟨w.heap.size, 1, none⟩ = false ∧ W.frozen? ⟨w.heap.size, 2, none⟩ = false) ∧ (W.cell? ⟨w.heap.size, 0, none⟩ = some (.int .i64 0) ∧ W.cell? ⟨w.heap.size, 1, none⟩ = some (.int .i64 0) ∧ W.cell? ⟨w.heap.size, 2, none⟩ = some (.slice none 0 0))) := hide fun W h =>
    ⟨⟨set_same h (j := 0) rfl, set_same h (j := 1) rfl, set_same h (j := 2) rfl⟩, ⟨blk_froz h 0, blk_froz h 1, blk_froz h 2⟩, blk_cell h 0 rfl, blk_cell h 1 rfl, blk_cell h 2 rfl⟩
  have F1 := hide (freadR_any vb bs w1 (hb.below bel1) (by omega))
  obtain ⟨ao, cap, hvb, _, _⟩ := hb.shape
  rw [hvb] at HB F1
  subst hvb
  have B1 := hide bel1
  have R1 := hide hR1
  clear hb hR1 bel1
  go_enter Try.func44, Try.ntmps44
  go_wp2_with fail
  refine F1.out.mono ?_
  rintro E w2 ⟨vh, hs, n0, e0, rfl, ownh, bel2, HRd⟩
  have hR2 := (bel2.block w.heap.size (by omega)).trans R1.out
  have B2 := hide (B1.out.trans (bel2.mono B1.out.size))
  clear F1
  by_cases he0 : e0 = 0
  · subst he0
    have hfr : Fm.frm hs <+: bs ∧ n0 = (Fm.frm hs).length ∧ hs.length ≤ 131072 := by
      rcases HRd.out with ⟨_, h1, h2, h3⟩ | ⟨h1, _⟩
      · exact ⟨h3, by rw [h2, Fm.frm_len], h1⟩
      · simp at h1
    obtain ⟨hfp, hn0, hhl⟩ := hfr
    obtain ⟨w3, hw3, sz3, bel3, hG⟩ := blk_step w2 #[vh, .int .i64 0, .bool false] 105
    have RD3 : Rdr w2 w3 w2.heap.size vh hs 0 false := ⟨ownh.is, Nat.le_refl _, bel3, hG, by omega⟩
    have hR3 := (bel3.block w.heap.size (blk_lt hR2)).trans hR2
    obtain ⟨ah, ch, hvh, _, _⟩ := ownh.is.shape
    have lt2 : w.heap.size < w2.heap.size := blk_lt hR2
    have B3 := hide (B2.out.trans (bel3.mono B2.out.size))
    have HF := hide hfp
    have HN0 := hide hn0
    subst hvh
    clear ownh bel2 bel3 hG HRd hR2 hfp hn0
    go_wp2_with fail
    refine (rsmall_any w2 _ _ _ hs 0 false 1048576 RD3 (by omega) (by omega)).mono ?_
    rintro E w4 ⟨x, a1, b1, rfl, RD4, gr4, s1⟩
    have hR4 := (gr4.block _ (blk_lt hR3) (by simp; omega)).trans hR3
    have B4 := hide (below_put B3.out gr4 (by omega) B3.out.size)
    have sz4 := gr4.size
    clear gr4 RD3 hR3 B3
    go_wp2_with fail
    refine (rsmall_any w2 _ _ _ hs a1 b1 1048576 RD4 (by omega) (by omega)).mono ?_
    rintro E w5 ⟨y, a2, b2, rfl, RD5, gr5, s2⟩
    have hR5 := (gr5.block _ (blk_lt hR4) (by simp; omega)).trans hR4
    have B5 := hide (below_put B4.out gr5 (by omega) B4.out.size)
    have sz5 := gr5.size
    obtain ⟨w6, hw6, hw6', sz6, bel6, b6, x0, x1, x2⟩ := new_step w5 24 (.int .i64 0) (.int .i64 0) (.slice none 0 0) (.int .i64 x) (.int .i64 y) (.slice none 0 0)
    have RD6 := RD5.below bel6
    have fz6 := blk_froz b6 2
    have ss6 : w6.setCell ⟨w5.heap.size, 2, none⟩ (.slice none 0 0) = w6 := set_same b6 (j := 2) rfl
    have hR6 := (bel6.block _ (blk_lt hR5)).trans hR5
    have B6 := hide (B5.out.trans (bel6.mono B5.out.size))
    clear gr5 RD4 RD5 hR4 hR5 bel6 B4 B5
    go_wp2_with fail
    refine (rsmall_any w2 _ _ _ hs a2 b2 1048576 RD6 (by omega) (by omega)).mono ?_
    rintro E w7 ⟨m, a3, b3, rfl, RD7, gr7, s3⟩
    obtain ⟨hbd, hst⟩ := doc3o s1 s2 s3
    have sz7 := gr7.size
    have hS7 := (gr7.block w5.heap.size (by omega) (by simp; omega)).trans b6
    have hR7 := (gr7.block _ (blk_lt hR6) (by simp; omega)).trans hR6
    have B7 := hide (below_put B6.out gr7 (by omega) B6.out.size)
    have ltS : w.heap.size < w5.heap.size := by omega
    have ST := hide hst
    clear gr7 RD6 hR6 b6 s1 s2 s3 x0 x1 x2 B6 hst
    go_wp2_with fail
    refine (rdone_any w2 w7 _ _ hs a3 b3 RD7).mono ?_
    rintro E w8 ⟨rfl, q8, rfl⟩
    by_cases hdone : (!b3 && decide (a3 = hs.length)) = true
    · rw [hdone]
      rw [Bool.and_eq_true, Bool.not_eq_true', decide_eq_true_eq] at hdone
      have MM : Hid (MdO w (w7.drewN q8) bs w5.heap.size x y m n0 (.slice none 0 0) []) := hide (by
        rcases ST.out with ⟨h1, _⟩ | ⟨_, h1, h2, h3, h4⟩
        · rw [h1] at hdone; simp at hdone
        · have eh := Orp.hdr_is h1 h2 h3 (by omega)
          refine ⟨hS7, hR7, ltS, ShS.nil _ _, below_drewN B7.out q8, by rw [eh]; exact HF.out, by simp [cvs, Wl.lgb, Fm.cat], fun c hc => by simp [cvs] at hc, by rw [eh]; simpa [cvs, Wl.lgb, Fm.cat] using HN0.out, Nat.zero_le _, hbd⟩)
      obtain ⟨wz, hwz⟩ : ∃ W, w7.drewN q8 = W := ⟨_, rfl⟩
      rw [hwz] at MM ⊢
      clear hdone ST RD7 hS7 hR7 B7 hwz HF HN0 hhl
      have hm := hbd.2.2
      go_wp2
      go_loopw [6] (fun av wr => ∃ (a : Nat) (v : Value) (cs : List Cw), a ≤ bs.length ∧ av = .int .i64 a ∧ Hid (MdO w wr bs w5.heap.size x y m a v cs)) (fun av _ => bs.length - (intOf av).toNat)
      case atStart => exact ⟨n0, _, [], MM.out.le, rfl, MM⟩
      case round =>
        clear MM
        obtain ⟨a, v, cs, hle, rfl, M⟩ := hrel
        obtain ⟨av, kv, hvv, _, _⟩ := M.out.sh.c.row.shape
        rw [hvv] at M
        subst hvv
        have c2 : wr.cell? ⟨w5.heap.size, 2, none⟩ = some (.slice av cs.length kv) := blk_cell M.out.blk 2 rfl
        by_cases hlt : cs.length < m
        · have hlt' : (cs.length : Int) < m := by omega
          obtain ⟨vs, hsl, isl⟩ := (HB.out.below M.out.bel).slice_l Try.elemB Try.sizeE a hle
          have FR := hide (freadR_any vs (bs.drop a) wr isl (by rw [List.length_drop]; omega))
          clear isl
          go_wp2_with fail
          refine FR.out.mono ?_
          rintro E w9 ⟨vr, r, n, e, rfl, ownr, bel9, HR9⟩
          have b9 : Below w.heap.size w w9 := M.out.bel.trans (bel9.mono M.out.bel.size)
          have hR9 := (bel9.block _ (blk_lt M.out.r0)).trans M.out.r0
          clear FR hsl c2
          by_cases he : e = 0
          · subst he
            have CD := hide (cdecR_any vr r w9 ownr.is (by
              rcases HR9.out with ⟨_, h1, _⟩ | ⟨h1, _⟩
              · omega
              · simp at h1))
            clear ownr
            go_wp2_with fail
            refine CD.out.mono ?_
            rintro E wa ⟨ce, cn, g, cv, cl, rfl, owna, HCR, bela⟩
            unfold cmv
            obtain ⟨ca, ck, hcv, _, _⟩ := owna.is.shape
            have belra : Below wr.heap.size wr wa := bel9.trans (bela.mono bel9.size)
            have hRa := (bela.block _ (blk_lt hR9)).trans hR9
            have ba := b9.trans (bela.mono b9.size)
            obtain ⟨wb, hwb, hwb', szb, belb, bb, k0, k1, k2⟩ := new_step wa 32 (.int .i64 0) (.int .i64 0) (.slice none 0 0) (.int .i64 ce) (.int .i64 cn) cv
            have belrb : Below wr.heap.size wr wb := belra.trans (belb.mono belra.size)
            have hRb := (belb.block _ (blk_lt hRa)).trans hRa
            have bwb := ba.trans (belb.mono ba.size)
            have OB := hide ((owna.below belb).rebase (base' := wr.heap.size) bel9.size)
            have CR := hide HCR
            rw [hcv] at hwb hwb' k2
            have HCV := hide hcv
            subst hcv
            clear CD owna bela belb hRa ba HCR belra
            by_cases hg : g = 0
            · subst hg
              obtain ⟨V, hV, cV, XX⟩ := M.out.push belrb hlt HR9.out CR.out OB.out
              have NN := hide (mdo_next (v' := .slice ca cl.length ck) M.out.hl M.out.hc M.out.at' HR9.out CR.out)
              have cb2 : wb.cell? ⟨w5.heap.size, 2, none⟩ = some (.slice av cs.length kv) := (belrb.cell (p := ⟨w5.heap.size, 2, none⟩) (blk_lt M.out.blk)).trans (blk_cell M.out.blk 2 rfl)
              have hna := NN.out.2.2.1
              have hn1 := NN.out.2.1
              clear NN OB CR HR9 belrb bwb hRb bel9 b9 hR9 bb M szb
              go_wp2_with (at_builtin; refine wpList_append_at rfl (.tmp 63) (.tmp 65) 22 rfl (.slice av cs.length kv) (.slice (some ⟨wb.heap.size, 0, none⟩) 1 1) rfl rfl XX.out ?_)
              rintro v8 w8 MU c8 f8 a8 n8 k8 rfl
              obtain ⟨U, hU⟩ : ∃ U, w8.setCell ⟨w5.heap.size, 2, none⟩ (.slice a8 n8 k8) = U := ⟨_, rfl⟩
              rw [hU] at MU
              have MU2 := hide MU
              clear MU
              go_wp2
              go_roundw
              case rel => exact ⟨a + n, _, _, by omega, by go_num, MU2⟩
              case measure => simp [intOf]; omega
            · have hgb : (g != 0) = true := by simp [hg]
              have NO := hide (M.out.no2 hlt HR9.out CR.out hg)
              obtain ⟨⟨s0, s1, s2⟩, ⟨f0, f1, f2⟩, z0, z1, z2⟩ := ZERO.out wb hRb
              clear M HR9 CR OB belrb hRb ZERO hR9 b9 bel9
              go_wp2
              refine bodyPost_ret (v := .tuple #[.agg #[.int .i64 0, .int .i64 0, .slice none 0 0], .int .i64 0, .bool false]) (by simp [results, Try.results44, go_sem, z0, z1, z2]) rfl ?_
              exact rdo_no bwb NO.out
          · have heb : (e != 0) = true := by simp [he]
            have NO := hide (M.out.no1 hlt HR9.out he)
            obtain ⟨⟨s0, s1, s2⟩, ⟨f0, f1, f2⟩, z0, z1, z2⟩ := ZERO.out w9 hR9
            clear M HR9 ownr bel9 hR9 ZERO
            go_wp2
            refine bodyPost_ret (v := .tuple #[.agg #[.int .i64 0, .int .i64 0, .slice none 0 0], .int .i64 0, .bool false]) (by simp [results, Try.results44, go_sem, z0, z1, z2]) rfl ?_
            exact rdo_no b9 NO.out
        · have hlt' : ¬ (cs.length : Int) < m := by omega
          have hlm : cs.length = m := by have := M.out.len; omega
          have hcl : (cvs cs).length = m := by rw [cvs_many]; exact hlm
          have c0 : wr.cell? ⟨w5.heap.size, 0, none⟩ = some (.int .i64 x) := blk_cell M.out.blk 0 rfl
          have c1 : wr.cell? ⟨w5.heap.size, 1, none⟩ = some (.int .i64 y) := blk_cell M.out.blk 1 rfl
          obtain ⟨ck, hck⟩ : ∃ z, Orp.chk ⟨x, y, cvs cs⟩ = z := ⟨_, rfl⟩
          have RDX : Hid (Orp.Rd bs ⟨x, y, cvs cs⟩ a (ck == 0)) := hide (by
            have h1 := M.out.hh
            have h2 := M.out.hl
            have h3 := M.out.at'
            rw [← hcl] at h1 h2 h3
            by_cases h0 : ck = 0
            · obtain ⟨k1, k2⟩ := Orp.is_end h1 h2
              exact .inl ⟨by simp [h0], by rw [hck]; exact h0, k1, by rw [k2]; exact h3⟩
            · exact .inr ⟨by simp [h0], Orp.no_end h1 h2 M.out.hc (by rw [hck]; exact h0)⟩)
          have IX : Hid (In64 (x : Int) ∧ In64 (y : Int)) := hide ⟨⟨by omega, by omega⟩, ⟨by omega, by omega⟩⟩
          have CK : Hid (Calls Try.prog 19 #[.agg #[.int .i64 x, .int .i64 y, .slice av cs.length kv]] wr.drew fun E W => E = .returned (.int .i64 ck) ∧ (W.cell? ⟨w5.heap.size, 0, none⟩ = some (.int .i64 x) ∧ W.cell? ⟨w5.heap.size, 1, none⟩ = some (.int .i64 y) ∧ W.cell? ⟨w5.heap.size, 2, none⟩ = some (.slice av cs.length kv)) ∧
              ∃ Z, ((W.setCell ⟨w.heap.size, 0, none⟩ (.int .i64 x)).setCell ⟨w.heap.size, 1, none⟩ (.int .i64 y)).setCell ⟨w.heap.size, 2, none⟩ (.slice av cs.length kv) = Z ∧ (W.cell? ⟨w.heap.size, 0, none⟩ = some (.int .i64 0) ∧ W.cell? ⟨w.heap.size, 1, none⟩ = some (.int .i64 0) ∧ W.cell? ⟨w.heap.size, 2, none⟩ = some (.slice none 0 0)) ∧ (W.frozen? ⟨w.heap.size, 0, none⟩ = false ∧ W.frozen? ⟨w.heap.size, 1, none⟩ = false ∧ W.frozen? ⟨w.heap.size, 2, none⟩ = false) ∧
              (Z.cell? ⟨w.heap.size, 0, none⟩ = some (.int .i64 x) ∧ Z.cell? ⟨w.heap.size, 1, none⟩ = some (.int .i64 y) ∧ Z.cell? ⟨w.heap.size, 2, none⟩ = some (.slice av cs.length kv)) ∧ (Z.cell? ⟨w5.heap.size, 0, none⟩ = some (.int .i64 x) ∧ Z.cell? ⟨w5.heap.size, 1, none⟩ = some (.int .i64 y) ∧ Z.cell? ⟨w5.heap.size, 2, none⟩ = some (.slice av cs.length kv)) ∧ Hid (ShS w.heap.size Z (.slice av cs.length kv) cs ∧ Below w.heap.size w Z)) := hide (by
            have hd := (Below.refl wr.heap.size wr).drew
            have sd := M.out.sh.below hd
            have := ochkR_any x y (.slice av cs.length kv) cs wr.drew ⟨sd.c.row, fun c hc => ⟨(sd.o c hc).is, sd.i c hc⟩⟩ sd.f (by omega)
            unfold cmv at this
            rw [hck] at this
            refine this.mono ?_
            rintro E W ⟨rfl, bW⟩
            have bW2 : Below wr.heap.size wr W := hd.trans bW
            have hBW := (bW2.block _ (blk_lt M.out.blk)).trans M.out.blk
            have hRW := (bW2.block _ (blk_lt M.out.r0)).trans M.out.r0
            obtain ⟨Z, hZ, bZ, gZ, hz, fz, zz⟩ := res_step hRW (.int .i64 x) (.int .i64 y) (.slice av cs.length kv)
            have shW := M.out.sh.below bW2
            have bb := M.out.bel.trans (bW2.mono M.out.bel.size)
            have hBZ := (gZ.block _ (blk_lt hBW) (by simp; have := M.out.lt; omega)).trans hBW
            refine ⟨rfl, ⟨blk_cell hBW 0 rfl, blk_cell hBW 1 rfl, blk_cell hBW 2 rfl⟩, Z, hZ, hz, fz, zz, ⟨blk_cell hBZ 0 rfl, blk_cell hBZ 1 rfl, blk_cell hBZ 2 rfl⟩, hide ⟨(shW.out (F := fun g => g = w.heap.size) (Out.of_grown gZ fun g hg => by simp at hg; exact hg.symm) (fun g hg => by have := M.out.lt; omega)).rebase (by have := M.out.lt; omega), below_put bb gZ (Nat.le_refl _) bb.size⟩⟩)
          clear M hck hcl hlm HB ZERO
          go_wp2_with fail
          go_region_held3 (fun W => W.cell? ⟨w5.heap.size, 0, none⟩ = some (.int .i64 x) ∧ W.cell? ⟨w5.heap.size, 1, none⟩ = some (.int .i64 y) ∧ W.cell? ⟨w5.heap.size, 2, none⟩ = some (.slice av cs.length kv)) (first | exact ⟨c0, c1, c2⟩ | exact ⟨y0, y1, y2⟩ | exact ⟨t0, t1, t2⟩ | go_keep)
            (first | (go_at_call 19; refine CK.out.mono ?_; rintro E W ⟨rfl, ⟨y0, y1, y2⟩, Z, hZ, ⟨a0, a1, a2⟩, ⟨f0, f1, f2⟩, ⟨z0, z1, z2⟩, ⟨t0, t1, t2⟩, OKZ⟩))
          all_goals
            go_wp2
            refine bodyPost_ret (v := .tuple #[.agg #[.int .i64 x, .int .i64 y, .slice av cs.length kv], .int .i64 a, .bool (ck == 0)]) (by simp [results, Try.results44, go_sem, z0, z1, z2]) rfl ?_
            exact ⟨⟨x, y, .slice av cs.length kv, cs⟩, a, (ck == 0), rfl, hide ⟨OKZ.out.1, IX.out.1, IX.out.2, RDX.out, OKZ.out.2⟩⟩
    · rw [Bool.not_eq_true] at hdone
      rw [hdone]
      have NO : Hid (Orp.No bs) := hide (Orp.no_hdr HF.out (by
        rcases ST.out with ⟨_, h⟩ | ⟨h0, h1, h2, h3, h4⟩
        · exact h
        · refine Orp.noh4 h1 h2 h3 fun h5 => ?_
          rw [h0, h4, h5] at hdone
          simp at hdone))
      obtain ⟨⟨s0, s1, s2⟩, ⟨f0, f1, f2⟩, z0, z1, z2⟩ := ZERO.out (w7.drewN q8) hR7
      have BZ := hide (below_drewN B7.out q8)
      clear ST RD7 hS7 hR7 B7 HF hdone ZERO
      go_wp2
      refine bodyPost_ret (v := .tuple #[.agg #[.int .i64 0, .int .i64 0, .slice none 0 0], .int .i64 0, .bool false]) (by simp [results, Try.results44, go_sem, z0, z1, z2]) rfl ?_
      exact rdo_no BZ.out NO.out
  · have heb : (e0 != 0) = true := by simp [he0]
    have NO : Hid (Orp.No bs) := hide (Orp.no_frm (by
      rcases HRd.out with ⟨h1, _⟩ | ⟨_, _, _, h⟩
      · exact absurd h1 he0
      · exact h))
    obtain ⟨⟨s0, s1, s2⟩, ⟨f0, f1, f2⟩, z0, z1, z2⟩ := ZERO.out w2 hR2
    obtain ⟨ah, ch, hvh, _, _⟩ := ownh.is.shape
    subst hvh
    clear HRd ownh bel2 hR2 ZERO
    go_wp2
    refine bodyPost_ret (v := .tuple #[.agg #[.int .i64 0, .int .i64 0, .slice none 0 0], .int .i64 0, .bool false]) (by simp [results, Try.results44, go_sem, z0, z1, z2]) rfl ?_
    exact rdo_no B2.out NO.out

end Go.Proofs.Ytkpnkknolobioaa

/- An element of a list. No program. -/
namespace Go.Proofs.Ytkpnkknolobioaa

theorem at_of {α : Type} {l : List α} {k : Nat} (h : k < l.length) : ∃ s, l[k]? = some s := ⟨l[k], List.getElem?_eq_getElem h⟩

end Go.Proofs.Ytkpnkknolobioaa
