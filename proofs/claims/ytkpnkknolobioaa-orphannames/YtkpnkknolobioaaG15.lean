/- Texts of one layer, one behind the other. -/
import Derived.Test.YtkpnkknolobioaaG13
import Derived.Test.YtkpnkknolobioaaG14
import Derived.Test.YtkpnkknolobioaaG5
import Derived.Test.YtkpnkknolobioaaG12
import Derived.Test.YtkpnkknolobioaaG10
import Derived.Test.YtkpnkknolobioaaG4
import Derived.Deep.RegionHeld3
/- The document's Encode of a section (layer 19). -/
namespace Go.Proofs.Ytkpnkknolobioaa
open Go.RowKit
set_option linter.unusedVariables false

theorem cvs_step {rs : List Cw} {k : Nat} {c : Cw} (h : rs[k]? = some c) : cvs (rs.take (k + 1)) = cvs (rs.take k) ++ [c.c] := by
  obtain ⟨hk, e⟩ := List.getElem?_eq_some_iff.1 h
  rw [List.take_succ_eq_append_getElem hk, e]
  simp [cvs]

theorem lgb_step {rs : List Cw} {k : Nat} {c : Cw} (h : rs[k]? = some c) : Wl.lgb (cvs (rs.take (k + 1))) = Wl.lgb (cvs (rs.take k)) ++ Wl.fr c.c := by
  rw [cvs_step h, Wl.lgb_app, Wl.lgb_one]

set_option maxRecDepth 20000 in
set_option maxHeartbeats 4000000 in
theorem oencR_any (e f : Int) (v : Value) (rs : List Cw) (w : World) (h : IsC w v rs) (hf : FitC rs) (hl : rs.length ≤ 140737488355328) :
    Calls Try.prog 16 #[cmv e f v] w fun E w' => ∃ vb, E = .returned (.tuple #[vb, .int .i64 (Orp.chk ⟨e, f, cvs rs⟩)]) ∧ Own .u8 5 w.heap.size w' vb (Orp.out ⟨e, f, cvs rs⟩) ∧ Below w.heap.size w w' := by
  obtain ⟨w1, hw1, sz1, bel1, hB⟩ := blk_step w #[.int .i64 e, .int .i64 f, v] 24
  have c0 : w1.cell? ⟨w.heap.size, 0, none⟩ = some (.int .i64 e) := blk_cell hB 0 rfl
  have c1 : w1.cell? ⟨w.heap.size, 1, none⟩ = some (.int .i64 f) := blk_cell hB 1 rfl
  have c2 : w1.cell? ⟨w.heap.size, 2, none⟩ = some v := blk_cell hB 2 rfl
  have HM := hide (ochkR_any e f v rs w1 (h.below bel1) hf hl)
  have HIS := hide h
  obtain ⟨ao, cap, hvl, _, _⟩ := h.1.shape
  obtain ⟨ch, hch⟩ : ∃ x, Orp.chk ⟨e, f, cvs rs⟩ = x := ⟨_, rfl⟩
  rw [hch] at HM ⊢
  have HA := hide hch
  have HF := hide hf
  have CE : Hid (∀ W, Below w1.heap.size w1 W → W.cell? ⟨w.heap.size, 0, none⟩ = some (.int .i64 e) ∧ W.cell? ⟨w.heap.size, 1, none⟩ = some (.int .i64 f) ∧ W.cell? ⟨w.heap.size, 2, none⟩ = some v) := hide fun W hb =>
    ⟨(hb.cell (p := ⟨w.heap.size, 0, none⟩) (show w.heap.size < w1.heap.size by omega)).trans c0, (hb.cell (p := ⟨w.heap.size, 1, none⟩) (show w.heap.size < w1.heap.size by omega)).trans c1, (hb.cell (p := ⟨w.heap.size, 2, none⟩) (show w.heap.size < w1.heap.size by omega)).trans c2⟩
  have FULL : Hid (∀ (i : Nat) (W : World), i < rs.length → Below w.heap.size w W → ∃ b off, v = .slice (some ⟨b, off, none⟩) rs.length cap ∧ ∃ c, rs[i]? = some c ∧ W.cell? ⟨b, off + i * 3, none⟩ = some (.int .i64 c.e) ∧ W.cell? ⟨b, off + i * 3 + 1, none⟩ = some (.int .i64 c.n) ∧ W.cell? ⟨b, off + i * 3 + 2, none⟩ = some c.v ∧ IsO W c.v c.l ∧ ∃ a n q, c.v = .slice a n q) := hide fun i W hi hW => by
    obtain ⟨b, off, cap', hv, _, _, hb, hcell⟩ := h.1.full (by omega)
    rw [hvl] at hv
    simp only [Value.slice.injEq, true_and] at hv
    obtain ⟨rfl, rfl⟩ := hv
    obtain ⟨c, hc⟩ : ∃ c, rs[i]? = some c := ⟨rs[i], List.getElem?_eq_getElem hi⟩
    obtain ⟨d0, d1, d2⟩ := hcell i c hc
    have hio := (h.2 c (List.mem_of_getElem? hc)).1
    obtain ⟨a1, q1, ha, _, _⟩ := hio.shape
    exact ⟨b, off, hvl, c, hc, (hW.cell (p := ⟨b, off + i * 3, none⟩) hb).trans d0, (hW.cell (p := ⟨b, off + i * 3 + 1, none⟩) hb).trans d1, (hW.cell (p := ⟨b, off + i * 3 + 2, none⟩) hb).trans d2, hio.below hW, a1, _, q1, ha⟩
  have B1 := hide bel1
  unfold cmv at HM ⊢
  rw [hvl] at HM CE FULL c2 hw1
  subst hvl
  clear h hf hch hB bel1 HIS
  go_enter Try.func16, Try.ntmps16
  go_wp2_with fail
  refine HM.out.mono ?_
  rintro E w2 ⟨rfl, bel2⟩
  have sz2 := bel2.size
  clear c0 c1 c2 HM
  by_cases h0 : ch = 0
  · subst h0
    have HZ := hide (Orp.chk_zero HA.out)
    obtain ⟨g1, g2, g3, g4, g5, g6, _⟩ := HZ.out
    simp only at g1 g2 g3 g4 g5 g6
    rw [cvs_many] at g5 g6
    obtain ⟨d0, d1, d2⟩ := CE.out w2 bel2
    go_wp2_with fail
    refine (putR_any (.slice none 0 0) [] e _ (Is.nil _ _) (by simp) (by omega) (by omega)).mono ?_
    rintro E w3 ⟨v3, rfl, own3, bel3⟩
    rw [List.nil_append] at own3
    have b3 := bel2.trans (bel3.mono sz2)
    have sz3 := b3.size
    clear d0 d1 d2 bel2 bel3
    obtain ⟨d0, d1, d2⟩ := CE.out w3 b3
    have l3 := Cm.enc_small (x := e) (by omega)
    go_wp2_with fail
    refine (putR_any _ _ f _ own3.is (by omega) (by omega) (by omega)).mono ?_
    rintro E w4 ⟨v4, rfl, own4, bel4⟩
    have b4 := b3.trans (bel4.mono sz3)
    have sz4 := b4.size
    clear d0 d1 d2 own3 b3 bel4
    obtain ⟨d0, d1, d2⟩ := CE.out w4 b4
    have l4 := Cm.enc_small (x := f) (by omega)
    go_wp2_with fail
    refine (putR_any _ _ rs.length _ own4.is (by rw [List.length_append]; omega) (by omega) (by omega)).mono ?_
    rintro E w5 ⟨v5, rfl, own5, bel5⟩
    have b5 := b4.trans (bel5.mono sz4)
    have sz5 := b5.size
    clear d0 d1 d2 own4 b4 bel5
    have eh : Vm.enc e.toNat ++ Vm.enc f.toNat ++ Vm.enc (rs.length : Int).toNat = Orp.hdr ⟨e, f, cvs rs⟩ := by
      unfold Orp.hdr
      simp only
      rw [cvs_many, List.append_assoc, Int.toNat_natCast]
    rw [eh] at own5
    have lh : (Orp.hdr ⟨e, f, cvs rs⟩).length ≤ 9 := Orp.hdr_small HA.out
    have APP := hide (fappR_any (.slice none 0 0) v5 [] (Orp.hdr ⟨e, f, cvs rs⟩) w5 (Is.nil _ _) own5.is (by simp) (by omega))
    rw [show ape (Orp.hdr ⟨e, f, cvs rs⟩) = 0 by unfold ape; rw [if_pos (by omega)], show apd [] (Orp.hdr ⟨e, f, cvs rs⟩) = Fm.frm (Orp.hdr ⟨e, f, cvs rs⟩) by unfold apd; rw [if_pos (by omega)]; rfl] at APP
    clear own5 eh
    go_wp2_with fail
    refine APP.out.mono ?_
    rintro E w6 ⟨v6, rfl, own6, bel6⟩
    have b6 := b5.trans (bel6.mono sz5)
    have O6 := hide (own6.rebase (base' := w1.heap.size) (by omega))
    have LF : Hid ((Fm.frm (Orp.hdr ⟨e, f, cvs rs⟩)).length ≤ 10) := hide (by
      rw [Fm.frm_len]
      have : Vm.sz (Orp.hdr ⟨e, f, cvs rs⟩).length ≤ 1 := Vm.sz_le 0 _ (by omega)
      omega)
    clear own6 bel6 b5 APP lh
    go_wp2
    go_loopw [6, 8] (fun bb kk wr => ∃ k : Nat, k ≤ rs.length ∧ kk = .int .i64 k ∧ Hid (Own .u8 5 w1.heap.size wr bb (Fm.frm (Orp.hdr ⟨e, f, cvs rs⟩) ++ Wl.lgb (cvs (rs.take k)))) ∧ Below w1.heap.size w1 wr) (fun _ kk _ => rs.length - (intOf kk).toNat)
    case atStart => exact ⟨0, by omega, rfl, hide (by simpa [cvs, Wl.lgb, Fm.cat] using O6.out), b6⟩
    case round =>
      obtain ⟨k, hk, rfl, OK, belk⟩ := hrel
      have szk := belk.size
      have bel := B1.out.trans (belk.mono (by omega))
      obtain ⟨x0, x1, x2⟩ := CE.out wr belk
      by_cases hlt : k < rs.length
      · obtain ⟨b, off, hvx, c, hc, d0, d1, d2, hio, ca, cn, cq, hcv⟩ := FULL.out k wr hlt bel
        simp only [Value.slice.injEq, and_true] at hvx
        have hcm := List.mem_of_getElem? hc
        have hck : Cm.chk c.e c.n c.l = 0 := HZ.out.2.2.2.2.2.2.2.2 c.c (by show c.c ∈ cvs rs; exact List.mem_of_getElem? (cvs_two hc))
        obtain ⟨hfo, hfl⟩ := HF.out c hcm
        have LE : Hid ((Fm.frm (Orp.hdr ⟨e, f, cvs rs⟩) ++ Wl.lgb (cvs (rs.take k))).length ≤ 1000000000) := hide (by
          have h1 := Orp.lgb_le (l := cvs (rs.take k)) fun x hx => by
            have : x ∈ cvs rs := by
              unfold cvs at hx ⊢
              rw [List.map_take] at hx
              exact List.mem_of_mem_take hx
            exact HZ.out.2.2.2.2.2.2.2.2 x this
          rw [cvs_many, List.length_take] at h1
          have h2 := LF.out
          rw [List.length_append]
          omega)
        have NX := hide (lgb_step hc)
        have FR := hide (frameX_any c.e c.n c.v c.l wr hio hfo (by omega) hck)
        have lfr := Wl.fr_small (c := ⟨c.e, c.n, c.l⟩) hck
        have hlt' : (k : Int) < rs.length := by omega
        unfold cmv at FR
        rw [hcv] at d2 FR
        subst hvx
        clear hio hcm hck hc hcv hfo hfl
        go_wp2_with fail
        refine FR.out.mono ?_
        rintro E w7 ⟨v7, rfl, own7, bel7⟩
        have OKb := hide (OK.out.below bel7)
        have b7 := belk.trans (bel7.mono szk)
        have s7 := b7.size
        have I7 := hide own7.is
        have hsum : ((Fm.frm (Orp.hdr ⟨e, f, cvs rs⟩) ++ Wl.lgb (cvs (rs.take k))).length + (Wl.fr ⟨c.e, c.n, c.l⟩).length) * 1 ≤ 150000000000000 := by have := LE.out; omega
        clear own7 bel7 FR belk OK x0 x1 x2 d0 d1 d2 bel LE lfr
        go_wp2_with (at_builtin; refine wpList_append_is rfl (.tmp 38) (.tmp 44) 25 rfl .u8 5 w1.heap.size 1 Try.underlying25 Try.info5 (by decide) _ _ rfl OKb.out _ _ rfl I7.out hsum s7 ?_)
        intro v8 w8 own8 bel8 gr8
        have O8 : Hid (Own .u8 5 w1.heap.size w8 v8 (Fm.frm (Orp.hdr ⟨e, f, cvs rs⟩) ++ Wl.lgb (cvs (rs.take (k + 1))))) := hide (by
          rw [NX.out, sz1]
          exact own8)
        rw [← sz1] at bel8
        have b8 := b7.trans bel8
        clear own8 bel8 gr8 b7 OKb I7 NX hsum
        go_wp2
        go_roundw
        case rel => exact ⟨k + 1, by omega, by go_num, O8, b8⟩
        case measure => simp [intOf]; omega
      · have hlt' : ¬ (k : Int) < rs.length := by omega
        have OW : Hid (Own .u8 5 w.heap.size wr u6 (Orp.out ⟨e, f, cvs rs⟩)) := hide (by
          rw [Orp.out_ok HA.out]
          have := OK.out
          rw [List.take_of_length_le (by omega)] at this
          exact this.rebase (by omega))
        clear OK
        go_wp2
        go_ret2
        exact ⟨_, rfl, OW.out, bel⟩
  · have hne : (ch != 0) = true := by simp [h0]
    have HO : Hid (Orp.out ⟨e, f, cvs rs⟩ = []) := hide (Orp.out_no (by rw [HA.out]; exact h0))
    have B2 := B1.out.trans (bel2.mono (by omega))
    go_wp2
    go_ret2
    exact ⟨_, rfl, by rw [HO.out]; exact Own.nil _ _ _ _, B2⟩

end Go.Proofs.Ytkpnkknolobioaa

/- The contract of the program's Decode. -/
namespace Go.Proofs.Ytkpnkknolobioaa
open Go.RowKit
set_option linter.unusedVariables false

set_option maxHeartbeats 1000000 in
theorem cdec_any (vb : Value) (bs : List Int) (w : World) (hb : Is .u8 w vb bs) (hl : bs.length ≤ 140737488355328) :
    Calls Try.prog 103 #[vb] w fun E w' => ∃ (e n g : Int) (v : Value) (l : List Bm.Ov), E = .returned (.tuple #[cmv e n v, .int .i64 g]) ∧ OwnO 66 w.heap.size w' v l ∧ Cm.CRes bs e n l g ∧ Below w.heap.size w w' := by
  unfold cmv
  obtain ⟨w1, hw1, sz1, bel1, hB⟩ := blk_step w #[.int .i64 0, .int .i64 0, .slice none 0 0] 32
  have hb1 := hb.below bel1
  obtain ⟨ao, cap, rfl, _, _⟩ := hb.shape
  have HB := hide hB
  clear hB
  go_enter Try.func103, Try.ntmps103
  go_wp2_with fail
  refine (cread_any _ bs _ hb1 (by omega)).mono ?_
  rintro E w2 ⟨e, n, k, g, vl, l, rfl, ownl, hR, bel2⟩
  unfold cmv
  have sz2 := bel2.size
  have hB2 := (bel2.block w.heap.size (by omega)).trans HB.out
  have bel02 := bel1.trans (bel2.mono (by omega))
  obtain ⟨ah, ch, hvl, _, _⟩ := ownl.is.shape
  subst hvl
  obtain ⟨V, hV, hV2, szV, belV, bC, c0, c1, c2⟩ := new_step w2 32 (.int .i64 0) (.int .i64 0) (.slice none 0 0) (.int .i64 e) (.int .i64 n) (.slice ah l.length ch)
  have hB3 := (belV.block w.heap.size (by omega)).trans hB2
  have bel0V := bel02.trans (belV.mono (by omega))
  obtain ⟨Z, hZ, bZ, gZ, ⟨a0, a1, a2⟩, ⟨f0, f1, f2⟩, ⟨z0, z1, z2⟩⟩ := res_step hB3 (.int .i64 0) (.int .i64 0) (.slice none 0 0)
  have belZ := below_put bel0V gZ (Nat.le_refl _) (by omega)
  have H3 := hide hB3
  have HC := hide bC
  have ownV := ownl.below belV
  clear hB2 hB3 bC bZ gZ bel1 bel2 bel02 HB ownl hb1
  rcases hR with ⟨rfl, x, y, hx, hy, px, py, hc, hp, rfl, rfl, rfl⟩ | ⟨rfl, rfl, rfl, rfl, rfl, hno⟩
  · by_cases hk : Vm.sz x + Vm.sz y + (Bm.encB l).length = bs.length
    · have HK := hide hk
      rw [hk]
      have hkk : ((bs.length : Int) != (bs.length : Int)) = false := by simp
      have hfit := (small_of hc).fit
      have hl8 := (Bm.chkL_zero hc).2.1
      have P : Hid (Vm.enc x <+: bs ∧ Vm.enc y <+: bs.drop (Vm.sz x) ∧ Bm.chkL l = 0 ∧ Bm.encB l <+: bs.drop (Vm.sz x + Vm.sz y)) := ⟨px, py, hc, hp⟩
      clear hk px py hc hp
      go_wp2_with fail
      refine (ccheck_any x y _ l _ ownV.is hfit (by omega)).mono ?_
      rintro E w4 ⟨rfl, bel4⟩
      obtain ⟨px, py, hc, hp⟩ := P.out
      have sz4 := bel4.size
      have hB4 := (bel4.block w.heap.size (by omega)).trans H3.out
      have hC4 := (bel4.block w2.heap.size (by omega)).trans HC.out
      have bel04 := bel0V.trans (bel4.mono (by omega))
      have d0 := blk_cell hC4 0 rfl
      have d1 := blk_cell hC4 1 rfl
      have d2 := blk_cell hC4 2 rfl
      have own4 := ownV.below bel4
      clear hZ z0 z1 z2 belZ a0 a1 a2 f0 f1 f2 c0 c1 c2 hV hV2 belV bel0V ownV H3 HC bel4 P
      by_cases hck : Cm.chk x y l = 0
      · rw [hck]
        obtain ⟨V', hV', bV', gV', ⟨a0, a1, a2⟩, ⟨f0, f1, f2⟩, ⟨z0, z1, z2⟩⟩ := res_step hB4 (.int .i64 x) (.int .i64 y) (.slice ah l.length ch)
        have belV' := below_put bel04 gV' (Nat.le_refl _) (by omega)
        have ownV' := (own4.keptg gV' (by omega)).rebase (base' := w.heap.size) (by omega)
        have HR : Hid (Cm.CRes bs x y l 0) := hide (.inl ⟨rfl, hck, Cm.is_commit px py hp HK.out⟩)
        clear px py hc hp bV' gV' hB4 own4 bel04 hck HK hC4
        go_wp2
        refine bodyPost_ret (v := .tuple #[.agg #[.int .i64 x, .int .i64 y, .slice ah l.length ch], .int .i64 0]) (by simp [results, Try.results103, go_sem, z0, z1, z2]) rfl ?_
        exact ⟨_, _, _, _, _, rfl, ownV', HR.out, belV'⟩
      · have HR : Hid (Cm.CRes bs 0 0 [] 5) := hide (.inr ⟨rfl, rfl, rfl, rfl, Cm.no_left px py hc hp (.inr hck)⟩)
        have hne : (Cm.chk x y l == 0) = false := by simpa using hck
        obtain ⟨V', hV', bV', gV', ⟨a0, a1, a2⟩, ⟨f0, f1, f2⟩, ⟨z0, z1, z2⟩⟩ := res_step hB4 (.int .i64 0) (.int .i64 0) (.slice none 0 0)
        have belV' := below_put bel04 gV' (Nat.le_refl _) (by omega)
        generalize Cm.chk x y l = ck at *
        clear px py hc hp bV' gV' hB4 own4 bel04 hck HK hC4
        go_wp2
        refine bodyPost_ret (v := .tuple #[.agg #[.int .i64 0, .int .i64 0, .slice none 0 0], .int .i64 5]) (by simp [results, Try.results103, go_sem, z0, z1, z2]) rfl ?_
        exact ⟨_, _, _, _, _, rfl, OwnO.nil _ _ _, HR.out, belV'⟩
    · have HR : Hid (Cm.CRes bs 0 0 [] 5) := hide (.inr ⟨rfl, rfl, rfl, rfl, Cm.no_left px py hc hp (.inl hk)⟩)
      generalize Vm.sz x + Vm.sz y + (Bm.encB l).length = q at *
      have hkk : ((q : Int) != (bs.length : Int)) = true := by simp; omega
      clear hk px py hc hp
      go_wp2
      refine bodyPost_ret (v := .tuple #[.agg #[.int .i64 0, .int .i64 0, .slice none 0 0], .int .i64 5]) (by simp [results, Try.results103, go_sem, z0, z1, z2]) rfl ?_
      exact ⟨_, _, _, _, _, rfl, OwnO.nil _ _ _, HR.out, belZ⟩
  · have HR : Hid (Cm.CRes bs 0 0 [] 5) := hide (.inr ⟨rfl, rfl, rfl, rfl, hno⟩)
    clear hno
    simp only [List.length_nil] at hV hV2 c2
    go_wp2
    refine bodyPost_ret (v := .tuple #[.agg #[.int .i64 0, .int .i64 0, .slice none 0 0], .int .i64 5]) (by simp [results, Try.results103, go_sem, z0, z1, z2]) rfl ?_
    exact ⟨_, _, _, _, _, rfl, OwnO.nil _ _ _, HR.out, belZ⟩

end Go.Proofs.Ytkpnkknolobioaa

/- The contract of the document's reader's Done. -/
namespace Go.Proofs.Ytkpnkknolobioaa
open Go.RowKit
set_option linter.unusedVariables false

set_option maxHeartbeats 400000 in
theorem rdone_any (w0 w : World) (g : Nat) (vb : Value) (bs : List Int) (a : Nat) (bad : Bool) (h : Rdr w0 w g vb bs a bad) :
    Calls Try.prog 80 #[.pointer (some ⟨g, 0, none⟩)] w fun E w' => E = .returned (.bool (!bad && decide (a = bs.length))) ∧ ∃ m, w' = w.drewN m := by
  have c0 := h.cell0
  have c1 := h.cell1
  have c2 := h.cell2
  obtain ⟨ao, cap, rfl, _, _⟩ := h.is.shape
  clear h
  go_enter Try.func80, Try.ntmps80
  cases bad
  · by_cases he : a = bs.length
    · have he' : ((a : Int) == (bs.length : Int)) = true := by simp [he]
      have hd : (!false && decide (a = bs.length)) = true := by simp [he]
      rw [hd]
      clear he hd
      go_wp2_with fail
      go_quiet (fail)
      go_wp2
      go_ret
      exact ⟨rfl, _, rfl⟩
    · have he' : ((a : Int) == (bs.length : Int)) = false := by simp; omega
      have hd : (!false && decide (a = bs.length)) = false := by simp [he]
      rw [hd]
      clear he hd
      go_wp2_with fail
      go_quiet (fail)
      go_wp2
      go_ret
      exact ⟨rfl, _, rfl⟩
  · rw [Bool.not_true, Bool.false_and]
    go_wp2_with fail
    go_quiet (fail)
    go_wp2
    go_ret
    exact ⟨rfl, _, rfl⟩

end Go.Proofs.Ytkpnkknolobioaa

/- slices.Clone of a list of ops. -/
namespace Go.Proofs.Ytkpnkknolobioaa
open Go.RowKit
set_option linter.unusedVariables false

set_option maxHeartbeats 400000 in
theorem cloneO_any (vl : Value) (l : List Bm.Ov) (w : World) (h : IsO w vl l) (hl : l.length * 40 ≤ 140737488351232) :
    Calls Try.prog 104 #[vl] w fun e w' => ∃ v, e = .returned v ∧ OwnO 66 w.heap.size w' v l ∧ Below w.heap.size w w' := by
  have q : ∀ (w : World) (a : Option Addr) (n c n' c' : Nat), (binOp .eql 30 (.slice a n c) (.slice none n' c')).run Try.prog w = .ok (.bool a.isNone) w := fun w a n c n' c' => Lib.run_eql_slice_nil w _ _ a n c n' c' Try.underlying30
  by_cases hn : vl = .slice none 0 0
  · subst hn
    have : l = [] := by
      rcases h with ⟨_, h⟩ | ⟨ad, cap, h, _⟩
      · exact h
      · simp at h
    subst this
    clear h hl
    go_enter Try.func104, Try.ntmps104
    go_wp2
    go_ret
    exact ⟨_, rfl, OwnO.nil _ _ _, Below.refl _ _⟩
  · obtain ⟨ad, cap, rfl⟩ : ∃ ad cap, vl = .slice (some ad) l.length cap := by
      rcases h with ⟨h, _⟩ | ⟨ad, cap, h, _⟩
      · exact absurd h hn
      · exact ⟨ad, cap, h⟩
    clear hn
    obtain ⟨w1, hw1, sz1, bel1, own1⟩ := ops_step 66 w #[] 0 [] rfl rfl (by simp [maxLen])
    have h1 := h.below bel1
    go_enter Try.func104, Try.ntmps104
    go_wp2_with (at_builtin; refine wpList_append_ops rfl (.tmp 5) (.tmp 6) 30 rfl 66 w.heap.size Try.underlying30 Try.info66 _ [] rfl own1 _ l rfl h1 (by simp; omega) (by omega) ?_)
    intro v2 w2 own2 bel2 _
    go_wp2
    go_ret
    exact ⟨_, rfl, by simpa using own2, bel1.trans bel2⟩

end Go.Proofs.Ytkpnkknolobioaa

/- The contract of Copy (commits). -/
namespace Go.Proofs.Ytkpnkknolobioaa
open Go.RowKit
set_option linter.unusedVariables false

theorem put_one {V : World} {R : Nat} {t : TypeId} {x y z : Value} (hR : V.heap[R]? = some (.cells #[x, y, z] t (0, 0))) (c : Value) :
    ∃ V', V.setCell ⟨R, 2, none⟩ c = V' ∧ V'.heap[R]? = some (.cells #[x, y, c] t (0, 0)) ∧ V.grownBy V' (some R) ∧ V.cell? ⟨R, 2, none⟩ = some z ∧ V.frozen? ⟨R, 2, none⟩ = false :=
  ⟨_, rfl, set_cells hR 2 c, grown_setCell V ⟨R, 2, none⟩ c, blk_cell hR 2 rfl, blk_froz hR 2⟩

set_option maxHeartbeats 400000 in
theorem ccopy_any (e n : Int) (v : Value) (l : List Bm.Ov) (w : World) (h : IsO w v l) (hl : l.length * 40 ≤ 140737488351232) :
    Calls Try.prog 77 #[cmv e n v] w fun E w' => ∃ v', E = .returned (cmv e n v') ∧ OwnO 66 w.heap.size w' v' l ∧ Below w.heap.size w w' := by
  unfold cmv
  obtain ⟨w1, hw1, sz1, bel1, hB⟩ := blk_step w #[.int .i64 e, .int .i64 n, v] 32
  obtain ⟨w2, hw2, sz2, bel2, hR⟩ := blk_step w1 #[.int .i64 0, .int .i64 0, .slice none 0 0] 32
  rw [sz1] at hR
  have hB2 := (bel2.block w.heap.size (by omega)).trans hB
  have bel02 : Below w.heap.size w w2 := bel1.trans (bel2.mono (by omega))
  have h2 := h.below bel02
  obtain ⟨ao, cap, rfl, _, _⟩ := h.shape
  have c2 := blk_cell hB2 2 rfl
  have HB := hide hB2
  have HR := hide hR
  clear hB hB2 hR bel1 bel2
  go_enter Try.func77, Try.ntmps77
  go_wp2_with fail
  refine (cloneO_any _ l _ h2 hl).mono ?_
  rintro E w3 ⟨v3, rfl, own3, bel3⟩
  have sz3 := bel3.size
  have hB3 := (bel3.block w.heap.size (by omega)).trans HB.out
  have hR3 := (bel3.block (w.heap.size + 1) (by omega)).trans HR.out
  have bel03 := bel02.trans (bel3.mono (by omega))
  obtain ⟨ah, ch, hvl, _, _⟩ := own3.is.shape
  subst hvl
  obtain ⟨X, hX, cX, gX, q2, q3⟩ := put_one hB3 (.slice ah l.length ch)
  have szX := gX.size
  have hRX := (gX.block (w.heap.size + 1) (by omega) (by simp)).trans hR3
  have ownX := own3.keptg gX (by omega)
  have bel0X := below_put bel03 gX (Nat.le_refl _) (by omega)
  have d0 := blk_cell cX 0 rfl
  have d1 := blk_cell cX 1 rfl
  have d2 := blk_cell cX 2 rfl
  obtain ⟨V', hV', bV', gV', ⟨a0, a1, a2⟩, ⟨f0, f1, f2⟩, ⟨z0, z1, z2⟩⟩ := res_step hRX (.int .i64 e) (.int .i64 n) (.slice ah l.length ch)
  have belV' := below_put bel0X gV' (by omega) (by omega)
  have ownV' := (ownX.keptg gV' (by omega)).rebase (base' := w.heap.size) (by omega)
  clear HB HR hB3 hR3 cX gX hRX bV' gV' own3 ownX bel03 bel0X bel3 c2
  go_wp2
  refine bodyPost_ret (v := .agg #[.int .i64 e, .int .i64 n, .slice ah l.length ch]) (by simp [results, Try.results77, go_sem, z0, z1, z2]) rfl ?_
  exact ⟨_, rfl, ownV', belV'⟩

end Go.Proofs.Ytkpnkknolobioaa

/- The contracts of the document's Done and Decode; of the copy that slices.Clone makes of ops, and of Copy. -/
namespace Go.Proofs.Ytkpnkknolobioaa
open Go.RowKit
set_option linter.unusedVariables false

/-- What the reader's three steps come to. -/
theorem doc_steps {bs : List Int} {u n a1 a2 a3 : Nat} {b1 b2 b3 : Bool} {l : List Bm.Ov} (s1 : SStep bs 1048576 0 false u a1 b1) (s2 : SStep bs 1048576 a1 b1 n a2 b2) (s3 : Bm.NX bs a2 b2 l a3 b3) :
    (b3 = true ∧ ∀ e' n' l', Cm.chk e' n' l' = 0 → Cm.encC e' n' l' ≠ bs) ∨
    (b3 = false ∧ Vm.enc u <+: bs ∧ Vm.enc n <+: bs.drop (Vm.sz u) ∧ Bm.chkL l = 0 ∧ Bm.encB l <+: bs.drop (Vm.sz u + Vm.sz n) ∧ a3 = Vm.sz u + Vm.sz n + (Bm.encB l).length) := by
  rcases s1 with ⟨h, _⟩ | ⟨_, rfl, rfl, rfl, h1⟩ | ⟨_, rfl, h1, h2, rfl⟩
  · simp at h
  · rcases s2 with ⟨_, rfl, _⟩ | ⟨h, _⟩ | ⟨h, _⟩
    · rcases s3 with ⟨_, rfl, _⟩ | ⟨h, _⟩
      · exact .inl ⟨rfl, Cm.no_epoch (by simpa [Cm.NoNum] using h1)⟩
      · simp at h
    · simp at h
    · simp at h
  · rw [List.drop_zero] at h2
    rw [Nat.zero_add] at s2
    rcases s2 with ⟨h, _⟩ | ⟨_, rfl, rfl, rfl, k1⟩ | ⟨_, rfl, k1, k2, rfl⟩
    · simp at h
    · rcases s3 with ⟨_, rfl, _⟩ | ⟨h, _⟩
      · exact .inl ⟨rfl, Cm.no_number h2 k1⟩
      · simp at h
    · rcases s3 with ⟨h, _⟩ | ⟨_, ⟨rfl, h⟩ | ⟨rfl, _, h⟩⟩
      · simp at h
      · rcases h with ⟨_, g1, g2, g3⟩ | ⟨h, _⟩
        · exact .inr ⟨rfl, h2, k2, g1, g2, by omega⟩
        · simp at h
      · rcases h with ⟨h, _⟩ | ⟨_, _, _, h⟩
        · simp at h
        · exact .inl ⟨rfl, Cm.no_batch h2 k2 h⟩

theorem sstep_le {bs : List Int} {a u a' : Nat} {b b' : Bool} (h : SStep bs 1048576 a b u a' b') : u ≤ 1048576 := by
  rcases h with ⟨_, _, rfl, _⟩ | ⟨_, _, rfl, _⟩ | ⟨_, _, h, _⟩
  · omega
  · omega
  · exact h

theorem nx_small {bs : List Int} {a a' : Nat} {b b' : Bool} {l : List Bm.Ov} (h : Bm.NX bs a b l a' b') : SmallO l ∧ l.length ≤ 8 := by
  rcases h with ⟨_, _, rfl⟩ | ⟨_, ⟨_, h⟩ | ⟨_, rfl, _⟩⟩
  · exact ⟨fun o ho => by simp at ho, by simp⟩
  · exact bres_small h
  · exact ⟨fun o ho => by simp at ho, by simp⟩

set_option maxHeartbeats 2000000 in
theorem cdecR_any (vb : Value) (bs : List Int) (w : World) (hb : Is .u8 w vb bs) (hl : bs.length ≤ 140737488355328) :
    Calls Try.prog 81 #[vb] w fun E w' => ∃ (e n g : Int) (v : Value) (l : List Bm.Ov), E = .returned (.tuple #[cmv e n v, .int .i64 g]) ∧ OwnO 66 w.heap.size w' v l ∧ Cm.CRes bs e n l g ∧ Below w.heap.size w w' := by
  unfold cmv
  obtain ⟨ao, cap, rfl, _, _⟩ := hb.shape
  obtain ⟨w1, hw1, sz1, bel1, hB⟩ := blk_step w #[.int .i64 0, .int .i64 0, .slice none 0 0] 32
  obtain ⟨w2, hw2, sz2, bel2, hG⟩ := blk_step w1 #[.slice ao bs.length cap, .int .i64 0, .bool false] 105
  rw [sz1] at hG
  have bel02 : Below w.heap.size w w2 := bel1.trans (bel2.mono (by omega))
  have r2 : Rdr w w2 (w.heap.size + 1) (.slice ao bs.length cap) bs 0 false := ⟨hb, by omega, bel02, hG, by omega⟩
  have hB2 := (bel2.block w.heap.size (by omega)).trans hB
  have HB2 := hide hB2
  clear hB hB2 hG bel1 bel2 bel02
  go_enter Try.func81, Try.ntmps81
  go_wp2_with fail
  refine (rsmall_any w w2 (w.heap.size + 1) _ bs 0 false 1048576 r2 (by omega) (by omega)).mono ?_
  rintro E w3 ⟨u, a1, b1, rfl, r3, gr3, s1⟩
  have sz3 := gr3.size
  have hB3 := (gr3.block w.heap.size (by omega) (by simp)).trans HB2.out
  have S1 := hide s1
  have hu := sstep_le s1
  have HB3 := hide hB3
  clear HB2 hB3 r2 gr3 s1
  go_wp2_with fail
  refine (rsmall_any w w3 (w.heap.size + 1) _ bs a1 b1 1048576 r3 (by omega) (by omega)).mono ?_
  rintro E w4 ⟨n, a2, b2, rfl, r4, gr4, s2⟩
  have sz4 := gr4.size
  have hB4 := (gr4.block w.heap.size (by omega) (by simp)).trans HB3.out
  have S2 := hide s2
  have hn := sstep_le s2
  clear HB3 r3 gr4 s2
  obtain ⟨V, hV, hV2, szV, belV, bC, c0, c1, c2⟩ := new_step w4 32 (.int .i64 0) (.int .i64 0) (.slice none 0 0) (.int .i64 u) (.int .i64 n) (.slice none 0 0)
  have rV := r4.below belV
  have hBV := (belV.block w.heap.size (by omega)).trans hB4
  have HBV := hide hBV
  have HC := hide bC
  have fz := blk_froz bC 2
  have ss : V.setCell ⟨w4.heap.size, 2, none⟩ (.slice none 0 0) = V := set_same bC (j := 2) rfl
  clear hB4 hBV bC r4 belV c0 c1
  go_wp2_with fail
  refine (bnextR_any w V (w.heap.size + 1) _ bs a2 b2 rV hl).mono ?_
  rintro E w5 ⟨vl, l, a3, b3, rfl, ownl, r5, gr5, s3⟩
  have sz5 := gr5.size
  have hB5 := (gr5.block w.heap.size (by omega) (by simp)).trans HBV.out
  have hC5 := (gr5.block w4.heap.size (by omega) (by simp; omega)).trans HC.out
  obtain ⟨hsm, hl8⟩ := nx_small s3
  have hfit := hsm.fit
  have hst := doc_steps S1.out S2.out s3
  obtain ⟨ah, ch, hvl, _, _⟩ := ownl.is.shape
  subst hvl
  obtain ⟨X, hX, cX, gX, q2, q3⟩ := put_one hC5 (.slice ah l.length ch)
  have szX := gX.size
  have rX := r5.grownB gX (by omega) (by omega)
  have hBX := (gX.block w.heap.size (by omega) (by simp; omega)).trans hB5
  have ownX := ownl.keptg gX (by omega)
  have HX := hide hBX
  have HCX := hide cX
  have HST := hide hst
  clear S1 S2 s3 hst hBX cX gX gr5 r5 hB5 hC5 HBV HC rV hV hV2 hsm fz ss c2
  go_wp2_with fail
  refine (rdone_any w X (w.heap.size + 1) _ bs a3 b3 rX).mono ?_
  rintro E w6 ⟨rfl, mq, rfl⟩
  have bel6 : Below X.heap.size X (X.drewN mq) := below_drewN (Below.refl _ _) mq
  generalize hw6 : X.drewN mq = w6 at *
  have sz6 := bel6.size
  have r6 := rX.below bel6
  have hB6 := (bel6.block w.heap.size (by omega)).trans HX.out
  have hC6 := (bel6.block w4.heap.size (by omega)).trans HCX.out
  have own6 := ownX.below bel6
  have bel06 : Below w.heap.size w w6 := r6.2.2.1
  have c0 := blk_cell hC6 0 rfl
  have c1 := blk_cell hC6 1 rfl
  have c2 := blk_cell hC6 2 rfl
  clear rX r6 ownX HX HCX bel6 q2 q3 hX hw6 hw1 hw2
  have HB6 := hide hB6
  have HC6 := hide hC6
  by_cases hd : b3 = false ∧ a3 = bs.length
  · obtain ⟨rfl, rfl⟩ := hd
    have hdd : (!false && decide (bs.length = bs.length)) = true := by simp
    rw [hdd]
    clear hdd hB6 hC6
    go_wp2_with fail
    refine (ccheckR_any u n _ l _ own6.is hfit (by omega)).mono ?_
    rintro E w7 ⟨rfl, bel7⟩
    have sz7 := bel7.size
    have hB7 := (bel7.block w.heap.size (by omega)).trans HB6.out
    have hC7 := (bel7.block w4.heap.size (by omega)).trans HC6.out
    have own7 := own6.below bel7
    have bel07 := bel06.trans (bel7.mono (by omega))
    have d0 := blk_cell hC7 0 rfl
    have d1 := blk_cell hC7 1 rfl
    have d2 := blk_cell hC7 2 rfl
    clear HB6 HC6 c0 c1 c2 hC7 own6 bel06 bel7
    rcases HST.out with ⟨h, _⟩ | ⟨_, px, py, hc, hp, hk⟩
    · simp at h
    · by_cases hck : Cm.chk u n l = 0
      · rw [hck]
        obtain ⟨V', hV', bV', gV', ⟨a0, a1', a2'⟩, ⟨f0, f1, f2⟩, ⟨z0, z1, z2⟩⟩ := res_step hB7 (.int .i64 u) (.int .i64 n) (.slice ah l.length ch)
        have belV' := below_put bel07 gV' (Nat.le_refl _) (by omega)
        have ownV' := (own7.keptg gV' (by omega)).rebase (base' := w.heap.size) (by omega)
        have HR : Hid (Cm.CRes bs u n l 0) := hide (.inl ⟨rfl, hck, Cm.is_commit px py hp hk.symm⟩)
        clear px py hc hp hk bV' gV' hB7 own7 bel07 hck HST
        go_wp2
        refine bodyPost_ret (v := .tuple #[.agg #[.int .i64 u, .int .i64 n, .slice ah l.length ch], .int .i64 0]) (by simp [results, Try.results81, go_sem, z0, z1, z2]) rfl ?_
        exact ⟨_, _, _, _, _, rfl, ownV', HR.out, belV'⟩
      · have HR : Hid (Cm.CRes bs 0 0 [] 5) := hide (.inr ⟨rfl, rfl, rfl, rfl, Cm.no_left px py hc hp (.inr hck)⟩)
        have hne : (Cm.chk u n l == 0) = false := by simpa using hck
        obtain ⟨V', hV', bV', gV', ⟨a0, a1', a2'⟩, ⟨f0, f1, f2⟩, ⟨z0, z1, z2⟩⟩ := res_step hB7 (.int .i64 0) (.int .i64 0) (.slice none 0 0)
        have belV' := below_put bel07 gV' (Nat.le_refl _) (by omega)
        generalize Cm.chk u n l = ck at *
        clear px py hc hp hk bV' gV' hB7 own7 bel07 hck HST
        go_wp2
        refine bodyPost_ret (v := .tuple #[.agg #[.int .i64 0, .int .i64 0, .slice none 0 0], .int .i64 5]) (by simp [results, Try.results81, go_sem, z0, z1, z2]) rfl ?_
        exact ⟨_, _, _, _, _, rfl, OwnO.nil _ _ _, HR.out, belV'⟩
  · have hdd : (!b3 && decide (a3 = bs.length)) = false := by
      cases b3
      · simpa using hd
      · rfl
    rw [hdd]
    have HR : Hid (Cm.CRes bs 0 0 [] 5) := hide (.inr ⟨rfl, rfl, rfl, rfl, by
      rcases HST.out with ⟨_, h⟩ | ⟨h, px, py, hc, hp, hk⟩
      · exact h
      · exact Cm.no_left px py hc hp (.inl fun e => hd ⟨h, by omega⟩)⟩)
    obtain ⟨V', hV', bV', gV', ⟨a0, a1', a2'⟩, ⟨f0, f1, f2⟩, ⟨z0, z1, z2⟩⟩ := res_step hB6 (.int .i64 0) (.int .i64 0) (.slice none 0 0)
    have belV' := below_put bel06 gV' (Nat.le_refl _) (by omega)
    clear hd hdd HST bV' gV' hB6 hC6 own6 bel06 HB6 HC6
    go_wp2
    refine bodyPost_ret (v := .tuple #[.agg #[.int .i64 0, .int .i64 0, .slice none 0 0], .int .i64 5]) (by simp [results, Try.results81, go_sem, z0, z1, z2]) rfl ?_
    exact ⟨_, _, _, _, _, rfl, OwnO.nil _ _ _, HR.out, belV'⟩

end Go.Proofs.Ytkpnkknolobioaa

/- The document's reading of a section (layer 19). -/
namespace Go.Proofs.Ytkpnkknolobioaa
open Go.RowKit
set_option linter.unusedVariables false

/-- What the three numbers of a header come to. -/
theorem doc3o {bs : List Int} {x y m a1 a2 a3 : Nat} {b1 b2 b3 : Bool} (s1 : SStep bs 1048576 0 false x a1 b1) (s2 : SStep bs 1048576 a1 b1 y a2 b2) (s3 : SStep bs 1048576 a2 b2 m a3 b3) :
    (x ≤ 1048576 ∧ y ≤ 1048576 ∧ m ≤ 1048576) ∧ ((b3 = true ∧ Orp.NoH bs) ∨ (b3 = false ∧ Vm.enc x <+: bs ∧ Vm.enc y <+: bs.drop (Vm.sz x) ∧ Vm.enc m <+: bs.drop (Vm.sz x + Vm.sz y) ∧ a3 = Vm.sz x + Vm.sz y + Vm.sz m)) := by
  rcases s1 with ⟨h, _⟩ | ⟨_, rfl, rfl, _, h⟩ | ⟨_, rfl, h1, h2, h3⟩
  · cases h
  · rcases s2 with ⟨_, rfl, rfl, _⟩ | ⟨h, _⟩ | ⟨h, _⟩
    · rcases s3 with ⟨_, rfl, rfl, _⟩ | ⟨h, _⟩ | ⟨h, _⟩
      · exact ⟨by omega, .inl ⟨rfl, Orp.noh1 (by simpa using h)⟩⟩
      · cases h
      · cases h
    · cases h
    · cases h
  · rw [List.drop_zero] at h2
    have e1 : a1 = Vm.sz x := by omega
    subst e1
    rcases s2 with ⟨h, _⟩ | ⟨_, rfl, rfl, _, h⟩ | ⟨_, rfl, k1, k2, k3⟩
    · cases h
    · rcases s3 with ⟨_, rfl, rfl, _⟩ | ⟨h, _⟩ | ⟨h, _⟩
      · exact ⟨by omega, .inl ⟨rfl, Orp.noh2 h2 h⟩⟩
      · cases h
      · cases h
    · subst k3
      rcases s3 with ⟨h, _⟩ | ⟨_, rfl, rfl, _, h⟩ | ⟨_, rfl, j1, j2, j3⟩
      · cases h
      · exact ⟨by omega, .inl ⟨rfl, Orp.noh3 h2 k2 h⟩⟩
      · exact ⟨by omega, .inr ⟨rfl, h2, k2, j2, j3⟩⟩

/-- What a reading of one section answers and leaves. -/
def RdO (w : World) (bs : List Int) (E : Ending) (w' : World) : Prop :=
  ∃ (x : Sw) (n : Nat) (g : Bool), E = .returned (.tuple #[.agg #[.int .i64 x.e, .int .i64 x.f, x.v], .int .i64 n, .bool g]) ∧ Hid (ShS w.heap.size w' x.v x.rs ∧ In64 x.e ∧ In64 x.f ∧ Orp.Rd bs x.s n g ∧ Below w.heap.size w w')

theorem rdo_no {w w' : World} {bs : List Int} (hb : Below w.heap.size w w') (hn : Orp.No bs) : RdO w bs (.returned (.tuple #[.agg #[.int .i64 0, .int .i64 0, .slice none 0 0], .int .i64 0, .bool false])) w' :=
  ⟨⟨0, 0, .slice none 0 0, []⟩, 0, false, rfl, hide ⟨ShS.nil _ _, by simp [In64], by simp [In64], .inr ⟨rfl, hn⟩, hb⟩⟩

/-- In the midst of the commits. -/
structure MdO (w wr : World) (bs : List Int) (S x y m a : Nat) (v : Value) (cs : List Cw) : Prop where
  blk : wr.heap[S]? = some (.cells #[.int .i64 x, .int .i64 y, v] 24 (0, 0))
  r0 : wr.heap[w.heap.size]? = some (.cells #[.int .i64 0, .int .i64 0, .slice none 0 0] 24 (0, 0))
  lt : w.heap.size < S
  sh : ShS (S + 1) wr v cs
  bel : Below w.heap.size w wr
  hh : Fm.frm (Vm.enc x ++ (Vm.enc y ++ Vm.enc m)) <+: bs
  hl : Wl.lgb (cvs cs) <+: bs.drop (Fm.frm (Vm.enc x ++ (Vm.enc y ++ Vm.enc m))).length
  hc : ∀ c ∈ cvs cs, Cm.chk c.e c.n c.l = 0
  at' : a = (Fm.frm (Vm.enc x ++ (Vm.enc y ++ Vm.enc m))).length + (Wl.lgb (cvs cs)).length
  len : cs.length ≤ m
  num : x ≤ 1048576 ∧ y ≤ 1048576 ∧ m ≤ 1048576

theorem MdO.le {w wr : World} {bs : List Int} {S x y m a : Nat} {v : Value} {cs : List Cw} (h : MdO w wr bs S x y m a v cs) : a ≤ bs.length := by
  have h1 := h.hh.length_le
  have h2 := h.hl.length_le
  rw [List.length_drop] at h2
  rw [h.at']
  omega

/-- No frame follows. -/
theorem MdO.no1 {w wr : World} {bs : List Int} {S x y m a : Nat} {v : Value} {cs : List Cw} (h : MdO w wr bs S x y m a v cs) (hlt : cs.length < m) {r : List Int} {n : Nat} {e : Int} (hr : Fm.Rd (bs.drop a) r n e) (he : e ≠ 0) : Orp.No bs := by
  rcases hr with ⟨h1, _⟩ | ⟨_, _, _, hn⟩
  · exact absurd h1 he
  · refine Orp.no_mid h.hh h.hl h.hc (by rw [cvs_many]; exact hlt) fun c hc hp => ?_
    rw [← h.at'] at hp
    exact hn _ (by have := Wl.rec_small hc; omega) hp

/-- A frame follows that is no commit. -/
theorem MdO.no2 {w wr : World} {bs : List Int} {S x y m a : Nat} {v : Value} {cs : List Cw} (h : MdO w wr bs S x y m a v cs) (hlt : cs.length < m) {r : List Int} {n : Nat} (hr : Fm.Rd (bs.drop a) r n 0) {e k g : Int} {l : List Bm.Ov} (hd : Cm.CRes r e k l g) (hg : g ≠ 0) : Orp.No bs := by
  rcases hr with ⟨_, _, _, hp⟩ | ⟨h1, _⟩
  · rcases hd with ⟨h1, _⟩ | ⟨_, _, _, _, hn⟩
    · exact absurd h1 hg
    · refine Orp.no_mid h.hh h.hl h.hc (by rw [cvs_many]; exact hlt) fun c hc hq => ?_
      rw [← h.at'] at hq
      exact hn _ _ _ hc (Fm.frm_one hq hp)
  · simp at h1

/-- A commit follows. -/
theorem mdo_next {bs : List Int} {x y m a : Nat} {cs : List Cw} {r : List Int} {n : Nat} {e k : Int} {l : List Bm.Ov} {v' : Value}
    (hl : Wl.lgb (cvs cs) <+: bs.drop (Fm.frm (Vm.enc x ++ (Vm.enc y ++ Vm.enc m))).length) (hc : ∀ c ∈ cvs cs, Cm.chk c.e c.n c.l = 0) (ha : a = (Fm.frm (Vm.enc x ++ (Vm.enc y ++ Vm.enc m))).length + (Wl.lgb (cvs cs)).length)
    (hr : Fm.Rd (bs.drop a) r n 0) (hd : Cm.CRes r e k l 0) : Cm.chk e k l = 0 ∧ 1 ≤ n ∧ a + n ≤ bs.length ∧ Wl.lgb (cvs (cs ++ [⟨e, k, v', l⟩])) <+: bs.drop (Fm.frm (Vm.enc x ++ (Vm.enc y ++ Vm.enc m))).length ∧ (∀ c ∈ cvs (cs ++ [⟨e, k, v', l⟩]), Cm.chk c.e c.n c.l = 0) ∧
      a + n = (Fm.frm (Vm.enc x ++ (Vm.enc y ++ Vm.enc m))).length + (Wl.lgb (cvs (cs ++ [⟨e, k, v', l⟩]))).length := by
  rcases hr with ⟨_, _, hn, hp⟩ | ⟨h1, _⟩
  · rcases hd with ⟨_, hk, he⟩ | ⟨h1, _⟩
    · have hcv : cvs (cs ++ [⟨e, k, v', l⟩]) = cvs cs ++ [⟨e, k, l⟩] := by simp [cvs, Cw.c]
      have hfr : Wl.fr ⟨e, k, l⟩ = Fm.frm r := by unfold Wl.fr Wl.rec; rw [he]
      have hln : (Fm.frm r).length = n := by rw [Fm.frm_len, hn]
      have h1 := Fm.frm_pos r
      have h2 := hp.length_le
      rw [List.length_drop] at h2
      refine ⟨hk, by omega, by omega, ?_, fun c hcc => ?_, ?_⟩
      · rw [hcv, Wl.lgb_app, Wl.lgb_one, hfr, Bm.pre_app, List.drop_drop, ← ha]
        exact ⟨hl, hp⟩
      · rw [hcv] at hcc
        rcases List.mem_append.1 hcc with hcc | hcc
        · exact hc c hcc
        · rw [List.mem_singleton.1 hcc]; exact hk
      · rw [hcv, Wl.lgb_app, Wl.lgb_one, hfr, List.length_append, hln]
        omega
    · simp at h1
  · simp at h1

end Go.Proofs.Ytkpnkknolobioaa
