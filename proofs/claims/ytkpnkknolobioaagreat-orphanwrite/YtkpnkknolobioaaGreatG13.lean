/- Texts of one layer, one behind the other. -/
import Derived.Test.YtkpnkknolobioaaGreatG11
import Derived.Test.YtkpnkknolobioaaGreatG12
import Derived.Test.YtkpnkknolobioaaGreatG5
import Derived.Test.YtkpnkknolobioaaGreatG10
import Derived.Test.YtkpnkknolobioaaGreatG9
import Derived.Test.YtkpnkknolobioaaGreatG4
/- The document's Encode of a section (layer 19). -/
namespace Go.Proofs.YtkpnkknolobioaaGreat
open Go.RowKit
set_option linter.unusedVariables false

theorem cvs_step {rs : List Cw} {k : Nat} {c : Cw} (h : rs[k]? = some c) : cvs (rs.take (k + 1)) = cvs (rs.take k) ++ [c.c] := by
  obtain ⟨hk, e⟩ := List.getElem?_eq_some_iff.1 h
  rw [List.take_succ_eq_append_getElem hk, e]
  simp [cvs]

theorem lgb_step {rs : List Cw} {k : Nat} {c : Cw} (h : rs[k]? = some c) : Wl.lgb (cvs (rs.take (k + 1))) = Wl.lgb (cvs (rs.take k)) ++ Wl.fr c.c := by
  rw [cvs_step h, Wl.lgb_app, Wl.lgb_one]

set_option maxRecDepth 20000 in
set_option maxHeartbeats 4000000 in
theorem oencR_any (e f : Int) (v : Value) (rs : List Cw) (w : World) (h : IsC w v rs) (hf : FitC rs) (hl : rs.length ≤ 140737488355328) :
    Calls Tryz.prog 44 #[cmv e f v] w fun E w' => ∃ vb, E = .returned (.tuple #[vb, .int .i64 (Orp.chk ⟨e, f, cvs rs⟩)]) ∧ Own .u8 5 w.heap.size w' vb (Orp.out ⟨e, f, cvs rs⟩) ∧ Below w.heap.size w w' := by
  obtain ⟨w1, hw1, sz1, bel1, hB⟩ := blk_step w #[.int .i64 e, .int .i64 f, v] 25
  have c0 : w1.cell? ⟨w.heap.size, 0, none⟩ = some (.int .i64 e) := blk_cell hB 0 rfl
  have c1 : w1.cell? ⟨w.heap.size, 1, none⟩ = some (.int .i64 f) := blk_cell hB 1 rfl
  have c2 : w1.cell? ⟨w.heap.size, 2, none⟩ = some v := blk_cell hB 2 rfl
  have HM := hide (ochkR_any e f v rs w1 (h.below bel1) hf hl)
  have HIS := hide h
  obtain ⟨ao, cap, hvl, _, _⟩ := h.1.shape
  obtain ⟨ch, hch⟩ : ∃ x, Orp.chk ⟨e, f, cvs rs⟩ = x := ⟨_, rfl⟩
  rw [hch] at HM ⊢
  have HA := hide hch
  have HF := hide hf
  have CE : Hid (∀ W, Below w1.heap.size w1 W → W.cell? ⟨w.heap.size, 0, none⟩ = some (.int .i64 e) ∧ W.cell? ⟨w.heap.size, 1, none⟩ = some (.int .i64 f) ∧ W.cell? ⟨w.heap.size, 2, none⟩ = some v) := hide fun W hb =>
    ⟨(hb.cell (p := ⟨w.heap.size, 0, none⟩) (show w.heap.size < w1.heap.size by omega)).trans c0, (hb.cell (p := ⟨w.heap.size, 1, none⟩) (show w.heap.size < w1.heap.size by omega)).trans c1, (hb.cell (p := ⟨w.heap.size, 2, none⟩) (show w.heap.size < w1.heap.size by omega)).trans c2⟩
  have FULL : Hid (∀ (i : Nat) (W : World), i < rs.length → Below w.heap.size w W → ∃ b off, v = .slice (some ⟨b, off, none⟩) rs.length cap ∧ ∃ c, rs[i]? = some c ∧ W.cell? ⟨b, off + i * 3, none⟩ = some (.int .i64 c.e) ∧ W.cell? ⟨b, off + i * 3 + 1, none⟩ = some (.int .i64 c.n) ∧ W.cell? ⟨b, off + i * 3 + 2, none⟩ = some c.v ∧ IsO W c.v c.l ∧ ∃ a n q, c.v = .slice a n q) := hide fun i W hi hW => by
    obtain ⟨b, off, cap', hv, _, _, hb, hcell⟩ := h.1.full (by omega)
    rw [hvl] at hv
    simp only [Value.slice.injEq, true_and] at hv
    obtain ⟨rfl, rfl⟩ := hv
    obtain ⟨c, hc⟩ : ∃ c, rs[i]? = some c := ⟨rs[i], List.getElem?_eq_getElem hi⟩
    obtain ⟨d0, d1, d2⟩ := hcell i c hc
    have hio := (h.2 c (List.mem_of_getElem? hc)).1
    obtain ⟨a1, q1, ha, _, _⟩ := hio.shape
    exact ⟨b, off, hvl, c, hc, (hW.cell (p := ⟨b, off + i * 3, none⟩) hb).trans d0, (hW.cell (p := ⟨b, off + i * 3 + 1, none⟩) hb).trans d1, (hW.cell (p := ⟨b, off + i * 3 + 2, none⟩) hb).trans d2, hio.below hW, a1, _, q1, ha⟩
  have B1 := hide bel1
  unfold cmv at HM ⊢
  rw [hvl] at HM CE FULL c2 hw1
  subst hvl
  clear h hf hch hB bel1 HIS
  go_enter Tryz.func44, Tryz.ntmps44
  go_wp2_with fail
  refine HM.out.mono ?_
  rintro E w2 ⟨rfl, bel2⟩
  have sz2 := bel2.size
  clear c0 c1 c2 HM
  by_cases h0 : ch = 0
  · subst h0
    have HZ := hide (Orp.chk_zero HA.out)
    obtain ⟨g1, g2, g3, g4, g5, g6, _⟩ := HZ.out
    simp only at g1 g2 g3 g4 g5 g6
    rw [cvs_many] at g5 g6
    obtain ⟨d0, d1, d2⟩ := CE.out w2 bel2
    go_wp2_with fail
    refine (putR_any (.slice none 0 0) [] e _ (Is.nil _ _) (by simp) (by omega) (by omega)).mono ?_
    rintro E w3 ⟨v3, rfl, own3, bel3⟩
    rw [List.nil_append] at own3
    have b3 := bel2.trans (bel3.mono sz2)
    have sz3 := b3.size
    clear d0 d1 d2 bel2 bel3
    obtain ⟨d0, d1, d2⟩ := CE.out w3 b3
    have l3 := Cm.enc_small (x := e) (by omega)
    go_wp2_with fail
    refine (putR_any _ _ f _ own3.is (by omega) (by omega) (by omega)).mono ?_
    rintro E w4 ⟨v4, rfl, own4, bel4⟩
    have b4 := b3.trans (bel4.mono sz3)
    have sz4 := b4.size
    clear d0 d1 d2 own3 b3 bel4
    obtain ⟨d0, d1, d2⟩ := CE.out w4 b4
    have l4 := Cm.enc_small (x := f) (by omega)
    go_wp2_with fail
    refine (putR_any _ _ rs.length _ own4.is (by rw [List.length_append]; omega) (by omega) (by omega)).mono ?_
    rintro E w5 ⟨v5, rfl, own5, bel5⟩
    have b5 := b4.trans (bel5.mono sz4)
    have sz5 := b5.size
    clear d0 d1 d2 own4 b4 bel5
    have eh : Vm.enc e.toNat ++ Vm.enc f.toNat ++ Vm.enc (rs.length : Int).toNat = Orp.hdr ⟨e, f, cvs rs⟩ := by
      unfold Orp.hdr
      simp only
      rw [cvs_many, List.append_assoc, Int.toNat_natCast]
    rw [eh] at own5
    have lh : (Orp.hdr ⟨e, f, cvs rs⟩).length ≤ 9 := Orp.hdr_small HA.out
    have APP := hide (fappR_any (.slice none 0 0) v5 [] (Orp.hdr ⟨e, f, cvs rs⟩) w5 (Is.nil _ _) own5.is (by simp) (by omega))
    rw [show ape (Orp.hdr ⟨e, f, cvs rs⟩) = 0 by unfold ape; rw [if_pos (by omega)], show apd [] (Orp.hdr ⟨e, f, cvs rs⟩) = Fm.frm (Orp.hdr ⟨e, f, cvs rs⟩) by unfold apd; rw [if_pos (by omega)]; rfl] at APP
    clear own5 eh
    go_wp2_with fail
    refine APP.out.mono ?_
    rintro E w6 ⟨v6, rfl, own6, bel6⟩
    have b6 := b5.trans (bel6.mono sz5)
    have O6 := hide (own6.rebase (base' := w1.heap.size) (by omega))
    have LF : Hid ((Fm.frm (Orp.hdr ⟨e, f, cvs rs⟩)).length ≤ 10) := hide (by
      rw [Fm.frm_len]
      have : Vm.sz (Orp.hdr ⟨e, f, cvs rs⟩).length ≤ 1 := Vm.sz_le 0 _ (by omega)
      omega)
    clear own6 bel6 b5 APP lh
    go_wp2
    go_loopw [6, 8] (fun bb kk wr => ∃ k : Nat, k ≤ rs.length ∧ kk = .int .i64 k ∧ Hid (Own .u8 5 w1.heap.size wr bb (Fm.frm (Orp.hdr ⟨e, f, cvs rs⟩) ++ Wl.lgb (cvs (rs.take k)))) ∧ Below w1.heap.size w1 wr) (fun _ kk _ => rs.length - (intOf kk).toNat)
    case atStart => exact ⟨0, by omega, rfl, hide (by simpa [cvs, Wl.lgb, Fm.cat] using O6.out), b6⟩
    case round =>
      obtain ⟨k, hk, rfl, OK, belk⟩ := hrel
      have szk := belk.size
      have bel := B1.out.trans (belk.mono (by omega))
      obtain ⟨x0, x1, x2⟩ := CE.out wr belk
      by_cases hlt : k < rs.length
      · obtain ⟨b, off, hvx, c, hc, d0, d1, d2, hio, ca, cn, cq, hcv⟩ := FULL.out k wr hlt bel
        simp only [Value.slice.injEq, and_true] at hvx
        have hcm := List.mem_of_getElem? hc
        have hck : Cm.chk c.e c.n c.l = 0 := HZ.out.2.2.2.2.2.2.2.2 c.c (by show c.c ∈ cvs rs; exact List.mem_of_getElem? (cvs_two hc))
        obtain ⟨hfo, hfl⟩ := HF.out c hcm
        have LE : Hid ((Fm.frm (Orp.hdr ⟨e, f, cvs rs⟩) ++ Wl.lgb (cvs (rs.take k))).length ≤ 1000000000) := hide (by
          have h1 := Orp.lgb_le (l := cvs (rs.take k)) fun x hx => by
            have : x ∈ cvs rs := by
              unfold cvs at hx ⊢
              rw [List.map_take] at hx
              exact List.mem_of_mem_take hx
            exact HZ.out.2.2.2.2.2.2.2.2 x this
          rw [cvs_many, List.length_take] at h1
          have h2 := LF.out
          rw [List.length_append]
          omega)
        have NX := hide (lgb_step hc)
        have FR := hide (frameX_any c.e c.n c.v c.l wr hio hfo (by omega) hck)
        have lfr := Wl.fr_small (c := ⟨c.e, c.n, c.l⟩) hck
        have hlt' : (k : Int) < rs.length := by omega
        unfold cmv at FR
        rw [hcv] at d2 FR
        subst hvx
        clear hio hcm hck hc hcv hfo hfl
        go_wp2_with fail
        refine FR.out.mono ?_
        rintro E w7 ⟨v7, rfl, own7, bel7⟩
        have OKb := hide (OK.out.below bel7)
        have b7 := belk.trans (bel7.mono szk)
        have s7 := b7.size
        have I7 := hide own7.is
        have hsum : ((Fm.frm (Orp.hdr ⟨e, f, cvs rs⟩) ++ Wl.lgb (cvs (rs.take k))).length + (Wl.fr ⟨c.e, c.n, c.l⟩).length) * 1 ≤ 150000000000000 := by have := LE.out; omega
        clear own7 bel7 FR belk OK x0 x1 x2 d0 d1 d2 bel LE lfr
        go_wp2_with (at_builtin; refine wpList_append_is rfl (.tmp 38) (.tmp 44) 22 rfl .u8 5 w1.heap.size 1 Tryz.underlying22 Tryz.info5 (by decide) _ _ rfl OKb.out _ _ rfl I7.out hsum s7 ?_)
        intro v8 w8 own8 bel8 gr8
        have O8 : Hid (Own .u8 5 w1.heap.size w8 v8 (Fm.frm (Orp.hdr ⟨e, f, cvs rs⟩) ++ Wl.lgb (cvs (rs.take (k + 1))))) := hide (by
          rw [NX.out, sz1]
          exact own8)
        rw [← sz1] at bel8
        have b8 := b7.trans bel8
        clear own8 bel8 gr8 b7 OKb I7 NX hsum
        go_wp2
        go_roundw
        case rel => exact ⟨k + 1, by omega, by go_num, O8, b8⟩
        case measure => simp [intOf]; omega
      · have hlt' : ¬ (k : Int) < rs.length := by omega
        have OW : Hid (Own .u8 5 w.heap.size wr u6 (Orp.out ⟨e, f, cvs rs⟩)) := hide (by
          rw [Orp.out_ok HA.out]
          have := OK.out
          rw [List.take_of_length_le (by omega)] at this
          exact this.rebase (by omega))
        clear OK
        go_wp2
        go_ret2
        exact ⟨_, rfl, OW.out, bel⟩
  · have hne : (ch != 0) = true := by simp [h0]
    have HO : Hid (Orp.out ⟨e, f, cvs rs⟩ = []) := hide (Orp.out_no (by rw [HA.out]; exact h0))
    have B2 := B1.out.trans (bel2.mono (by omega))
    go_wp2
    go_ret2
    exact ⟨_, rfl, by rw [HO.out]; exact Own.nil _ _ _ _, B2⟩

end Go.Proofs.YtkpnkknolobioaaGreat

/- The program's Encode of a section (layer 19). -/
namespace Go.Proofs.YtkpnkknolobioaaGreat
open Go.RowKit
set_option linter.unusedVariables false

theorem Tryz.ix30 (a b c : Int) (w : World) : (Instr.index 97 (.agg #[.int .i64 a, .int .i64 b, .int .i64 c]) (.int .i64 0)).run Tryz.prog w = .ok (.int .i64 a) w := by kernel_rfl
theorem Tryz.ix31 (a b c : Int) (w : World) : (Instr.index 97 (.agg #[.int .i64 a, .int .i64 b, .int .i64 c]) (.int .i64 1)).run Tryz.prog w = .ok (.int .i64 b) w := by kernel_rfl
theorem Tryz.ix32 (a b c : Int) (w : World) : (Instr.index 97 (.agg #[.int .i64 a, .int .i64 b, .int .i64 c]) (.int .i64 2)).run Tryz.prog w = .ok (.int .i64 c) w := by kernel_rfl

theorem wrap_u64o (z : Int) (h0 : 0 ≤ z) (h1 : z < 9223372036854775808) : IntKind.u64.wrap z = z := by
  rw [IntKind.wrap_u64]; omega

/-- The first numbers of a header. -/
def hd3 (e f : Int) (n : Nat) (k : Nat) : List Int := ([Vm.enc e.toNat, Vm.enc f.toNat, Vm.enc n].take k).flatten

set_option maxRecDepth 20000 in
set_option maxHeartbeats 2000000 in
theorem pohead_any (e f : Int) (v : Value) (rs : List Cw) (w : World) (h : RowC w v rs) (he : 0 ≤ e ∧ e ≤ 1048576) (hf : 0 ≤ f ∧ f ≤ 1048576) (hl : rs.length ≤ 1048576) :
    Calls Tryz.prog 57 #[cmv e f v] w fun E w' => ∃ vb, E = .returned vb ∧ Own .u8 5 w.heap.size w' vb (Orp.hdr ⟨e, f, cvs rs⟩) ∧ Below w.heap.size w w' := by
  unfold cmv
  obtain ⟨w1, hw1, sz1, bel1, hB⟩ := blk_step w #[.int .i64 e, .int .i64 f, v] 25
  have c0 : w1.cell? ⟨w.heap.size, 0, none⟩ = some (.int .i64 e) := blk_cell hB 0 rfl
  have c1 : w1.cell? ⟨w.heap.size, 1, none⟩ = some (.int .i64 f) := blk_cell hB 1 rfl
  have c2 : w1.cell? ⟨w.heap.size, 2, none⟩ = some v := blk_cell hB 2 rfl
  obtain ⟨ao, cap, hvl, hcap, hcm⟩ := h.shape
  have B1 := hide bel1
  have HH : Hid (hd3 e f rs.length 3 = Orp.hdr ⟨e, f, cvs rs⟩) := hide (by
    unfold hd3 Orp.hdr
    simp [cvs_many])
  rw [← HH.out]
  obtain ⟨n, hn⟩ : ∃ n, rs.length = n := ⟨_, rfl⟩
  rw [hn] at hvl hl ⊢
  subst hvl
  have l1 := Cm.enc_small (x := e) (by omega)
  have l2 := Cm.enc_small (x := f) (by omega)
  obtain ⟨he0, he1⟩ := he
  obtain ⟨hf0, hf1⟩ := hf
  clear h hB bel1 HH hn hcap hcm
  go_enter Tryz.func57, Tryz.ntmps57
  go_wp2
  go_loopw [3, 14] (fun bb kk wr => ∃ k : Nat, k ≤ 3 ∧ kk = .int .i64 k ∧ Own .u8 5 w.heap.size wr bb (hd3 e f n k) ∧ Below w.heap.size w wr) (fun _ kk _ => 4 - (intOf kk).toNat)
  case atStart => exact ⟨0, by omega, rfl, Own.nil _ _ _ _, B1.out⟩
  case round =>
    obtain ⟨k, hk, rfl, own, belr⟩ := hrel
    have szr := belr.size
    clear c0 c1 c2
    rcases (show k = 0 ∨ k = 1 ∨ k = 2 ∨ k = 3 by omega) with rfl | rfl | rfl | rfl
    · have hix := Tryz.ix30 e f n
      have hwr := wrap_u64o e (by omega) (by omega)
      have hln : (hd3 e f n 0).length ≤ 9 := by simp [hd3]
      go_wp2_with fail
      refine (app_any _ _ e _ own.is (by omega) (by omega) (by omega)).mono ?_
      rintro E w4 ⟨v4, rfl, own4, bel4⟩
      have e' : hd3 e f n 0 ++ Vm.enc (e).toNat = hd3 e f n 1 := by simp [hd3]
      rw [e'] at own4
      have own5 := own4.rebase (base' := w.heap.size) (by omega)
      have bel5 := belr.trans (bel4.mono (by omega))
      clear own own4 e' bel4 hln
      go_wp2
      go_roundw
      case rel => exact ⟨1, by omega, rfl, own5, bel5⟩
      case measure => simp [intOf]
    · have hix := Tryz.ix31 e f n
      have hwr := wrap_u64o f (by omega) (by omega)
      have hln : (hd3 e f n 1).length ≤ 9 := by simp [hd3]; omega
      go_wp2_with fail
      refine (app_any _ _ f _ own.is (by omega) (by omega) (by omega)).mono ?_
      rintro E w4 ⟨v4, rfl, own4, bel4⟩
      have e' : hd3 e f n 1 ++ Vm.enc (f).toNat = hd3 e f n 2 := by simp [hd3]
      rw [e'] at own4
      have own5 := own4.rebase (base' := w.heap.size) (by omega)
      have bel5 := belr.trans (bel4.mono (by omega))
      clear own own4 e' bel4 hln
      go_wp2
      go_roundw
      case rel => exact ⟨2, by omega, rfl, own5, bel5⟩
      case measure => simp [intOf]
    · have hix := Tryz.ix32 e f n
      have hwr := wrap_u64o (n : Int) (by omega) (by omega)
      have hln : (hd3 e f n 2).length ≤ 9 := by simp [hd3]; omega
      go_wp2_with fail
      refine (app_any _ _ (n : Int) _ own.is (by omega) (by omega) (by omega)).mono ?_
      rintro E w4 ⟨v4, rfl, own4, bel4⟩
      have e' : hd3 e f n 2 ++ Vm.enc ((n : Int)).toNat = hd3 e f n 3 := by simp [hd3]
      rw [e'] at own4
      have own5 := own4.rebase (base' := w.heap.size) (by omega)
      have bel5 := belr.trans (bel4.mono (by omega))
      clear own own4 e' bel4 hln
      go_wp2
      go_roundw
      case rel => exact ⟨3, by omega, rfl, own5, bel5⟩
      case measure => simp [intOf]
    · go_wp2
      go_ret
      exact ⟨_, rfl, own, belr⟩

set_option maxHeartbeats 1000000 in
theorem poframed_any (v : Value) (r : List Int) (w : World) (h : Is .u8 w v r) (hl : r.length ≤ 131072) :
    Calls Tryz.prog 56 #[v] w fun E w' => ∃ vb, E = .returned vb ∧ Own .u8 5 w.heap.size w' vb (Fm.frm r) ∧ Below w.heap.size w w' := by
  have HF := hide (fapp_any (.slice none 0 0) v [] r w (Is.nil _ _) h (by simp) (by omega))
  rw [show ape r = 0 by unfold ape; rw [if_pos hl], show apd [] r = Fm.frm r by unfold apd; rw [if_pos hl]; rfl] at HF
  obtain ⟨ab, cb, hvb, _, _⟩ := h.shape
  rw [hvb] at HF
  subst hvb
  clear h
  go_enter Tryz.func56, Tryz.ntmps56
  go_wp2_with fail
  refine HF.out.mono ?_
  rintro E w3 ⟨vf, rfl, own3, bel3⟩
  obtain ⟨af, cf, hvf, _, _⟩ := own3.is.shape
  have O3 := hide own3
  have B3 := hide bel3
  subst hvf
  clear own3 bel3 HF
  go_wp2
  go_ret
  exact ⟨_, rfl, O3.out, B3.out⟩

set_option maxRecDepth 20000 in
set_option maxHeartbeats 4000000 in
theorem poenc_any (e f : Int) (v : Value) (rs : List Cw) (w : World) (h : IsC w v rs) (hf : FitC rs) (hl : rs.length ≤ 140737488355328) :
    Calls Tryz.prog 30 #[cmv e f v] w fun E w' => ∃ vb, E = .returned (.tuple #[vb, .int .i64 (Orp.chk ⟨e, f, cvs rs⟩)]) ∧ Own .u8 5 w.heap.size w' vb (Orp.out ⟨e, f, cvs rs⟩) ∧ Below w.heap.size w w' := by
  obtain ⟨w1, hw1, sz1, bel1, hB⟩ := blk_step w #[.int .i64 e, .int .i64 f, v] 25
  have c0 : w1.cell? ⟨w.heap.size, 0, none⟩ = some (.int .i64 e) := blk_cell hB 0 rfl
  have c1 : w1.cell? ⟨w.heap.size, 1, none⟩ = some (.int .i64 f) := blk_cell hB 1 rfl
  have c2 : w1.cell? ⟨w.heap.size, 2, none⟩ = some v := blk_cell hB 2 rfl
  have HM := hide (pochk_any e f v rs w1 (h.below bel1) hf hl)
  obtain ⟨ao, cap, hvl, _, _⟩ := h.1.shape
  obtain ⟨ch, hch⟩ : ∃ x, Orp.chk ⟨e, f, cvs rs⟩ = x := ⟨_, rfl⟩
  rw [hch] at HM ⊢
  have HA := hide hch
  have HF := hide hf
  have HROW : Hid (∀ W, Below w.heap.size w W → RowC W v rs) := hide fun W hW => (h.below hW).1
  have CE : Hid (∀ W, Below w1.heap.size w1 W → W.cell? ⟨w.heap.size, 0, none⟩ = some (.int .i64 e) ∧ W.cell? ⟨w.heap.size, 1, none⟩ = some (.int .i64 f) ∧ W.cell? ⟨w.heap.size, 2, none⟩ = some v) := hide fun W hb =>
    ⟨(hb.cell (p := ⟨w.heap.size, 0, none⟩) (show w.heap.size < w1.heap.size by omega)).trans c0, (hb.cell (p := ⟨w.heap.size, 1, none⟩) (show w.heap.size < w1.heap.size by omega)).trans c1, (hb.cell (p := ⟨w.heap.size, 2, none⟩) (show w.heap.size < w1.heap.size by omega)).trans c2⟩
  have FULL : Hid (∀ (i : Nat) (W : World), i < rs.length → Below w.heap.size w W → ∃ b off, v = .slice (some ⟨b, off, none⟩) rs.length cap ∧ ∃ c, rs[i]? = some c ∧ W.cell? ⟨b, off + i * 3, none⟩ = some (.int .i64 c.e) ∧ W.cell? ⟨b, off + i * 3 + 1, none⟩ = some (.int .i64 c.n) ∧ W.cell? ⟨b, off + i * 3 + 2, none⟩ = some c.v ∧ IsO W c.v c.l ∧ ∃ a n q, c.v = .slice a n q) := hide fun i W hi hW => by
    obtain ⟨b, off, cap', hv, _, _, hb, hcell⟩ := h.1.full (by omega)
    rw [hvl] at hv
    simp only [Value.slice.injEq, true_and] at hv
    obtain ⟨rfl, rfl⟩ := hv
    obtain ⟨c, hc⟩ : ∃ c, rs[i]? = some c := ⟨rs[i], List.getElem?_eq_getElem hi⟩
    obtain ⟨d0, d1, d2⟩ := hcell i c hc
    have hio := (h.2 c (List.mem_of_getElem? hc)).1
    obtain ⟨a1, q1, ha, _, _⟩ := hio.shape
    exact ⟨b, off, hvl, c, hc, (hW.cell (p := ⟨b, off + i * 3, none⟩) hb).trans d0, (hW.cell (p := ⟨b, off + i * 3 + 1, none⟩) hb).trans d1, (hW.cell (p := ⟨b, off + i * 3 + 2, none⟩) hb).trans d2, hio.below hW, a1, _, q1, ha⟩
  have B1 := hide bel1
  unfold cmv at HM ⊢
  rw [hvl] at HM CE FULL HROW c2 hw1
  subst hvl
  clear h hf hch hB bel1
  go_enter Tryz.func30, Tryz.ntmps30
  go_wp2_with fail
  refine HM.out.mono ?_
  rintro E w2 ⟨rfl, bel2⟩
  have sz2 := bel2.size
  clear c0 c1 c2 HM
  by_cases h0 : ch = 0
  · subst h0
    have HZ := hide (Orp.chk_zero HA.out)
    obtain ⟨g1, g2, g3, g4, g5, g6, _⟩ := HZ.out
    simp only at g1 g2 g3 g4 g5 g6
    rw [cvs_many] at g5 g6
    obtain ⟨d0, d1, d2⟩ := CE.out w2 bel2
    have B2 := hide (B1.out.trans (bel2.mono (by omega)))
    have HH := hide (pohead_any e f _ rs w2 (HROW.out w2 B2.out) ⟨by omega, g2⟩ ⟨g3, g4⟩ g6)
    unfold cmv at HH
    clear HROW
    go_wp2_with fail
    refine HH.out.mono ?_
    rintro E w3 ⟨v3, rfl, own3, bel3⟩
    have b3 := bel2.trans (bel3.mono sz2)
    have sz3 := b3.size
    obtain ⟨a3, k3, hv3, _, _⟩ := own3.is.shape
    have lh : (Orp.hdr ⟨e, f, cvs rs⟩).length ≤ 9 := Orp.hdr_small HA.out
    have APP := hide (poframed_any v3 (Orp.hdr ⟨e, f, cvs rs⟩) w3 own3.is (by omega))
    rw [hv3] at APP
    subst hv3
    clear d0 d1 d2 bel2 bel3 own3 HH B2
    go_wp2_with fail
    refine APP.out.mono ?_
    rintro E w6 ⟨v6, rfl, own6, bel6⟩
    have b6 := b3.trans (bel6.mono sz3)
    have O6 := hide (own6.rebase (base' := w1.heap.size) (by omega))
    have LF : Hid ((Fm.frm (Orp.hdr ⟨e, f, cvs rs⟩)).length ≤ 10) := hide (by
      rw [Fm.frm_len]
      have : Vm.sz (Orp.hdr ⟨e, f, cvs rs⟩).length ≤ 1 := Vm.sz_le 0 _ (by omega)
      omega)
    obtain ⟨d0, d1, d2⟩ := CE.out w6 b6
    clear own6 bel6 b3 APP lh
    go_wp2
    go_loopw [5, 21] (fun bb kk wr => ∃ k : Nat, k ≤ rs.length ∧ kk = .int .i64 k ∧ Hid (Own .u8 5 w1.heap.size wr bb (Fm.frm (Orp.hdr ⟨e, f, cvs rs⟩) ++ Wl.lgb (cvs (rs.take k)))) ∧ Below w1.heap.size w1 wr) (fun _ kk _ => rs.length - (intOf kk).toNat)
    case atStart => exact ⟨0, by omega, rfl, hide (by simpa [cvs, Wl.lgb, Fm.cat] using O6.out), b6⟩
    case round =>
      obtain ⟨k, hk, rfl, OK, belk⟩ := hrel
      have szk := belk.size
      have bel := B1.out.trans (belk.mono (by omega))
      clear d0 d1 d2 O6 b6
      by_cases hlt : k < rs.length
      · obtain ⟨b, off, hvx, c, hc, d0, d1, d2, hio, ca, cn, cq, hcv⟩ := FULL.out k wr hlt bel
        simp only [Value.slice.injEq, and_true] at hvx
        have hcm := List.mem_of_getElem? hc
        have hck : Cm.chk c.e c.n c.l = 0 := HZ.out.2.2.2.2.2.2.2.2 c.c (by show c.c ∈ cvs rs; exact List.mem_of_getElem? (cvs_two hc))
        obtain ⟨hfo, hfl⟩ := HF.out c hcm
        have LE : Hid ((Fm.frm (Orp.hdr ⟨e, f, cvs rs⟩) ++ Wl.lgb (cvs (rs.take k))).length ≤ 1000000000) := hide (by
          have h1 := Orp.lgb_le (l := cvs (rs.take k)) fun x hx => by
            have : x ∈ cvs rs := by
              unfold cvs at hx ⊢
              rw [List.map_take] at hx
              exact List.mem_of_mem_take hx
            exact HZ.out.2.2.2.2.2.2.2.2 x this
          rw [cvs_many, List.length_take] at h1
          have h2 := LF.out
          rw [List.length_append]
          omega)
        have NX := hide (lgb_step hc)
        obtain ⟨wa, hwa, hwa2, sza, bela, bA, x0, x1, x2⟩ := new_step wr 59 (.int .i64 0) (.int .i64 0) (.slice none 0 0) (.int .i64 c.e) (.int .i64 c.n) c.v
        have FR := hide (cenc_any c.e c.n c.v c.l wa (hio.below bela) hfo (by omega))
        have hcr : Cm.out c.e c.n c.l = Wl.rec ⟨c.e, c.n, c.l⟩ := Cm.out_ok hck
        rw [hck, hcr] at FR
        have lrc := Wl.rec_small (c := ⟨c.e, c.n, c.l⟩) hck
        have lfr := Wl.fr_small (c := ⟨c.e, c.n, c.l⟩) hck
        have hlt' : (k : Int) < rs.length := by omega
        unfold cmv at FR
        rw [hcv] at d2 FR x2 hwa hwa2
        have OKa := hide (OK.out.below bela)
        have ba := belk.trans (bela.mono szk)
        subst hvx
        clear hio hcm hck hc hcv hfo hfl hcr bA bela OK belk
        go_wp2_with fail
        refine FR.out.mono ?_
        rintro E w7 ⟨v7, rfl, own7, bel7⟩
        obtain ⟨a7, k7, hv7, _, _⟩ := own7.is.shape
        have b7 := ba.trans (bel7.mono ba.size)
        have OK7 := hide (OKa.out.below bel7)
        have FD := hide (poframed_any v7 (Wl.rec ⟨c.e, c.n, c.l⟩) w7 own7.is (by omega))
        rw [show Fm.frm (Wl.rec ⟨c.e, c.n, c.l⟩) = Wl.fr ⟨c.e, c.n, c.l⟩ from rfl, hv7] at FD
        subst hv7
        clear own7 bel7 FR OKa ba x0 x1 x2 d0 d1 d2 bel
        go_wp2_with fail
        refine FD.out.mono ?_
        rintro E w8 ⟨v8, rfl, own8, bel8⟩
        have OKb := hide (OK7.out.below bel8)
        have b8 := b7.trans (bel8.mono b7.size)
        have s8 := b8.size
        have I8 := hide own8.is
        have hsum : ((Fm.frm (Orp.hdr ⟨e, f, cvs rs⟩) ++ Wl.lgb (cvs (rs.take k))).length + (Wl.fr ⟨c.e, c.n, c.l⟩).length) * 1 ≤ 150000000000000 := by have := LE.out; omega
        clear own8 bel8 FD OK7 LE lfr lrc b7
        go_wp2_with (at_builtin; refine wpList_append_is rfl (.tmp 30) (.tmp 32) 22 rfl .u8 5 w1.heap.size 1 Tryz.underlying22 Tryz.info5 (by decide) _ _ rfl OKb.out _ _ rfl I8.out hsum s8 ?_)
        intro v9 w9 own9 bel9 gr9
        have O9 : Hid (Own .u8 5 w1.heap.size w9 v9 (Fm.frm (Orp.hdr ⟨e, f, cvs rs⟩) ++ Wl.lgb (cvs (rs.take (k + 1))))) := hide (by
          rw [NX.out, sz1]
          exact own9)
        rw [← sz1] at bel9
        have b9 := b8.trans bel9
        clear own9 bel9 gr9 b8 OKb I8 NX hsum
        go_wp2
        go_roundw
        case rel => exact ⟨k + 1, by omega, by go_num, O9, b9⟩
        case measure => simp [intOf]; omega
      · have hlt' : ¬ (k : Int) < rs.length := by omega
        have OW : Hid (Own .u8 5 w.heap.size wr u5 (Orp.out ⟨e, f, cvs rs⟩)) := hide (by
          rw [Orp.out_ok HA.out]
          have := OK.out
          rw [List.take_of_length_le (by omega)] at this
          exact this.rebase (by omega))
        clear OK
        go_wp2
        go_ret2
        exact ⟨_, rfl, OW.out, bel⟩
  · have hne : (ch != 0) = true := by simp [h0]
    have HO : Hid (Orp.out ⟨e, f, cvs rs⟩ = []) := hide (Orp.out_no (by rw [HA.out]; exact h0))
    have B2 := B1.out.trans (bel2.mono (by omega))
    go_wp2
    go_ret2
    exact ⟨_, rfl, by rw [HO.out]; exact Own.nil _ _ _ _, B2⟩

end Go.Proofs.YtkpnkknolobioaaGreat

/- The contract of the program's Decode. -/
namespace Go.Proofs.YtkpnkknolobioaaGreat
open Go.RowKit
set_option linter.unusedVariables false

set_option maxHeartbeats 1000000 in
theorem cdec_any (vb : Value) (bs : List Int) (w : World) (hb : Is .u8 w vb bs) (hl : bs.length ≤ 140737488355328) :
    Calls Tryz.prog 96 #[vb] w fun E w' => ∃ (e n g : Int) (v : Value) (l : List Bm.Ov), E = .returned (.tuple #[cmv e n v, .int .i64 g]) ∧ OwnO 93 w.heap.size w' v l ∧ Cm.CRes bs e n l g ∧ Below w.heap.size w w' := by
  unfold cmv
  obtain ⟨w1, hw1, sz1, bel1, hB⟩ := blk_step w #[.int .i64 0, .int .i64 0, .slice none 0 0] 59
  have hb1 := hb.below bel1
  obtain ⟨ao, cap, rfl, _, _⟩ := hb.shape
  have HB := hide hB
  clear hB
  go_enter Tryz.func96, Tryz.ntmps96
  go_wp2_with fail
  refine (cread_any _ bs _ hb1 (by omega)).mono ?_
  rintro E w2 ⟨e, n, k, g, vl, l, rfl, ownl, hR, bel2⟩
  unfold cmv
  have sz2 := bel2.size
  have hB2 := (bel2.block w.heap.size (by omega)).trans HB.out
  have bel02 := bel1.trans (bel2.mono (by omega))
  obtain ⟨ah, ch, hvl, _, _⟩ := ownl.is.shape
  subst hvl
  obtain ⟨V, hV, hV2, szV, belV, bC, c0, c1, c2⟩ := new_step w2 59 (.int .i64 0) (.int .i64 0) (.slice none 0 0) (.int .i64 e) (.int .i64 n) (.slice ah l.length ch)
  have hB3 := (belV.block w.heap.size (by omega)).trans hB2
  have bel0V := bel02.trans (belV.mono (by omega))
  obtain ⟨Z, hZ, bZ, gZ, ⟨a0, a1, a2⟩, ⟨f0, f1, f2⟩, ⟨z0, z1, z2⟩⟩ := res_step hB3 (.int .i64 0) (.int .i64 0) (.slice none 0 0)
  have belZ := below_put bel0V gZ (Nat.le_refl _) (by omega)
  have H3 := hide hB3
  have HC := hide bC
  have ownV := ownl.below belV
  clear hB2 hB3 bC bZ gZ bel1 bel2 bel02 HB ownl hb1
  rcases hR with ⟨rfl, x, y, hx, hy, px, py, hc, hp, rfl, rfl, rfl⟩ | ⟨rfl, rfl, rfl, rfl, rfl, hno⟩
  · by_cases hk : Vm.sz x + Vm.sz y + (Bm.encB l).length = bs.length
    · have HK := hide hk
      rw [hk]
      have hkk : ((bs.length : Int) != (bs.length : Int)) = false := by simp
      have hfit := (small_of hc).fit
      have hl8 := (Bm.chkL_zero hc).2.1
      have P : Hid (Vm.enc x <+: bs ∧ Vm.enc y <+: bs.drop (Vm.sz x) ∧ Bm.chkL l = 0 ∧ Bm.encB l <+: bs.drop (Vm.sz x + Vm.sz y)) := ⟨px, py, hc, hp⟩
      clear hk px py hc hp
      go_wp2_with fail
      refine (ccheck_any x y _ l _ ownV.is hfit (by omega)).mono ?_
      rintro E w4 ⟨rfl, bel4⟩
      obtain ⟨px, py, hc, hp⟩ := P.out
      have sz4 := bel4.size
      have hB4 := (bel4.block w.heap.size (by omega)).trans H3.out
      have hC4 := (bel4.block w2.heap.size (by omega)).trans HC.out
      have bel04 := bel0V.trans (bel4.mono (by omega))
      have d0 := blk_cell hC4 0 rfl
      have d1 := blk_cell hC4 1 rfl
      have d2 := blk_cell hC4 2 rfl
      have own4 := ownV.below bel4
      clear hZ z0 z1 z2 belZ a0 a1 a2 f0 f1 f2 c0 c1 c2 hV hV2 belV bel0V ownV H3 HC bel4 P
      by_cases hck : Cm.chk x y l = 0
      · rw [hck]
        obtain ⟨V', hV', bV', gV', ⟨a0, a1, a2⟩, ⟨f0, f1, f2⟩, ⟨z0, z1, z2⟩⟩ := res_step hB4 (.int .i64 x) (.int .i64 y) (.slice ah l.length ch)
        have belV' := below_put bel04 gV' (Nat.le_refl _) (by omega)
        have ownV' := (own4.keptg gV' (by omega)).rebase (base' := w.heap.size) (by omega)
        have HR : Hid (Cm.CRes bs x y l 0) := hide (.inl ⟨rfl, hck, Cm.is_commit px py hp HK.out⟩)
        clear px py hc hp bV' gV' hB4 own4 bel04 hck HK hC4
        go_wp2
        refine bodyPost_ret (v := .tuple #[.agg #[.int .i64 x, .int .i64 y, .slice ah l.length ch], .int .i64 0]) (by simp [results, Tryz.results96, go_sem, z0, z1, z2]) rfl ?_
        exact ⟨_, _, _, _, _, rfl, ownV', HR.out, belV'⟩
      · have HR : Hid (Cm.CRes bs 0 0 [] 5) := hide (.inr ⟨rfl, rfl, rfl, rfl, Cm.no_left px py hc hp (.inr hck)⟩)
        have hne : (Cm.chk x y l == 0) = false := by simpa using hck
        obtain ⟨V', hV', bV', gV', ⟨a0, a1, a2⟩, ⟨f0, f1, f2⟩, ⟨z0, z1, z2⟩⟩ := res_step hB4 (.int .i64 0) (.int .i64 0) (.slice none 0 0)
        have belV' := below_put bel04 gV' (Nat.le_refl _) (by omega)
        generalize Cm.chk x y l = ck at *
        clear px py hc hp bV' gV' hB4 own4 bel04 hck HK hC4
        go_wp2
        refine bodyPost_ret (v := .tuple #[.agg #[.int .i64 0, .int .i64 0, .slice none 0 0], .int .i64 5]) (by simp [results, Tryz.results96, go_sem, z0, z1, z2]) rfl ?_
        exact ⟨_, _, _, _, _, rfl, OwnO.nil _ _ _, HR.out, belV'⟩
    · have HR : Hid (Cm.CRes bs 0 0 [] 5) := hide (.inr ⟨rfl, rfl, rfl, rfl, Cm.no_left px py hc hp (.inl hk)⟩)
      generalize Vm.sz x + Vm.sz y + (Bm.encB l).length = q at *
      have hkk : ((q : Int) != (bs.length : Int)) = true := by simp; omega
      clear hk px py hc hp
      go_wp2
      refine bodyPost_ret (v := .tuple #[.agg #[.int .i64 0, .int .i64 0, .slice none 0 0], .int .i64 5]) (by simp [results, Tryz.results96, go_sem, z0, z1, z2]) rfl ?_
      exact ⟨_, _, _, _, _, rfl, OwnO.nil _ _ _, HR.out, belZ⟩
  · have HR : Hid (Cm.CRes bs 0 0 [] 5) := hide (.inr ⟨rfl, rfl, rfl, rfl, hno⟩)
    clear hno
    simp only [List.length_nil] at hV hV2 c2
    go_wp2
    refine bodyPost_ret (v := .tuple #[.agg #[.int .i64 0, .int .i64 0, .slice none 0 0], .int .i64 5]) (by simp [results, Tryz.results96, go_sem, z0, z1, z2]) rfl ?_
    exact ⟨_, _, _, _, _, rfl, OwnO.nil _ _ _, HR.out, belZ⟩

end Go.Proofs.YtkpnkknolobioaaGreat

/- The contract of the document's reader's Done. -/
namespace Go.Proofs.YtkpnkknolobioaaGreat
open Go.RowKit
set_option linter.unusedVariables false

end Go.Proofs.YtkpnkknolobioaaGreat

/- slices.Clone of a list of ops. -/
namespace Go.Proofs.YtkpnkknolobioaaGreat
open Go.RowKit
set_option linter.unusedVariables false

set_option maxHeartbeats 400000 in
theorem cloneO_any (vl : Value) (l : List Bm.Ov) (w : World) (h : IsO w vl l) (hl : l.length * 40 ≤ 140737488351232) :
    Calls Tryz.prog 97 #[vl] w fun e w' => ∃ v, e = .returned v ∧ OwnO 93 w.heap.size w' v l ∧ Below w.heap.size w w' := by
  have q : ∀ (w : World) (a : Option Addr) (n c n' c' : Nat), (binOp .eql 57 (.slice a n c) (.slice none n' c')).run Tryz.prog w = .ok (.bool a.isNone) w := fun w a n c n' c' => Lib.run_eql_slice_nil w _ _ a n c n' c' Tryz.underlying57
  by_cases hn : vl = .slice none 0 0
  · subst hn
    have : l = [] := by
      rcases h with ⟨_, h⟩ | ⟨ad, cap, h, _⟩
      · exact h
      · simp at h
    subst this
    clear h hl
    go_enter Tryz.func97, Tryz.ntmps97
    go_wp2
    go_ret
    exact ⟨_, rfl, OwnO.nil _ _ _, Below.refl _ _⟩
  · obtain ⟨ad, cap, rfl⟩ : ∃ ad cap, vl = .slice (some ad) l.length cap := by
      rcases h with ⟨h, _⟩ | ⟨ad, cap, h, _⟩
      · exact absurd h hn
      · exact ⟨ad, cap, h⟩
    clear hn
    obtain ⟨w1, hw1, sz1, bel1, own1⟩ := ops_step 93 w #[] 0 [] rfl rfl (by simp [maxLen])
    have h1 := h.below bel1
    go_enter Tryz.func97, Tryz.ntmps97
    go_wp2_with (at_builtin; refine wpList_append_ops rfl (.tmp 5) (.tmp 6) 57 rfl 93 w.heap.size Tryz.underlying57 Tryz.info93 _ [] rfl own1 _ l rfl h1 (by simp; omega) (by omega) ?_)
    intro v2 w2 own2 bel2 _
    go_wp2
    go_ret
    exact ⟨_, rfl, by simpa using own2, bel1.trans bel2⟩

end Go.Proofs.YtkpnkknolobioaaGreat

/- The contract of Copy (commits). -/
namespace Go.Proofs.YtkpnkknolobioaaGreat
open Go.RowKit
set_option linter.unusedVariables false

theorem put_one {V : World} {R : Nat} {t : TypeId} {x y z : Value} (hR : V.heap[R]? = some (.cells #[x, y, z] t (0, 0))) (c : Value) :
    ∃ V', V.setCell ⟨R, 2, none⟩ c = V' ∧ V'.heap[R]? = some (.cells #[x, y, c] t (0, 0)) ∧ V.grownBy V' (some R) ∧ V.cell? ⟨R, 2, none⟩ = some z ∧ V.frozen? ⟨R, 2, none⟩ = false :=
  ⟨_, rfl, set_cells hR 2 c, grown_setCell V ⟨R, 2, none⟩ c, blk_cell hR 2 rfl, blk_froz hR 2⟩

set_option maxHeartbeats 400000 in
theorem ccopy_any (e n : Int) (v : Value) (l : List Bm.Ov) (w : World) (h : IsO w v l) (hl : l.length * 40 ≤ 140737488351232) :
    Calls Tryz.prog 82 #[cmv e n v] w fun E w' => ∃ v', E = .returned (cmv e n v') ∧ OwnO 93 w.heap.size w' v' l ∧ Below w.heap.size w w' := by
  unfold cmv
  obtain ⟨w1, hw1, sz1, bel1, hB⟩ := blk_step w #[.int .i64 e, .int .i64 n, v] 59
  obtain ⟨w2, hw2, sz2, bel2, hR⟩ := blk_step w1 #[.int .i64 0, .int .i64 0, .slice none 0 0] 59
  rw [sz1] at hR
  have hB2 := (bel2.block w.heap.size (by omega)).trans hB
  have bel02 : Below w.heap.size w w2 := bel1.trans (bel2.mono (by omega))
  have h2 := h.below bel02
  obtain ⟨ao, cap, rfl, _, _⟩ := h.shape
  have c2 := blk_cell hB2 2 rfl
  have HB := hide hB2
  have HR := hide hR
  clear hB hB2 hR bel1 bel2
  go_enter Tryz.func82, Tryz.ntmps82
  go_wp2_with fail
  refine (cloneO_any _ l _ h2 hl).mono ?_
  rintro E w3 ⟨v3, rfl, own3, bel3⟩
  have sz3 := bel3.size
  have hB3 := (bel3.block w.heap.size (by omega)).trans HB.out
  have hR3 := (bel3.block (w.heap.size + 1) (by omega)).trans HR.out
  have bel03 := bel02.trans (bel3.mono (by omega))
  obtain ⟨ah, ch, hvl, _, _⟩ := own3.is.shape
  subst hvl
  obtain ⟨X, hX, cX, gX, q2, q3⟩ := put_one hB3 (.slice ah l.length ch)
  have szX := gX.size
  have hRX := (gX.block (w.heap.size + 1) (by omega) (by simp)).trans hR3
  have ownX := own3.keptg gX (by omega)
  have bel0X := below_put bel03 gX (Nat.le_refl _) (by omega)
  have d0 := blk_cell cX 0 rfl
  have d1 := blk_cell cX 1 rfl
  have d2 := blk_cell cX 2 rfl
  obtain ⟨V', hV', bV', gV', ⟨a0, a1, a2⟩, ⟨f0, f1, f2⟩, ⟨z0, z1, z2⟩⟩ := res_step hRX (.int .i64 e) (.int .i64 n) (.slice ah l.length ch)
  have belV' := below_put bel0X gV' (by omega) (by omega)
  have ownV' := (ownX.keptg gV' (by omega)).rebase (base' := w.heap.size) (by omega)
  clear HB HR hB3 hR3 cX gX hRX bV' gV' own3 ownX bel03 bel0X bel3 c2
  go_wp2
  refine bodyPost_ret (v := .agg #[.int .i64 e, .int .i64 n, .slice ah l.length ch]) (by simp [results, Tryz.results82, go_sem, z0, z1, z2]) rfl ?_
  exact ⟨_, rfl, ownV', belV'⟩

end Go.Proofs.YtkpnkknolobioaaGreat

/- The contracts of the document's Done and Decode; of the copy that slices.Clone makes of ops, and of Copy. -/
namespace Go.Proofs.YtkpnkknolobioaaGreat
open Go.RowKit
set_option linter.unusedVariables false

/-- What the reader's three steps come to. -/
theorem doc_steps {bs : List Int} {u n a1 a2 a3 : Nat} {b1 b2 b3 : Bool} {l : List Bm.Ov} (s1 : SStep bs 1048576 0 false u a1 b1) (s2 : SStep bs 1048576 a1 b1 n a2 b2) (s3 : Bm.NX bs a2 b2 l a3 b3) :
    (b3 = true ∧ ∀ e' n' l', Cm.chk e' n' l' = 0 → Cm.encC e' n' l' ≠ bs) ∨
    (b3 = false ∧ Vm.enc u <+: bs ∧ Vm.enc n <+: bs.drop (Vm.sz u) ∧ Bm.chkL l = 0 ∧ Bm.encB l <+: bs.drop (Vm.sz u + Vm.sz n) ∧ a3 = Vm.sz u + Vm.sz n + (Bm.encB l).length) := by
  rcases s1 with ⟨h, _⟩ | ⟨_, rfl, rfl, rfl, h1⟩ | ⟨_, rfl, h1, h2, rfl⟩
  · simp at h
  · rcases s2 with ⟨_, rfl, _⟩ | ⟨h, _⟩ | ⟨h, _⟩
    · rcases s3 with ⟨_, rfl, _⟩ | ⟨h, _⟩
      · exact .inl ⟨rfl, Cm.no_epoch (by simpa [Cm.NoNum] using h1)⟩
      · simp at h
    · simp at h
    · simp at h
  · rw [List.drop_zero] at h2
    rw [Nat.zero_add] at s2
    rcases s2 with ⟨h, _⟩ | ⟨_, rfl, rfl, rfl, k1⟩ | ⟨_, rfl, k1, k2, rfl⟩
    · simp at h
    · rcases s3 with ⟨_, rfl, _⟩ | ⟨h, _⟩
      · exact .inl ⟨rfl, Cm.no_number h2 k1⟩
      · simp at h
    · rcases s3 with ⟨h, _⟩ | ⟨_, ⟨rfl, h⟩ | ⟨rfl, _, h⟩⟩
      · simp at h
      · rcases h with ⟨_, g1, g2, g3⟩ | ⟨h, _⟩
        · exact .inr ⟨rfl, h2, k2, g1, g2, by omega⟩
        · simp at h
      · rcases h with ⟨h, _⟩ | ⟨_, _, _, h⟩
        · simp at h
        · exact .inl ⟨rfl, Cm.no_batch h2 k2 h⟩

theorem sstep_le {bs : List Int} {a u a' : Nat} {b b' : Bool} (h : SStep bs 1048576 a b u a' b') : u ≤ 1048576 := by
  rcases h with ⟨_, _, rfl, _⟩ | ⟨_, _, rfl, _⟩ | ⟨_, _, h, _⟩
  · omega
  · omega
  · exact h

theorem nx_small {bs : List Int} {a a' : Nat} {b b' : Bool} {l : List Bm.Ov} (h : Bm.NX bs a b l a' b') : SmallO l ∧ l.length ≤ 8 := by
  rcases h with ⟨_, _, rfl⟩ | ⟨_, ⟨_, h⟩ | ⟨_, rfl, _⟩⟩
  · exact ⟨fun o ho => by simp at ho, by simp⟩
  · exact bres_small h
  · exact ⟨fun o ho => by simp at ho, by simp⟩

end Go.Proofs.YtkpnkknolobioaaGreat
