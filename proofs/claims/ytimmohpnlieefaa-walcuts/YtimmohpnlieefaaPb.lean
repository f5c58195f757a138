/- The program's disk: what a file holds behind a raw step, copies, Read, Durable. -/
import Derived.Test.YtimmohpnlieefaaA7
import Derived.Test.YtimmohpnlieefaaA1
namespace Go.Proofs.Ytimmohpnlieefaa
open Go.RowKit
set_option linter.unusedVariables false

set_option maxHeartbeats 2000000 in
theorem behind_any (base : Nat) (vb : Value) (bs : List Int) (r : Rv) (w : World) (hb : Own .u8 5 base w vb bs) (hbase : base ≤ w.heap.size) (hv : Is .u8 w r.v r.bytes) (hto : r.cut = true → r.to ≤ bs.length) (hl : bs.length + r.bytes.length ≤ 140737488355328) :
    Calls Try.prog 91 #[.agg #[.int .i64 (kof r), .int .i64 r.file, r.v, .int .i64 r.to], vb] w fun E w' => ∃ v, E = .returned v ∧ Own .u8 5 base w' v (Dm.wth bs r.r) ∧ Out (fun g => vb.ownBlock = some g) w w' ∧ ∀ b, v.ownBlock = some b → vb.ownBlock = some b ∨ w.heap.size ≤ b := by
  cases hc : r.cut
  · have hk : kof r = 0 := by simp [kof, hc]
    have e : Dm.wth bs r.r = bs ++ r.bytes := by simp [Dm.wth, Rv.r, hc]
    rw [e, hk]
    obtain ⟨w1, hw1, sz1, bel1, hB⟩ := blk_step w #[.int .i64 0, .int .i64 r.file, r.v, .int .i64 r.to] 111
    have c0 : w1.cell? ⟨w.heap.size, 0, none⟩ = some (.int .i64 0) := blk_cell hB 0 rfl
    have c2 : w1.cell? ⟨w.heap.size, 2, none⟩ = some r.v := blk_cell hB 2 rfl
    have hb1 := hb.below bel1
    have hv1 := hv.below bel1
    have X : Hid (∀ ty, ∃ v' w', (Builtin.append_ #[37, 37] ty #[vb, r.v]).run Try.prog w1 = .ok v' w' ∧ (Own .u8 5 base w' v' (bs ++ r.bytes) ∧ w1.grownBy w' vb.ownBlock ∧ (v'.ownBlock = vb.ownBlock ∨ v'.ownBlock = some w1.heap.size))) := hide fun ty =>
      run_append_is_at 37 ty .u8 5 base 1 Try.underlying37 Try.info5 (by decide) vb bs hb1 r.v r.bytes hv1 (by omega) (by omega)
    clear hB hb1 hv1 hto hc e hk
    go_enter Try.func91, Try.ntmps91
    go_wp2_with (at_builtin; refine wpList_append_at rfl (.tmp 9) (.tmp 11) 37 rfl vb r.v rfl rfl X.out ?_)
    intro v2 w2 own2 gr2 at2
    have ho : Out (fun g => vb.ownBlock = some g) w w2 := (Out.of_below bel1).trans (G := fun g => vb.ownBlock = some g) (Out.of_grown gr2 fun g hg => hg) fun g hg => .inl hg
    have hat : ∀ b, v2.ownBlock = some b → vb.ownBlock = some b ∨ w.heap.size ≤ b := by
      intro b hb'
      rcases at2 with h | h
      · exact .inl (by rw [← h]; exact hb')
      · rw [hb'] at h
        simp at h
        exact .inr (by omega)
    have HO := hide ho
    have HAT := hide hat
    clear ho hat at2 gr2
    go_wp2
    go_ret
    exact ⟨_, rfl, own2, HO.out, HAT.out⟩
  · have hk : kof r = 1 := by simp [kof, hc]
    have e : Dm.wth bs r.r = bs.take r.to := by simp [Dm.wth, Rv.r, hc]
    rw [e, hk]
    have hto' := hto hc
    obtain ⟨w1, hw1, sz1, bel1, hB⟩ := blk_step w #[.int .i64 1, .int .i64 r.file, r.v, .int .i64 r.to] 111
    have c0 : w1.cell? ⟨w.heap.size, 0, none⟩ = some (.int .i64 1) := blk_cell hB 0 rfl
    have c3 : w1.cell? ⟨w.heap.size, 3, none⟩ = some (.int .i64 r.to) := blk_cell hB 3 rfl
    obtain ⟨vs, hsl, own, hat⟩ := (hb.below bel1).slice_h Try.elemP Try.sizeP r.to hto'
    have HO : Hid (Out (fun g => vb.ownBlock = some g) w w1) := hide (Out.of_below bel1)
    have HAT : Hid (∀ b, vs.ownBlock = some b → vb.ownBlock = some b ∨ w.heap.size ≤ b) := hide fun b hb' => .inl (hat b hb')
    clear hB hat hto hc e hk
    go_enter Try.func91, Try.ntmps91
    go_wp2
    go_ret
    exact ⟨_, rfl, own, HO.out, HAT.out⟩

set_option maxHeartbeats 2000000 in
theorem held_any (p : Nat) (F : Nat → Prop) (w : World) (st : Dm.Ds) (f : Nat) (h : Pk p F w st) (hf : f < 4) (hsz : (st.sure f).length + Dm.bulk st.wait ≤ 140737488355000) (hw : st.wait.length ≤ 1000000) :
    Calls Try.prog 73 #[.pointer (some ⟨p, 0, none⟩), .int .i64 f] w fun E w' => ∃ v, E = .returned v ∧ Own .u8 5 w.heap.size w' v (Dm.hold f (st.sure f) st.wait) ∧ Below w.heap.size w w' := by
  obtain ⟨s, wv, rs, h, rfl⟩ := h
  have cf := h.cf f hf
  have c7 := h.c7
  have hp := h.lt p (.inl rfl)
  have isf := (h.con.file f hf).is
  have hlr := h.con.len
  obtain ⟨ao, cap, hv, hcap, hcm⟩ := h.con.row.row.shape
  have hrow : 0 < rs.length → ∃ b off c, wv = .slice (some ⟨b, off, none⟩) rs.length c ∧ b < w.heap.size ∧ ∀ i a, rs[i]? = some a → ∀ j u, (stepc a)[j]? = some u → w.cell? ⟨b, off + i * 4 + j, none⟩ = some u := by
    intro h0
    obtain ⟨b, off, c, h1, _, _, h4, h5⟩ := h.con.row.row.full stepc_len (by decide) h0
    exact ⟨b, off, c, h1, h4, h5⟩
  have H := hide h
  have HROW := hide hrow
  subst hv
  clear h hrow
  have hf0 : (0 : Int) ≤ (f : Int) := by omega
  have hf4 : (f : Int) < 4 := by omega
  go_enter Try.func73, Try.ntmps73
  go_wp2_with fail
  refine (bclone_any _ _ _ isf (by omega)).mono ?_
  rintro E w1 ⟨v1, rfl, own1, bel1⟩
  have d7 := (bel1.cell (p := ⟨p, 7, none⟩) hp).trans c7
  clear cf isf
  go_wp2
  go_loopw [5, 20] (fun bv iv wr => ∃ k : Nat, k ≤ rs.length ∧ iv = .int .i64 k ∧ Hid (Own .u8 5 w.heap.size wr bv (Dm.hold f (st.sure f) (st.wait.take k))) ∧ Below w.heap.size w wr) (fun _ iv _ => rs.length - (intOf iv).toNat)
  case atStart => exact ⟨0, by omega, rfl, hide (by simpa [Dm.hold] using own1), bel1⟩
  case round =>
    obtain ⟨k, hk, rfl, HT, bel⟩ := hrel
    have sz := bel.size
    by_cases hlt : k < rs.length
    · obtain ⟨b, off, cq, hvx, hB, hcell⟩ := HROW.out (by omega)
      simp only [Value.slice.injEq, true_and] at hvx
      obtain ⟨rfl, rfl⟩ := hvx
      obtain ⟨r, hr⟩ : ∃ r, rs[k]? = some r := ⟨rs[k], by rw [List.getElem?_eq_getElem]⟩
      have e0 : wr.cell? ⟨b, off + k * 4, none⟩ = some (.int .i64 (kof r)) := (bel.cell (p := ⟨b, off + k * 4, none⟩) hB).trans (hcell k r hr 0 _ rfl)
      have e1 : wr.cell? ⟨b, off + k * 4 + 1, none⟩ = some (.int .i64 r.file) := (bel.cell (p := ⟨b, off + k * 4 + 1, none⟩) hB).trans (hcell k r hr 1 _ rfl)
      have e2 : wr.cell? ⟨b, off + k * 4 + 2, none⟩ = some r.v := (bel.cell (p := ⟨b, off + k * 4 + 2, none⟩) hB).trans (hcell k r hr 2 _ rfl)
      have e3 : wr.cell? ⟨b, off + k * 4 + 3, none⟩ = some (.int .i64 r.to) := (bel.cell (p := ⟨b, off + k * 4 + 3, none⟩) hB).trans (hcell k r hr 3 _ rfl)
      obtain ⟨V, hV, hV2, szV, belV, bV, x0, x1, x2, x3⟩ := new_four wr 111 (.int .i64 0) (.int .i64 0) (.slice none 0 0) (.int .i64 0) (.int .i64 (kof r)) (.int .i64 r.file) r.v (.int .i64 r.to)
      have hst : st.wait[k]? = some r.r := by rw [← H.out.con.wait, List.getElem?_map, hr]; rfl
      have hbl := bulk_at hst
      have hhl := Dm.hold_len (st.wait.take k) (st.sure f) f
      have hfit := Dm.valid_at H.out.ok hst
      obtain ⟨ar, cr, hrv, _, _⟩ := (H.out.con.raw r (List.mem_of_getElem? hr)).1.shape
      have ir := (((H.out.con.raw r (List.mem_of_getElem? hr)).1).below bel).below belV
      have HN := hide (hold_next hst f (st.sure f))
      have hlt' : (k : Int) < rs.length := by omega
      have hk0 : (0 : Int) ≤ (k : Int) := by omega
      have belRV := bel.trans (belV.mono (by omega))
      have HTV := hide (HT.out.below belV)
      by_cases hff : r.file = f
      · have hfe : ((r.file : Int) == (f : Int)) = true := by simp [hff]
        have hto : r.cut = true → r.to ≤ (Dm.hold f (st.sure f) (st.wait.take k)).length := by
          intro hc
          have := hfit.2.1 hc
          rw [show r.r.file = f from hff, ← Dm.hold_dof] at this
          exact this
        have HTO := hide hto
        have hlen : (Dm.hold f (st.sure f) (st.wait.take k)).length + r.bytes.length ≤ 140737488355328 := by
          have : r.r.bytes = r.bytes := rfl
          rw [this] at hbl
          omega
        have hff' : r.r.file = f := hff
        have HFF := hide hff'
        have BI := hide (fun (v0 : Value) (h0 : Own .u8 5 w.heap.size V v0 (Dm.hold f (st.sure f) (st.wait.take k))) => behind_any w.heap.size v0 _ r V h0 (by omega) ir HTO.out hlen)
        have HB2 := hide bV
        have HRV := hide hrv
        rw [hrv] at e2 hV hV2 x2
        rw [hrv] at BI
        clear hst hbl hhl hfit hto hff hff' hcell hr HTO hlen ir hrv bV
        go_wp2_with fail
        refine (BI.out _ HTV.out).mono ?_
        rintro E w2 ⟨v2, rfl, own2, out2, at2⟩
        have bel2 : Below w.heap.size V w2 := out2.below (fun g hg => (HTV.out.block g hg).1) (by omega)
        have HT2 : Hid (Own .u8 5 w.heap.size w2 v2 (Dm.hold f (st.sure f) (st.wait.take (k + 1)))) := hide (by
          rw [HN.out, if_pos HFF.out]
          exact own2)
        have belR := belRV.trans bel2
        clear own2 bel2 out2 at2
        go_wp2
        go_roundw
        case rel => exact ⟨k + 1, by omega, by go_num, HT2, belR⟩
        case measure => simp [intOf]; omega
      · have hfe : ((r.file : Int) == (f : Int)) = false := by simp; omega
        have HT2 := hide (show Own .u8 5 w.heap.size V _ (Dm.hold f (st.sure f) (st.wait.take (k + 1))) by rw [HN.out, if_neg (show ¬ r.r.file = f from hff)]; exact HTV.out)
        rw [hrv] at e2 hV hV2 x2
        clear hst hbl hhl hfit hcell hr hff ir hrv bV
        go_wp2
        go_roundw
        case rel => exact ⟨k + 1, by omega, by go_num, HT2, belRV⟩
        case measure => simp [intOf]; omega
    · have hlt' : ¬ (k : Int) < rs.length := by omega
      have HT2 := HT.out
      rw [List.take_of_length_le (by omega)] at HT2
      clear HT
      go_wp2
      go_ret
      exact ⟨_, rfl, HT2, bel⟩

end Go.Proofs.Ytimmohpnlieefaa
