/- The contracts of the document's disk: what it tells (On, Pending, Steps, Read, Durable), Fuse. -/
import Derived.Test.YteklbnonikccaaaDr
import Derived.Test.YteklbnonikccaaaCuth
namespace Go.Proofs.Yteklbnonikccaaa
open Go.RowKit
set_option linter.unusedVariables false


set_option maxHeartbeats 400000 in
theorem onR_any (p : Nat) (F : Nat → Prop) (w : World) (st : Dm.Ds) (h : Dk p F w st) : Calls Try.prog 51 #[.pointer (some ⟨p, 0, none⟩)] w fun E w' => E = .returned (.bool st.on) ∧ w = w' := by
  have hn := noneR_any p F w st h
  obtain ⟨s, wv, rs, h⟩ := h
  have c6 := h.c6
  have HN := hide hn
  clear h hn
  go_enter Try.func51, Try.ntmps51
  go_wp2_with fail
  refine HN.out.mono ?_
  rintro E w1 ⟨rfl, rfl⟩
  go_wp2
  go_ret
  exact ⟨rfl, rfl⟩

set_option maxHeartbeats 400000 in
theorem stepsR_any (p : Nat) (F : Nat → Prop) (w : World) (st : Dm.Ds) (h : Dk p F w st) : Calls Try.prog 53 #[.pointer (some ⟨p, 0, none⟩)] w fun E w' => E = .returned (.int .i64 st.count) ∧ w = w' := by
  have hn := noneR_any p F w st h
  obtain ⟨s, wv, rs, h⟩ := h
  have c9 := h.c9
  have HN := hide hn
  clear h hn
  go_enter Try.func53, Try.ntmps53
  go_wp2_with fail
  refine HN.out.mono ?_
  rintro E w1 ⟨rfl, rfl⟩
  go_wp2
  go_ret
  exact ⟨rfl, rfl⟩

theorem DkV.len {p : Nat} {F : Nat → Prop} {w : World} {st : Dm.Ds} {s : Nat → Value} {wv : Value} {rs : List Rv} (h : DkV p F w st s wv rs) : st.wait.length = rs.length := by rw [← h.wait, List.length_map]

set_option maxHeartbeats 400000 in
theorem pendR_any (p : Nat) (F : Nat → Prop) (w : World) (st : Dm.Ds) (h : Dk p F w st) : Calls Try.prog 52 #[.pointer (some ⟨p, 0, none⟩)] w fun E w' => E = .returned (.int .i64 st.wait.length) ∧ w = w' := by
  have hn := noneR_any p F w st h
  obtain ⟨s, wv, rs, h⟩ := h
  have c5 := h.c5
  obtain ⟨ao, cap, hv, _, _⟩ := h.row.row.shape
  rw [hv] at c5
  rw [h.len]
  have HN := hide hn
  clear h hn hv
  go_enter Try.func52, Try.ntmps52
  go_wp2_with fail
  refine HN.out.mono ?_
  rintro E w1 ⟨rfl, rfl⟩
  go_wp2
  go_ret
  exact ⟨rfl, rfl⟩

set_option maxHeartbeats 400000 in
theorem fuseR_any (p : Nat) (F : Nat → Prop) (w : World) (st : Dm.Ds) (n : Int) (h : Dk p F w st) :
    Calls Try.prog 47 #[.pointer (some ⟨p, 0, none⟩), .int .i64 n] w fun E w' => E = .returned (.int .i64 (Dm.fuse st n).1) ∧ DStep p F w w' (Dm.fuse st n).2 := by
  have ha := askedR_any p F w st h
  have HK := hide h
  obtain ⟨s, wv, rs, h⟩ := h
  have c7 := h.c7
  have f7 := h.froz 7
  have HA := hide ha
  clear ha
  unfold Dm.fuse
  cases hon : st.on
  · rw [if_pos rfl]
    have hk := ask_off hon
    clear hon h
    go_enter Try.func47, Try.ntmps47
    go_wp2_with fail
    refine HA.out.mono ?_
    rintro E w1 ⟨rfl, rfl⟩
    rw [hk]
    go_wp2
    go_ret
    exact ⟨rfl, DStep.same HK.out (Below.refl _ _)⟩
  · rw [if_neg (by simp)]
    have hk := ask_on hon
    by_cases hn : n < 0
    · rw [if_pos hn]
      clear hon h
      go_enter Try.func47, Try.ntmps47
      go_wp2_with fail
      refine HA.out.mono ?_
      rintro E w1 ⟨rfl, rfl⟩
      rw [hk]
      go_wp2
      go_ret
      exact ⟨rfl, DStep.same HK.out (Below.refl _ _)⟩
    · rw [if_neg hn]
      have hcast : ((n.toNat : Nat) : Int) = n := by omega
      have R1 := h.put (st' := { st with has := true }) (s' := s) (wv' := wv) (rs' := rs) 7 (.bool true) rfl h.file h.row h.inr h.raw h.wait h.ok
      have R2 := R1.1.put (st' := { st with has := true, left := n.toNat }) (s' := s) (wv' := wv) (rs' := rs) 8 (.int .i64 n) (by simp [dcells, hcast]) R1.1.file R1.1.row R1.1.inr R1.1.raw h.wait h.ok
      have HR : Hid (DStep p F w ((w.setCell ⟨p, 7, none⟩ (.bool true)).setCell ⟨p, 8, none⟩ (.int .i64 n)) { st with has := true, left := n.toNat }) := DStep.mk' ⟨_, _, _, R2.1⟩ (R1.2.trans R2.2 fun g hg => .inl hg)
      have d8 := R1.1.c8
      have g8 := R1.1.froz 8
      have hs : { st with has := true, left := n.toNat } = ({ sure := st.sure, wait := st.wait, on := true, has := true, left := n.toNat, count := st.count } : Dm.Ds) := by rw [← hon]
      rw [hs] at HR
      clear h R1 R2 hs hcast hon
      go_enter Try.func47, Try.ntmps47
      go_wp2_with fail
      refine HA.out.mono ?_
      rintro E w1 ⟨rfl, rfl⟩
      rw [hk]
      go_wp2
      go_ret
      exact ⟨rfl, HR.out⟩

set_option maxHeartbeats 4000000 in
theorem withR_any (vb : Value) (bs : List Int) (r : Rv) (w : World) (hb : Is .u8 w vb bs) (hv : Is .u8 w r.v r.bytes) (hto : r.cut = true → r.to ≤ bs.length) (hl : bs.length + r.bytes.length ≤ 140737488355328) :
    Calls Try.prog 64 #[vb, .agg #[.int .i64 r.file, .bool r.cut, .int .i64 r.to, r.v]] w fun E w' => ∃ v, E = .returned v ∧ Own .u8 5 w.heap.size w' v (Dm.wth bs r.r) ∧ Below w.heap.size w w' := by
  obtain ⟨w1, hw1, sz1, bel1, hB⟩ := blk_step w #[.int .i64 r.file, .bool r.cut, .int .i64 r.to, r.v] 75
  have c1 : w1.cell? ⟨w.heap.size, 1, none⟩ = some (.bool r.cut) := blk_cell hB 1 rfl
  have c2 : w1.cell? ⟨w.heap.size, 2, none⟩ = some (.int .i64 r.to) := blk_cell hB 2 rfl
  have c3 : w1.cell? ⟨w.heap.size, 3, none⟩ = some r.v := blk_cell hB 3 rfl
  have hb1 := hb.below bel1
  have hv1 := hv.below bel1
  have BB := hide hB
  clear hB
  cases hc : r.cut
  · have e : Dm.wth bs r.r = bs ++ r.bytes := by simp [Dm.wth, Rv.r, hc]
    rw [e]
    rw [hc] at hw1
    have c1' : w1.cell? ⟨w.heap.size, 1, none⟩ = some (.bool false) := by rw [← hc]; exact c1
    clear c1 c2 hto hc e
    go_enter Try.func64, Try.ntmps64
    go_wp2_with (at_builtin; refine wpList_append_is rfl (.tmp 14) (.tmp 15) 27 rfl .u8 5 w1.heap.size 1 Try.underlying27 Try.info5 (by decide) _ [] rfl (Own.nil _ _ _ _) _ bs rfl hb1 (by simp; omega) (Nat.le_refl _) ?_)
    intro v2 w2 own2 bel2 _
    have sz2 := bel2.size
    have d3 := (bel2.cell (p := ⟨w.heap.size, 3, none⟩) (by simp)).trans c3
    have hv2 := hv1.below (bel2.mono (by omega))
    clear c3 c1' hb1 hv1
    go_wp2_with (at_builtin; refine wpList_append_is rfl (.tmp 17) (.tmp 19) 27 rfl .u8 5 (w.heap.size + 1) 1 Try.underlying27 Try.info5 (by decide) _ bs rfl own2 _ r.bytes rfl hv2 (by omega) (by omega) ?_)
    intro v3 w3 own3 bel3 _
    have own3' := own3.rebase (base' := w.heap.size) (by omega)
    have bel03 : Below w.heap.size w w3 := (bel1.trans (bel2.mono (by omega))).trans (bel3.mono (by omega))
    go_wp2
    go_ret
    exact ⟨_, rfl, own3', bel03⟩
  · have e : Dm.wth bs r.r = bs.take r.to := by simp [Dm.wth, Rv.r, hc]
    rw [e]
    have hto' := hto hc
    obtain ⟨vs, hsl, isl⟩ := hb1.slice_h Try.elemP Try.sizeP r.to hto'
    rw [hc] at hw1
    have c1' : w1.cell? ⟨w.heap.size, 1, none⟩ = some (.bool true) := by rw [← hc]; exact c1
    clear c1 c3 hto hc e
    go_enter Try.func64, Try.ntmps64
    go_wp2_with (at_builtin; refine wpList_append_is rfl (.tmp 8) (.tmp 12) 27 rfl .u8 5 w1.heap.size 1 Try.underlying27 Try.info5 (by decide) _ [] rfl (Own.nil _ _ _ _) _ _ rfl isl (by simp; omega) (Nat.le_refl _) ?_)
    intro v2 w2 own2 bel2 _
    have own2' := own2.rebase (base' := w.heap.size) (by omega)
    have bel02 : Below w.heap.size w w2 := bel1.trans (bel2.mono (by omega))
    go_wp2
    go_ret
    exact ⟨_, rfl, own2', bel02⟩

theorem raw_at {p : Nat} {F : Nat → Prop} {w : World} {st : Dm.Ds} {s : Nat → Value} {wv : Value} {rs : List Rv} (h : DkV p F w st s wv rs) {k : Nat} {r : Rv} (hk : rs[k]? = some r) : st.wait[k]? = some r.r := by
  rw [← h.wait, List.getElem?_map, hk]
  rfl

theorem wtake_next {l : List Dm.Rw} {k : Nat} {r : Dm.Rw} (h : l[k]? = some r) : l.take (k + 1) = l.take k ++ [r] := by
  obtain ⟨hk, rfl⟩ := List.getElem?_eq_some_iff.1 h
  exact List.take_succ_eq_append_getElem hk

theorem bulk_take : ∀ (l : List Dm.Rw) (k : Nat), Dm.bulk (l.take k) ≤ Dm.bulk l
  | [], k => by simp [Dm.bulk]
  | r :: l, 0 => by simp [Dm.bulk]
  | r :: l, k + 1 => by
    have := bulk_take l k
    simp only [List.take_succ_cons, Dm.bulk]
    omega

theorem bulk_at {l : List Dm.Rw} {k : Nat} {r : Dm.Rw} (h : l[k]? = some r) : Dm.bulk (l.take k) + r.bytes.length ≤ Dm.bulk l := by
  have h1 := bulk_take l (k + 1)
  rw [wtake_next h, Dm.bulk_app] at h1
  simp only [Dm.bulk] at h1
  omega

theorem hold_next {l : List Dm.Rw} {k : Nat} {r : Dm.Rw} (h : l[k]? = some r) (f : Nat) (b : List Int) : Dm.hold f b (l.take (k + 1)) = if r.file = f then Dm.wth (Dm.hold f b (l.take k)) r else Dm.hold f b (l.take k) := by
  rw [wtake_next h, Dm.hold_snoc]

set_option maxHeartbeats 1000000 in
theorem holdsR_any (p : Nat) (F : Nat → Prop) (w : World) (st : Dm.Ds) (f : Nat) (h : Dk p F w st) (hf : f < 4) (hsz : (st.sure f).length + Dm.bulk st.wait ≤ 140737488355000) (hw : st.wait.length ≤ 1000000) :
    Calls Try.prog 61 #[.pointer (some ⟨p, 0, none⟩), .int .i64 f] w fun E w' => ∃ v, E = .returned v ∧ Own .u8 5 w.heap.size w' v (Dm.hold f (st.sure f) st.wait) ∧ Below w.heap.size w w' := by
  obtain ⟨s, wv, rs, h⟩ := h
  have cf := h.cf f hf
  have c5 := h.c5
  have hp := h.lt p h.inp
  have isf := (h.file f hf).1
  have hlr := h.len
  obtain ⟨ao, cap, hv, hcap, hcm⟩ := h.row.row.shape
  have hrow : 0 < rs.length → ∃ b off c, wv = .slice (some ⟨b, off, none⟩) rs.length c ∧ b < w.heap.size ∧ ∀ i a, rs[i]? = some a → ∀ j u, (rawc a)[j]? = some u → w.cell? ⟨b, off + i * 4 + j, none⟩ = some u := by
    intro h0
    obtain ⟨b, off, c, h1, _, _, h4, h5⟩ := h.row.row.full rawc_len (by decide) h0
    exact ⟨b, off, c, h1, h4, h5⟩
  have H := hide h
  have HROW := hide hrow
  subst hv
  clear h hrow
  have hf0 : (0 : Int) ≤ (f : Int) := by omega
  have hf4 : (f : Int) < 4 := by omega
  go_enter Try.func61, Try.ntmps61
  go_wp2_with (at_builtin; refine wpList_append_is rfl (.tmp 7) (.tmp 13) 27 rfl .u8 5 w.heap.size 1 Try.underlying27 Try.info5 (by decide) _ [] rfl (Own.nil _ _ _ _) _ (st.sure f) rfl isf (by simp; omega) (Nat.le_refl _) ?_)
  intro v1 w1 own1 bel1 _
  clear cf isf
  go_wp2
  go_loopw [5, 6] (fun bv iv wr => ∃ k : Nat, k ≤ rs.length ∧ iv = .int .i64 k ∧ Hid (Own .u8 5 w.heap.size wr bv (Dm.hold f (st.sure f) (st.wait.take k))) ∧ Below w.heap.size w wr) (fun _ iv _ => rs.length - (intOf iv).toNat)
  case atStart => exact ⟨0, by omega, rfl, hide (by simpa [Dm.hold] using own1), bel1⟩
  case round =>
    obtain ⟨k, hk, rfl, HT, bel⟩ := hrel
    have sz := bel.size
    have d5 := (bel.cell (p := ⟨p, 5, none⟩) hp).trans c5
    by_cases hlt : k < rs.length
    · obtain ⟨b, off, cq, hvx, hB, hcell⟩ := HROW.out (by omega)
      simp only [Value.slice.injEq, true_and] at hvx
      obtain ⟨rfl, rfl⟩ := hvx
      obtain ⟨r, hr⟩ : ∃ r, rs[k]? = some r := ⟨rs[k], by rw [List.getElem?_eq_getElem]⟩
      have e0 : wr.cell? ⟨b, off + k * 4, none⟩ = some (.int .i64 r.file) := (bel.cell (p := ⟨b, off + k * 4, none⟩) hB).trans (hcell k r hr 0 _ rfl)
      have e1 : wr.cell? ⟨b, off + k * 4 + 1, none⟩ = some (.bool r.cut) := (bel.cell (p := ⟨b, off + k * 4 + 1, none⟩) hB).trans (hcell k r hr 1 _ rfl)
      have e2 : wr.cell? ⟨b, off + k * 4 + 2, none⟩ = some (.int .i64 r.to) := (bel.cell (p := ⟨b, off + k * 4 + 2, none⟩) hB).trans (hcell k r hr 2 _ rfl)
      have e3 : wr.cell? ⟨b, off + k * 4 + 3, none⟩ = some r.v := (bel.cell (p := ⟨b, off + k * 4 + 3, none⟩) hB).trans (hcell k r hr 3 _ rfl)
      have hst := raw_at H.out hr
      have hbl := bulk_at hst
      have hhl := Dm.hold_len (st.wait.take k) (st.sure f) f
      have hfit := Dm.valid_at H.out.ok hst
      have ir := ((H.out.raw r (List.mem_of_getElem? hr)).1).below bel
      have HN := hide (hold_next hst f (st.sure f))
      have hlt' : (k : Int) < rs.length := by omega
      have hk0 : (0 : Int) ≤ (k : Int) := by omega
      by_cases hff : r.file = f
      · have hfe : ((r.file : Int) == (f : Int)) = true := by simp [hff]
        have hto : r.cut = true → r.to ≤ (Dm.hold f (st.sure f) (st.wait.take k)).length := by
          intro hc
          have := hfit.2.1 hc
          rw [show r.r.file = f from hff, ← Dm.hold_dof] at this
          exact this
        have HO := hide HT.out.is
        have HTO := hide hto
        have hlen : (Dm.hold f (st.sure f) (st.wait.take k)).length + r.bytes.length ≤ 140737488355328 := by
          have : r.r.bytes = r.bytes := rfl
          rw [this] at hbl
          omega
        have hff' : r.r.file = f := hff
        have HFF := hide hff'
        clear hst hbl hhl hfit hto hff hff' hcell hr
        go_wp2_with fail
        refine (withR_any _ _ r _ HO.out ir HTO.out hlen).mono ?_
        rintro E w2 ⟨v2, rfl, own2, bel2⟩
        have HT2 : Hid (Own .u8 5 w.heap.size w2 v2 (Dm.hold f (st.sure f) (st.wait.take (k + 1)))) := hide (by
          rw [HN.out, if_pos HFF.out]
          exact own2.rebase (by omega))
        have belR := bel.trans (bel2.mono (by omega))
        clear own2 bel2 HO HTO hlen
        go_wp2
        go_roundw
        case rel => exact ⟨k + 1, by omega, by go_num, HT2, belR⟩
        case measure => simp [intOf]; omega
      · have hfe : ((r.file : Int) == (f : Int)) = false := by simp; omega
        have HT2 := hide (show Own .u8 5 w.heap.size wr _ (Dm.hold f (st.sure f) (st.wait.take (k + 1))) by rw [HN.out, if_neg (show ¬ r.r.file = f from hff)]; exact HT.out)
        clear hst hbl hhl hfit hcell hr hff
        go_wp2
        go_roundw
        case rel => exact ⟨k + 1, by omega, by go_num, HT2, bel⟩
        case measure => simp [intOf]; omega
    · have hlt' : ¬ (k : Int) < rs.length := by omega
      have HT2 := HT.out
      rw [List.take_of_length_le (by omega)] at HT2
      clear HT
      go_wp2
      go_ret
      exact ⟨_, rfl, HT2, bel⟩

end Go.Proofs.Yteklbnonikccaaa
