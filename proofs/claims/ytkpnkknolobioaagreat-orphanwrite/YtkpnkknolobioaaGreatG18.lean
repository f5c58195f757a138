/- Texts of one layer, one behind the other. -/
import Derived.Test.YtkpnkknolobioaaGreatG17
import Derived.Test.YtkpnkknolobioaaGreatG11
import Derived.Test.YtkpnkknolobioaaGreatG10
/- The program's disk: what a file holds behind a raw step, copies, Read, Durable. -/
namespace Go.Proofs.YtkpnkknolobioaaGreat
open Go.RowKit
set_option linter.unusedVariables false

set_option maxHeartbeats 2000000 in
theorem behind_any (base : Nat) (vb : Value) (bs : List Int) (r : Rv) (w : World) (hb : Own .u8 5 base w vb bs) (hbase : base ≤ w.heap.size) (hv : Is .u8 w r.v r.bytes) (hto : r.cut = true → r.to ≤ bs.length) (hl : bs.length + r.bytes.length ≤ 140737488355328) :
    Calls Tryz.prog 71 #[.agg #[.int .i64 (kof r), .int .i64 r.file, r.v, .int .i64 r.to], vb] w fun E w' => ∃ v, E = .returned v ∧ Own .u8 5 base w' v (Dm.wth bs r.r) ∧ Out (fun g => vb.ownBlock = some g) w w' ∧ ∀ b, v.ownBlock = some b → vb.ownBlock = some b ∨ w.heap.size ≤ b := by
  cases hc : r.cut
  · have hk : kof r = 0 := by simp [kof, hc]
    have e : Dm.wth bs r.r = bs ++ r.bytes := by simp [Dm.wth, Rv.r, hc]
    rw [e, hk]
    obtain ⟨w1, hw1, sz1, bel1, hB⟩ := blk_step w #[.int .i64 0, .int .i64 r.file, r.v, .int .i64 r.to] 70
    have c0 : w1.cell? ⟨w.heap.size, 0, none⟩ = some (.int .i64 0) := blk_cell hB 0 rfl
    have c2 : w1.cell? ⟨w.heap.size, 2, none⟩ = some r.v := blk_cell hB 2 rfl
    have hb1 := hb.below bel1
    have hv1 := hv.below bel1
    have X : Hid (∀ ty, ∃ v' w', (Builtin.append_ #[22, 22] ty #[vb, r.v]).run Tryz.prog w1 = .ok v' w' ∧ (Own .u8 5 base w' v' (bs ++ r.bytes) ∧ w1.grownBy w' vb.ownBlock ∧ (v'.ownBlock = vb.ownBlock ∨ v'.ownBlock = some w1.heap.size))) := hide fun ty =>
      run_append_is_at 22 ty .u8 5 base 1 Tryz.underlying22 Tryz.info5 (by decide) vb bs hb1 r.v r.bytes hv1 (by omega) (by omega)
    clear hB hb1 hv1 hto hc e hk
    go_enter Tryz.func71, Tryz.ntmps71
    go_wp2_with (at_builtin; refine wpList_append_at rfl (.tmp 9) (.tmp 11) 22 rfl vb r.v rfl rfl X.out ?_)
    intro v2 w2 own2 gr2 at2
    have ho : Out (fun g => vb.ownBlock = some g) w w2 := (Out.of_below bel1).trans (G := fun g => vb.ownBlock = some g) (Out.of_grown gr2 fun g hg => hg) fun g hg => .inl hg
    have hat : ∀ b, v2.ownBlock = some b → vb.ownBlock = some b ∨ w.heap.size ≤ b := by
      intro b hb'
      rcases at2 with h | h
      · exact .inl (by rw [← h]; exact hb')
      · rw [hb'] at h
        simp at h
        exact .inr (by omega)
    have HO := hide ho
    have HAT := hide hat
    clear ho hat at2 gr2
    go_wp2
    go_ret
    exact ⟨_, rfl, own2, HO.out, HAT.out⟩
  · have hk : kof r = 1 := by simp [kof, hc]
    have e : Dm.wth bs r.r = bs.take r.to := by simp [Dm.wth, Rv.r, hc]
    rw [e, hk]
    have hto' := hto hc
    obtain ⟨w1, hw1, sz1, bel1, hB⟩ := blk_step w #[.int .i64 1, .int .i64 r.file, r.v, .int .i64 r.to] 70
    have c0 : w1.cell? ⟨w.heap.size, 0, none⟩ = some (.int .i64 1) := blk_cell hB 0 rfl
    have c3 : w1.cell? ⟨w.heap.size, 3, none⟩ = some (.int .i64 r.to) := blk_cell hB 3 rfl
    obtain ⟨vs, hsl, own, hat⟩ := (hb.below bel1).slice_h Tryz.elemP Tryz.sizeP r.to hto'
    have HO : Hid (Out (fun g => vb.ownBlock = some g) w w1) := hide (Out.of_below bel1)
    have HAT : Hid (∀ b, vs.ownBlock = some b → vb.ownBlock = some b ∨ w.heap.size ≤ b) := hide fun b hb' => .inl (hat b hb')
    clear hB hat hto hc e hk
    go_enter Tryz.func71, Tryz.ntmps71
    go_wp2
    go_ret
    exact ⟨_, rfl, own, HO.out, HAT.out⟩

set_option maxHeartbeats 2000000 in
theorem held_any (p : Nat) (F : Nat → Prop) (w : World) (st : Dm.Ds) (f : Nat) (h : Pk p F w st) (hf : f < 4) (hsz : (st.sure f).length + Dm.bulk st.wait ≤ 140737488355000) (hw : st.wait.length ≤ 1000000) :
    Calls Tryz.prog 64 #[.pointer (some ⟨p, 0, none⟩), .int .i64 f] w fun E w' => ∃ v, E = .returned v ∧ Own .u8 5 w.heap.size w' v (Dm.hold f (st.sure f) st.wait) ∧ Below w.heap.size w w' := by
  obtain ⟨s, wv, rs, h, rfl⟩ := h
  have cf := h.cf f hf
  have c7 := h.c7
  have hp := h.lt p (.inl rfl)
  have isf := (h.con.file f hf).is
  have hlr := h.con.len
  obtain ⟨ao, cap, hv, hcap, hcm⟩ := h.con.row.row.shape
  have hrow : 0 < rs.length → ∃ b off c, wv = .slice (some ⟨b, off, none⟩) rs.length c ∧ b < w.heap.size ∧ ∀ i a, rs[i]? = some a → ∀ j u, (stepc a)[j]? = some u → w.cell? ⟨b, off + i * 4 + j, none⟩ = some u := by
    intro h0
    obtain ⟨b, off, c, h1, _, _, h4, h5⟩ := h.con.row.row.full stepc_len (by decide) h0
    exact ⟨b, off, c, h1, h4, h5⟩
  have H := hide h
  have HROW := hide hrow
  subst hv
  clear h hrow
  have hf0 : (0 : Int) ≤ (f : Int) := by omega
  have hf4 : (f : Int) < 4 := by omega
  go_enter Tryz.func64, Tryz.ntmps64
  go_wp2_with fail
  refine (bclone_any _ _ _ isf (by omega)).mono ?_
  rintro E w1 ⟨v1, rfl, own1, bel1⟩
  have d7 := (bel1.cell (p := ⟨p, 7, none⟩) hp).trans c7
  clear cf isf
  go_wp2
  go_loopw [5, 20] (fun bv iv wr => ∃ k : Nat, k ≤ rs.length ∧ iv = .int .i64 k ∧ Hid (Own .u8 5 w.heap.size wr bv (Dm.hold f (st.sure f) (st.wait.take k))) ∧ Below w.heap.size w wr) (fun _ iv _ => rs.length - (intOf iv).toNat)
  case atStart => exact ⟨0, by omega, rfl, hide (by simpa [Dm.hold] using own1), bel1⟩
  case round =>
    obtain ⟨k, hk, rfl, HT, bel⟩ := hrel
    have sz := bel.size
    by_cases hlt : k < rs.length
    · obtain ⟨b, off, cq, hvx, hB, hcell⟩ := HROW.out (by omega)
      simp only [Value.slice.injEq, true_and] at hvx
      obtain ⟨rfl, rfl⟩ := hvx
      obtain ⟨r, hr⟩ : ∃ r, rs[k]? = some r := ⟨rs[k], by rw [List.getElem?_eq_getElem]⟩
      have e0 : wr.cell? ⟨b, off + k * 4, none⟩ = some (.int .i64 (kof r)) := (bel.cell (p := ⟨b, off + k * 4, none⟩) hB).trans (hcell k r hr 0 _ rfl)
      have e1 : wr.cell? ⟨b, off + k * 4 + 1, none⟩ = some (.int .i64 r.file) := (bel.cell (p := ⟨b, off + k * 4 + 1, none⟩) hB).trans (hcell k r hr 1 _ rfl)
      have e2 : wr.cell? ⟨b, off + k * 4 + 2, none⟩ = some r.v := (bel.cell (p := ⟨b, off + k * 4 + 2, none⟩) hB).trans (hcell k r hr 2 _ rfl)
      have e3 : wr.cell? ⟨b, off + k * 4 + 3, none⟩ = some (.int .i64 r.to) := (bel.cell (p := ⟨b, off + k * 4 + 3, none⟩) hB).trans (hcell k r hr 3 _ rfl)
      obtain ⟨V, hV, hV2, szV, belV, bV, x0, x1, x2, x3⟩ := new_four wr 70 (.int .i64 0) (.int .i64 0) (.slice none 0 0) (.int .i64 0) (.int .i64 (kof r)) (.int .i64 r.file) r.v (.int .i64 r.to)
      have hst : st.wait[k]? = some r.r := by rw [← H.out.con.wait, List.getElem?_map, hr]; rfl
      have hbl := bulk_at hst
      have hhl := Dm.hold_len (st.wait.take k) (st.sure f) f
      have hfit := Dm.valid_at H.out.ok hst
      obtain ⟨ar, cr, hrv, _, _⟩ := (H.out.con.raw r (List.mem_of_getElem? hr)).1.shape
      have ir := (((H.out.con.raw r (List.mem_of_getElem? hr)).1).below bel).below belV
      have HN := hide (hold_next hst f (st.sure f))
      have hlt' : (k : Int) < rs.length := by omega
      have hk0 : (0 : Int) ≤ (k : Int) := by omega
      have belRV := bel.trans (belV.mono (by omega))
      have HTV := hide (HT.out.below belV)
      by_cases hff : r.file = f
      · have hfe : ((r.file : Int) == (f : Int)) = true := by simp [hff]
        have hto : r.cut = true → r.to ≤ (Dm.hold f (st.sure f) (st.wait.take k)).length := by
          intro hc
          have := hfit.2.1 hc
          rw [show r.r.file = f from hff, ← Dm.hold_dof] at this
          exact this
        have HTO := hide hto
        have hlen : (Dm.hold f (st.sure f) (st.wait.take k)).length + r.bytes.length ≤ 140737488355328 := by
          have : r.r.bytes = r.bytes := rfl
          rw [this] at hbl
          omega
        have hff' : r.r.file = f := hff
        have HFF := hide hff'
        have BI := hide (fun (v0 : Value) (h0 : Own .u8 5 w.heap.size V v0 (Dm.hold f (st.sure f) (st.wait.take k))) => behind_any w.heap.size v0 _ r V h0 (by omega) ir HTO.out hlen)
        have HB2 := hide bV
        have HRV := hide hrv
        rw [hrv] at e2 hV hV2 x2
        rw [hrv] at BI
        clear hst hbl hhl hfit hto hff hff' hcell hr HTO hlen ir hrv bV
        go_wp2_with fail
        refine (BI.out _ HTV.out).mono ?_
        rintro E w2 ⟨v2, rfl, own2, out2, at2⟩
        have bel2 : Below w.heap.size V w2 := out2.below (fun g hg => (HTV.out.block g hg).1) (by omega)
        have HT2 : Hid (Own .u8 5 w.heap.size w2 v2 (Dm.hold f (st.sure f) (st.wait.take (k + 1)))) := hide (by
          rw [HN.out, if_pos HFF.out]
          exact own2)
        have belR := belRV.trans bel2
        clear own2 bel2 out2 at2
        go_wp2
        go_roundw
        case rel => exact ⟨k + 1, by omega, by go_num, HT2, belR⟩
        case measure => simp [intOf]; omega
      · have hfe : ((r.file : Int) == (f : Int)) = false := by simp; omega
        have HT2 := hide (show Own .u8 5 w.heap.size V _ (Dm.hold f (st.sure f) (st.wait.take (k + 1))) by rw [HN.out, if_neg (show ¬ r.r.file = f from hff)]; exact HTV.out)
        rw [hrv] at e2 hV hV2 x2
        clear hst hbl hhl hfit hcell hr hff ir hrv bV
        go_wp2
        go_roundw
        case rel => exact ⟨k + 1, by omega, by go_num, HT2, belRV⟩
        case measure => simp [intOf]; omega
    · have hlt' : ¬ (k : Int) < rs.length := by omega
      have HT2 := HT.out
      rw [List.take_of_length_le (by omega)] at HT2
      clear HT
      go_wp2
      go_ret
      exact ⟨_, rfl, HT2, bel⟩

end Go.Proofs.YtkpnkknolobioaaGreat

/- Rows in memory: a clearing of cells, the rear of a row. No program. -/
namespace Go.Proofs.YtkpnkknolobioaaGreat
open Go.RowKit
set_option linter.unusedVariables false

theorem setCells_grown (g : Nat) : ∀ (vs : List Value) (o : Nat) (w : World), w.grownBy (w.setCells g o vs) (some g)
  | [], _, w => World.grownBy.refl _ _
  | v :: r, o, w => grown_trans (grown_setCell w ⟨g, o, none⟩ v) (setCells_grown g r (o + 1) _)

theorem setCells_cells {g : Nat} {t : TypeId} {fr : Nat × Nat} : ∀ (vs : List Value) (o : Nat) (w : World) (cur : Array Value), w.heap[g]? = some (.cells cur t fr) → ∃ cur', (w.setCells g o vs).heap[g]? = some (.cells cur' t fr) ∧ cur'.size = cur.size ∧ ∀ j, j < o → cur'[j]? = cur[j]?
  | [], _, w, cur, h => ⟨cur, h, rfl, fun _ _ => rfl⟩
  | v :: r, o, w, cur, h => by
    obtain ⟨cur', h1, h2, h3⟩ := setCells_cells r (o + 1) (w.setCell ⟨g, o, none⟩ v) _ (set_cells h o v)
    refine ⟨cur', h1, by rw [h2]; simp, fun j hj => ?_⟩
    rw [h3 j (by omega), Array.getElem?_setIfInBounds, if_neg (by omega)]

/-- What a row holds stays where cells behind it are written. -/
theorem own_setCells {w : World} {base e size g n cap : Nat} {xs : List Value} (h : w.ownsRow base e size (.slice (some ⟨g, 0, none⟩) n cap) n xs) (o : Nat) (ho : n * size ≤ o) (vs : List Value) : (w.setCells g o vs).ownsRow base e size (.slice (some ⟨g, 0, none⟩) n cap) n xs := by
  refine ⟨h.1, ?_⟩
  rcases h.2 with ⟨h', _⟩ | ⟨g', cap', cur, h', hb, hg, hnc, hcm, hcs, htake⟩
  · simp at h'
  · simp only [Value.slice.injEq, Option.some.injEq, Addr.mk.injEq, and_true, true_and] at h'
    obtain ⟨rfl, rfl⟩ := h'
    obtain ⟨cur', h1, h2, h3⟩ := setCells_cells vs o w cur hg
    refine .inr ⟨g, cap, cur', rfl, hb, h1, hnc, hcm, by rw [h2, hcs], ?_⟩
    rw [← htake]
    apply List.ext_getElem?
    intro i
    rw [List.getElem?_take, List.getElem?_take]
    split
    · rw [Array.getElem?_toList, Array.getElem?_toList, h3 i (by omega)]
    · rfl

theorem run_clear_rows {P : Program} {n : Nat} (w : World) (t e ty : TypeId) (z : Value) (ht : P.underlying t = some (.slice e)) (hv : ∀ w, (zeroValue e).run P w = .ok z w) (h1 : ∀ u ∈ (Builtin.zeroCells z.cells n).toList, u.oneCell' = true) (b o c : Nat) (hn : 0 < n)
    (hc : ∀ j, j < (Builtin.zeroCells z.cells n).toList.length → (w.cell? ⟨b, o + j, none⟩).isSome = true) (hf : ∀ j, j < (Builtin.zeroCells z.cells n).toList.length → w.frozen? ⟨b, o + j, none⟩ = false) :
    (Builtin.clear_ #[t] ty #[.slice (some ⟨b, o, none⟩) n c]).run P w = .ok (.tuple #[]) (w.setCells b o (Builtin.zeroCells z.cells n).toList) := by
  have hst := run_storeCells_cells (P := P) b o (Builtin.zeroCells z.cells n).toList 0 w (by simpa using hc) (by simpa using hf) h1
  simp only [Nat.add_zero] at hst
  obtain ⟨m, rfl⟩ : ∃ m, n = m + 1 := ⟨n - 1, by omega⟩
  simp [Builtin.clear_, run_underlying ht, hv, hst]

theorem zeroCells_len (z : Array Value) (n : Nat) : (Builtin.zeroCells z n).toList.length = n * z.size := by
  rw [Array.length_toList, size_zeroCells]

theorem zeroCells_one {z : Array Value} (n : Nat) (hz : ∀ u ∈ z, u.oneCell' = true) : ∀ u ∈ (Builtin.zeroCells z n).toList, u.oneCell' = true := by
  intro u hu
  unfold Builtin.zeroCells at hu
  rw [Array.toList_map, Array.toList_range, List.mem_map] at hu
  obtain ⟨i, hi, rfl⟩ := hu
  rw [List.mem_range] at hi
  have h0 : 0 < z.size := Nat.pos_of_ne_zero fun h => by rw [h] at hi; simp at hi
  have hlt : i % z.size < z.size := Nat.mod_lt _ h0
  rw [getElem!_pos z _ hlt]
  exact hz _ (Array.getElem_mem hlt)

section
variable {α : Type} {P : Program} {w : World} {v : Value}

/-- 'v[p:]'. -/
theorem RowG.slice_l {f : α → List Value} {k : Nat} (hk : ∀ a, (f a).length = k) {l : List α} (h : RowG f w v l) {t : TypeId} (ht : P.underlying t = some (.slice (P.elem t))) (hs : ∀ wx, (sizeOf (P.elem t)).run P wx = .ok k wx) (p : Nat) (hp : p ≤ l.length) :
    ∃ vs, (∀ wx, (Instr.slice t v (some (.int .i64 p)) none none).run P wx = .ok vs wx) ∧ RowG f w vs (l.drop p) := by
  have hlen : (l.drop p).length = l.length - p := by rw [List.length_drop]
  rcases h with ⟨hv, hz⟩ | ⟨ad, cap, hv, h1, h2, hc⟩
  · subst hz hv
    obtain rfl : p = 0 := by simpa using hp
    refine ⟨.slice none 0 0, fun wx => ?_, RowG.nil _ _⟩
    rw [run_slice_l wx t none 0 0 ht .i64 _ (by omega) (by omega)]
    simp [Result.andThen, sliced, hs]
  · subst hv
    by_cases hcl : cap = p
    · refine ⟨.slice (some ad) (l.length - p) (cap - p), fun wx => ?_, .inr ⟨ad, cap - p, by rw [hlen], by rw [hlen]; omega, by omega, fun j u hj => ?_⟩⟩
      · rw [run_slice_l wx t (some ad) l.length cap ht .i64 _ (by omega) (by omega), hs]
        simp [Result.andThen, sliced, hcl]
      · rw [List.drop_eq_nil_of_le (by omega)] at hj
        simp [gcells] at hj
    · refine ⟨.slice (some (ad.add (p * k))) (l.length - p) (cap - p), fun wx => ?_, .inr ⟨ad.add (p * k), cap - p, by rw [hlen], by rw [hlen]; omega, by omega, fun j u hj => ?_⟩⟩
      · rw [run_slice_l wx t (some ad) l.length cap ht .i64 _ (by omega) (by omega), hs]
        simp [Result.andThen, sliced, hcl]
      · have e : (ad.add (p * k)).add j = ad.add (p * k + j) := by
          unfold Addr.add
          by_cases h0 : p * k = 0 <;> by_cases h3 : j = 0 <;> simp [h0, h3, Nat.add_assoc]
        rw [gcells_drop hk, List.getElem?_drop] at hj
        rw [e]
        exact hc _ u hj

end

end Go.Proofs.YtkpnkknolobioaaGreat

/- The program's disk: slices.Delete of raw steps; what a disk holds behind a change of a file, of its row. -/
namespace Go.Proofs.YtkpnkknolobioaaGreat
open Go.RowKit
set_option linter.unusedVariables false

theorem stepc_one (rs : List Rv) (h : ∀ r ∈ rs, ∃ a n c, r.v = .slice a n c) : ∀ u ∈ gcells stepc rs, u.oneCell' = true := by
  induction rs with
  | nil => simp [gcells]
  | cons r l ih =>
    intro u hu
    rw [gcells, List.mem_append] at hu
    rcases hu with hu | hu
    · obtain ⟨a, n, c, hv⟩ := h r (by simp)
      simp only [stepc, List.mem_cons, List.not_mem_nil, or_false] at hu
      rcases hu with rfl | rfl | rfl | rfl
      · rfl
      · rfl
      · rw [hv]; rfl
      · rfl
    · exact ih (fun r hr => h r (by simp [hr])) u hu

theorem Tryz.info70 : (Tryz.prog.info? 70).map (fun i => (i.zero, i.size, i.bytes)) = some (some (.agg #[.int .i64 0, .int .i64 0, .slice none 0 0, .int .i64 0]), 4, 48) := by kernel_rfl

theorem Tryz.elemD : Tryz.prog.underlying 45 = some (.slice (Tryz.prog.elem 45)) := by kernel_rfl

theorem Tryz.sizeD (wx : World) : (sizeOf (Tryz.prog.elem 45)).run Tryz.prog wx = .ok 4 wx := by kernel_rfl

theorem Tryz.zeroS (wx : World) : (zeroValue 70).run Tryz.prog wx = .ok (.agg #[.int .i64 0, .int .i64 0, .slice none 0 0, .int .i64 0]) wx := by kernel_rfl

set_option maxHeartbeats 4000000 in
theorem del_any (w : World) (wv : Value) (rs : List Rv) (n : Nat) (hrow : OwnG stepc 4 70 0 w wv rs) (hsl : ∀ r ∈ rs, ∃ a n c, r.v = .slice a n c) (hn : n ≤ rs.length) (hlen : rs.length ≤ 1000000) :
    Calls Tryz.prog 72 #[wv, .int .i64 0, .int .i64 n] w fun E w' => ∃ v', E = .returned v' ∧ OwnG stepc 4 70 0 w' v' (rs.drop n) ∧ Out (fun g => wv.ownBlock = some g) w w' ∧ v'.ownBlock = wv.ownBlock := by
  by_cases h0 : n = 0
  · subst h0
    obtain ⟨ao, cap, hv, hcap, hcm⟩ := hrow.row.shape
    subst hv
    have R := hide (show OwnG stepc 4 70 0 w (.slice ao rs.length cap) (rs.drop 0) from hrow)
    clear hrow hsl
    go_enter Tryz.func72, Tryz.ntmps72
    go_wp2
    all_goals (go_ret; exact ⟨_, rfl, R.out, Out.refl _ _, rfl⟩)
  · obtain ⟨L, hL⟩ : ∃ L, L = rs.length := ⟨_, rfl⟩
    obtain ⟨m, hm⟩ : ∃ m, L = n + m := ⟨L - n, by omega⟩
    obtain ⟨g, cap, hv, hcap, hcm, hcell, hfroz⟩ : ∃ g cap, wv = .slice (some ⟨g, 0, none⟩) L cap ∧ L ≤ cap ∧ cap ≤ maxLen ∧ (∀ j, j < cap * 4 → (w.cell? ⟨g, j, none⟩).isSome = true) ∧ ∀ j, w.frozen? ⟨g, j, none⟩ = false := by
      rcases hrow.2 with ⟨_, h⟩ | ⟨g, cap, cur, hv, _, hg, hc, hm', hs, _⟩
      · omega
      · refine ⟨g, cap, by rw [hL]; exact hv, by rw [hL]; exact hc, hm', fun j hj => ?_, fun j => blk_froz hg j⟩
        rw [blk_cell hg j (Array.getElem?_eq_getElem (by omega : j < cur.size))]
        rfl
    have hdl : (rs.drop n).length = m := by rw [List.length_drop]; omega
    obtain ⟨i, hi, hz, hsize, hby⟩ := info_parts Tryz.info70
    obtain ⟨vs, hs3, hrw⟩ := hrow.row.slice_l stepc_len Tryz.elemD Tryz.sizeD n (by omega)
    obtain ⟨avs, cvs, hvs, hcv, hcells⟩ : ∃ ad c, vs = .slice (some ad) m c ∧ m ≤ c ∧ ∀ j u, (gcells stepc (rs.drop n))[j]? = some u → w.cell? (ad.add j) = some u := by
      rcases hrw with ⟨h, h'⟩ | ⟨ad, c, h1, h2, _, h4⟩
      · exfalso
        have := hs3 w
        rw [hv, run_slice_l w 45 (some ⟨g, 0, none⟩) L cap Tryz.elemD .i64 _ (by omega) (by omega), Tryz.sizeD, h] at this
        simp [Result.andThen, sliced] at this
        split at this <;> simp at this
      · exact ⟨ad, c, by rw [h1, hdl], by omega, h4⟩
    have own0 : w.ownsRow 0 70 4 (.slice (some ⟨g, 0, none⟩) 0 cap) 0 [] := by
      have h1 : w.ownsRow 0 70 4 wv L (gcells stepc rs) := by rw [hL]; exact hrow
      rw [hv] at h1
      simpa using own_cut h1 0 (by omega)
    have hrun : ∃ w1, (∀ ty, (Builtin.append_ #[45, 45] ty #[.slice (some ⟨g, 0, none⟩) 0 cap, .slice (some avs) m cvs]).run Tryz.prog w.drew = .ok (.slice (some ⟨g, 0, none⟩) m cap) w1) ∧ w1.ownsRow 0 70 4 (.slice (some ⟨g, 0, none⟩) m cap) m (gcells stepc (rs.drop n)) ∧ w.drew.grownBy w1 (some g) := by
      have key := fun ty => run_append_fits (P := Tryz.prog) w.drew 0 45 ty 70 i 4 Tryz.underlying45 hi hsize g 0 cap [] own0 avs m cvs (gcells stepc (rs.drop n)) (by rw [gcells_len stepc_len, hdl]) hcells (stepc_one _ fun r hr => hsl r (List.mem_of_mem_drop hr)) (by omega)
      obtain ⟨w1, h1, h2, h3⟩ := key 0
      rw [Nat.zero_add] at h1 h2
      exact ⟨w1, fun ty => h1, h2, h3⟩
    obtain ⟨w1, hrun, own1, gr1⟩ := hrun
    obtain ⟨cur1, hg1, hs1⟩ : ∃ cur, w1.heap[g]? = some (.cells cur 70 (0, 0)) ∧ cur.size = cap * 4 := by
      rcases own1.2 with ⟨h, _⟩ | ⟨g', cap', cur, h, _, hg, _, _, hs, _⟩
      · simp at h
      · simp only [Value.slice.injEq, Option.some.injEq, Addr.mk.injEq, and_true, true_and] at h
        obtain ⟨rfl, rfl⟩ := h
        exact ⟨cur, hg, hs⟩
    have hzl : (Builtin.zeroCells (Value.agg #[.int .i64 0, .int .i64 0, .slice none 0 0, .int .i64 0]).cells n).toList.length = n * 4 := by rw [zeroCells_len]; rfl
    obtain ⟨w2, hw2⟩ : ∃ w2, w2 = w1.setCells g (m * 4) (Builtin.zeroCells (Value.agg #[.int .i64 0, .int .i64 0, .slice none 0 0, .int .i64 0]).cells n).toList := ⟨_, rfl⟩
    have hcl : ∀ ty, (Builtin.clear_ #[45] ty #[.slice (some ⟨g, m * 4, none⟩) n (cap - m)]).run Tryz.prog w1 = .ok (.tuple #[]) w2 := fun ty => by
      rw [hw2]
      exact run_clear_rows w1 _ _ ty _ Tryz.underlying45 Tryz.zeroS (zeroCells_one n (by decide)) g (m * 4) (cap - m) (by omega) (fun j hj => by rw [hzl] at hj; rw [blk_cell hg1 _ (Array.getElem?_eq_getElem (by omega : m * 4 + j < cur1.size))]; rfl) (fun j _ => blk_froz hg1 _)
    have R : Hid (OwnG stepc 4 70 0 w2 (.slice (some ⟨g, 0, none⟩) m cap) (rs.drop n)) := hide (by
      unfold OwnG
      rw [hdl, hw2]
      exact own_setCells own1 _ (Nat.le_refl _) _)
    have O : Hid (Out (fun b => (Value.slice (some ⟨g, 0, none⟩) L cap).ownBlock = some b) w w2) := hide (by
      rw [hw2]
      exact Out.of_grown (grown_trans (grown_trans (grown_drewN w 1 _) gr1) (setCells_grown g _ (m * 4) w1)) fun b hb => hb)
    obtain ⟨x1, hsA⟩ : ∃ x, ∀ wx, (Instr.slice 45 wv (some (.int .i64 0)) (some (.int .i64 n)) (some (.int .i64 L))).run Tryz.prog wx = .ok x wx := by
      refine ⟨sliced (some ⟨g, 0, none⟩) 0 n L 4, fun wx => ?_⟩
      rw [hv, run_slice_lhm wx 45 (some ⟨g, 0, none⟩) L cap Tryz.elemD .i64 .i64 .i64 _ _ _ (by omega) (by omega) (by omega) (by omega), Tryz.sizeD]
      simp [Result.andThen]
    have hs2 : ∀ wx, (Instr.slice 45 wv none (some (.int .i64 0)) none).run Tryz.prog wx = .ok (.slice (some ⟨g, 0, none⟩) 0 cap) wx := fun wx => by
      rw [hv, run_slice_h wx 45 (some ⟨g, 0, none⟩) L cap Tryz.elemD .i64 _ (by omega) (by omega), Tryz.sizeD]
      simp [Result.andThen, sliced, Addr.add]
    have hlr : ∀ ty wx, (Builtin.len_ #[45] ty #[wv]).run Tryz.prog wx = .ok (.int .i64 L) wx := fun ty wx => by
      rw [hv]
      simp [Builtin.len_, run_underlying Tryz.underlying45, goInt]
    have hob : wv.ownBlock = some g := by rw [hv]; rfl
    rw [← hv] at O
    rw [hvs] at hs3
    have hmc : ¬ cap = m := by omega
    have hmL : (m : Int) ≤ L := by omega
    have hLc : (L : Int) ≤ cap := by omega
    have hLm : L - m = n := by omega
    rw [← hLm] at hcl
    have hne : ((0 : Int) == (n : Int)) = false := by simp; omega
    have HB := hide hob
    have HR := hide hrun
    clear hrun hw2 hzl hg1 hs1 own1 gr1 own0 hrw hcells hcell hfroz hrow hsl hi hz hsize hby hvs hdl hL hm hv hLm h0 hn hlen hcap hcm hob hcv
    go_enter Tryz.func72, Tryz.ntmps72
    go_wp2
    go_region_law (refine step_append_at rfl (.tmp 22) (.tmp 25) 45 rfl (.slice (some ⟨g, 0, none⟩) 0 cap) (.slice (some avs) m cvs) (by first | rfl | (simp [Act.eval]; done)) (by first | rfl | (simp [Act.eval]; done)) (R := fun v' w' => v' = .slice (some ⟨g, 0, none⟩) m cap ∧ w' = w1) (fun ty => ⟨_, _, HR.out ty, rfl, rfl⟩) ?_; rintro _ _ ⟨rfl, rfl⟩)
    all_goals (go_wp2; go_ret; exact ⟨_, rfl, R.out, O.out, HB.out.symm⟩)

section
variable {p : Nat} {F G : Nat → Prop} {w w' w1 w2 : World} {st st' : Dm.Ds} {sure sure' : Nat → List Int} {wait wait' : List Dm.Rw} {s s' : Nat → Value} {wv wv' : Value} {rs rs' : List Rv}

def sup (s : Nat → Value) (f : Nat) (v : Value) : Nat → Value := fun j => if j = f then v else s j

/-- One file's slice is another one now. -/
theorem Con.files (h : Con w sure wait s wv rs) {f : Nat} (hf : f < 4) {v : Value} {bs' : List Int} (hown : Own .u8 5 0 w' v bs') (ho : Out (fun g => (s f).ownBlock = some g) w w') (hat : ∀ b, v.ownBlock = some b → (s f).ownBlock = some b ∨ w.heap.size ≤ b) :
    Con w' (Dm.upd sure f bs') wait (sup s f v) wv rs := by
  have hlt : ∀ j, j < 4 → ∀ b, (s j).ownBlock = some b → b < w.heap.size := fun j hj b hb => ((h.file j hj).block b hb).2
  have hrl : ∀ r ∈ rs, ∀ b, r.v.ownBlock = some b → b < w.heap.size := fun r hr b hb => by
    obtain ⟨_, cs, fr, hc⟩ := (h.raw r hr).2 b hb
    exact blk_lt hc
  have nv : ∀ j, j < 4 → j ≠ f → ∀ b, v.ownBlock = some b → (s j).ownBlock ≠ some b := fun j hj hjf b hb e => by
    rcases hat b hb with h1 | h1
    · exact h.apart f j hf hj (Ne.symm hjf) b h1 e
    · have := hlt j hj b e; omega
  refine ⟨fun j hj => ?_, fun j k hj hk hjk b hb => ?_, ?_, fun r hr => ?_, fun r hr j hj b hb => ?_, h.wait⟩
  · by_cases e : j = f
    · subst e; simp only [sup, Dm.upd, if_true]; exact hown
    · simp only [sup, Dm.upd, if_neg e]
      exact (h.file j hj).agree fun b hb => ho.block b (hlt j hj b hb) fun h1 => h.apart j f hj hf e b hb h1
  · unfold sup at hb ⊢
    by_cases e : j = f
    · rw [if_pos e] at hb
      rw [if_neg (fun h1 => hjk (e.trans h1.symm))]
      exact nv k hk (fun h1 => hjk (e.trans h1.symm)) b hb
    · rw [if_neg e] at hb
      by_cases e2 : k = f
      · rw [if_pos e2]
        exact fun h1 => nv j hj e b h1 hb
      · rw [if_neg e2]
        exact h.apart j k hj hk hjk b hb
  · refine h.row.agree fun b hb => ho.block b (h.row.lt b hb).2 fun h1 => ?_
    obtain ⟨cs, hc⟩ := h.row.type hb
    obtain ⟨cs', hc'⟩ := (h.file f hf).type h1
    rw [hc] at hc'
    simp at hc'
  · exact (h.raw r hr).agree fun b hb => ho.block b (hrl r hr b hb) fun h1 => h.rawa r hr f hf b hb h1
  · unfold sup
    by_cases e : j = f
    · rw [if_pos e]
      intro h1
      rcases hat b h1 with h2 | h2
      · exact h.rawa r hr f hf b hb h2
      · have := hrl r hr b hb; omega
    · rw [if_neg e]
      exact h.rawa r hr j hj b hb

theorem FB.files {f : Nat} (hf : f < 4) {v : Value} (hat : ∀ b, v.ownBlock = some b → (s f).ownBlock = some b ∨ w.heap.size ≤ b) : ∀ g, FB p (sup s f v) wv rs g → FB p s wv rs g ∨ w.heap.size ≤ g := by
  rintro g (h | ⟨j, hj, h⟩ | h | h)
  · exact .inl (.inl h)
  · unfold sup at h
    by_cases e : j = f
    · rw [if_pos e] at h
      rcases hat g h with h1 | h1
      · exact .inl (.inr (.inl ⟨f, hf, h1⟩))
      · exact .inr h1
    · rw [if_neg e] at h
      exact .inl (.inr (.inl ⟨j, hj, h⟩))
  · exact .inl (.inr (.inr (.inl h)))
  · exact .inl (.inr (.inr (.inr h)))

/-- The row of raw steps is another one now. -/
theorem Con.rows (h : Con w sure wait s wv rs) (hrow : OwnG stepc 4 70 0 w' wv' rs') (ho : Out (fun g => wv.ownBlock = some g) w w')
    (hraw : ∀ r ∈ rs', Byt (fun _ => True) w r.v r.bytes ∧ ∀ f, f < 4 → ∀ b, r.v.ownBlock = some b → (s f).ownBlock ≠ some b) (hw : rs'.map Rv.r = wait') : Con w' sure wait' s wv' rs' := by
  refine ⟨fun j hj => ?_, h.apart, hrow, fun r hr => ?_, fun r hr => (hraw r hr).2, hw⟩
  · refine (h.file j hj).agree fun b hb => ho.block b ((h.file j hj).block b hb).2 fun h1 => ?_
    obtain ⟨cs, hc⟩ := h.row.type h1
    obtain ⟨cs', hc'⟩ := (h.file j hj).type hb
    rw [hc] at hc'
    simp at hc'
  · refine (hraw r hr).1.agree fun b hb => ?_
    obtain ⟨_, cs, fr, hc⟩ := (hraw r hr).1.2 b hb
    refine ho.block b (blk_lt hc) fun h1 => ?_
    obtain ⟨cs', hc'⟩ := h.row.type h1
    rw [hc] at hc'
    simp at hc'

end

end Go.Proofs.YtkpnkknolobioaaGreat
