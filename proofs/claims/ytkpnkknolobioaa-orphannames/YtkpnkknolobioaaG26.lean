/- Texts of one layer, one behind the other. -/
import Derived.Test.YtkpnkknolobioaaG25
import Derived.Test.YtkpnkknolobioaaG17
import Derived.Deep.RegionHeld3
/- The statement's lives (layer 19). -/
namespace Go.Proofs.Ytkpnkknolobioaa
open Go.RowKit
set_option linter.unusedVariables false

theorem exm_cvs (vo : Value) : (⟨2, 1, cvs [⟨1, 2, vo, [exO]⟩]⟩ : Orp.Se) = exSe := rfl

/-- The chapter's section in a list of one. -/
theorem exm_list {b : Nat} {w : World} {v vo vb : Value} (h : Exm b w v vo vb) (hb : b ≤ w.heap.size) : ∃ V, w.alloc (.cells #[.int .i64 2, .int .i64 1, v] 24) = V ∧ Below w.heap.size w V ∧ IsSe V (.slice (some ⟨w.heap.size, 0, none⟩) 1 1) [⟨2, 1, v, [⟨1, 2, vo, [exO]⟩]⟩] ∧ FitSe [⟨2, 1, v, [⟨1, 2, vo, [exO]⟩]⟩] := by
  obtain ⟨V, hV, szV, belV, ownV⟩ := coms_step 24 w #[.int .i64 2, .int .i64 1, v] 1 [⟨2, 1, v, []⟩] rfl rfl (by simp [maxLen])
  refine ⟨V, hV, belV, ⟨ownV.row, fun x hx => ?_⟩, fun x hx => ?_⟩
  · rw [List.mem_singleton.1 hx]
    exact ⟨(h.sh.below belV).isC, by simp [In64], by simp [In64]⟩
  · rw [List.mem_singleton.1 hx]
    exact ⟨h.sh.f, by simp⟩

set_option maxRecDepth 20000 in
set_option maxHeartbeats 4000000 in
theorem lives19_any (w : World) : Calls Try.prog 10 #[] w fun E w' => E = .returned (.bool true) ∧ Below w.heap.size w w' := by
  go_enter Try.func10, Try.ntmps10
  go_wp2_with fail
  refine (example19_any w).mono ?_
  rintro E w1 ⟨g, q, vo, rfl, X1, bel1⟩
  obtain ⟨w2, hw2, hw2', sz2, bel2, bb, c0, c1, c2⟩ := new_step w1 24 (.int .i64 0) (.int .i64 0) (.slice none 0 0) (.int .i64 2) (.int .i64 1) (.slice (some ⟨g, 0, none⟩) 1 1)
  have X2 := hide (X1.out.below bel2)
  have B2 := hide (bel1.trans (bel2.mono bel1.size))
  have HBB := hide bb
  have EN := hide (poenc_any 2 1 _ _ w2 X2.out.sh.isC X2.out.sh.f (by simp))
  rw [exm_cvs, exSe_ok, exSe_out] at EN
  unfold cmv at EN
  clear X1 bel1 bel2 bb
  go_wp2_with fail
  refine EN.out.mono ?_
  rintro E w3 ⟨vx, rfl, ownx, bel3⟩
  have X3 := hide (X2.out.below bel3)
  have B3 := hide (B2.out.trans (bel3.mono B2.out.size))
  have HB3 := hide ((bel3.block _ (blk_lt HBB.out)).trans HBB.out)
  have s3 := bel3.size
  obtain ⟨w4, hw4, sz4, bel4, own4⟩ := own_step .u8 5 w3 #[.int .u8 3, .int .u8 3, .int .u8 1, .int .u8 1] 4 [3, 3, 1, 1] rfl rfl (by simp [maxLen]) (by decide)
  have X4 := hide (X3.out.below bel4)
  have OX4 := hide (ownx.below bel4)
  have B4 := hide (B3.out.trans (bel4.mono B3.out.size))
  have HB4 := hide ((bel4.block _ (blk_lt HB3.out)).trans HB3.out)
  have APP := hide (fun ty => append_full (ty := ty) X4.out.by'.is own4.is (by decide) (by decide) (by decide))
  clear EN X2 X3 B2 B3 HBB HB3 ownx bel3 bel4 own4 c0 c1 c2 sz4
  go_wp2_with (at_builtin; refine wpList_append_at rfl (.tmp 17) (.tmp 18) 25 rfl (.slice (some ⟨q, 0, none⟩) 14 14) (.slice (some ⟨w3.heap.size, 0, none⟩) 4 4) rfl rfl APP.out ?_)
  rintro v5 w5 own5 bel5
  have X5 := hide (X4.out.below bel5)
  have OX5 := hide (OX4.out.below bel5)
  have B5 := hide (B4.out.trans (bel5.mono B4.out.size))
  have HB5 := hide ((bel5.block _ (blk_lt HB4.out)).trans HB4.out)
  have SC := hide (poscan_any v5 _ w5 own5.is (by decide))
  clear APP X4 OX4 B4 HB4 own5 bel5
  go_wp2_with fail
  refine SC.out.mono ?_
  rintro E w6 ⟨v6, l, n6, rfl, H6⟩
  have hl : sws l = [exSe] := Orp.sn_one H6.out.2.2.2.1 ex_scan
  have hn6 : n6 = 14 := by
    rw [H6.out.2.2.1, hl, Orp.secs_one, exSe_by]
    rfl
  have bel6 := H6.out.2.2.2.2
  have X6 := hide (X5.out.below bel6)
  have OX6 := hide (OX5.out.below bel6)
  have B6 := hide (B5.out.trans (bel6.mono B5.out.size))
  have hB6 := (bel6.block _ (blk_lt HB5.out)).trans HB5.out
  have HB6 := hide hB6
  obtain ⟨oa, ok, hv6, _, _⟩ := H6.out.1.is.shape
  have OW6 := hide H6.out.1
  have FT6 := hide H6.out.2.1
  have hll : l.length = 1 := by rw [← sws_len l, hl]; rfl
  rw [hll] at hv6
  obtain ⟨vs, hsl, isl⟩ := X6.out.by'.is.slice_h Try.elemB Try.sizeE 14 (by decide)
  have SB := hide (same_yes vx vs exBy (exBy.take 14) w6 OX6.out.is isl (by decide) (by decide))
  have HL := hide hl
  have hsl' : ∀ wx, (Instr.slice 25 (.slice (some ⟨q, 0, none⟩) 14 14) none (some (.int .i64 14)) none).run Try.prog wx = .ok vs wx := hsl
  rw [hv6] at OW6
  subst hv6 hn6
  clear SC H6 X5 OX5 B5 HB5 isl hl bel6 hsl
  have c0 := blk_cell hB6 0 rfl
  have c1 := blk_cell hB6 1 rfl
  have c2 := blk_cell hB6 2 rfl
  go_wp2_with fail
  refine SB.out.mono ?_
  rintro E w7 ⟨rfl, bel7⟩
  have X7 := hide (X6.out.below bel7)
  have B7 := hide (B6.out.trans (bel7.mono B6.out.size))
  have hB7 := (bel7.block _ (blk_lt HB6.out)).trans HB6.out
  have d0 : w7.cell? ⟨w1.heap.size, 0, none⟩ = some (.int .i64 2) := blk_cell hB7 0 rfl
  have d1 : w7.cell? ⟨w1.heap.size, 1, none⟩ = some (.int .i64 1) := blk_cell hB7 1 rfl
  have d2 : w7.cell? ⟨w1.heap.size, 2, none⟩ = some (.slice (some ⟨g, 0, none⟩) 1 1) := blk_cell hB7 2 rfl
  obtain ⟨V, hV, belV, isV, fitV⟩ := exm_list X7.out B7.out.size
  have SS := hide (sameSe_yes (.slice oa 1 ok) _ l _ V ((OW6.out.is.below bel7).below belV) isV FT6.out fitV (by omega) (by rw [HL.out]; rfl))
  have BV := hide (B7.out.trans (belV.mono B7.out.size))
  clear SB X6 OX6 B6 HB6 hB6 hB7 X7 isV fitV OW6 FT6 bel7 belV c0 c1 c2 HL B7
  go_wp2_with fail
  refine SS.out.mono ?_
  rintro E w8 ⟨rfl, bel8⟩
  have B8 := hide (BV.out.trans (bel8.mono BV.out.size))
  clear SS BV bel8
  go_wp2
  go_ret
  exact ⟨rfl, B8.out⟩

end Go.Proofs.Ytkpnkknolobioaa

/- The contract of ApartCommits. -/
namespace Go.Proofs.Ytkpnkknolobioaa
open Go.RowKit
set_option linter.unusedVariables false

/-- What the lists are, ahead of ApartCommits. -/
structure ListsC (m bl base : Nat) (w : World) (vs : Nat → Value) (zs : Nat → List Cw) : Prop where
  cell : ∀ i, i < m → w.cell? ⟨bl, i, none⟩ = some (vs i)
  own : ∀ i, i < m → OwnR 32 base w (vs i) (zs i)
  ops : ∀ i, i < m → CopyR base w (zs i)
  i64 : ∀ i, i < m → ∀ c ∈ zs i, In64 c.e ∧ In64 c.n
  apart : ∀ i j, i < m → j < m → i ≠ j → (vs i).ownBlock = none ∨ (vs i).ownBlock ≠ (vs j).ownBlock
  table : ∀ i, i < m → (vs i).ownBlock ≠ some bl
  lens : ∀ i, i < m → (zs i).length ≤ 1000
  lops : ∀ i, i < m → ∀ c ∈ zs i, c.l.length ≤ 1000
  fit : ∀ i, i < m → FitC (zs i)
  ap : ApC ((List.range m).flatMap zs)

theorem ListsC.is {m bl base : Nat} {w : World} {vs : Nat → Value} {zs : Nat → List Cw} (H : ListsC m bl base w vs zs) {i : Nat} (hi : i < m) : IsC w (vs i) (zs i) := ⟨(H.own i hi).row, fun c hc => ⟨(H.ops i hi c hc).is, H.i64 i hi c hc⟩⟩

/-- The ops of the first lists. -/
def opsK (zs : Nat → List Cw) (k : Nat) : List Value := ((List.range k).flatMap zs).map Cw.v

theorem opsK_succ (zs : Nat → List Cw) (k : Nat) : opsK zs (k + 1) = opsK zs k ++ (zs k).map Cw.v := by
  simp [opsK, List.range_succ, List.flatMap_append]

theorem opsK_len (zs : Nat → List Cw) (m : Nat) (h : ∀ i, i < m → (zs i).length ≤ 1000) : ∀ k, k ≤ m → (opsK zs k).length ≤ 1000 * k
  | 0, _ => by simp [opsK]
  | k + 1, hk => by
    have := opsK_len zs m h k (by omega)
    have := h k (by omega)
    rw [opsK_succ, List.length_append, List.length_map]
    omega

/-- A copy of the commits z. -/
def Cop (b : Nat) (w : World) (v : Value) (z : List Cw) : Prop := ∃ rs, OwnR 32 b w v rs ∧ cvs rs = cvs z ∧ CopyR b w rs

theorem Cop.below {b : Nat} {w w' : World} {v : Value} {z : List Cw} (h : Cop b w v z) (hb : Below w.heap.size w w') : Cop b w' v z := by
  obtain ⟨rs, h1, h2, h3⟩ := h
  exact ⟨rs, h1.below hb, h2, h3.below hb⟩

theorem Cop.out {b : Nat} {w w' : World} {v : Value} {z : List Cw} {F : Nat → Prop} (h : Cop b w v z) (ho : Out F w w') (hF : ∀ i, F i → i < b) : Cop b w' v z := by
  obtain ⟨rs, h1, h2, h3⟩ := h
  exact ⟨rs, row_out h1 ho hF, h2, fun c hc => row_out (h3 c hc) ho hF⟩

theorem Cop.keepT {b e' : Nat} {w w' : World} {v : Value} {z : List Cw} (h : Cop b w v z) (k : KeepT e' w w') (n1 : 32 ≠ e') (n2 : 66 ≠ e') : Cop b w' v z := by
  obtain ⟨rs, h1, h2, h3⟩ := h
  exact ⟨rs, row_keepT h1 k n1, h2, fun c hc => row_keepT (h3 c hc) k n2⟩

theorem Cop.rebase {b b' : Nat} {w : World} {v : Value} {z : List Cw} (h : Cop b w v z) (hb : b' ≤ b) : Cop b' w v z := by
  obtain ⟨rs, h1, h2, h3⟩ := h
  exact ⟨rs, row_rebase h1 hb, h2, fun c hc => row_rebase (h3 c hc) hb⟩

/-- In the first loop: kc copies, the ops of ko lists. -/
structure L1 (m B : Nat) (w wr : World) (zs : Nat → List Cw) (kc ko : Nat) (xs : List Value) (ov : Value) : Prop where
  row : wr.ownsRow B 22 1 (.slice (some ⟨B, 0, none⟩) m m) m xs
  cop : ∀ j, j < kc → Cop (B + 1) wr (xs.getD j (.slice none 0 0)) (zs j)
  ops : OwnG one 1 30 (B + 1) wr ov (opsK zs ko)
  bel : Below B w wr
  lt : B < wr.heap.size

theorem L1.below {m B : Nat} {w wr w2 : World} {zs : Nat → List Cw} {kc ko : Nat} {xs : List Value} {ov : Value} (h : L1 m B w wr zs kc ko xs ov) (hb : Below wr.heap.size wr w2) : L1 m B w w2 zs kc ko xs ov :=
  ⟨ownrow_below h.row hb, fun j hj => (h.cop j hj).below hb, row_below h.ops hb, h.bel.trans (hb.mono (by have := h.lt; omega)), by have := h.lt; have := hb.size; omega⟩

theorem L1.put {m B : Nat} {w wr w1 w2 : World} {zs : Nat → List Cw} {k : Nat} {xs : List Value} {ov u : Value} (h : L1 m B w wr zs k k xs ov) (hk : k < m) (hu : Cop wr.heap.size w1 u (zs k)) (belu : Below wr.heap.size wr w1) (e : w1.setCell ⟨B, k, none⟩ u = w2) : L1 m B w w2 zs (k + 1) k (xs.set k u) ov := by
  have h1 := h.below belu
  have hst := h1.row.stored k u
  rw [e] at hst
  have hl : xs.length = m := by have := h.row.1; omega
  have ho : Out (fun g => g = B) w1 w2 := Out.of_grown hst.2 (fun g hg => by simpa using hg.symm)
  have hlt := h.lt
  refine ⟨hst.1, fun j hj => ?_, row_out h1.ops ho (fun i hi => by omega), ?_, ?_⟩
  · by_cases hjk : j = k
    · subst hjk
      have e : (xs.set j u).getD j (.slice none 0 0) = u := by simp [hl, hk]
      rw [e]
      exact (hu.out ho (fun i hi => by omega)).rebase (by omega)
    · have e : (xs.set k u).getD j (.slice none 0 0) = xs.getD j (.slice none 0 0) := by
        simp [List.getD, List.getElem?_set_ne (Ne.symm hjk)]
      rw [e]
      exact (h1.cop j (by omega)).out ho (fun i hi => by omega)
  · rw [← e]
    exact h1.bel.setCell (Nat.le_refl _) _
  · have := hst.2.size
    have := h1.lt
    omega

theorem L1.app {m B : Nat} {w w3 w4 : World} {zs : Nat → List Cw} {k : Nat} {xs : List Value} {ov v4 : Value} (h : L1 m B w w3 zs (k + 1) k xs ov) (ho : OwnG one 1 30 (B + 1) w4 v4 (opsK zs k ++ (zs k).map Cw.v)) (hb : Below (B + 1) w3 w4) (hg : w3.grownBy w4 ov.ownBlock) : L1 m B w w4 zs (k + 1) (k + 1) xs v4 := by
  have kt : KeepT 30 w3 w4 := KeepT.of_row h.ops hg
  have hs := hg.size
  have hlt := h.lt
  exact ⟨row_keepT h.row kt (by decide), fun j hj => (h.cop j hj).keepT kt (by decide) (by decide), by rw [opsK_succ]; exact ho, h.bel.trans (hb.mono (by omega)), by omega⟩

/-- In the second loop. -/
structure L2 (m bl base : Nat) (w wr : World) (vs us : Nat → Value) (zs : Nat → List Cw) (ov : Value) (k : Nat) : Prop where
  cell : ∀ i, i < m → wr.cell? ⟨bl, i, none⟩ = some (vs i)
  was : ∀ i, i < m → wr.cell? ⟨w.heap.size, i, none⟩ = some (us i)
  new : ∀ i, i < m → Cop (w.heap.size + 1) wr (us i) (zs i)
  done : ∀ i, i < k → i < m → OwnR 32 base wr (vs i) ((zs i).map ntC)
  left : ∀ i, k ≤ i → i < m → OwnR 32 base wr (vs i) (zs i)
  opl : ∀ i, i < m → CopyR base wr (zs i)
  ops : OwnG one 1 30 (w.heap.size + 1) wr ov (opsK zs m)
  out : Out (OwnsB m vs) w wr
  lt : w.heap.size < wr.heap.size

theorem l2_start {m bl base : Nat} {w wr : World} {vs : Nat → Value} {zs : Nat → List Cw} {xs : List Value} {ov : Value} (H : ListsC m bl base w vs zs) (h : L1 m w.heap.size w wr zs m m xs ov) : L2 m bl base w wr vs (fun j => xs.getD j (.slice none 0 0)) zs ov 0 := by
  have hl : xs.length = m := by have := h.row.1; omega
  exact ⟨fun i hi => (h.bel.cell (p := ⟨bl, i, none⟩) (World.block_lt_of_cell? _ _ (H.cell i hi))).trans (H.cell i hi),
    fun i hi => by rw [h.row.cellAt i (by omega)]; simp [List.getD, List.getElem?_eq_getElem (show i < xs.length by omega)],
    h.cop, fun i h0 => absurd h0 (by omega), fun i _ hi => (H.own i hi).below h.bel, fun i hi => (H.ops i hi).below h.bel, h.ops, Out.of_below h.bel, h.lt⟩

theorem L2.below {m bl base : Nat} {w wr w2 : World} {vs us : Nat → Value} {zs : Nat → List Cw} {ov : Value} {k : Nat} (h : L2 m bl base w wr vs us zs ov k) (hb : Below wr.heap.size wr w2) : L2 m bl base w w2 vs us zs ov k :=
  ⟨fun i hi => (hb.cell (p := ⟨bl, i, none⟩) (World.block_lt_of_cell? _ _ (h.cell i hi))).trans (h.cell i hi), fun i hi => (hb.cell (p := ⟨w.heap.size, i, none⟩) h.lt).trans (h.was i hi), fun i hi => (h.new i hi).below hb, fun i h1 hi => (h.done i h1 hi).below hb, fun i h1 hi => (h.left i h1 hi).below hb, fun i hi => (h.opl i hi).below hb, row_below h.ops hb,
    h.out.trans (Out.of_below (F := fun _ => False) hb) (fun g hg => hg.elim), by have := h.lt; have := hb.size; omega⟩

theorem L2.over {m bl base : Nat} {w wr w2 : World} {vs us : Nat → Value} {zs : Nat → List Cw} {ov : Value} {k : Nat} (H : ListsC m bl base w vs zs) (h : L2 m bl base w wr vs us zs ov k) (hk : k < m)
    (ho : OwnR 32 base w2 (vs k) ((zs k).map ntC)) (hg : wr.grownBy w2 (vs k).ownBlock) : L2 m bl base w w2 vs us zs ov (k + 1) := by
  have hvk : ∀ b, (vs k).ownBlock = some b → base ≤ b ∧ b < w.heap.size := World.ownsRow.lt (H.own k hk)
  have kt : KeepT 32 wr w2 := KeepT.of_row (h.left k (Nat.le_refl _) hk) hg
  have oF : Out (fun g => (vs k).ownBlock = some g) wr w2 := Out.of_grown hg (fun g e => e)
  have lo : ∀ i, (vs k).ownBlock = some i → i < w.heap.size + 1 := fun i e => by have := hvk i e; omega
  have other : ∀ i, i < m → i ≠ k → (vs i).ownBlock = none ∨ (vs i).ownBlock ≠ (vs k).ownBlock := fun i hi hne => H.apart i k hi hk hne
  refine ⟨fun i hi => hg.cell (h.cell i hi) (fun e => H.table k hk e.symm), fun i hi => hg.cell (h.was i hi) (fun e => by have := hvk _ e.symm; simp at this), fun i hi => (h.new i hi).out oF lo, fun i h1 hi => ?_, fun i h1 hi => World.ownsRow.kept (h.left i (by omega) hi) hg (other i hi (by omega)), fun i hi => (h.opl i hi).keepT kt, row_out h.ops oF lo, ?_, ?_⟩
  · by_cases e : i = k
    · subst e; exact ho
    · exact World.ownsRow.kept (h.done i (by omega) hi) hg (other i hi e)
  · exact h.out.trans oF (fun g e => .inl ⟨k, hk, e⟩)
  · have := hg.size
    have := h.lt
    omega

/-- A block that one of the lists, or of their ops, has. -/
def OwnsC (m : Nat) (vs : Nat → Value) (zs : Nat → List Cw) (g : Nat) : Prop := OwnsB m vs g ∨ ∃ i, i < m ∧ ∃ c ∈ zs i, c.v.ownBlock = some g

theorem all_at {m : Nat} {zs : Nat → List Cw} {i : Nat} (h : i < (opsK zs m).length) : ∃ c a, a < m ∧ c ∈ zs a ∧ ((List.range m).flatMap zs)[i]? = some c ∧ (opsK zs m).getD i (.slice none 0 0) = c.v ∧ (((List.range m).flatMap zs).map Cw.l).getD i [] = c.l := by
  have hl : i < ((List.range m).flatMap zs).length := by simpa [opsK] using h
  have hc : ((List.range m).flatMap zs)[i]? = some ((List.range m).flatMap zs)[i] := List.getElem?_eq_getElem hl
  obtain ⟨a, ha, hm⟩ := List.mem_flatMap.1 (List.mem_of_getElem? hc)
  exact ⟨_, a, List.mem_range.1 ha, hm, hc, by unfold opsK; rw [List.getD_eq_getElem?_getD, List.getElem?_map, hc]; rfl, by rw [List.getD_eq_getElem?_getD, List.getElem?_map, hc]; rfl⟩

theorem lists_ops {m bl base : Nat} {w wr : World} {vs us : Nat → Value} {zs : Nat → List Cw} {bo cap n : Nat} {k : Nat} (H : ListsC m bl base w vs zs) (h : L2 m bl base w wr vs us zs (.slice (some ⟨bo, 0, none⟩) n cap) k) (hn : (opsK zs m).length = n) (hbo : w.heap.size < bo) :
    ListsO n bo base wr (fun i => (opsK zs m).getD i (.slice none 0 0)) (fun i => (((List.range m).flatMap zs).map Cw.l).getD i []) := by
  subst hn
  have hrow := h.ops.row
  refine ⟨fun i hi => ?_, fun i hi => ?_, fun i j hi hj hne => ?_, fun i hi => ?_, fun i hi => ?_, fun i hi => ?_⟩
  · rcases hrow with ⟨e, _⟩ | ⟨ad, c2, e, _, _, hc⟩
    · simp at e
    · simp only [Value.slice.injEq, Option.some.injEq] at e
      obtain ⟨rfl, _⟩ := e
      have := hc i ((opsK zs m)[i]) (by rw [gcells_one]; exact List.getElem?_eq_getElem hi)
      rw [add_at] at this
      rw [List.getD_eq_getElem?_getD, List.getElem?_eq_getElem hi]
      simpa using this
  · obtain ⟨c, a, ha, hm, _, e1, e2⟩ := all_at hi
    rw [e1, e2]
    exact h.opl a ha c hm
  · obtain ⟨c, a, ha, hm, hc, e1, _⟩ := all_at hi
    obtain ⟨d, b, hb, hm', hd, f1, _⟩ := all_at hj
    rw [e1, f1]
    exact H.ap i j c d hne hc hd
  · obtain ⟨c, a, ha, hm, _, e1, e2⟩ := all_at hi
    rw [e1]
    intro e
    have := (World.ownsRow.lt (H.ops a ha c hm) bo e).2
    omega
  · obtain ⟨c, a, ha, hm, _, e1, e2⟩ := all_at hi
    rw [e2]
    exact Nat.le_trans (H.lops a ha c hm) (by omega)
  · obtain ⟨c, a, ha, hm, _, e1, e2⟩ := all_at hi
    rw [e2]
    exact (H.fit a ha c hm).1

end Go.Proofs.Ytkpnkknolobioaa

/- The walk of ApartCommits. -/
namespace Go.Proofs.Ytkpnkknolobioaa
open Go.RowKit
set_option linter.unusedVariables false

theorem Try.info22 : (Try.prog.info? 22).map (fun i => (i.zero, i.size, i.bytes)) = some (some (.slice none 0 0), 1, 24) := by kernel_rfl

set_option maxRecDepth 100000 in
set_option maxHeartbeats 4000000 in
theorem apartC_keeps (m bl cl base : Nat) (vs : Nat → Value) (zs : Nat → List Cw) (w : World) (hm : m ≤ 1000) (hcl : m ≤ cl) (hbase : base ≤ w.heap.size) (h : ListsC m bl base w vs zs) (hm0 : 0 < m) :
    Calls Try.prog 26 #[.slice (some ⟨bl, 0, none⟩) m cl] w fun e w' => e = .returned (.bool true) ∧ Out (OwnsC m vs zs) w w' := by
  obtain ⟨i0, hi, hz0, hz1, hz2⟩ := info_parts Try.info22
  have hbl : bl < w.heap.size := World.block_lt_of_cell? _ _ (h.cell 0 hm0)
  have H := hide h
  have HLN : Hid (∀ k, k ≤ m → (opsK zs k).length ≤ 1000 * k) := hide (opsK_len zs m h.lens)
  clear h
  go_enter Try.func26, Try.ntmps26
  go_wp2_with (at_make; refine wpList_make_full _ rfl _ _ 46 rfl w.heap.size 22 i0 (.slice none 0 0) 1 Try.underlying46 hi hz0 hz1 _ _ _ _ m rfl rfl (by omega) (by omega) ?b2 ?b3 (Nat.le_refl _) ?_)
  case b2 => rw [hz2]; omega
  case b3 => unfold maxLen; omega
  intro w0 hown0 hgrow0
  have bel0 : Below w.heap.size w w0 := (Below.refl _ _).grown hgrow0 (Nat.le_refl _) (by simp)
  obtain ⟨xs0, hown1⟩ : ∃ xs0, w0.ownsRow w.heap.size 22 1 (.slice (some ⟨w.heap.size, 0, none⟩) m m) m xs0 := ⟨_, hown0⟩
  have I0 : Hid (L1 m w.heap.size w w0 zs 0 0 xs0 (.slice none 0 0)) := hide ⟨hown1, fun j hj => absurd hj (by omega), OwnG.nil _ _ _ _ _, bel0, (hown1.lt _ rfl).2⟩
  clear hown0 hgrow0 hown1 bel0
  go_wp2
  go_loopw [4, 5] (fun ov ii wr => ∃ (k : Nat) (xs : List Value), k ≤ m ∧ ii = .int .i64 k ∧ Hid (L1 m w.heap.size w wr zs k k xs ov)) (fun _ ii _ => m - (intOf ii).toNat)
  case atStart => exact ⟨0, xs0, by omega, rfl, I0⟩
  case round =>
    clear I0
    obtain ⟨k, xs, hk, rfl, HI⟩ := hrel
    by_cases hlt : k < m
    · have bel := HI.out.bel
      have g1 := (bel.cell (p := ⟨bl, k, none⟩) hbl).trans (H.out.cell k hlt)
      have hlt' : (k : Int) < m := by omega
      have hxl : xs.length = m := by have := HI.out.row.1; omega
      have IC := hide ((H.out.is hlt).below bel)
      go_wp2_with fail
      refine (copyCs_any _ _ _ IC.out (H.out.fit k hlt) (by have := H.out.lens k hlt; omega)).mono ?_
      rintro E w1 ⟨u, rs, rfl, ownu, heu, cru, belu⟩
      have ho1 := ownrow_below HI.out.row belu
      have g2 := (ho1.cellAt k (by omega)).trans (List.getElem?_eq_getElem (by rw [hxl]; exact hlt))
      have g3 := ho1.frozenAt k
      have CU : Hid (Cop wr.heap.size w1 u (zs k)) := hide ⟨rs, ownu, heu, cru⟩
      obtain ⟨au, cu, hu, _, _⟩ := ownu.row.shape
      subst hu
      obtain ⟨w2, hw2⟩ : ∃ x, w1.setCell ⟨w.heap.size, k, none⟩ (.slice au rs.length cu) = x := ⟨_, rfl⟩
      have I2 := hide (HI.out.put hlt CU.out belu hw2)
      have bel2 := I2.out.bel
      have g4 := (bel2.cell (p := ⟨bl, k, none⟩) hbl).trans (H.out.cell k hlt)
      have CO := hide (opsOf_any (vs k) (zs k) w2 ((H.out.is hlt).below bel2) (by have := H.out.lens k hlt; omega))
      clear ho1 ownu heu cru belu CU bel IC
      go_wp2_with fail
      refine CO.out.mono ?_
      rintro E w3 ⟨v3, rfl, own3, bel3⟩
      have I3 := hide (I2.out.below bel3)
      have hs3 := I3.out.lt
      have hln : (opsK zs k).length + ((zs k).map Cw.v).length ≤ 2000000 := by
        have := HLN.out k hk
        have := H.out.lens k hlt
        rw [List.length_map]
        omega
      have HONE : Hid (∀ u ∈ (zs k).map Cw.v, u.oneCell' = true) := hide fun u hu => by
        obtain ⟨c, hc, rfl⟩ := List.mem_map.1 hu
        exact (H.out.ops k hlt c hc).is.one
      have R3 := hide own3.row
      have ops3 := I3.out.ops
      clear own3 bel3 I2 bel2 CO g1 g2 g3 g4
      go_wp2_with (at_builtin; refine wpList_append_lls rfl (.tmp 26) (.tmp 31) rfl (w.heap.size + 1) _ _ rfl ops3 _ _ rfl R3.out HONE.out (by omega) (by omega) ?_)
      intro v4 w4 own4 bel4 gr4
      have I4 := hide (I3.out.app own4 bel4 gr4)
      clear own4 bel4 gr4 ops3 I3
      go_wp2
      go_roundw
      case rel => exact ⟨k + 1, _, by omega, by go_num, I4⟩
      case measure => simp [intOf]; omega
    · have hkm : k = m := by omega
      subst hkm
      have hge : ¬ (k : Int) < k := by omega
      have C0 := hide (l2_start H.out HI.out)
      generalize (fun j => xs.getD j (.slice none 0 0)) = us at C0
      clear HI
      obtain ⟨wa, hwa⟩ : ∃ x, x = wr := ⟨_, rfl⟩
      subst hwa
      go_wp2
      clear hlt hge hk
      go_loopw [6] (fun ii wr => ∃ (i : Nat), i ≤ k ∧ ii = .int .i64 i ∧ Hid (L2 k bl base w wr vs us zs u4 i)) (fun ii _ => k - (intOf ii).toNat)
      case atStart => exact ⟨0, by omega, rfl, C0⟩
      case round =>
        clear C0
        obtain ⟨i, hik, rfl, HC⟩ := hrel
        by_cases hlt : i < k
        · have g1 := HC.out.cell i hlt
          have g2 := HC.out.was i hlt
          have hlt' : (i : Int) < k := by omega
          have hsz := HC.out.lt
          have CS : Hid (∀ W, Below wr.heap.size wr W → Calls Try.prog 46 #[vs i, us i] W fun E w' => E = .returned (.bool true) ∧ Below W.heap.size W w') := hide fun W hb => by
            obtain ⟨rs, h1, h2, h3⟩ := HC.out.new i hlt
            have hl := H.out.lens i hlt
            have hl2 := cvs_len h2
            have hin : InC wr (zs i) := fun c hc => ⟨(HC.out.opl i hlt c hc).is, H.out.i64 i hlt c hc⟩
            have := sameCs_any (vs i) (us i) (zs i) rs W ⟨((HC.out.left i (Nat.le_refl _) hlt).row).below hb, hin.below hb⟩ ⟨h1.row.below hb, (h3.inC h2 hin).below hb⟩ (H.out.fit i hlt) (fit_same h2 (H.out.fit i hlt)) (by omega) (by omega)
            rw [h2, sameV_self] at this
            exact this
          go_wp2_with fail
          go_region_held3 (fun w' => w'.cell? ⟨bl, i, none⟩ = some (vs i) ∧ w'.cell? ⟨w.heap.size, i, none⟩ = some (us i)) (first | exact ⟨g1, g2⟩ | exact ⟨a1, a2⟩ | go_keep)
            (first
            | (go_at_call 46; refine (CS.out _ ((Below.refl _ _).drew)).mono ?_; rintro E w2 ⟨rfl, bel2'⟩; have bel2 : Below wr.heap.size wr w2 := ((Below.refl _ _).drew).trans bel2'; have C2 := hide (HC.out.below bel2); have a1 := C2.out.cell i hlt; have a2 := C2.out.was i hlt; clear bel2'))
          have CO := hide (overC_any (vs i) (zs i) base w2 (C2.out.left i (Nat.le_refl _) hlt))
          clear g1 g2 CS HC
          go_wp2_with fail
          refine CO.out.mono ?_
          rintro E w3 ⟨rfl, own3, gr3⟩
          have C3 := hide (C2.out.over H.out hlt own3 gr3)
          clear CO own3 gr3 C2 a1 a2 bel2
          go_wp2
          go_roundw
          case rel => exact ⟨i + 1, by omega, by go_num, C3⟩
          case measure => simp [intOf]; omega
        · have him : i = k := by omega
          subst him
          have hge : ¬ (i : Int) < i := by omega
          obtain ⟨wb, hwb⟩ : ∃ x, x = wr := ⟨_, rfl⟩
          subst hwb
          go_wp2
          clear hlt hge hik
          go_loopw [7, 8] (fun ii _ wx => ∃ (k n : Nat), k ≤ i ∧ ii = .int .i64 k ∧ wx = wb.drewN n) (fun ii _ _ => i - (intOf ii).toNat)
          case atStart => exact ⟨0, 0, by omega, rfl, rfl⟩
          case round =>
            obtain ⟨k, n, hk, rfl, rfl⟩ := hrel
            by_cases hlt : k < i
            · have g1 : (wb.drewN n).cell? ⟨bl, k, none⟩ = some (vs k) := HC.out.cell k hlt
              have g2 : (wb.drewN n).cell? ⟨w.heap.size, k, none⟩ = some (us k) := HC.out.was k hlt
              have hlt' : (k : Int) < i := by omega
              have o1 := HC.out.done k hlt hlt
              obtain ⟨rs, o2, hcv, _⟩ := HC.out.new k hlt
              have hl := H.out.lens k hlt
              have hl2 := cvs_len hcv
              by_cases hz : 0 < (zs k).length
              · obtain ⟨b1, f1, c1, hv1, hc1, hm1, _, he1⟩ := o1.row.full (by simpa using hz)
                obtain ⟨b2, f2, c2, hv2, hc2, hm2, _, he2⟩ := o2.row.full (by omega)
                rw [hv1, List.length_map] at g1
                rw [hv2, hl2] at g2
                rw [List.length_map] at hc1
                rw [hl2] at hc2
                have H1 := hide he1
                have H2 := hide he2
                have HCV := hide hcv
                clear he1 he2 hv1 hv2 o1 o2 hcv hl2
                generalize hL : (zs k).length = L at *
                have HLL := hide hL
                clear hL
                generalize hy : wb.drewN n = wy at *
                have HY := hide hy
                clear hy
                go_wp2
                go_loopw [8] (fun kk wx => ∃ (j n : Nat), j ≤ L ∧ kk = .int .i64 j ∧ wx = wy.drewN n) (fun kk _ => L - (intOf kk).toNat)
                case atStart => exact ⟨0, 0, by omega, rfl, rfl⟩
                case round =>
                  obtain ⟨j, n2, hj, rfl, rfl⟩ := hrel
                  by_cases hjl : j < L
                  · have hjl' : (j : Int) < L := by omega
                    obtain ⟨c, hc⟩ := at_of (l := zs k) (k := j) (by rw [HLL.out]; exact hjl)
                    obtain ⟨d, hd, hde, _, _⟩ := cvs_at HCV.out.symm hc
                    have g3 : (wy.drewN n2).cell? ⟨b1, f1 + j * 3, none⟩ = some (.int .i64 (bits BinOp.xor IntKind.i64 (if IntKind.i64.signed = true then -1 else 9223372036854775807) c.e)) := by
                      have := (H1.out j (ntC c) (by rw [List.getElem?_map, hc]; rfl)).1
                      rw [← HY.out]
                      exact this
                    have g4 : (wy.drewN n2).cell? ⟨b2, f2 + j * 3, none⟩ = some (.int .i64 c.e) := by
                      have := (H2.out j d hd).1
                      rw [← hde] at this
                      rw [← HY.out]
                      exact this
                    have k1 : (wy.drewN n2).cell? ⟨bl, k, none⟩ = some (.slice (some ⟨b1, f1, none⟩) L c1) := g1
                    have k2 : (wy.drewN n2).cell? ⟨w.heap.size, k, none⟩ = some (.slice (some ⟨b2, f2, none⟩) L c2) := g2
                    have hq : (bits BinOp.xor IntKind.i64 (if IntKind.i64.signed = true then -1 else 9223372036854775807) c.e != bits BinOp.xor IntKind.i64 (if IntKind.i64.signed = true then -1 else 9223372036854775807) c.e) = false := by simp
                    generalize hyy : wy.drewN n2 = wz at *
                    have HYY := hide hyy
                    clear hc hd hde hyy
                    generalize c.e = ee at *
                    go_wp2
                    go_quiet (fail)
                    go_wp2
                    go_roundw
                    case rel => exact ⟨j + 1, n2 + nq, by omega, by go_num, by rw [← HYY.out, World.drewN_drewN]⟩
                    case measure => simp [intOf]; omega
                  · have hge : ¬ (j : Int) < L := by omega
                    go_wp2
                    go_roundw
                    case rel => exact ⟨k + 1, n + n2, by omega, by go_num, by rw [← HY.out, World.drewN_drewN]⟩
                    case measure => simp [intOf]; omega
              · obtain ⟨a1, c1, hv1, hc1, hm1⟩ := o1.row.shape
                have hz0 : (zs k).length = 0 := by omega
                rw [hv1, List.length_map, hz0] at g1
                clear hv1 hc1 o1 o2 g2 hl hz0 hz hl2 hcv
                generalize hy : wb.drewN n = wy at *
                have HY := hide hy
                clear hy
                go_wp2
                refine wp_loop_rounds 1 ?_
                rw [rounds_succ]
                go_wp2
                go_roundw
                case rel => exact ⟨k + 1, n, by omega, by go_num, HY.out.symm⟩
                case measure => simp [intOf]; omega
            · have hge : ¬ (k : Int) < i := by omega
              rcases HC.out.ops.2 with ⟨hv, hn⟩ | ⟨bo, cap, cur, hv, hb1, hh, hcc, hcm, hs, ht⟩
              · subst hv
                go_wp2_with fail
                refine (apartO_none none 0 _).mono ?_
                rintro E w5 ⟨rfl, bel5⟩
                have O5 := HC.out.out
                clear HC
                go_wp2
                go_ret
                exact ⟨rfl, ((O5.drew n).trans (Out.of_below (F := fun _ => False) bel5) (fun g hg => hg.elim)).mono (fun g hg => .inl (.inl hg))⟩
              · obtain ⟨no, hno⟩ : ∃ x, (opsK zs i).length = x := ⟨_, rfl⟩
                rw [hno] at hv hcc
                subst hv
                have hle := HLN.out i (Nat.le_refl _)
                rw [hno] at hle
                by_cases hp : 0 < no
                · have LO := lists_ops H.out (HC.out.below (below_drewN (Below.refl _ _) n)) hno (by omega)
                  have AK := hide (apartO_keeps no bo cap base _ _ _ (by omega) hcc (by have := HC.out.lt; simp; omega) LO hp)
                  have HNO := hide hno
                  have O5 := HC.out.out
                  clear HC LO hno
                  go_wp2_with fail
                  refine AK.out.mono ?_
                  rintro E w5 ⟨rfl, out5⟩
                  have OF := hide ((O5.drew n).mono (G := OwnsC i vs zs) (fun g hg => .inl (.inl hg)))
                  have O6 := hide (OF.out.trans out5 (fun g hg => by
                    obtain ⟨j, hj, e⟩ := hg
                    obtain ⟨c, a, ha, hmm, _, e1, _⟩ := all_at (zs := zs) (m := i) (i := j) (by rw [HNO.out]; exact hj)
                    have e' : ((opsK zs i).getD j (.slice none 0 0)).ownBlock = some g := e
                    rw [e1] at e'
                    exact .inl (.inr ⟨a, ha, c, hmm, e'⟩)))
                  clear out5 AK O5
                  go_wp2
                  go_ret
                  exact ⟨rfl, O6.out⟩
                · have hp0 : no = 0 := by omega
                  subst hp0
                  go_wp2_with fail
                  refine (apartO_none _ _ _).mono ?_
                  rintro E w5 ⟨rfl, bel5⟩
                  have O5 := HC.out.out
                  clear HC
                  go_wp2
                  go_ret
                  exact ⟨rfl, ((O5.drew n).trans (Out.of_below (F := fun _ => False) bel5) (fun g hg => hg.elim)).mono (fun g hg => .inl (.inl hg))⟩

end Go.Proofs.Ytkpnkknolobioaa
