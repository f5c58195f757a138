/- Texts of one layer, one behind the other. -/
import Derived.Test.YtabfihicdphjeaaG1
import Derived.Test.YtabfihicdphjeaaG6
import Derived.Test.YtabfihicdphjeaaGI
import Derived.Test.YtabfihicdphjeaaG9
import Derived.Test.YtabfihicdphjeaaG4
import Derived.Test.YtabfihicdphjeaaG7
import Derived.Deep.RegionLaw
/- The document's Log and Ack (layer 17). -/
namespace Go.Proofs.Ytabfihicdphjeaa
open Go.RowKit
set_option linter.unusedVariables false

theorem cvs_at1 {rs : List Cw} {k : Nat} {c : Cw} (h : rs[k]? = some c) : (cvs rs)[k]? = some c.c := by
  unfold cvs
  rw [List.getElem?_map, h]
  rfl

theorem cvs_n (rs : List Cw) : (cvs rs).length = rs.length := by unfold cvs; rw [List.length_map]

/-- The epoch of a log's last commit. -/
theorem last_row {rs : List Cw} {k : Nat} {c : Cw} (h : rs[k]? = some c) (hk : k + 1 = rs.length) : Cm.lastE 0 (cvs rs) = c.e := by
  have := Shp.prv_is (cvs_at1 h)
  rw [List.take_of_length_le (by rw [cvs_n]; omega)] at this
  exact this

set_option maxRecDepth 20000 in
set_option maxHeartbeats 2000000 in
theorem logR_any (e : Int) (v : Value) (rs : List Cw) (w : World) (h : IsC w v rs) (hf : FitC rs) (hl : rs.length ≤ 1000000) :
    Calls Try.prog 36 #[.int .i64 e, v] w fun E w' => E = .returned (.int .i64 (Shp.lck e (cvs rs))) ∧ Below w.heap.size w w' := by
  obtain ⟨ao, cap, hvl, hcap, hcm⟩ := h.1.shape
  by_cases h1 : e < 1
  · rw [Shp.lck_arg (.inl h1)]
    clear h hf
    subst hvl
    go_enter Try.func36, Try.ntmps36
    go_wp2
    go_ret
    exact ⟨rfl, Below.refl _ _⟩
  by_cases h2 : 1048576 < e
  · rw [Shp.lck_arg (.inr h2)]
    clear h hf
    subst hvl
    go_enter Try.func36, Try.ntmps36
    go_wp2
    go_ret
    exact ⟨rfl, Below.refl _ _⟩
  have h12 : ¬ (e < 1 ∨ 1048576 < e) := by omega
  have X := hide (cfolR_any 0 0 v rs w h hf (by omega))
  unfold flv at X
  have HZ := hide (Cm.fol_at (cvs rs) 0 0 0)
  have HB := hide (fun k => Shp.lck_fol (l := cvs rs) h12 k)
  have HO := hide (fun k q => Shp.lck_ord (l := cvs rs) h12 k q)
  have HK := hide (fun k q => Shp.lck_ok (l := cvs rs) h12 k q)
  obtain ⟨z, hz⟩ : ∃ z, Shp.lck e (cvs rs) = z := ⟨_, rfl⟩
  rw [hz] at HB HO HK ⊢
  obtain ⟨fl, hfl⟩ : ∃ f, Cm.fol 0 0 0 (cvs rs) = f := ⟨_, rfl⟩
  rw [hfl] at X HZ HB HO HK
  clear hz
  obtain ⟨fe, fp⟩ := fl
  simp only at X HZ HB HO HK
  clear hfl
  have HI := hide h
  have HLT : Hid (0 < rs.length → ∃ b off c, v = .slice (some ⟨b, off, none⟩) rs.length cap ∧ b < w.heap.size ∧ rs[rs.length - 1]? = some c ∧ w.cell? ⟨b, off + (rs.length - 1) * 3, none⟩ = some (.int .i64 c.e)) := hide fun h0 => by
    obtain ⟨b, off, cap', hv, _, _, hb, hcell⟩ := h.1.full h0
    obtain ⟨c, hc⟩ : ∃ c, rs[rs.length - 1]? = some c := ⟨rs[rs.length - 1], by rw [List.getElem?_eq_getElem]⟩
    rw [hvl] at hv
    simp only [Value.slice.injEq, true_and] at hv
    obtain ⟨rfl, rfl⟩ := hv
    exact ⟨b, off, c, hvl, hb, hc, (hcell _ c hc).1⟩
  rw [hvl] at X
  have HV := hide hvl
  subst hvl
  clear h
  go_enter Try.func36, Try.ntmps36
  go_wp2_with fail
  refine X.out.mono ?_
  rintro E w2 ⟨rfl, bel2⟩
  obtain ⟨w3, hw3, hw3', sz3, bel3, hF, c0, c1⟩ := new_two w2 42 (.int .i64 0) (.int .i64 0) (.int .i64 fe) (.int .i64 fp)
  have bel03 : Below w.heap.size w w3 := bel2.trans (bel3.mono bel2.size)
  have B3 := hide bel03
  have hnq := Try.neqF fe fp 0 0
  have hgd := Try.guardF
  clear X bel2 bel3 hF
  by_cases hfe : fe = 0
  · have hfp : fp = 0 := HZ.out hfe
    have hb : (!((fe == 0) && (fp == 0))) = false := by simp [hfe, hfp]
    rw [hb] at hnq
    by_cases h0 : 0 < rs.length
    · obtain ⟨b, off, c, hv, hlt, hc, hcl⟩ := HLT.out h0
      simp only [Value.slice.injEq, and_true] at hv
      subst hv
      have d0 := (bel03.cell (p := ⟨b, off + (rs.length - 1) * 3, none⟩) hlt).trans hcl
      have hla := last_row hc (by omega)
      obtain ⟨n, hn⟩ : ∃ n, rs.length = n + 1 := ⟨rs.length - 1, by omega⟩
      have hn1 : rs.length - 1 = n := by omega
      rw [hn1] at d0
      have g1 : (0 : Int) < ((n + 1 : Nat) : Int) := by omega
      have g2 : IntKind.i64.wrap (((n + 1 : Nat) : Int) - 1) = (n : Int) := by rw [wrap64s _ (by omega) (by omega)]; omega
      have g3 : (n : Int) < ((n + 1 : Nat) : Int) := by omega
      have g4 : (0 : Int) ≤ (n : Int) := by omega
      by_cases h3 : e < c.e
      · have HE := hide (HO.out hfe (by rw [hla]; exact h3))
        have h3' : ¬ c.e ≤ e := by omega
        clear HO HK HB HZ HLT hla hcl hfe hfp hb bel03 HI
        rw [hn]
        go_wp2
        go_ret
        exact ⟨by rw [HE.out]; rfl, B3.out⟩
      · have HE := hide (HK.out hfe (by rw [hla]; omega))
        clear HO HK HB HZ HLT hla hcl hfe hfp hb bel03 HI
        rw [hn]
        go_wp2
        go_ret
        exact ⟨by rw [HE.out]; rfl, B3.out⟩
    · have hz : rs = [] := List.eq_nil_of_length_eq_zero (by omega)
      subst hz
      have HE := hide (HK.out hfe (by show (0 : Int) ≤ e; omega))
      clear HO HK HB HZ HLT hfe hfp hb bel03 HI
      go_wp2
      go_ret
      exact ⟨by rw [HE.out]; rfl, B3.out⟩
  · have hb : (!((fe == 0) && (fp == 0))) = true := by simp [hfe]
    rw [hb] at hnq
    have HE := hide (HB.out hfe)
    clear HO HK HB HZ HLT hfe hb bel03 HI
    go_wp2
    go_ret
    exact ⟨by rw [HE.out]; rfl, B3.out⟩

/-- The zero message's cells. -/
theorem put_no {V : World} {R : Nat} (hR : V.heap[R]? = some (.cells #[.int .i64 0, .int .i64 0, .int .u8 0, .int .i64 0, .slice none 0 0, .int .i64 0, .int .i64 0, .slice none 0 0] 26 (0, 0))) (a b c d e f h i : Value) :
    ∃ V', (((((((V.setCell ⟨R, 0, none⟩ a).setCell ⟨R, 1, none⟩ b).setCell ⟨R, 2, none⟩ c).setCell ⟨R, 3, none⟩ d).setCell ⟨R, 4, none⟩ e).setCell ⟨R, 5, none⟩ f).setCell ⟨R, 6, none⟩ h).setCell ⟨R, 7, none⟩ i = V' ∧ V.grownBy V' (some R) ∧
      Ei V R (.int .i64 0) (.int .i64 0) (.int .u8 0) (.int .i64 0) (.slice none 0 0) (.int .i64 0) (.int .i64 0) (.slice none 0 0) ∧ (∀ j, V.frozen? ⟨R, j, none⟩ = false) ∧ Ei V' R a b c d e f h i := by
  obtain ⟨V', h1, _, h3, h4, h5, h6⟩ := put8 hR a b c d e f h i
  exact ⟨V', h1, h3, h4, h5, h6⟩

theorem own_ack (base : Nat) (w : World) (e n : Int) : OwnM base w ⟨3, e, 0, n, .slice none 0 0, [], 0, 0, .slice none 0 0, []⟩ := ⟨OwnG.nil _ _ _ _ _, OwnR.nil _ _ _, fun c hc => by simp at hc, fun c hc => by simp at hc, fun i j c d _ hc => by simp at hc⟩
theorem fit_ack {e n : Int} (he : In64 e) (hn : In64 n) : FitM ⟨3, e, 0, n, .slice none 0 0, [], 0, 0, .slice none 0 0, []⟩ := ⟨by simp [In64], he, by simp, by simp, hn, by simp [In64], by simp [In64], by simp, fun c hc => by simp at hc, by simp⟩
theorem own_hel {base : Nat} {w : World} {vs : Value} {ss : List Sm.S} (h : OwnS base w vs ss) (e r n : Int) : OwnM base w ⟨1, e, r, n, vs, ss, 0, 0, .slice none 0 0, []⟩ := ⟨h, OwnR.nil _ _ _, fun c hc => by simp at hc, fun c hc => by simp at hc, fun i j c d _ hc => by simp at hc⟩
theorem fit_hel {e r n : Int} {vs : Value} {ss : List Sm.S} (he : In64 e) (h0 : 0 ≤ r) (h1 : r < 256) (hn : In64 n) (hl : ss.length ≤ 140737488355328) : FitM ⟨1, e, r, n, vs, ss, 0, 0, .slice none 0 0, []⟩ := ⟨by simp [In64], he, h0, h1, hn, by simp [In64], by simp [In64], hl, fun c hc => by simp at hc, by simp⟩

set_option maxRecDepth 20000 in
set_option maxHeartbeats 1000000 in
theorem ackR_any (e n : Int) (w : World) (he : In64 e) (hn : In64 n) : Calls Try.prog 18 #[.int .i64 e, .int .i64 n] w (DecR w (Shp.ack e n) (Shp.ackE e n)) := by
  obtain ⟨w1, hw1, sz1, bel1, hR⟩ := blk_step w #[.int .i64 0, .int .i64 0, .int .u8 0, .int .i64 0, .slice none 0 0, .int .i64 0, .int .i64 0, .slice none 0 0] 26
  by_cases h : e < 1 ∨ 1048576 < e ∨ n < 0 ∨ 1048576 < n
  · rw [(Shp.ackE_no h).1, (Shp.ackE_no h).2]
    obtain ⟨Z, hZ, gZ, ⟨a0, a1, a2, a3, a4, a5, a6, a7⟩, fr, ⟨z0, z1, z2, z3, z4, z5, z6, z7⟩⟩ := put_no hR (.int .i64 0) (.int .i64 0) (.int .u8 0) (.int .i64 0) (.slice none 0 0) (.int .i64 0) (.int .i64 0) (.slice none 0 0)
    have f0 := fr 0; have f1 := fr 1; have f2 := fr 2; have f3 := fr 3; have f4 := fr 4; have f5 := fr 5; have f6 := fr 6; have f7 := fr 7
    have belZ := below_put bel1 gZ (Nat.le_refl _) (by omega)
    have NOZ : Hid (mno.m = Mm.no ∧ OwnM w.heap.size Z mno ∧ FitM mno ∧ Below w.heap.size w Z) := dec_no belZ
    clear hR gZ fr bel1 belZ
    have hd : (decide (e < 1) || decide (1048576 < e) || decide (n < 0) || decide (1048576 < n)) = true := by
      simp only [Bool.or_eq_true, decide_eq_true_iff]
      omega
    by_cases q1 : e < 1
    · clear h hd
      go_enter Try.func18, Try.ntmps18
      go_wp2
      refine bodyPost_ret (v := .tuple #[.agg #[.int .i64 0, .int .i64 0, .int .u8 0, .int .i64 0, .slice none 0 0, .int .i64 0, .int .i64 0, .slice none 0 0], .int .i64 2]) (by simp [results, Try.results18, go_sem, z0, z1, z2, z3, z4, z5, z6, z7]) rfl ?_
      exact ⟨mno, rfl, NOZ⟩
    by_cases q2 : 1048576 < e
    · clear h hd
      go_enter Try.func18, Try.ntmps18
      go_wp2
      refine bodyPost_ret (v := .tuple #[.agg #[.int .i64 0, .int .i64 0, .int .u8 0, .int .i64 0, .slice none 0 0, .int .i64 0, .int .i64 0, .slice none 0 0], .int .i64 2]) (by simp [results, Try.results18, go_sem, z0, z1, z2, z3, z4, z5, z6, z7]) rfl ?_
      exact ⟨mno, rfl, NOZ⟩
    by_cases q3 : n < 0
    · clear h hd
      go_enter Try.func18, Try.ntmps18
      go_wp2
      refine bodyPost_ret (v := .tuple #[.agg #[.int .i64 0, .int .i64 0, .int .u8 0, .int .i64 0, .slice none 0 0, .int .i64 0, .int .i64 0, .slice none 0 0], .int .i64 2]) (by simp [results, Try.results18, go_sem, z0, z1, z2, z3, z4, z5, z6, z7]) rfl ?_
      exact ⟨mno, rfl, NOZ⟩
    have q4 : 1048576 < n := by omega
    clear h hd
    go_enter Try.func18, Try.ntmps18
    go_wp2
    refine bodyPost_ret (v := .tuple #[.agg #[.int .i64 0, .int .i64 0, .int .u8 0, .int .i64 0, .slice none 0 0, .int .i64 0, .int .i64 0, .slice none 0 0], .int .i64 2]) (by simp [results, Try.results18, go_sem, z0, z1, z2, z3, z4, z5, z6, z7]) rfl ?_
    exact ⟨mno, rfl, NOZ⟩
  · rw [(Shp.ackE_ok h).1, (Shp.ackE_ok h).2]
    obtain ⟨Z, hZ, gZ, ⟨a0, a1, a2, a3, a4, a5, a6, a7⟩, fr, ⟨z0, z1, z2, z3, z4, z5, z6, z7⟩⟩ := put_no hR (.int .i64 3) (.int .i64 e) (.int .u8 0) (.int .i64 n) (.slice none 0 0) (.int .i64 0) (.int .i64 0) (.slice none 0 0)
    have f0 := fr 0; have f1 := fr 1; have f2 := fr 2; have f3 := fr 3; have f4 := fr 4; have f5 := fr 5; have f6 := fr 6; have f7 := fr 7
    have belZ := below_put bel1 gZ (Nat.le_refl _) (by omega)
    have OK := hide (And.intro (own_ack w.heap.size Z e n) (And.intro (fit_ack he hn) belZ))
    clear hR gZ fr bel1 belZ he hn
    have q1 : ¬ e < 1 := by omega
    have q2 : ¬ 1048576 < e := by omega
    have q3 : ¬ n < 0 := by omega
    have q4 : ¬ 1048576 < n := by omega
    clear h
    go_enter Try.func18, Try.ntmps18
    go_wp2
    refine bodyPost_ret (v := .tuple #[.agg #[.int .i64 3, .int .i64 e, .int .u8 0, .int .i64 n, .slice none 0 0, .int .i64 0, .int .i64 0, .slice none 0 0], .int .i64 0]) (by simp [results, Try.results18, go_sem, z0, z1, z2, z3, z4, z5, z6, z7]) rfl ?_
    exact ⟨⟨3, e, 0, n, .slice none 0 0, [], 0, 0, .slice none 0 0, []⟩, rfl, hide ⟨rfl, OK.out⟩⟩

end Go.Proofs.Ytabfihicdphjeaa

/- The document's Copy and Copies of commits. -/
namespace Go.Proofs.Ytabfihicdphjeaa
open Go.RowKit
set_option linter.unusedVariables false

theorem ocells_g : ∀ (r : List Bm.Ov), ocells r = gcells ocell r
  | [] => rfl
  | c :: r => by rw [ocells, gcells, ocells_g r]

theorem ocell_len (o : Bm.Ov) : (ocell o).length = 3 := rfl

theorem ownO_g {e base : Nat} {w : World} {v : Value} {r : List Bm.Ov} : OwnO e base w v r ↔ OwnG ocell 3 e base w v r := by
  unfold OwnO OwnG
  rw [ocells_g]

theorem isO_g {w : World} {v : Value} {r : List Bm.Ov} : IsO w v r ↔ RowG ocell w v r := by
  unfold IsO RowG
  rw [ocells_g]

set_option maxRecDepth 20000 in
set_option maxHeartbeats 2000000 in
theorem copyX_any (e n : Int) (v : Value) (l : List Bm.Ov) (w : World) (h : IsO w v l) (hl : l.length * 40 ≤ 140737488351232) :
    Calls Try.prog 38 #[cmv e n v] w fun E w' => ∃ v', E = .returned (cmv e n v') ∧ OwnO 62 w.heap.size w' v' l ∧ Below w.heap.size w w' := by
  unfold cmv
  obtain ⟨w1, hw1, sz1, bel1, hB⟩ := blk_step w #[.int .i64 e, .int .i64 n, v] 46
  obtain ⟨w2, hw2, sz2, bel2, hR⟩ := blk_step w1 #[.int .i64 0, .int .i64 0, .slice none 0 0] 46
  rw [sz1] at hR
  have hB2 := (bel2.block w.heap.size (by omega)).trans hB
  have bel02 : Below w.heap.size w w2 := bel1.trans (bel2.mono (by omega))
  have h2 := h.below bel02
  have c0 : w2.cell? ⟨w.heap.size, 0, none⟩ = some (.int .i64 e) := blk_cell hB2 0 rfl
  have c1 : w2.cell? ⟨w.heap.size, 1, none⟩ = some (.int .i64 n) := blk_cell hB2 1 rfl
  have c2 : w2.cell? ⟨w.heap.size, 2, none⟩ = some v := blk_cell hB2 2 rfl
  have X : Hid (∀ ty, ∃ v' w', (Builtin.append_ #[44, 44] ty #[.slice none 0 0, v]).run Try.prog w2.drew = .ok v' w' ∧ ((∃ a k, v' = .slice a l.length k) ∧ (w'.cell? ⟨w.heap.size, 0, none⟩ = some (.int .i64 e) ∧ w'.cell? ⟨w.heap.size, 1, none⟩ = some (.int .i64 n) ∧ w'.cell? ⟨w.heap.size, 2, none⟩ = some v) ∧ (∃ V, ((w'.setCell ⟨w.heap.size + 1, 0, none⟩ (.int .i64 e)).setCell ⟨w.heap.size + 1, 1, none⟩ (.int .i64 n)).setCell ⟨w.heap.size + 1, 2, none⟩ v' = V ∧ (w'.cell? ⟨w.heap.size + 1, 0, none⟩ = some (.int .i64 0) ∧ w'.cell? ⟨w.heap.size + 1, 1, none⟩ = some (.int .i64 0) ∧ w'.cell? ⟨w.heap.size + 1, 2, none⟩ = some (.slice none 0 0)) ∧ (w'.frozen? ⟨w.heap.size + 1, 0, none⟩ = false ∧ w'.frozen? ⟨w.heap.size + 1, 1, none⟩ = false ∧ w'.frozen? ⟨w.heap.size + 1, 2, none⟩ = false) ∧ (V.cell? ⟨w.heap.size + 1, 0, none⟩ = some (.int .i64 e) ∧ V.cell? ⟨w.heap.size + 1, 1, none⟩ = some (.int .i64 n) ∧ V.cell? ⟨w.heap.size + 1, 2, none⟩ = some v') ∧ Hid (OwnO 62 w.heap.size V v' l ∧ Below w.heap.size w V)))) := hide fun ty => by
    obtain ⟨v', w', hr, hown, hg, _⟩ := run_append_rows_at (P := Try.prog) (w := w2.drew) 44 ty ocell 3 40 ocell_len (by decide) (by decide) (.agg #[.bool false, .string ⟨#[]⟩, .string ⟨#[]⟩]) rfl 62 w2.heap.size Try.underlying44 Try.info62 (.slice none 0 0) [] (OwnG.nil _ _ _ _ _) v l (isO_g.1 (h2.drewN 1)) (by
      rw [← ocells_g]
      exact ocells_cell l) (by simp; omega) (Nat.le_refl _)
    rw [List.nil_append] at hown
    have bw : Below w2.heap.size w2 w' := ((Below.refl w2.heap.size w2).drew).grown hg (Nat.le_refl _) fun g e => by simp [Value.ownBlock] at e
    have szw := bw.size
    have k1 := (bw.block w.heap.size (by omega)).trans hB2
    have k2 := (bw.block (w.heap.size + 1) (by omega)).trans hR
    obtain ⟨V, hV, bV, gV, a, f, z⟩ := res_step k2 (.int .i64 e) (.int .i64 n) v'
    have ownV := ((ownO_g.2 hown).keptg gV (by omega)).rebase (base' := w.heap.size) (by omega)
    obtain ⟨xa, xc, hx, _⟩ := hown.row.shape
    exact ⟨v', w', hr, ⟨xa, xc, hx⟩, ⟨blk_cell k1 0 rfl, blk_cell k1 1 rfl, blk_cell k1 2 rfl⟩, V, hV, a, f, z, hide ⟨ownV, below_put (bel02.trans (bw.mono (by omega))) gV (by omega) (by omega)⟩⟩
  obtain ⟨ao, cap, hv, _, _⟩ := h.shape
  rw [hv] at hw1 c2 X ⊢
  clear h h2 hB hB2 hR bel1 bel2 bel02 hv hl
  go_enter Try.func38, Try.ntmps38
  go_wp2_with fail
  go_region_law (refine step_append_at rfl (.tmp 8) (.tmp 10) 44 rfl (.slice none 0 0) (.slice ao l.length cap) (by first | rfl | (simp [Act.eval]; done)) (by first | rfl | (simp [Act.eval]; done)) X.out ?_; rintro v7 w7 ⟨⟨a7, k7, rfl⟩, ⟨y0, y1, y2⟩, V, hV, ⟨a0, a1, a2⟩, ⟨f0, f1, f2⟩, ⟨z0, z1, z2⟩, J⟩)
  all_goals
    go_wp2
    refine bodyPost_ret (v := .agg #[.int .i64 e, .int .i64 n, .slice a7 l.length k7]) (by simp [results, Try.results38, go_sem, z0, z1, z2]) rfl ?_
    exact ⟨_, rfl, J.out⟩

theorem Try.enters38 : ∀ args w, (callFunc 38 args).run Try.prog w = .ok (.enter 38 args) w := enters_of Try.func38 (by kernel_rfl) rfl

end Go.Proofs.Ytabfihicdphjeaa

/- 'append' of ops and of rows of runs or commits, as one step. No program. -/
namespace Go.Proofs.Ytabfihicdphjeaa
open Go.RowKit
set_option linter.unusedVariables false

section
variable {P : Program} {w : World}

theorem run_append_ops_at (t ty e : TypeId) (base : Nat) (ht : P.underlying t = some (.slice e)) (hinfo : (P.info? e).map (fun i => (i.zero, i.size, i.bytes)) = some (some (.agg #[.bool false, .string ⟨#[]⟩, .string ⟨#[]⟩]), 3, 40))
    (v : Value) (l : List Bm.Ov) (hown : OwnO e base w v l) (vx : Value) (m : List Bm.Ov) (his : IsO w vx m) (hlen : (l.length + m.length) * 40 ≤ 140737488355328) (hbase : base ≤ w.heap.size) :
    ∃ v' w', (Builtin.append_ #[t, t] ty #[v, vx]).run P w = .ok v' w' ∧ OwnO e base w' v' (l ++ m) ∧ w.grownBy w' v.ownBlock ∧ (v'.ownBlock = v.ownBlock ∨ v'.ownBlock = some w.heap.size) := by
  obtain ⟨i, hi, hz, hsize, hb⟩ := info_parts hinfo
  rcases his with ⟨hv, hy⟩ | ⟨ad, cap, hv, h1, h2, hc⟩
  · subst hy hv
    have hrun := run_append_owned_none (P := P) (w := w) base t ty e i 3 ht hi v l.length _ hown
    exact ⟨v, w, hrun, by simpa using hown, World.grownBy.refl _ _, .inl rfl⟩
  · subst hv
    obtain ⟨v', w', hr, h3, h4, _, h5⟩ := run_append_own_at (P := P) w base t ty e i _ 3 40 ht hi hz hsize hb rfl (by decide) v l.length _ hown ad m.length cap (ocells m) (ocells_len m) hc (ocells_cell m) (by unfold maxLen; omega) hlen hbase
    exact ⟨v', w', hr, by unfold OwnO; rw [ocells_app, List.length_append]; exact h3, h4, h5⟩

theorem run_append_coms_at (t ty e : TypeId) (base : Nat) (ht : P.underlying t = some (.slice e)) (hinfo : (P.info? e).map (fun i => (i.zero, i.size, i.bytes)) = some (some (.agg #[.int .i64 0, .int .i64 0, .slice none 0 0]), 3, 40))
    (v : Value) (l : List Cw) (hown : OwnR e base w v l) (vx : Value) (m : List Cw) (his : RowC w vx m) (hone : ∀ c ∈ m, c.v.oneCell' = true) (hlen : (l.length + m.length) * 40 ≤ 140737488355328) (hbase : base ≤ w.heap.size) :
    ∃ v' w', (Builtin.append_ #[t, t] ty #[v, vx]).run P w = .ok v' w' ∧ OwnR e base w' v' (l ++ m) ∧ w.grownBy w' v.ownBlock ∧ (v'.ownBlock = v.ownBlock ∨ v'.ownBlock = some w.heap.size) := by
  obtain ⟨i, hi, hz, hsize, hb⟩ := info_parts hinfo
  rcases his with ⟨hv, hy⟩ | ⟨ad, cap, hv, h1, h2, hc⟩
  · subst hy hv
    have hrun := run_append_owned_none (P := P) (w := w) base t ty e i 3 ht hi v l.length _ hown
    exact ⟨v, w, hrun, by simpa using hown, World.grownBy.refl _ _, .inl rfl⟩
  · subst hv
    obtain ⟨v', w', hr, h3, h4, _, h5⟩ := run_append_own_at (P := P) w base t ty e i _ 3 40 ht hi hz hsize hb rfl (by decide) v l.length _ hown ad m.length cap (ccells m) (ccells_len m) hc (ccells_cell m hone) (by unfold maxLen; omega) hlen hbase
    exact ⟨v', w', hr, by unfold OwnR; rw [ccells_app, List.length_append]; exact h3, h4, h5⟩

end

end Go.Proofs.Ytabfihicdphjeaa

/- The document's Next (layer 17). -/
namespace Go.Proofs.Ytabfihicdphjeaa
open Go.RowKit
set_option linter.unusedVariables false

/-- A commit is appended to a row of copies. -/
theorem ShS.push {b : Nat} {w w6 : World} {v : Value} {cs : List Cw} (h : ShS b w v cs) (hbw : b ≤ w.heap.size) (hb : Below w.heap.size w w6) (c : Cw) (hc : OwnO 62 w.heap.size w6 c.v c.l) (hf : CFit c.e c.n c.l) (hl : cs.length ≤ 1000000) :
    ∃ V, w6.alloc (.cells #[.int .i64 c.e, .int .i64 c.n, c.v] 46) = V ∧ Below w6.heap.size w6 V ∧ V.heap.size = w6.heap.size + 1 ∧ ∀ ty, ∃ v2 w2, (Builtin.append_ #[24, 24] ty #[v, .slice (some ⟨w6.heap.size, 0, none⟩) 1 1]).run Try.prog V = .ok v2 w2 ∧ ShS b w2 v2 (cs ++ [c]) ∧ V.grownBy w2 v.ownBlock ∧ ∃ a n k, v2 = .slice a n k := by
  obtain ⟨V, hV, szV, belV, ownV⟩ := coms_step 46 w6 #[.int .i64 c.e, .int .i64 c.n, c.v] 1 [c] rfl rfl (by simp [maxLen])
  have sz6 := hb.size
  have bwV : Below w.heap.size w V := hb.trans (belV.mono sz6)
  refine ⟨V, hV, belV, szV, fun ty => ?_⟩
  have hV' := h.below bwV
  obtain ⟨v2, w2, hr, own2, gr2, at2⟩ := run_append_coms_at (P := Try.prog) (w := V) 24 ty 46 b Try.underlying24 Try.info46 v cs hV'.c _ [c] ownV.row (fun d hd => by rw [List.mem_singleton.1 hd]; exact hc.is.one) (by simp; omega) (by omega)
  refine ⟨v2, w2, hr, ?_, gr2, ?_⟩
  · exact hV'.snoc (N := w.heap.size) (KeepT.of_row hV'.c gr2) own2 (hc.below belV) hbw (fun d hd g hg => (OwnO.block (h.o d hd) g hg).2) hf
  · obtain ⟨a1, k1, h1, _⟩ := own2.row.shape
    exact ⟨a1, _, k1, h1⟩

/-- A ship that is put together in the block R. -/
structure NS (W1 w : World) (R : Nat) (e f p : Int) (v : Value) (cs : List Cw) (l : List Cm.Cv) : Prop where
  blk : w.heap[R]? = some (.cells #[.int .i64 2, .int .i64 e, .int .u8 0, .int .i64 0, .slice none 0 0, .int .i64 f, .int .i64 p, v] 26 (0, 0))
  sh : ShS W1.heap.size w v cs
  is : cvs cs = l
  out : Out (fun g => g = R) W1 w
  lt : R < W1.heap.size

theorem NS.push {W1 w w6 : World} {R : Nat} {e f p : Int} {v : Value} {cs : List Cw} {l : List Cm.Cv} (h : NS W1 w R e f p v cs l) (hb : Below w.heap.size w w6) (c : Cw) (hc : OwnO 62 w.heap.size w6 c.v c.l) (hf : CFit c.e c.n c.l) (hl : cs.length ≤ 1000000) :
    ∃ V, w6.alloc (.cells #[.int .i64 c.e, .int .i64 c.n, c.v] 46) = V ∧ V.cell? ⟨R, 7, none⟩ = some v ∧ Hid (∀ ty, ∃ v2 w2, (Builtin.append_ #[24, 24] ty #[v, .slice (some ⟨w6.heap.size, 0, none⟩) 1 1]).run Try.prog V = .ok v2 w2 ∧
      ((∃ U, w2.setCell ⟨R, 7, none⟩ v2 = U ∧ NS W1 U R e f p v2 (cs ++ [c]) (l ++ [c.c])) ∧ w2.cell? ⟨R, 7, none⟩ = some v ∧ w2.frozen? ⟨R, 7, none⟩ = false ∧ ∃ a n k, v2 = .slice a n k)) := by
  obtain ⟨V, hV, belV, szV, hpu⟩ := h.sh.push h.out.size hb c hc hf hl
  have bwV : Below w.heap.size w V := hb.trans (belV.mono hb.size)
  have hBV := (bwV.block R (blk_lt h.blk)).trans h.blk
  refine ⟨V, hV, blk_cell hBV 7 rfl, hide fun ty => ?_⟩
  obtain ⟨v2, w2, hr, sh2, gr2, hsl⟩ := hpu ty
  have hvb : ∀ g, v.ownBlock = some g → W1.heap.size ≤ g := fun g hg => (World.ownsRow.lt h.sh.c g hg).1
  have hB2 := (gr2.block R (blk_lt hBV) fun e => by have := hvb R e.symm; have := h.lt; omega).trans hBV
  have hgU := grown_setCell w2 ⟨R, 7, none⟩ v2
  refine ⟨v2, w2, hr, ⟨⟨_, rfl, set_cells hB2 7 v2, ?_, ?_, ?_, h.lt⟩, blk_cell hB2 7 rfl, blk_froz hB2 7, hsl⟩⟩
  · exact sh2.out (F := fun g => g = R) (Out.of_grown hgU fun g hg => by simp at hg; exact hg.symm) (fun g hg => by rw [hg]; exact h.lt)
  · rw [← h.is]
    simp [cvs]
  · have o1 : Out (fun g => g = R) W1 V := h.out.trans (Out.of_below (F := fun _ => False) bwV) fun g hg => hg.elim
    have o2 : Out (fun g => g = R) W1 w2 := o1.trans (Out.of_grown (F := fun g => v.ownBlock = some g) gr2 fun g hg => hg) fun g hg => .inr (hvb g hg)
    exact o2.trans (Out.of_grown (F := fun g => g = R) hgU fun g hg => by simp at hg; exact hg.symm) fun g hg => .inl hg

theorem fit_shp {e f p : Int} {vc : Value} {cs : List Cw} (he : In64 e) (hf : In64 f) (hp : In64 p) (hc : FitC cs) (hl : cs.length ≤ 140737488355328) : FitM (sm2 e f p vc cs) := ⟨by simp [In64, sm2], he, by simp [sm2], by simp [sm2], by simp [In64, sm2], hf, hp, by simp [sm2], hc, hl⟩

end Go.Proofs.Ytabfihicdphjeaa
