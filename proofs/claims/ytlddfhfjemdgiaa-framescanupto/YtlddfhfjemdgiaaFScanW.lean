/- FrameScan: the walk. -/
import Derived.Test.YtlddfhfjemdgiaaFk
import Derived.Deep.CutRange
namespace Go.Proofs.Ytlddfhfjemdgiaa
open Go.RowKit Go.Shelf
set_option linter.unusedVariables false
attribute [local go_sem] Oper.semAt_some

theorem equalIn_fnil (w : World) (d : Nat) (f : Fn) (c l : Array Value) : (Op.equalIn (d + 1) 40 (.func f c l) .nilFunc).run Try.prog w = .ok false w := by
  have h := Try.underlying40
  simp [Op.equalIn, run_underlying h]

theorem Try.eqnilF (w : World) (f : Fn) (c l : Array Value) : (binOp .eql 40 (.func f c l) .nilFunc).run Try.prog w = .ok (.bool false) w := by
  simp only [binOp]
  simp [Op.equal, Op.maxDepth, equalIn_fnil w 9999 f c l]

set_option maxRecDepth 100000 in
set_option maxHeartbeats 16000000 in
theorem frameScan_walk (vb : Value) (bs : List Int) (stop : Int) (w : World) (hb : Is .u8 w vb bs) (hlb : bs.length ≤ 1048576) (hst : (Lit.int .i64 stop).wf = true) :
    Calls Try.prog 5 #[vb, .int .i64 stop] w fun E w' => E = .returned (.bool true) ∧ Below w.heap.size w w' := by
  have hi64 : -9223372036854775808 ≤ stop ∧ stop < 9223372036854775808 := by
    have := range_i64 (zs := [stop]) (by simpa using hst) 0
    simp at this
    exact ⟨by omega, by omega⟩
  obtain ⟨w1, hw1, sz1, b01, BR⟩ := blk_step w #[.bool false] 4
  have HB := hide (hb.below b01)
  have C1 := hide (lent_any vb bs w1 HB.out (by omega))
  obtain ⟨bo, bc, hvb, _, _⟩ := hb.shape
  have B01 := hide b01
  have BRES := hide BR
  have L1 : w.heap.size < w1.heap.size := by omega
  clear hb hst BR b01 sz1
  subst hvb
  refine (callsIn_wide (n := 6)).1 ?_
  refine callsIn_of_wp_marks Try.func5 rfl trivial ?_ rfl
  refine wpIn_wide.2 (calm_wp ?_)
  simp only [Try.ntmps5, List.size_toArray, List.length_cons, List.length_nil, Nat.reduceAdd, Nat.reduceSub, Array.replicate_succ, Array.replicate_zero, List.push_toArray, List.append_toArray, List.nil_append, List.cons_append]
  go_wp2_with fail
  refine C1.out.mono ?_
  rintro E w2 ⟨vf, rfl, own2, bel2⟩
  have OF := hide own2
  have FB : Hid (∀ g, vf.ownBlock = some g → g < w2.heap.size) := hide fun g hg => (own2.block g hg).2
  have S2 := bel2.size
  have BT : Hid (Below w1.heap.size w1 w2) := hide bel2
  obtain ⟨vs1, hsl1, is1⟩ := own2.is.slice_h Try.elemP Try.sizeP bs.length (by simp)
  rw [List.take_left] at is1
  have C2 := hide (scan_any vs1 bs w2 is1 (by omega))
  have IS1 := hide is1
  clear C1 own2 bel2 is1
  go_wp2_with fail
  refine C2.out.mono ?_
  rintro E w3 ⟨vl, r, rfl, ob3, bel3, SC⟩
  have OB := hide ob3
  have OBK : Hid (∀ c ∈ r, ∀ g, c.v.ownBlock = some g → w2.heap.size ≤ g ∧ g < w3.heap.size) := hide fun c hc g hg => (ob3.own c hc).block g hg
  have OBR : Hid (∀ g, vl.ownBlock = some g → w2.heap.size ≤ g ∧ g < w3.heap.size) := hide fun g hg => ob3.row.lt g hg
  have S3 := bel3.size
  replace BT := hide (BT.out.trans (bel3.mono S2))
  replace OF := hide (OF.out.below bel3)
  replace IS1 := hide (IS1.out.below bel3)
  have C3 := hide (scanR_any _ bs w3 (HB.out.below BT.out) (by omega))
  obtain ⟨g, hg⟩ : ∃ g, (Fm.cat (lsts r)).length = g := ⟨_, rfl⟩
  have HG := hide hg
  rw [hg]
  clear C2 ob3 bel3 hg
  go_wp2_with fail
  refine C3.out.mono ?_
  rintro E w4 ⟨vm, m, rfl, ob4, bel4, SC4⟩
  have hml := Fm.sc_one SC4.out SC.out
  have hgm : (Fm.cat (lsts m)).length = g := by rw [hml]; exact HG.out
  rw [hgm]
  have HML := hide hml
  have S4 := bel4.size
  obtain ⟨mo1, mc1, hvm, _, _⟩ := ob4.is.1.shape
  obtain ⟨W, hW, szW, belW, BW⟩ := blk_step w4 #[.slice none 0 0] 26
  have k0 : W.cell? ⟨w4.heap.size, 0, none⟩ = some (.slice none 0 0) := blk_cell BW 0 rfl
  have k1 := blk_froz BW 0
  obtain ⟨w5, hw5⟩ : ∃ x, W.setCell ⟨w4.heap.size, 0, none⟩ vm = x := ⟨_, rfl⟩
  have e5 : w5.heap[w4.heap.size]? = some (.cells #[vm] 26 (0, 0)) := by rw [← hw5, set_cells BW]; rfl
  have b45 : Below w4.heap.size w4 w5 := by rw [← hw5]; exact belW.setCell (p := ⟨w4.heap.size, 0, none⟩) (Nat.le_refl _) _
  have S5 : w4.heap.size < w5.heap.size := blk_lt e5
  have IM := hide (ob4.is.below b45)
  replace OB := hide ((OB.out.below bel4).below b45)
  replace OF := hide ((OF.out.below bel4).below b45)
  replace IS1 := hide ((IS1.out.below bel4).below b45)
  replace BT := hide (BT.out.trans ((bel4.trans (b45.mono S4)).mono (by omega)))
  have BL : Hid (Below w3.heap.size w3 w5) := hide (bel4.trans (b45.mono S4))
  have LM : Hid (∀ a ∈ m, a.l.length ≤ 131072) := hide (sc_lens SC4.out)
  have LR : Hid (∀ a ∈ r, a.l.length ≤ 131072) := hide (sc_lens SC.out)
  have nr : r.length ≤ 1048576 := by have := sc_gle SC.out; omega
  have nm : m.length = r.length := by have := congrArg List.length hml; rwa [lsts_len, lsts_len] at this
  have gb : g ≤ 1048576 := by have := (sc_gle SC.out).1; have := HG.out; omega
  have E5 := hide e5
  have NM := hide nm
  rw [nm] at hvm
  rw [hvm] at hw5
  subst hvm
  clear nm
  clear C3 ob4 bel4 b45 hml hgm BW belW e5 szW
  go_wp2_with fail
  refine (lives_any w5).mono ?_
  rintro E w6 ⟨rfl, bel6⟩
  have S6 := bel6.size
  have e6 := (bel6.block _ S5).trans E5.out
  have k6 := blk_cell e6 0 rfl
  have IM6 := IM.out.below bel6
  have OB6 := OB.out.below bel6
  have C6 := hide (records_any vl _ r m w6 OB6.is IM6 (fun a ha => by have := LR.out a ha; omega) (fun a ha => by have := LM.out a ha; omega) (by omega) (by rw [NM.out]; omega))
  rw [decide_eq_true HML.out.symm] at C6
  have E6 := hide e6
  have IMh := hide IM6
  have OBh := hide OB6
  replace OF := hide (OF.out.below bel6)
  replace IS1 := hide (IS1.out.below bel6)
  replace BT := hide (BT.out.trans (bel6.mono (by omega)))
  replace BL := hide (BL.out.trans (bel6.mono (by omega)))
  clear bel6 e6 IM6 OB6 E5 IM OB k0 k1 hW hw5
  go_wp2_with fail
  refine C6.out.mono ?_
  rintro E w7 ⟨rfl, q7, hw7⟩
  have b67 : Below w6.heap.size w6 w7 := by rw [hw7]; exact below_drewN (Below.refl _ _) q7
  have S7 := b67.size
  have E7 := hide ((b67.block _ (by omega)).trans E6.out)
  replace IMh := hide (IMh.out.below b67)
  replace OBh := hide (OBh.out.below b67)
  replace OF := hide (OF.out.below b67)
  replace IS1 := hide (IS1.out.below b67)
  replace BT := hide (BT.out.trans (b67.mono (by omega)))
  replace BL := hide (BL.out.trans (b67.mono (by omega)))
  have C7 := hide (placesR_any _ bs w7 (HB.out.below BT.out) (by omega))
  clear C6 hw7 b67 E6 k6
  go_wp2_with fail
  refine C7.out.mono ?_
  rintro E w8 ⟨vp, lp, rfl, own8, bel8, SC8⟩
  have hlp := Fm.sc_one SC8.out SC4.out
  rw [hlp] at own8
  have S8 := bel8.size
  obtain ⟨po, pc, hvp, _, _⟩ := own8.is.shape
  rw [places_len, NM.out] at hvp
  obtain ⟨X, hX, szX, belX, BX⟩ := blk_step w8 #[.slice none 0 0] 36
  have k0 : X.cell? ⟨w8.heap.size, 0, none⟩ = some (.slice none 0 0) := blk_cell BX 0 rfl
  have k1 := blk_froz BX 0
  obtain ⟨w9, hw9⟩ : ∃ x, X.setCell ⟨w8.heap.size, 0, none⟩ vp = x := ⟨_, rfl⟩
  have e9 : w9.heap[w8.heap.size]? = some (.cells #[vp] 36 (0, 0)) := by rw [← hw9, set_cells BX]; rfl
  have b89 : Below w8.heap.size w8 w9 := by rw [← hw9]; exact belX.setCell (p := ⟨w8.heap.size, 0, none⟩) (Nat.le_refl _) _
  have S9 : w8.heap.size < w9.heap.size := blk_lt e9
  have b79 : Below w7.heap.size w7 w9 := bel8.trans (b89.mono S8)
  have IP := hide (own8.is.below b89)
  have E9 := hide ((b79.block _ (by omega)).trans E7.out)
  have P9 := hide e9
  have k9 := blk_cell E9.out 0 rfl
  replace IMh := hide (IMh.out.below b79)
  replace OBh := hide (OBh.out.below b79)
  replace OF := hide (OF.out.below b79)
  replace IS1 := hide (IS1.out.below b79)
  replace BT := hide (BT.out.trans (b79.mono (by omega)))
  replace BL := hide (BL.out.trans (b79.mono (by omega)))
  have R9 := hide ((BT.out.block w.heap.size (by omega)).trans BRES.out)
  obtain ⟨Y, hY, szY, belY, BY⟩ := blk_step w9 #[.int .i64 0] 3
  have j0 : Y.cell? ⟨w9.heap.size, 0, none⟩ = some (.int .i64 0) := blk_cell BY 0 rfl
  have j1 := blk_froz BY 0
  obtain ⟨w10, hw10⟩ : ∃ x, Y.setCell ⟨w9.heap.size, 0, none⟩ (.int .i64 (r.length : Nat)) = x := ⟨_, rfl⟩
  have e10 : w10.heap[w9.heap.size]? = some (.cells #[.int .i64 (r.length : Nat)] 3 (0, 0)) := by rw [← hw10, set_cells BY]; rfl
  have b910 : Below w9.heap.size w9 w10 := by rw [← hw10]; exact belY.setCell (p := ⟨w9.heap.size, 0, none⟩) (Nat.le_refl _) _
  have c10 := blk_cell e10 0 rfl
  have f10 := blk_froz e10 0
  have S10 : w9.heap.size < w10.heap.size := blk_lt e10
  have B910 := hide b910
  have E10 := hide e10
  rw [hvp] at hw9
  subst hvp
  clear hlp SC8 C7 own8 bel8 BX belX szX BY belY szY b89 b79 b910 e9 e10
  by_cases hL : 0 < r.length
  · have hL' : (0 : Int) < (r.length : Int) := by omega
    have C10 := hide (pick_any stop (r.length : Int) w10 (by omega) (by omega) hi64.1 hi64.2)
    go_wp2_with fail
    refine C10.out.mono ?_
    rintro E w10' ⟨⟨p, hp, rfl⟩, rfl⟩
    have hmo : 1 ≤ 1 + p ∧ 1 + p ≤ r.length := by omega
    obtain ⟨mo, hmo2⟩ : ∃ mo, mo = 1 + p := ⟨_, rfl⟩
    have ew : IntKind.i64.wrap ((1 : Int) + (p : Int)) = (mo : Int) := by rw [wrap_i64_small _ (by omega) (by omega)]; omega
    obtain ⟨wX, hwX⟩ : ∃ x, w10.setCell ⟨w9.heap.size, 0, none⟩ (.int .i64 (mo : Nat)) = x := ⟨_, rfl⟩
    have eX : wX.heap[w9.heap.size]? = some (.cells #[.int .i64 (mo : Nat)] 3 (0, 0)) := by rw [← hwX, set_cells E10.out]; rfl
    have bX : Below w9.heap.size w9 wX := by rw [← hwX]; exact B910.out.setCell (p := ⟨w9.heap.size, 0, none⟩) (Nat.le_refl _) _
    have hm1 : 1 ≤ mo := by omega
    have hm2 : mo ≤ r.length := by omega
    clear hmo hmo2 C10 hp
    have SX : w9.heap.size < wX.heap.size := blk_lt eX
    have SF : Hid (ScF w.heap.size w4.heap.size w8.heap.size w9.heap.size wX m mo) := hide ⟨(bX.block _ (by omega)).trans R9.out, ⟨_, (bX.block _ (by omega)).trans E9.out, IMh.out.below bX⟩, ⟨_, (bX.block _ S9).trans P9.out, IP.out.below bX⟩, eX⟩
    have OB := hide (OBh.out.below bX)
    have C11 := hide (each_any vs1 bs wX (IS1.out.below bX) (by omega))
    replace OF := hide (OF.out.below bX)
    replace BT := hide (BT.out.trans (bX.mono (by omega)))
    replace BL := hide (BL.out.trans (bX.mono (by omega)))
    clear bX eX IMh IP OBh IS1 R9 E9 P9 B910 E10 E7
    go_wp2_with fail
    refine C11.out.mono ?_
    rintro E w12 ⟨B, rE, rfl, sq, b12, SCE⟩
    have hre : lsts rE = lsts m := Fm.sc_one SCE.out SC4.out
    have HRE := hide hre
    have NE : Hid (rE.length = m.length) := hide (by have := congrArg List.length hre; rwa [lsts_len, lsts_len] at this)
    have LE : Hid (∀ a ∈ rE, a.l.length ≤ 131072) := hide (sc_lens SCE.out)
    have HSEQ := hide (each_seq 5 (by omega) B wX.heap.size rE w12 sq (by have := sc_gle SCE.out; omega) LE.out)
    have SQL := hide sq.lt
    replace SF := hide (SF.out.below b12)
    replace OF := hide (OF.out.below b12)
    replace OB := hide (OB.out.below b12)
    have s12 := b12.size
    replace BT := hide (BT.out.trans (b12.mono (by omega)))
    replace BL := hide (BL.out.trans (b12.mono (by omega)))
    have BW0 : Hid (Below w12.heap.size w12 w12) := hide (Below.refl _ _)
    have hq := Try.eqnilF w12 (.func 32) #[] #[.pointer (some ⟨B, 0, none⟩)]
    clear C11 sq b12 hre SCE k9 c10 f10 k0 k1 j0 j1 hX hY hw9 hw10 hsl1
    go_wp2
    refine wp_loop_rounds 3 ?_
    refine rounds_cut fun R0 hR0 => ?_
    obtain ⟨V0, hV0, szV0, bV0, BV0⟩ := blk_step w12 #[.int .i64 0] 3
    have hs0 : V0.setCell ⟨w12.heap.size, 0, none⟩ (.int .i64 0) = V0 := set_same BV0 rfl
    have cV0 := blk_cell BV0 0 rfl
    have fV0 := blk_froz BV0 0
    have HBV0 := hide BV0
    have HbV0 := hide bV0
    have BWV0 : Hid (Below w12.heap.size w12 V0) := hide (BW0.out.trans (bV0.mono BW0.out.size))
    have sW0 := BW0.out.size
    clear BV0 bV0
    go_wp2_with fail
    refine (wpIn_wide (n := 6)).1 ?_
    apply wpIn_rangeG (by omega) (gf := 32) (lb := #[.pointer (some ⟨B, 0, none⟩)]) rfl (enters_of Try.func32 (by kernel_rfl) rfl) (encs := ydc rE) (G := YdG rE) (Kp := Kn (SeqEB B w12 rE)) (S := fun xs => xs.length = rE.length) (Sp := fun _ => True) (w0 := w12) HSEQ.out Kn.trans (kn_b (fun g hg => Nat.lt_of_lt_of_le (SQL.out g hg).2 BWV0.out.size)) BWV0.out (fun _ => rfl)
      (fun pre W => W.heap[w12.heap.size]? = some (.cells #[.int .i64 (pre.length : Nat)] 3 (0, 0)) ∧ Out (fun g => g = w12.heap.size) V0 W ∧ (pre.length < mo ∨ r.length = 0))
      (fun c pre W => c = .exit 2 ∧ W.heap[w12.heap.size]? = some (.cells #[.int .i64 (mo : Nat)] 3 (0, 0)) ∧ Out (fun g => g = w12.heap.size) V0 W)
      (fun s A B row hs hg hr => ⟨(hg.block _ (blk_lt hs.1) fun e => by have := (hr _ e.symm).1; omega).trans hs.1, hs.2.1.trans (Out.of_grown (F := fun g => row = some g) hg fun g h => h) (fun g h => .inr (hr g h).1), hs.2.2⟩)
      (fun c s A B row hs hg hr => ⟨hs.1, (hg.block _ (blk_lt hs.2.1) fun e => by have := (hr _ e.symm).1; omega).trans hs.2.1, hs.2.2.trans (Out.of_grown (F := fun g => row = some g) hg fun g h => h) fun g h => .inr (hr g h).1⟩)
      (fun pre x => ydG_own rE _ pre x) ⟨HBV0.out, Out.refl _ _, by show 0 < mo ∨ r.length = 0; omega⟩
    case hassign =>
      intro l0 x W K hK
      gi_wp2
      exact hK
    case hbody =>
      rintro l0 pre ⟨k, v⟩ W hl0 ⟨h8, hO, hlt⟩ ⟨hx0, a, ha0, isx0⟩
      have hx1 : k = pre.length := hx0
      have ha : rE[k]? = some a := ha0
      have isx : Is .u8 W v a.l := isx0
      clear hx0 ha0 isx0
      have hkE : k < rE.length := (List.getElem?_eq_some_iff.1 ha).1
      have hne := NE.out
      have hnm := NM.out
      have bWW : Below w12.heap.size w12 W := HbV0.out.trans (hO.below (fun g hg => by omega) (by omega))
      have bTW : Below w12.heap.size w12 W := BW0.out.trans (bWW.mono BW0.out.size)
      obtain ⟨_, ⟨vM, hM1, hM2⟩, ⟨vP, hP1, hP2⟩, fO⟩ := SF.out.below bTW
      obtain ⟨bm, om, cm, hvM, _, _, _, hcM⟩ := hM2.full (by omega)
      obtain ⟨bp, op, cp, hvP, _, _, _, hcP⟩ := hP2.full (by rw [places_len]; omega)
      rw [hnm] at hvM
      rw [places_len, hnm] at hvP
      obtain ⟨a', ha'⟩ : ∃ a', m[k]? = some a' := ⟨m[k]'(by omega), by rw [List.getElem?_eq_getElem]⟩
      have e1 := hcM k a' ha'
      have e2 := hcP k (by rw [places_len]; omega)
      rw [places_at (by omega)] at e2
      have hal : a'.l = a.l := by
        have h1 : (lsts m)[k]? = some a'.l := by unfold lsts; rw [List.getElem?_map, ha']; rfl
        have h2 : (lsts rE)[k]? = some a.l := by unfold lsts; rw [List.getElem?_map, ha]; rfl
        rw [HRE.out, h1] at h2
        exact Option.some.inj h2
      have hpk : plk m k = plk rE k := by unfold plk; rw [HRE.out]
      rw [hpk] at e2
      have isa' : Is .u8 W a'.v a.l := by rw [← hal]; exact hM2.2 a' (List.mem_of_getElem? ha')
      have C20 := hide (same_yes v a'.v a.l a.l W isx isa' (by have := LE.out a (List.mem_of_getElem? ha); omega) rfl)
      rw [← hx1] at h8 hlt
      have c8 := blk_cell h8 0 rfl
      have cM := blk_cell hM1 0 rfl
      have cP := blk_cell hP1 0 rfl
      rw [hvM] at cM
      rw [hvP] at cP
      have hk0 : (0 : Int) ≤ (k : Int) := by omega
      have hkl : (k : Int) < r.length := by omega
      have hge : ¬ (r.length : Int) ≤ (k : Int) := by omega
      have ew2 : IntKind.i64.wrap ((k : Int) + 1) = (k : Int) + 1 := wrap_i64_small _ (by omega) (by omega)
      have HX := hide hx1
      have H8 := hide h8
      have HO := hide hO
      have FO := hide fO
      have BTW := hide bTW
      dsimp only [ydc]
      generalize plk rE k = pk at *
      clear hcM hcP ha' ha hal hpk isa' isx hM1 hM2 hP1 hP2 hvM hvP hne hnm hx1 h8 hO fO bTW bWW
      gi_wp2_with fail
      refine ⟨trivial, ((callsIn_wide.2 C20.out).inRound _).mono ?_⟩
      rintro E W2 ⟨rfl, bel20⟩
      have h82 := (bel20.block _ (blk_lt H8.out)).trans H8.out
      have fO2 := (bel20.block _ (blk_lt FO.out)).trans FO.out
      have c82 := blk_cell h82 0 rfl
      have f82 := blk_froz h82 0
      obtain ⟨W3, hW3⟩ : ∃ x, W2.setCell ⟨w12.heap.size, 0, none⟩ (.int .i64 ((k : Int) + 1)) = x := ⟨_, rfl⟩
      have e83 : W3.heap[w12.heap.size]? = some (.cells #[.int .i64 ((k : Int) + 1)] 3 (0, 0)) := by rw [← hW3, set_cells h82]; rfl
      have fO3 : W3.heap[w9.heap.size]? = W2.heap[w9.heap.size]? := by rw [← hW3]; exact Below.heap_setCell _ _ _ _ (by show w9.heap.size ≠ w12.heap.size; omega)
      have c83 := blk_cell e83 0 rfl
      have c93 := blk_cell (fO3.trans fO2) 0 rfl
      have oW : Out (fun g => g = w12.heap.size) V0 W3 := by
        have o1 : Out (fun g => g = w12.heap.size) V0 W2 := HO.out.trans (Out.of_below (F := fun g => g = w12.heap.size) bel20) fun g hg => .inl hg
        rw [← hW3]
        exact o1.trans (Out.of_grown (F := fun g => g = w12.heap.size) (grown_setCell W2 ⟨w12.heap.size, 0, none⟩ _) fun g hg => by simp at hg; exact hg.symm) fun g hg => .inl hg
      have kf : KeepsFrom V0.heap.size W W3 := by
        rw [← hW3]
        exact ((ko_below bel20).trans (KeepsOthers.setCell _ _ _)).from _
      have kn : Kn (SeqEB B w12 rE) W W3 := fun g hg => by
        have hg2 := (SQL.out g hg).2
        have q1 : W3.heap[g]? = W2.heap[g]? := by rw [← hW3]; exact Below.heap_setCell _ _ _ _ (by show g ≠ w12.heap.size; omega)
        exact q1.trans (bel20.block g (Nat.lt_of_lt_of_le hg2 BTW.out.size))
      by_cases hend : k + 1 = mo
      · have hE : Hid (KeepsFrom V0.heap.size W W3 ∧ (W3.heap[w12.heap.size]? = some (.cells #[.int .i64 (mo : Nat)] 3 (0, 0)) ∧ Out (fun g => g = w12.heap.size) V0 W3)) := hide ⟨kf, by rw [e83, ← hend]; rfl, oW⟩
        have hjN : ((k : Int) + 1 == (mo : Int)) = true := by simp; omega
        clear C20 bel20 h82 fO2 e83 fO3 oW kf kn hend H8 HO FO
        gi_wp2
        exact ⟨hE.out.1, rfl, hE.out.2⟩
      · have hE : Hid (KeepsFrom V0.heap.size W W3 ∧ Kn (SeqEB B w12 rE) W W3 ∧ (W3.heap[w12.heap.size]? = some (.cells #[.int .i64 ((pre ++ [(k, v)]).length : Nat)] 3 (0, 0)) ∧ Out (fun g => g = w12.heap.size) V0 W3 ∧ ((pre ++ [(k, v)]).length < mo ∨ r.length = 0))) := hide (by
          have hl2 : (pre ++ [(k, v)]).length = k + 1 := by rw [List.length_append, ← HX.out]; rfl
          exact ⟨kf, kn, by rw [e83, hl2]; rfl, oW, by rw [hl2]; omega⟩)
        have hjN : ((k : Int) + 1 == (mo : Int)) = false := by simp; omega
        have hjN2 : ¬ (k : Int) + 1 = (mo : Int) := by omega
        clear C20 bel20 h82 fO2 e83 fO3 oW kf kn hend H8 HO FO
        gi_wp2
        exact hE.out
    case hdone =>
      rintro D xs W hD hxs ⟨h8, hO, hlt⟩ hK
      have hne := NE.out
      have hnm := NM.out
      exfalso
      omega
    case hstop =>
      rintro D0 c pre W1 hD _ ⟨rfl, h8, hO⟩ hK
      refine wpIn_wide.2 ?_
      have bWW : Below w12.heap.size w12 W1 := HbV0.out.trans (hO.below (fun g hg => by omega) (by omega))
      have BR0 := hide bWW
      have BW1 : Hid (Below w12.heap.size w12 W1) := hide (BW0.out.trans (bWW.mono BW0.out.size))
      have SFW := SF.out.below BW1.out
      have c8 := blk_cell h8 0 rfl
      have cO := blk_cell SFW.most 0 rfl
      have DK0 := hide hK
      have DL0 : Hid (w12.heap.size < D0) := hide (by omega)
      clear hK h8 hO bWW SFW cV0 fV0 hs0 hV0
      go_wp2
      refine hide ?_
      refine rounds_cut fun R1 hR1 => ?_
      clear c8 cO
      obtain ⟨V1, hV1, szV1, bV1, BV1⟩ := blk_step W1 #[.int .i64 0] 3
      have hs1 : V1.setCell ⟨W1.heap.size, 0, none⟩ (.int .i64 0) = V1 := set_same BV1 rfl
      have cV1 := blk_cell BV1 0 rfl
      have fV1 := blk_froz BV1 0
      have HBV1 := hide BV1
      have HbV1 := hide bV1
      have BWV1 : Hid (Below w12.heap.size w12 V1) := hide (BW1.out.trans (bV1.mono BW1.out.size))
      have sW1 := BW1.out.size
      clear BV1 bV1
      go_wp2_with fail
      refine (wpIn_wide (n := 6)).1 ?_
      apply wpIn_rangeG (by omega) (gf := 32) (lb := #[.pointer (some ⟨B, 0, none⟩)]) rfl (enters_of Try.func32 (by kernel_rfl) rfl) (encs := ydc rE) (G := YdG rE) (Kp := Kn (SeqEB B w12 rE)) (S := fun xs => xs.length = rE.length) (Sp := fun _ => True) (w0 := w12) HSEQ.out Kn.trans (kn_b (fun g hg => Nat.lt_of_lt_of_le (SQL.out g hg).2 BWV1.out.size)) BWV1.out (fun _ => rfl)
        (fun pre W => W.heap[W1.heap.size]? = some (.cells #[.int .i64 (pre.length : Nat)] 3 (0, 0)) ∧ Out (fun g => g = W1.heap.size) V1 W ∧ (pre.length < mo ∨ r.length = 0))
        (fun c pre W => c = .exit 2 ∧ W.heap[W1.heap.size]? = some (.cells #[.int .i64 (mo : Nat)] 3 (0, 0)) ∧ Out (fun g => g = W1.heap.size) V1 W)
        (fun s A B row hs hg hr => ⟨(hg.block _ (blk_lt hs.1) fun e => by have := (hr _ e.symm).1; omega).trans hs.1, hs.2.1.trans (Out.of_grown (F := fun g => row = some g) hg fun g h => h) (fun g h => .inr (hr g h).1), hs.2.2⟩)
        (fun c s A B row hs hg hr => ⟨hs.1, (hg.block _ (blk_lt hs.2.1) fun e => by have := (hr _ e.symm).1; omega).trans hs.2.1, hs.2.2.trans (Out.of_grown (F := fun g => row = some g) hg fun g h => h) fun g h => .inr (hr g h).1⟩)
        (fun pre x => ydG_own rE _ pre x) ⟨HBV1.out, Out.refl _ _, by show 0 < mo ∨ r.length = 0; omega⟩
      case hassign =>
        intro l0 x W K hK
        gi_wp2
        exact hK
      case hbody =>
        rintro l0 pre ⟨k, v⟩ W hl0 ⟨h8, hO, hlt⟩ ⟨hx0, a, ha0, isx0⟩
        have hx1 : k = pre.length := hx0
        have ha : rE[k]? = some a := ha0
        have isx : Is .u8 W v a.l := isx0
        clear hx0 ha0 isx0
        have hkE : k < rE.length := (List.getElem?_eq_some_iff.1 ha).1
        have hne := NE.out
        have hnm := NM.out
        have bWW : Below W1.heap.size W1 W := HbV1.out.trans (hO.below (fun g hg => by omega) (by omega))
        have bTW : Below w12.heap.size w12 W := BW1.out.trans (bWW.mono BW1.out.size)
        obtain ⟨_, ⟨vM, hM1, hM2⟩, ⟨vP, hP1, hP2⟩, fO⟩ := SF.out.below bTW
        obtain ⟨bm, om, cm, hvM, _, _, _, hcM⟩ := hM2.full (by omega)
        obtain ⟨bp, op, cp, hvP, _, _, _, hcP⟩ := hP2.full (by rw [places_len]; omega)
        rw [hnm] at hvM
        rw [places_len, hnm] at hvP
        obtain ⟨a', ha'⟩ : ∃ a', m[k]? = some a' := ⟨m[k]'(by omega), by rw [List.getElem?_eq_getElem]⟩
        have e1 := hcM k a' ha'
        have e2 := hcP k (by rw [places_len]; omega)
        rw [places_at (by omega)] at e2
        have hal : a'.l = a.l := by
          have h1 : (lsts m)[k]? = some a'.l := by unfold lsts; rw [List.getElem?_map, ha']; rfl
          have h2 : (lsts rE)[k]? = some a.l := by unfold lsts; rw [List.getElem?_map, ha]; rfl
          rw [HRE.out, h1] at h2
          exact Option.some.inj h2
        have hpk : plk m k = plk rE k := by unfold plk; rw [HRE.out]
        rw [hpk] at e2
        have isa' : Is .u8 W a'.v a.l := by rw [← hal]; exact hM2.2 a' (List.mem_of_getElem? ha')
        have C20 := hide (same_yes v a'.v a.l a.l W isx isa' (by have := LE.out a (List.mem_of_getElem? ha); omega) rfl)
        rw [← hx1] at h8 hlt
        have c8 := blk_cell h8 0 rfl
        have cM := blk_cell hM1 0 rfl
        have cP := blk_cell hP1 0 rfl
        rw [hvM] at cM
        rw [hvP] at cP
        have hk0 : (0 : Int) ≤ (k : Int) := by omega
        have hkl : (k : Int) < r.length := by omega
        have hge : ¬ (r.length : Int) ≤ (k : Int) := by omega
        have ew2 : IntKind.i64.wrap ((k : Int) + 1) = (k : Int) + 1 := wrap_i64_small _ (by omega) (by omega)
        have HX := hide hx1
        have H8 := hide h8
        have HO := hide hO
        have FO := hide fO
        have BTW := hide bTW
        dsimp only [ydc]
        generalize plk rE k = pk at *
        clear hcM hcP ha' ha hal hpk isa' isx hM1 hM2 hP1 hP2 hvM hvP hne hnm hx1 h8 hO fO bTW bWW
        gi_wp2_with fail
        refine ⟨trivial, ((callsIn_wide.2 C20.out).inRound _).mono ?_⟩
        rintro E W2 ⟨rfl, bel20⟩
        have h82 := (bel20.block _ (blk_lt H8.out)).trans H8.out
        have fO2 := (bel20.block _ (blk_lt FO.out)).trans FO.out
        have c82 := blk_cell h82 0 rfl
        have f82 := blk_froz h82 0
        obtain ⟨W3, hW3⟩ : ∃ x, W2.setCell ⟨W1.heap.size, 0, none⟩ (.int .i64 ((k : Int) + 1)) = x := ⟨_, rfl⟩
        have e83 : W3.heap[W1.heap.size]? = some (.cells #[.int .i64 ((k : Int) + 1)] 3 (0, 0)) := by rw [← hW3, set_cells h82]; rfl
        have fO3 : W3.heap[w9.heap.size]? = W2.heap[w9.heap.size]? := by rw [← hW3]; exact Below.heap_setCell _ _ _ _ (by show w9.heap.size ≠ W1.heap.size; omega)
        have c83 := blk_cell e83 0 rfl
        have c93 := blk_cell (fO3.trans fO2) 0 rfl
        have oW : Out (fun g => g = W1.heap.size) V1 W3 := by
          have o1 : Out (fun g => g = W1.heap.size) V1 W2 := HO.out.trans (Out.of_below (F := fun g => g = W1.heap.size) bel20) fun g hg => .inl hg
          rw [← hW3]
          exact o1.trans (Out.of_grown (F := fun g => g = W1.heap.size) (grown_setCell W2 ⟨W1.heap.size, 0, none⟩ _) fun g hg => by simp at hg; exact hg.symm) fun g hg => .inl hg
        have kf : KeepsFrom V1.heap.size W W3 := by
          rw [← hW3]
          exact ((ko_below bel20).trans (KeepsOthers.setCell _ _ _)).from _
        have kn : Kn (SeqEB B w12 rE) W W3 := fun g hg => by
          have hg2 := (SQL.out g hg).2
          have q1 : W3.heap[g]? = W2.heap[g]? := by rw [← hW3]; exact Below.heap_setCell _ _ _ _ (by show g ≠ W1.heap.size; omega)
          exact q1.trans (bel20.block g (Nat.lt_of_lt_of_le hg2 BTW.out.size))
        by_cases hend : k + 1 = mo
        · have hE : Hid (KeepsFrom V1.heap.size W W3 ∧ (W3.heap[W1.heap.size]? = some (.cells #[.int .i64 (mo : Nat)] 3 (0, 0)) ∧ Out (fun g => g = W1.heap.size) V1 W3)) := hide ⟨kf, by rw [e83, ← hend]; rfl, oW⟩
          have hjN : ((k : Int) + 1 == (mo : Int)) = true := by simp; omega
          clear C20 bel20 h82 fO2 e83 fO3 oW kf kn hend H8 HO FO
          gi_wp2
          exact ⟨hE.out.1, rfl, hE.out.2⟩
        · have hE : Hid (KeepsFrom V1.heap.size W W3 ∧ Kn (SeqEB B w12 rE) W W3 ∧ (W3.heap[W1.heap.size]? = some (.cells #[.int .i64 ((pre ++ [(k, v)]).length : Nat)] 3 (0, 0)) ∧ Out (fun g => g = W1.heap.size) V1 W3 ∧ ((pre ++ [(k, v)]).length < mo ∨ r.length = 0))) := hide (by
            have hl2 : (pre ++ [(k, v)]).length = k + 1 := by rw [List.length_append, ← HX.out]; rfl
            exact ⟨kf, kn, by rw [e83, hl2]; rfl, oW, by rw [hl2]; omega⟩)
          have hjN : ((k : Int) + 1 == (mo : Int)) = false := by simp; omega
          have hjN2 : ¬ (k : Int) + 1 = (mo : Int) := by omega
          clear C20 bel20 h82 fO2 e83 fO3 oW kf kn hend H8 HO FO
          gi_wp2
          exact hE.out
      case hdone =>
        rintro D xs W hD hxs ⟨h8, hO, hlt⟩ hK
        have hne := NE.out
        have hnm := NM.out
        exfalso
        omega
      case hstop =>
        rintro D1 c pre W2 hD _ ⟨rfl, h8, hO⟩ hK
        refine wpIn_wide.2 ?_
        have bWW : Below W1.heap.size W1 W2 := HbV1.out.trans (hO.below (fun g hg => by omega) (by omega))
        have BR1 := hide bWW
        have BW2 : Hid (Below w12.heap.size w12 W2) := hide (BW1.out.trans (bWW.mono BW1.out.size))
        have SFW := SF.out.below BW2.out
        have c8 := blk_cell h8 0 rfl
        have cO := blk_cell SFW.most 0 rfl
        have DK1 := hide hK
        have DL1 : Hid (W1.heap.size < D1) := hide (by omega)
        clear hK h8 hO bWW SFW cV1 fV1 hs1 hV1
        go_wp2
        refine hide ?_
        refine rounds_cut fun R2 hR2 => ?_
        clear c8 cO
        have BTt : Below w1.heap.size w1 W2 := BT.out.trans (BW2.out.mono (by omega))
        have OFt := OF.out.below BW2.out
        have OBt := OB.out.below BW2.out
        have C30 := hide (kept_yes vf _ bs _ W2 OFt.is (HB.out.below BTt) (by omega) rfl)
        have sW2 := BW2.out.size
        clear OFt OBt BTt
        go_wp2_with fail
        refine C30.out.mono ?_
        rintro E w30 ⟨rfl, b30⟩
        have B30 : Hid (Below w12.heap.size w12 w30) := hide (BW2.out.trans (b30.mono BW2.out.size))
        have s30 := b30.size
        obtain ⟨w31, hw31, sz31, bel31, rown⟩ := rows_step bwc 1 bwc_len 22 w30 #[vf] 1 [⟨vf, bs ++ [201, 202, 203]⟩] rfl rfl (by unfold maxLen; omega)
        have b31 : Below w12.heap.size w12 w31 := B30.out.trans (bel31.mono B30.out.size)
        have OF31 := OF.out.below b31
        have OB31 := (OB.out.below b31).rebase (show w1.heap.size ≤ w2.heap.size by omega)
        obtain ⟨fo, fc, hvf, _, _⟩ := OF31.is.shape
        have lf3 : (bs ++ [201, 202, 203]).length = bs.length + 3 := by simp
        rw [lf3] at hvf
        have hone := bwc_one [⟨vf, bs ++ [201, 202, 203]⟩] (fun a ha => by simp at ha; subst ha; exact ⟨_, _, _, hvf⟩)
        have XA := hide (fun ty => run_append_rows_at (P := Try.prog) (w := w31) 26 ty bwc 1 24 bwc_len (by decide) (by decide) (.slice none 0 0) rfl 22 w1.heap.size Try.underlying26 Try.info22 vl r OB31.row _ [⟨vf, bs ++ [201, 202, 203]⟩] rown.row hone (by simp; omega) (by omega))
        have O31 := hide OB31
        have F31 := hide OF31
        have B31 := hide b31
        have H30 := hide b30
        have H31 := hide bel31
        rw [hvf] at XA hw31
        have HVF := hide hvf
        clear C30 b30 b31 bel31 rown hone OB31 OF31 lf3
        subst hvf
        go_wp2_with (at_builtin; refine wpList_append_atG (by rfl) (.tmp 102) (.tmp 104) 26 rfl _ _ rfl rfl XA.out ?_)
        intro v32 w32 own32 gr32 _
        have FB2 := FB.out
        have OB32 := O31.out.push F31.out (fun c hc g hg e => by have h1 := (OBK.out c hc g hg).1; have h2 := FB2 g e; omega) own32 gr32
        obtain ⟨bl, cl, hv32, hcl, hLs⟩ := OB32.lists (by simp) (fun a ha => by
          rcases List.mem_append.1 ha with ha | ha
          · have := LR.out a ha; omega
          · simp at ha; subst ha; show (bs ++ [201, 202, 203]).length ≤ _; simp; omega)
        have ln : (r ++ [(⟨Value.slice fo (bs.length + 3) fc, bs ++ [201, 202, 203]⟩ : Bw)]).length = r.length + 1 := by simp
        have s32 := gr32.size
        have C32 := hide (apart_keeps _ bl cl w1.heap.size _ _ w32 (by rw [ln]; omega) hcl (by omega) hLs (by rw [ln]; omega))
        rw [ln] at C32 hv32
        have KD : Hid (∀ D, w3.heap.size ≤ D → D < w30.heap.size → w32.heap[D]? = w30.heap[D]?) := hide fun D h1 h2 => by
          refine (gr32.block D (by have := H31.out.size; omega) fun e => ?_).trans (H31.out.block D h2)
          have := (OBR.out D e.symm).2
          omega
        have HLS := hide hLs
        have NK : Hid (∀ D, w3.heap.size ≤ D → ∀ i, i < (r ++ [(⟨Value.slice fo (bs.length + 3) fc, bs ++ [201, 202, 203]⟩ : Bw)]).length → (((r ++ [(⟨Value.slice fo (bs.length + 3) fc, bs ++ [201, 202, 203]⟩ : Bw)]).map Bw.v).getD i (.slice none 0 0)).ownBlock ≠ some D) := hide fun D hD i _ => getD_own (fun a ha e => by
          rcases List.mem_append.1 ha with ha | ha
          · have := (OBK.out a ha D e).2; omega
          · simp at ha; subst ha; have := FB2 D e; omega) i
        have B132 : Hid (Below w1.heap.size w1 w32) := hide ((BT.out.trans (B31.out.mono (by omega))).grown gr32 (by omega) fun k hk => by have := (OBR.out k hk).1; omega)
        rw [ln] at NK
        subst hv32
        clear own32 gr32 OB32 hLs HLS XA hw31 O31 F31 FB2 hcl ln
        go_wp2_with fail
        refine C32.out.mono ?_
        rintro E w33 ⟨rfl, b33, keep33⟩
        have s33 := b33.size
        have d0l := DL0.out
        have d1l := DL1.out
        have lD1 := (Array.getElem?_eq_some_iff.1 DK1.out).1
        have lD0 := (Array.getElem?_eq_some_iff.1 DK0.out).1
        have kW := BR1.out.size
        have sw1 := BR0.out.size
        have kd : ∀ D, w12.heap.size ≤ D → D < w30.heap.size → w33.heap[D]? = w30.heap[D]? := fun D h1 h2 => (keep33 D (by omega) (NK.out D (by omega))).trans (KD.out D (by omega) h2)
        have k1 : w33.heap[D1]? = some (.deferred (some [])) := (kd D1 (by omega) (by omega)).trans ((H30.out.block D1 lD1).trans DK1.out)
        have k0 : w33.heap[D0]? = some (.deferred (some [])) := (kd D0 (by omega) (by omega)).trans ((H30.out.block D0 (by omega)).trans ((BR1.out.block D0 lD0).trans DK0.out))
        have hne : D0 ≠ D1 := by omega
        have B33 : Below w1.heap.size w1 w33 := B132.out.trans b33
        have r33 := (B33.block w.heap.size L1).trans BRES.out
        have e33 := blk_cell r33 0 rfl
        have f33 := blk_froz r33 0
        have BZ : Hid (Below w.heap.size w w33) := hide (B01.out.trans (B33.mono (by omega)))
        have K0 := hide k0
        have K1 := hide k1
        have R33 := hide r33
        have lz0 := (Array.getElem?_eq_some_iff.1 k0).1
        have lz1 := (Array.getElem?_eq_some_iff.1 k1).1
        clear C32 b33 keep33 kd k0 k1 r33 B33 NK KD
        go_wp2
        have t1 : (w33.setCell ⟨w.heap.size, 0, none⟩ (.bool true)).heap[D1]? = some (.deferred (some [])) := (Below.heap_setCell w33 ⟨w.heap.size, 0, none⟩ _ D1 (by show D1 ≠ w.heap.size; omega)).trans K1.out
        have t0 : ((w33.setCell ⟨w.heap.size, 0, none⟩ (.bool true)).putObj D1 (.deferred none)).heap[D0]? = some (.deferred (some [])) := (World.putObj_heap_other hne).trans ((Below.heap_setCell w33 ⟨w.heap.size, 0, none⟩ _ D0 (by show D0 ≠ w.heap.size; omega)).trans K0.out)
        refine ⟨by simp, .inl ⟨_, _, rfl, run_takeDeferred t1, ?_⟩⟩
        refine ⟨by simp, .inl ⟨_, _, rfl, run_takeDeferred t0, ?_⟩⟩
        have g1 := grown_setCell w33 ⟨w.heap.size, 0, none⟩ (.bool true)
        have g2 := grownBy_putObj' (w33.setCell ⟨w.heap.size, 0, none⟩ (.bool true)) D1 (.deferred none)
        have g3 := grownBy_putObj' ((w33.setCell ⟨w.heap.size, 0, none⟩ (.bool true)).putObj D1 (.deferred none)) D0 (.deferred none)
        have c9 := set_cells R33.out 0 (.bool true)
        have zz := BZ.out.size
        have s1' := g1.size
        have s2' := g2.size
        have rl := blk_lt R33.out
        have q9 := (g2.block w.heap.size (by omega) (by simp; omega)).trans c9
        have p9 := (g3.block w.heap.size (by omega) (by simp; omega)).trans q9
        have u9 := blk_cell p9 0 rfl
        refine ⟨.bool true, ?_, rfl, ?_⟩
        · simp [results, Try.results5, go_sem, u9]
        · exact ((BZ.out.grown g1 zz fun k e => by simp at e; omega).grown g2 (by omega) fun k e => by simp at e; omega).grown g3 (by omega) fun k e => by simp at e; omega
  · have hL0 : r.length ≤ 0 := by omega
    have hL' : ¬ (0 : Int) < (r.length : Int) := by omega
    obtain ⟨wX, hwX⟩ : ∃ x, w10 = x := ⟨_, rfl⟩
    have eX := E10.out
    have bX := B910.out
    rw [hwX] at eX bX hw10 c10 f10
    rw [hwX] at B910 E10
    clear hL
    have SX : w9.heap.size < wX.heap.size := blk_lt eX
    have SF : Hid (ScF w.heap.size w4.heap.size w8.heap.size w9.heap.size wX m r.length) := hide ⟨(bX.block _ (by omega)).trans R9.out, ⟨_, (bX.block _ (by omega)).trans E9.out, IMh.out.below bX⟩, ⟨_, (bX.block _ S9).trans P9.out, IP.out.below bX⟩, eX⟩
    have OB := hide (OBh.out.below bX)
    have C11 := hide (each_any vs1 bs wX (IS1.out.below bX) (by omega))
    replace OF := hide (OF.out.below bX)
    replace BT := hide (BT.out.trans (bX.mono (by omega)))
    replace BL := hide (BL.out.trans (bX.mono (by omega)))
    clear bX eX IMh IP OBh IS1 R9 E9 P9 B910 E10 E7
    go_wp2_with fail
    refine C11.out.mono ?_
    rintro E w12 ⟨B, rE, rfl, sq, b12, SCE⟩
    have hre : lsts rE = lsts m := Fm.sc_one SCE.out SC4.out
    have HRE := hide hre
    have NE : Hid (rE.length = m.length) := hide (by have := congrArg List.length hre; rwa [lsts_len, lsts_len] at this)
    have LE : Hid (∀ a ∈ rE, a.l.length ≤ 131072) := hide (sc_lens SCE.out)
    have HSEQ := hide (each_seq 5 (by omega) B wX.heap.size rE w12 sq (by have := sc_gle SCE.out; omega) LE.out)
    have SQL := hide sq.lt
    replace SF := hide (SF.out.below b12)
    replace OF := hide (OF.out.below b12)
    replace OB := hide (OB.out.below b12)
    have s12 := b12.size
    replace BT := hide (BT.out.trans (b12.mono (by omega)))
    replace BL := hide (BL.out.trans (b12.mono (by omega)))
    have BW0 : Hid (Below w12.heap.size w12 w12) := hide (Below.refl _ _)
    have hq := Try.eqnilF w12 (.func 32) #[] #[.pointer (some ⟨B, 0, none⟩)]
    clear C11 sq b12 hre SCE k9 c10 f10 k0 k1 j0 j1 hX hY hw9 hw10 hsl1
    go_wp2
    refine wp_loop_rounds 3 ?_
    refine rounds_cut fun R0 hR0 => ?_
    obtain ⟨V0, hV0, szV0, bV0, BV0⟩ := blk_step w12 #[.int .i64 0] 3
    have hs0 : V0.setCell ⟨w12.heap.size, 0, none⟩ (.int .i64 0) = V0 := set_same BV0 rfl
    have cV0 := blk_cell BV0 0 rfl
    have fV0 := blk_froz BV0 0
    have HBV0 := hide BV0
    have HbV0 := hide bV0
    have BWV0 : Hid (Below w12.heap.size w12 V0) := hide (BW0.out.trans (bV0.mono BW0.out.size))
    have sW0 := BW0.out.size
    clear BV0 bV0
    go_wp2_with fail
    refine (wpIn_wide (n := 6)).1 ?_
    apply wpIn_rangeG (by omega) (gf := 32) (lb := #[.pointer (some ⟨B, 0, none⟩)]) rfl (enters_of Try.func32 (by kernel_rfl) rfl) (encs := ydc rE) (G := YdG rE) (Kp := Kn (SeqEB B w12 rE)) (S := fun xs => xs.length = rE.length) (Sp := fun _ => True) (w0 := w12) HSEQ.out Kn.trans (kn_b (fun g hg => Nat.lt_of_lt_of_le (SQL.out g hg).2 BWV0.out.size)) BWV0.out (fun _ => rfl)
      (fun pre W => W.heap[w12.heap.size]? = some (.cells #[.int .i64 (pre.length : Nat)] 3 (0, 0)) ∧ Out (fun g => g = w12.heap.size) V0 W ∧ (pre.length < r.length ∨ r.length = 0))
      (fun c pre W => False)
      (fun s A B row hs hg hr => ⟨(hg.block _ (blk_lt hs.1) fun e => by have := (hr _ e.symm).1; omega).trans hs.1, hs.2.1.trans (Out.of_grown (F := fun g => row = some g) hg fun g h => h) (fun g h => .inr (hr g h).1), hs.2.2⟩)
      (fun c s A B row hs hg hr => hs)
      (fun pre x => ydG_own rE _ pre x) ⟨HBV0.out, Out.refl _ _, by show 0 < r.length ∨ r.length = 0; omega⟩
    case hassign =>
      intro l0 x W K hK
      gi_wp2
      exact hK
    case hbody =>
      rintro l0 pre ⟨k, v⟩ W hl0 ⟨h8, hO, hlt⟩ ⟨hx0, a, ha0, isx0⟩
      have hx1 : k = pre.length := hx0
      have ha : rE[k]? = some a := ha0
      have isx : Is .u8 W v a.l := isx0
      clear hx0 ha0 isx0
      have hkE : k < rE.length := (List.getElem?_eq_some_iff.1 ha).1
      have hne := NE.out
      have hnm := NM.out
      exfalso
      omega
    case hstop =>
      rintro D c pre W hD _ h hK
      exact h.elim
    case hdone =>
      rintro D0 xs W1 hD hxs ⟨h8, hO, hlt⟩ hK
      have hxl : xs.length = r.length := by have := NE.out; have := NM.out; omega
      rw [hxl] at h8
      clear hxl hxs hlt
      have bWW : Below w12.heap.size w12 W1 := HbV0.out.trans (hO.below (fun g hg => by omega) (by omega))
      have BR0 := hide bWW
      have BW1 : Hid (Below w12.heap.size w12 W1) := hide (BW0.out.trans (bWW.mono BW0.out.size))
      have SFW := SF.out.below BW1.out
      have c8 := blk_cell h8 0 rfl
      have cO := blk_cell SFW.most 0 rfl
      have DK0 := hide hK
      have DL0 : Hid (w12.heap.size < D0) := hide (by omega)
      clear hK h8 hO bWW SFW cV0 fV0 hs0 hV0
      go_wp2
      refine hide ?_
      refine rounds_cut fun R1 hR1 => ?_
      clear c8 cO
      obtain ⟨V1, hV1, szV1, bV1, BV1⟩ := blk_step W1 #[.int .i64 0] 3
      have hs1 : V1.setCell ⟨W1.heap.size, 0, none⟩ (.int .i64 0) = V1 := set_same BV1 rfl
      have cV1 := blk_cell BV1 0 rfl
      have fV1 := blk_froz BV1 0
      have HBV1 := hide BV1
      have HbV1 := hide bV1
      have BWV1 : Hid (Below w12.heap.size w12 V1) := hide (BW1.out.trans (bV1.mono BW1.out.size))
      have sW1 := BW1.out.size
      clear BV1 bV1
      go_wp2_with fail
      refine (wpIn_wide (n := 6)).1 ?_
      apply wpIn_rangeG (by omega) (gf := 32) (lb := #[.pointer (some ⟨B, 0, none⟩)]) rfl (enters_of Try.func32 (by kernel_rfl) rfl) (encs := ydc rE) (G := YdG rE) (Kp := Kn (SeqEB B w12 rE)) (S := fun xs => xs.length = rE.length) (Sp := fun _ => True) (w0 := w12) HSEQ.out Kn.trans (kn_b (fun g hg => Nat.lt_of_lt_of_le (SQL.out g hg).2 BWV1.out.size)) BWV1.out (fun _ => rfl)
        (fun pre W => W.heap[W1.heap.size]? = some (.cells #[.int .i64 (pre.length : Nat)] 3 (0, 0)) ∧ Out (fun g => g = W1.heap.size) V1 W ∧ (pre.length < r.length ∨ r.length = 0))
        (fun c pre W => False)
        (fun s A B row hs hg hr => ⟨(hg.block _ (blk_lt hs.1) fun e => by have := (hr _ e.symm).1; omega).trans hs.1, hs.2.1.trans (Out.of_grown (F := fun g => row = some g) hg fun g h => h) (fun g h => .inr (hr g h).1), hs.2.2⟩)
        (fun c s A B row hs hg hr => hs)
        (fun pre x => ydG_own rE _ pre x) ⟨HBV1.out, Out.refl _ _, by show 0 < r.length ∨ r.length = 0; omega⟩
      case hassign =>
        intro l0 x W K hK
        gi_wp2
        exact hK
      case hbody =>
        rintro l0 pre ⟨k, v⟩ W hl0 ⟨h8, hO, hlt⟩ ⟨hx0, a, ha0, isx0⟩
        have hx1 : k = pre.length := hx0
        have ha : rE[k]? = some a := ha0
        have isx : Is .u8 W v a.l := isx0
        clear hx0 ha0 isx0
        have hkE : k < rE.length := (List.getElem?_eq_some_iff.1 ha).1
        have hne := NE.out
        have hnm := NM.out
        exfalso
        omega
      case hstop =>
        rintro D c pre W hD _ h hK
        exact h.elim
      case hdone =>
        rintro D1 xs W2 hD hxs ⟨h8, hO, hlt⟩ hK
        have hxl : xs.length = r.length := by have := NE.out; have := NM.out; omega
        rw [hxl] at h8
        clear hxl hxs hlt
        have bWW : Below W1.heap.size W1 W2 := HbV1.out.trans (hO.below (fun g hg => by omega) (by omega))
        have BR1 := hide bWW
        have BW2 : Hid (Below w12.heap.size w12 W2) := hide (BW1.out.trans (bWW.mono BW1.out.size))
        have SFW := SF.out.below BW2.out
        have c8 := blk_cell h8 0 rfl
        have cO := blk_cell SFW.most 0 rfl
        have DK1 := hide hK
        have DL1 : Hid (W1.heap.size < D1) := hide (by omega)
        clear hK h8 hO bWW SFW cV1 fV1 hs1 hV1
        go_wp2
        refine hide ?_
        refine rounds_cut fun R2 hR2 => ?_
        clear c8 cO
        have BTt : Below w1.heap.size w1 W2 := BT.out.trans (BW2.out.mono (by omega))
        have OFt := OF.out.below BW2.out
        have OBt := OB.out.below BW2.out
        have C30 := hide (kept_yes vf _ bs _ W2 OFt.is (HB.out.below BTt) (by omega) rfl)
        have sW2 := BW2.out.size
        clear OFt OBt BTt
        go_wp2_with fail
        refine C30.out.mono ?_
        rintro E w30 ⟨rfl, b30⟩
        have B30 : Hid (Below w12.heap.size w12 w30) := hide (BW2.out.trans (b30.mono BW2.out.size))
        have s30 := b30.size
        obtain ⟨w31, hw31, sz31, bel31, rown⟩ := rows_step bwc 1 bwc_len 22 w30 #[vf] 1 [⟨vf, bs ++ [201, 202, 203]⟩] rfl rfl (by unfold maxLen; omega)
        have b31 : Below w12.heap.size w12 w31 := B30.out.trans (bel31.mono B30.out.size)
        have OF31 := OF.out.below b31
        have OB31 := (OB.out.below b31).rebase (show w1.heap.size ≤ w2.heap.size by omega)
        obtain ⟨fo, fc, hvf, _, _⟩ := OF31.is.shape
        have lf3 : (bs ++ [201, 202, 203]).length = bs.length + 3 := by simp
        rw [lf3] at hvf
        have hone := bwc_one [⟨vf, bs ++ [201, 202, 203]⟩] (fun a ha => by simp at ha; subst ha; exact ⟨_, _, _, hvf⟩)
        have XA := hide (fun ty => run_append_rows_at (P := Try.prog) (w := w31) 26 ty bwc 1 24 bwc_len (by decide) (by decide) (.slice none 0 0) rfl 22 w1.heap.size Try.underlying26 Try.info22 vl r OB31.row _ [⟨vf, bs ++ [201, 202, 203]⟩] rown.row hone (by simp; omega) (by omega))
        have O31 := hide OB31
        have F31 := hide OF31
        have B31 := hide b31
        have H30 := hide b30
        have H31 := hide bel31
        rw [hvf] at XA hw31
        have HVF := hide hvf
        clear C30 b30 b31 bel31 rown hone OB31 OF31 lf3
        subst hvf
        go_wp2_with (at_builtin; refine wpList_append_atG (by rfl) (.tmp 102) (.tmp 104) 26 rfl _ _ rfl rfl XA.out ?_)
        intro v32 w32 own32 gr32 _
        have FB2 := FB.out
        have OB32 := O31.out.push F31.out (fun c hc g hg e => by have h1 := (OBK.out c hc g hg).1; have h2 := FB2 g e; omega) own32 gr32
        obtain ⟨bl, cl, hv32, hcl, hLs⟩ := OB32.lists (by simp) (fun a ha => by
          rcases List.mem_append.1 ha with ha | ha
          · have := LR.out a ha; omega
          · simp at ha; subst ha; show (bs ++ [201, 202, 203]).length ≤ _; simp; omega)
        have ln : (r ++ [(⟨Value.slice fo (bs.length + 3) fc, bs ++ [201, 202, 203]⟩ : Bw)]).length = r.length + 1 := by simp
        have s32 := gr32.size
        have C32 := hide (apart_keeps _ bl cl w1.heap.size _ _ w32 (by rw [ln]; omega) hcl (by omega) hLs (by rw [ln]; omega))
        rw [ln] at C32 hv32
        have KD : Hid (∀ D, w3.heap.size ≤ D → D < w30.heap.size → w32.heap[D]? = w30.heap[D]?) := hide fun D h1 h2 => by
          refine (gr32.block D (by have := H31.out.size; omega) fun e => ?_).trans (H31.out.block D h2)
          have := (OBR.out D e.symm).2
          omega
        have HLS := hide hLs
        have NK : Hid (∀ D, w3.heap.size ≤ D → ∀ i, i < (r ++ [(⟨Value.slice fo (bs.length + 3) fc, bs ++ [201, 202, 203]⟩ : Bw)]).length → (((r ++ [(⟨Value.slice fo (bs.length + 3) fc, bs ++ [201, 202, 203]⟩ : Bw)]).map Bw.v).getD i (.slice none 0 0)).ownBlock ≠ some D) := hide fun D hD i _ => getD_own (fun a ha e => by
          rcases List.mem_append.1 ha with ha | ha
          · have := (OBK.out a ha D e).2; omega
          · simp at ha; subst ha; have := FB2 D e; omega) i
        have B132 : Hid (Below w1.heap.size w1 w32) := hide ((BT.out.trans (B31.out.mono (by omega))).grown gr32 (by omega) fun k hk => by have := (OBR.out k hk).1; omega)
        rw [ln] at NK
        subst hv32
        clear own32 gr32 OB32 hLs HLS XA hw31 O31 F31 FB2 hcl ln
        go_wp2_with fail
        refine C32.out.mono ?_
        rintro E w33 ⟨rfl, b33, keep33⟩
        have s33 := b33.size
        have d0l := DL0.out
        have d1l := DL1.out
        have lD1 := (Array.getElem?_eq_some_iff.1 DK1.out).1
        have lD0 := (Array.getElem?_eq_some_iff.1 DK0.out).1
        have kW := BR1.out.size
        have sw1 := BR0.out.size
        have kd : ∀ D, w12.heap.size ≤ D → D < w30.heap.size → w33.heap[D]? = w30.heap[D]? := fun D h1 h2 => (keep33 D (by omega) (NK.out D (by omega))).trans (KD.out D (by omega) h2)
        have k1 : w33.heap[D1]? = some (.deferred (some [])) := (kd D1 (by omega) (by omega)).trans ((H30.out.block D1 lD1).trans DK1.out)
        have k0 : w33.heap[D0]? = some (.deferred (some [])) := (kd D0 (by omega) (by omega)).trans ((H30.out.block D0 (by omega)).trans ((BR1.out.block D0 lD0).trans DK0.out))
        have hne : D0 ≠ D1 := by omega
        have B33 : Below w1.heap.size w1 w33 := B132.out.trans b33
        have r33 := (B33.block w.heap.size L1).trans BRES.out
        have e33 := blk_cell r33 0 rfl
        have f33 := blk_froz r33 0
        have BZ : Hid (Below w.heap.size w w33) := hide (B01.out.trans (B33.mono (by omega)))
        have K0 := hide k0
        have K1 := hide k1
        have R33 := hide r33
        have lz0 := (Array.getElem?_eq_some_iff.1 k0).1
        have lz1 := (Array.getElem?_eq_some_iff.1 k1).1
        clear C32 b33 keep33 kd k0 k1 r33 B33 NK KD
        go_wp2
        have t1 : (w33.setCell ⟨w.heap.size, 0, none⟩ (.bool true)).heap[D1]? = some (.deferred (some [])) := (Below.heap_setCell w33 ⟨w.heap.size, 0, none⟩ _ D1 (by show D1 ≠ w.heap.size; omega)).trans K1.out
        have t0 : ((w33.setCell ⟨w.heap.size, 0, none⟩ (.bool true)).putObj D1 (.deferred none)).heap[D0]? = some (.deferred (some [])) := (World.putObj_heap_other hne).trans ((Below.heap_setCell w33 ⟨w.heap.size, 0, none⟩ _ D0 (by show D0 ≠ w.heap.size; omega)).trans K0.out)
        refine ⟨by simp, .inl ⟨_, _, rfl, run_takeDeferred t1, ?_⟩⟩
        refine ⟨by simp, .inl ⟨_, _, rfl, run_takeDeferred t0, ?_⟩⟩
        have g1 := grown_setCell w33 ⟨w.heap.size, 0, none⟩ (.bool true)
        have g2 := grownBy_putObj' (w33.setCell ⟨w.heap.size, 0, none⟩ (.bool true)) D1 (.deferred none)
        have g3 := grownBy_putObj' ((w33.setCell ⟨w.heap.size, 0, none⟩ (.bool true)).putObj D1 (.deferred none)) D0 (.deferred none)
        have c9 := set_cells R33.out 0 (.bool true)
        have zz := BZ.out.size
        have s1' := g1.size
        have s2' := g2.size
        have rl := blk_lt R33.out
        have q9 := (g2.block w.heap.size (by omega) (by simp; omega)).trans c9
        have p9 := (g3.block w.heap.size (by omega) (by simp; omega)).trans q9
        have u9 := blk_cell p9 0 rfl
        refine ⟨.bool true, ?_, rfl, ?_⟩
        · simp [results, Try.results5, go_sem, u9]
        · exact ((BZ.out.grown g1 zz fun k e => by simp at e; omega).grown g2 (by omega) fun k e => by simp at e; omega).grown g3 (by omega) fun k e => by simp at e; omega

end Go.Proofs.Ytlddfhfjemdgiaa
