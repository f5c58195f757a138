/- Proved: a section of orphans is written to any disk, step by step, as the document says, also where the disk goes off in the midst (OrphanWrite). For every file's bytes, section and all four numbers; no conditions of my own. -/
import Derived.Test.YtkpnkknolobioaaGreatG25
import Derived.Test.YtkpnkknolobioaaGreatG26
import Derived.Test.YtkpnkknolobioaaGreatG27
import Derived.Test.YtkpnkknolobioaaGreatG8
import Derived.Deep.RegionHeld3
import Derived.Test.YtkpnkknolobioaaGreatRows
import Derived.ProofKit
import Derived.OpenShut
import Derived.ShutString
import Derived.ChangeOld
import Derived.Below
import Derived.SizedLaws
import Derived.Test.YtkpnkknolobioaaGreatG28
/- OrphanWrite: the walk. -/
namespace Go.Proofs.YtkpnkknolobioaaGreat
open Go.RowKit
set_option linter.unusedVariables false

set_option maxRecDepth 20000 in
set_option maxHeartbeats 16000000 in
theorem orphanWrite_w (vb : Value) (bs : List Int) (base : Int) (x : Sw) (fz k t : Int) (w : World) (hb : Is .u8 w vb bs) (hlb : bs.length ≤ 140737488355328) (h : IsC w x.v x.rs) (hf : FitC x.rs) (hl : x.rs.length ≤ 140737488355328) (hz : fz ≤ 9223372036854775807) (hk : k ≤ 9223372036854775807) (ht : t ≤ 9223372036854775807) :
    Calls Tryz.prog 3 #[vb, .int .i64 base, .agg #[.int .i64 x.e, .int .i64 x.f, x.v], .int .i64 fz, .int .i64 k, .int .i64 t] w fun E w' => E = .returned (.bool true) ∧ Below w.heap.size w w' := by
  obtain ⟨e, f, v, rs⟩ := x
  simp only at h hf hl ⊢
  obtain ⟨w1, hw1, sz1, bel1, hB⟩ := blk_step w #[.int .i64 e, .int .i64 f, v] 25
  obtain ⟨va, vk, hv, _, _⟩ := h.1.shape
  obtain ⟨ba, bk, hvb, _, _⟩ := hb.shape
  have IC := hide h
  have IB := hide hb
  have HF := hide hf
  have B1 := hide bel1
  have SML := hide (fun W (hW : Below w.heap.size w W) => osmall_any e f v rs W (h.below hW) hl hf)
  have BX : Hid (w1.heap[w.heap.size]? = some (.cells #[.int .i64 e, .int .i64 f, v] 25 (0, 0))) := hide hB
  unfold cmv at SML
  rw [hv] at hw1 IC BX SML
  rw [hvb] at IB
  subst hv hvb
  clear h hb hf bel1 hB
  have lt1 : w.heap.size < w1.heap.size := by omega
  have RC : Hid (∀ W, Below w1.heap.size w1 W → W.cell? ⟨w.heap.size, 0, none⟩ = some (.int .i64 e) ∧ W.cell? ⟨w.heap.size, 1, none⟩ = some (.int .i64 f) ∧ W.cell? ⟨w.heap.size, 2, none⟩ = some (.slice va rs.length vk)) := hide fun W hW => by
    have hB := (hW.block _ lt1).trans BX.out
    exact ⟨blk_cell hB 0 rfl, blk_cell hB 1 rfl, blk_cell hB 2 rfl⟩
  go_enter Tryz.func3, Tryz.ntmps3
  go_wp2_with fail
  refine (lives19_any w1).mono ?_
  rintro E w2 ⟨rfl, bel2⟩
  have B2 := hide bel2
  have B02 := hide (B1.out.trans (bel2.mono B1.out.size))
  obtain ⟨c0, c1, c2⟩ := RC.out w2 bel2
  clear bel2
  go_wp2_with fail
  refine (SML.out w2 B02.out).mono ?_
  rintro E w3 ⟨rfl, bel3⟩
  have B3 := hide (B2.out.trans (bel3.mono B2.out.size))
  have B03 := hide (B02.out.trans (bel3.mono B02.out.size))
  clear SML B2 B02 c0 c1 c2 bel3
  cases hsm : smO rs with
  | false =>
    clear hsm
    go_wp2
    go_ret
    exact ⟨rfl, B03.out⟩
  | true =>
  obtain ⟨ho40, hr40⟩ := smO_yes hsm
  clear hsm ho40
  by_cases h4 : 4000 < bs.length
  · have q1 : (4000 : Int) < bs.length := by omega
    clear h4
    go_wp2
    go_ret
    exact ⟨rfl, B03.out⟩
  have q1 : ¬ (4000 : Int) < bs.length := by omega
  have IB3 := hide (IB.out.below B03.out)
  go_wp2_with fail
  refine (new_any w3).mono ?_
  rintro E w4 ⟨rfl, pk4, bel4⟩
  go_wp2_with fail
  refine (newR_any w4).mono ?_
  rintro E w5 ⟨rfl, dk5, bel5⟩
  have s4 : w3.heap.size < w4.heap.size := pk4.lt _ (by exact rfl)
  have P5 : Hid (PQ w3 w5 w3.heap.size w4.heap.size Dm.new Dm.new) := hide ⟨⟨_, _, pk4.below bel5, dk5, fun g h1 h2 => by omega, fun g hg => by omega, fun g hg => by omega⟩, bel4.trans (bel5.mono bel4.size)⟩
  have IB3' : Hid (∀ W, Below w3.heap.size w3 W → Is .u8 W (.slice ba bs.length bk) bs) := hide fun W hW => IB3.out.below hW
  have NFB : Hid (0 < bs.length → ∀ g, (Value.slice ba bs.length bk).ownBlock = some g → g < w3.heap.size) := hide fun h0 => IB3.out.lt h0
  have BG0 := big_write big_new 3 bs
  have hcb : cnt bs.length ≤ 63 := by unfold cnt; omega
  clear pk4 dk5 bel4 bel5 h4
  have W1P := hide (P5.out.callP fun F hk' hF => write_any w3.heap.size F w5 Dm.new 3 _ bs hk' (IB3'.out w5 P5.out.bel) (fun h0 g hg hFg => by have := NFB.out h0 g hg; have := hF g hFg; omega) (by omega) (by show 0 + cnt bs.length ≤ 1000000; omega) (by decide) (by show 0 + cnt bs.length < 9223372036854775807; omega))
  obtain ⟨⟨e1, st1⟩, h1⟩ : ∃ y, Dm.write Dm.new 3 bs = y := ⟨_, rfl⟩
  rw [h1] at W1P BG0
  simp only at W1P BG0
  have H1 := hide h1
  clear h1
  go_wp2_with fail
  refine W1P.out.mono ?_
  rintro E w6 ⟨rfl, P6⟩
  have W1Q := hide (P6.out.callQ fun G hk' hG => writeR_any w4.heap.size G w6 Dm.new 3 _ bs hk' (IB3'.out w6 P6.out.bel) (fun h0 g hg hFg => by have := NFB.out h0 g hg; have := hG g hFg; omega) (by omega) (by decide) (by decide) (by decide))
  rw [H1.out] at W1Q
  simp only at W1Q
  clear W1P P5
  go_wp2_with fail
  refine W1Q.out.mono ?_
  rintro E w7 ⟨rfl, P7⟩
  have BG1 : Hid (Big 5000 100 st1) := hide (BG0.mono (by omega) (by omega))
  have t1 : (e1 != e1) = false := by simp
  clear W1Q P6 BG0 H1 hcb
  have hbd : -1 ≤ fz.tmod 2 ∧ fz.tmod 2 ≤ 1 := by
    have h1 := Int.tmod_lt_of_pos fz (show (0 : Int) < 2 by decide)
    have h2 := Int.lt_tmod_of_pos fz (show (0 : Int) < 2 by decide)
    omega
  have hwr : IntKind.i64.wrap (fz.tmod 2) = fz.tmod 2 := by rw [wrap64s _ (by omega) (by omega)]
  by_cases hev : fz.tmod 2 = 0
  · have hevb : (fz.tmod 2 == 0) = true := by simp [hev]
    have SP := hide (P7.out.callP fun F hk' hF => sync_any w3.heap.size F w7 st1 hk' (fun f => by have := BG1.out.1.1 f; omega) (by have := BG1.out.1.2.1; omega) BG1.out.2 (by have := BG1.out.1.2.2; omega))
    have SQ : Hid (∀ W, PQ w3 W w3.heap.size w4.heap.size (Dm.sync st1).2 st1 → Calls Tryz.prog 11 #[.pointer (some ⟨w4.heap.size, 0, none⟩)] W fun E w' => E = .returned (.int .i64 (Dm.sync st1).1) ∧ Hid (PQ w3 w' w3.heap.size w4.heap.size (Dm.sync st1).2 (Dm.sync st1).2)) := hide fun W hW => hW.callQ fun G hk' hG => syncR_any w4.heap.size G W st1 hk' (fun f => by have := BG1.out.1.1 f; omega) (by have := BG1.out.1.2.1; omega) BG1.out.2 (by have := BG1.out.1.2.2; omega)
    have BG2 : Hid (Big 5000 101 (Dm.sync st1).2) := hide (big_sync BG1.out)
    obtain ⟨⟨e2, st2⟩, h2⟩ : ∃ y, Dm.sync st1 = y := ⟨_, rfl⟩
    rw [h2] at SP SQ BG2
    simp only at SP SQ BG2
    have t2 : (e2 != e2) = false := by simp
    clear h2 BG1 hev
    go_wp2_with fail
    refine SP.out.mono ?_
    rintro E w8 ⟨rfl, P8⟩
    go_wp2_with fail
    refine (SQ.out w8 P8.out).mono ?_
    rintro E w9 ⟨rfl, P9⟩
    clear SP SQ P7 P8
    have FP := hide (P9.out.callP fun F hk' hF => fuse_any w3.heap.size F w9 st2 fz hk')
    have FQ : Hid (∀ W, PQ w3 W w3.heap.size w4.heap.size (Dm.fuse st2 fz).2 st2 → Calls Tryz.prog 13 #[.pointer (some ⟨w4.heap.size, 0, none⟩), .int .i64 fz] W fun E w' => E = .returned (.int .i64 (Dm.fuse st2 fz).1) ∧ Hid (PQ w3 w' w3.heap.size w4.heap.size (Dm.fuse st2 fz).2 (Dm.fuse st2 fz).2)) := hide fun W hW => hW.callQ fun G hk' hG => fuseR_any w4.heap.size G W st2 fz hk'
    have BG3 : Hid (Big 5000 101 (Dm.fuse st2 fz).2) := hide (big_fuse BG2.out fz hz)
    obtain ⟨⟨e3, st3⟩, h3⟩ : ∃ y, Dm.fuse st2 fz = y := ⟨_, rfl⟩
    rw [h3] at FP FQ BG3
    simp only at FP FQ BG3
    have t3 : (e3 != e3) = false := by simp
    clear h3 BG2
    go_wp2_with fail
    refine FP.out.mono ?_
    rintro E wA ⟨rfl, PA⟩
    go_wp2_with fail
    refine (FQ.out wA PA.out).mono ?_
    rintro E wB ⟨rfl, PB⟩
    clear FP FQ P9 PA
    have hru0 : rs.length ≤ 1000 := by omega
    have BW : Hid (∀ W, Below w3.heap.size w3 W → Below w.heap.size w W ∧ Below w1.heap.size w1 W) := hide fun W hW => ⟨B03.out.trans (hW.mono B03.out.size), B3.out.trans (hW.mono B3.out.size)⟩
    obtain ⟨c0, c1, c2⟩ := RC.out wB (BW.out wB PB.out.bel).2
    have LC := hide (lentCs_ap _ rs wB (IC.out.below (BW.out wB PB.out.bel).1) HF.out hru0)
    go_wp2_with fail
    refine LC.out.mono ?_
    rintro E wC ⟨vl, ru, rfl, ownl, eru, lru, apl, belC⟩
    have hrl : ru.length = rs.length := cvs_len eru
    obtain ⟨vo, hvo, rowo⟩ := ownl.row.slice_h Tryz.elemC Tryz.sizeC rs.length (by rw [List.length_append]; omega)
    rw [← hrl, List.take_left] at rowo
    have hvo' : ∀ wx, (Instr.slice 23 vl none (some (.int .i64 ru.length)) none).run Tryz.prog wx = .ok vo wx := by rw [hrl]; exact hvo
    have LN : Hid (Ln wC wB.heap.size vl vo ru) := hide ⟨ownl, lru, rowo⟩
    obtain ⟨oa, ok, hvo2, _, _⟩ := rowo.shape
    rw [hrl] at hvo2
    obtain ⟨F, G, pkB, dkB, hFG, hF, hG⟩ := PB.out.ex
    have ALL : Hid ((∀ g, F g → g < wB.heap.size) ∧ (∀ g, G g → g < wB.heap.size) ∧ (∀ g, F g → ¬ G g) ∧ (∀ g, F g → w3.heap.size ≤ g) ∧ (∀ g, G g → w3.heap.size ≤ g)) := hide ⟨pkB.lt, dkB.lt, hFG, hF, hG⟩
    have PC := hide (pkB.below belC)
    have DC := hide (dkB.below belC)
    have BC3 := hide (PB.out.bel.trans (belC.mono PB.out.bel.size))
    have SC : Hid (wB.heap.size ≤ wC.heap.size) := hide belC.size
    have FRU := hide (fit_cvs2 eru HF.out)
    have ERU := hide eru
    have HVO := hide hvo'
    obtain ⟨s, hs⟩ : ∃ s : Orp.Se, ⟨e, f, cvs rs⟩ = s := ⟨_, rfl⟩
    have hs2 : (⟨e, f, cvs ru⟩ : Orp.Se) = s := by rw [eru]; exact hs
    have hsl : (Orp.sec s).length ≤ 17330 ∨ Orp.chk s ≠ 0 := by
      by_cases hc : Orp.chk s = 0
      · left
        have := Orp.sec_le hc
        have h2 : s.cs.length = rs.length := by rw [← hs]; exact cvs_many rs
        omega
      · exact .inr hc
    have WRP : Hid (Calls Tryz.prog 15 #[.pointer (some ⟨w3.heap.size, 0, none⟩), .int .i64 base, .agg #[.int .i64 e, .int .i64 f, vo]] wC.drew fun E w' => E = .returned (.int .i64 (Orp.wrS st3 base s).1) ∧ (w'.cell? ⟨w.heap.size, 0, none⟩ = some (.int .i64 e) ∧ w'.cell? ⟨w.heap.size, 1, none⟩ = some (.int .i64 f) ∧ w'.cell? ⟨w.heap.size, 2, none⟩ = some (.slice va rs.length vk)) ∧
        Hid (PStep w3.heap.size F wC.drew w' (Orp.wrS st3 base s).2 ∧ Dk w4.heap.size G w' st3 ∧ Ln w' wB.heap.size vl vo ru ∧ Below w3.heap.size w3 w')) := hide (by
      have hd := (Below.refl wC.heap.size wC).drew
      have LD := LN.out.below hd
      have := powrite_any w3.heap.size F wC.drew st3 base e f vo ru (fun W hW => ⟨(LD.out HVO.out hW ALL.out.1).ro, (LD.out HVO.out hW ALL.out.1).lr.inC ERU.out IC.out.2⟩) FRU.out (by omega) (PC.out.below hd) 5000 101 BG3.out (by omega) (by omega)
      unfold cmv at this
      rw [hs2] at this
      refine this.mono ?_
      rintro E w' ⟨rfl, hst⟩
      obtain ⟨F', k1, k2, k3⟩ := hst
      have bD : Below w3.heap.size w3 wC.drew := BC3.out.trans (hd.mono BC3.out.size)
      have b3 : Below w3.heap.size w3 w' := bD.trans (k2.below ALL.out.2.2.2.1 bD.size)
      exact ⟨rfl, RC.out w' (BW.out w' b3).2, hide ⟨⟨F', k1, k2, k3⟩, (DC.out.below hd).out k2 (fun g hg hFg => ALL.out.2.2.1 g hFg hg), LD.out HVO.out k2 ALL.out.1, b3⟩⟩)
    have BG4 : Hid (Orp.chk s = 0 → Big 23000 500 (Orp.wrS st3 base s).2) := hide fun hc => (big_wrS BG3.out base s).mono (by rcases hsl with q | q; omega; exact absurd hc q) (by rcases hsl with q | q; (have : cnt (Orp.sec s).length ≤ 272 := by unfold cnt; omega); omega; exact absurd hc q)
    have BG4' : Hid (Big 23000 500 (Orp.wrS st3 base s).2) := hide (by
      by_cases hc : Orp.chk s = 0
      · exact BG4.out hc
      · have hB := BG3.out.mono (show 5000 ≤ 23000 by omega) (show 101 ≤ 500 by omega)
        by_cases hon : st3.on = true
        · rw [Orp.wrS_chk hon hc]; exact hB
        · rw [Orp.wrS_off (by simpa using hon)]; exact hB)
    obtain ⟨⟨e4, st4⟩, h4⟩ : ∃ y, Orp.wrS st3 base s = y := ⟨_, rfl⟩
    have H4 := hide h4
    rw [h4] at WRP BG4'
    simp only at WRP BG4'
    have HS := hide hs
    rw [hvo2] at WRP HVO LN hvo
    clear c0 c1 c2
    obtain ⟨c0, c1, c2⟩ := RC.out wC (BW.out wC BC3.out).2
    clear LC ownl eru lru apl belC rowo hvo' pkB dkB hFG hF hG PB hvo2 hs hs2 BG4 h4 hsl
    go_wp2_with fail
    go_region_held3 (fun W => W.cell? ⟨w.heap.size, 0, none⟩ = some (.int .i64 e) ∧ W.cell? ⟨w.heap.size, 1, none⟩ = some (.int .i64 f) ∧ W.cell? ⟨w.heap.size, 2, none⟩ = some (.slice va rs.length vk)) (first | exact ⟨c0, c1, c2⟩ | exact ⟨y0, y1, y2⟩ | go_keep)
      (first | (go_at_call 15; refine WRP.out.mono ?_; rintro E wD ⟨rfl, ⟨y0, y1, y2⟩, HD⟩))
    all_goals
      have WRQ : Hid (Calls Tryz.prog 16 #[.pointer (some ⟨w4.heap.size, 0, none⟩), .int .i64 base, .agg #[.int .i64 e, .int .i64 f, .slice va rs.length vk]] wD fun E w' => E = .returned (.int .i64 e4) ∧ Hid (PQ w3 w' w3.heap.size w4.heap.size st4 st4 ∧ Ln w' wB.heap.size vl (.slice oa rs.length ok) ru)) := hide (by
        obtain ⟨⟨F', k1, k2, k3⟩, k4, k5, k6⟩ := HD.out
        have := owrR_any w4.heap.size G wD st3 base e f _ rs (IC.out.below (BW.out wD k6).1) HF.out (by omega) k4 5000 101 BG3.out (by omega) (by omega)
        rw [HS.out, H4.out] at this
        refine this.mono ?_
        rintro E w' ⟨rfl, hst⟩
        have dis : ∀ g, F' g → ¬ G g := fun g hFg hGg => by
          rcases k3 g hFg with q | q
          · exact ALL.out.2.2.1 g q hGg
          · have h1 := ALL.out.2.1 g hGg; have h2 := SC.out; have : wC.heap.size ≤ g := q; omega
        have lowF : ∀ g, F' g → w3.heap.size ≤ g := fun g hFg => by
          rcases k3 g hFg with q | q
          · exact ALL.out.2.2.2.1 g q
          · have h2 := BC3.out.size; have : wC.heap.size ≤ g := q; omega
        refine ⟨rfl, hide ⟨PQ.stepQ k1 k4 dis lowF ALL.out.2.2.2.2 k6 hst, ?_⟩⟩
        obtain ⟨G', _, j2, _⟩ := hst
        exact k5.out HVO.out j2 ALL.out.2.1)
      clear WRP PC DC
      go_wp2_with fail
      refine WRQ.out.mono ?_
      rintro E wE ⟨rfl, HE⟩
      have PE := hide HE.out.1
      have LE := hide HE.out.2
      have t4 : (e4 != e4) = false := by simp
      clear y0 y1 y2
      obtain ⟨y0, y1, y2⟩ := RC.out wE (BW.out wE PE.out.bel).2
      have KC := hide (keptCs_yes vl _ ru rs wB.heap.size wE LE.out.ol.row ERU.out LE.out.lr (IC.out.below (BW.out wE PE.out.bel).1) HF.out hru0)
      clear WRQ HD HE
      go_wp2_with fail
      refine KC.out.mono ?_
      rintro E wF ⟨rfl, belF⟩
      have PF := hide (PE.out.below belF)
      clear KC PE LE belF y0 y1 y2
      have S1 := hide (PF.out.askP fun F hk' => steps_any w3.heap.size F wF st4 hk')
      have S2 := hide (PF.out.askQ fun G hk' => stepsR_any w4.heap.size G wF st4 hk')
      have O1 := hide (PF.out.askP fun F hk' => on_any w3.heap.size F wF st4 hk')
      have O2 := hide (PF.out.askQ fun G hk' => onR_any w4.heap.size G wF st4 hk')
      obtain ⟨cn, hcn⟩ : ∃ y, st4.count = y := ⟨_, rfl⟩
      obtain ⟨on, hon⟩ : ∃ y, st4.on = y := ⟨_, rfl⟩
      rw [hcn] at S1 S2
      rw [hon] at O1 O2
      have t5 : (on != on) = false := by cases on <;> rfl
      clear hcn hon
      go_wp2_with fail
      refine S1.out.mono ?_
      rintro E wX ⟨rfl, hwX⟩
      obtain rfl := hwX.symm
      go_wp2_with fail
      refine S2.out.mono ?_
      rintro E wX ⟨rfl, hwX⟩
      obtain rfl := hwX.symm
      go_wp2_with fail
      refine O1.out.mono ?_
      rintro E wX ⟨rfl, hwX⟩
      obtain rfl := hwX.symm
      go_wp2_with fail
      refine O2.out.mono ?_
      rintro E wX ⟨rfl, hwX⟩
      obtain rfl := hwX.symm
      clear S1 S2 O1 O2
      have PLP := hide (PF.out.callP fun F hk' hF => pull_any w3.heap.size F wF st4 hk')
      have PLQ : Hid (∀ W, PQ w3 W w3.heap.size w4.heap.size (Dm.pull st4).2 st4 → Calls Tryz.prog 23 #[.pointer (some ⟨w4.heap.size, 0, none⟩)] W fun E w' => E = .returned (.int .i64 (Dm.pull st4).1) ∧ Hid (PQ w3 w' w3.heap.size w4.heap.size (Dm.pull st4).2 (Dm.pull st4).2)) := hide fun W hW => hW.callQ fun G hk' hG => pullR_any w4.heap.size G W st4 hk'
      have BG5 := hide (big_pull BG4'.out)
      obtain ⟨⟨e5, st5⟩, h5⟩ : ∃ y, Dm.pull st4 = y := ⟨_, rfl⟩
      rw [h5] at PLP PLQ BG5
      simp only at PLP PLQ BG5
      have t6 : (e5 != e5) = false := by simp
      clear h5 BG4'
      go_wp2_with fail
      refine PLP.out.mono ?_
      rintro E wG ⟨rfl, PG⟩
      go_wp2_with fail
      refine (PLQ.out wG PG.out).mono ?_
      rintro E wH ⟨rfl, PH⟩
      clear PLP PLQ PF PG
      have STP := hide (PH.out.callP fun F hk' hF => start_any w3.heap.size F wH st5 k t hk' ht (fun f => by have := BG5.out.1.1 f; omega) (by have := BG5.out.1.2.1; omega))
      have STQ : Hid (∀ W, PQ w3 W w3.heap.size w4.heap.size (Dm.start st5 k t).2 st5 → Calls Tryz.prog 25 #[.pointer (some ⟨w4.heap.size, 0, none⟩), .int .i64 k, .int .i64 t] W fun E w' => E = .returned (.int .i64 (Dm.start st5 k t).1) ∧ Hid (PQ w3 w' w3.heap.size w4.heap.size (Dm.start st5 k t).2 (Dm.start st5 k t).2)) := hide fun W hW => hW.callQ fun G hk' hG => startR_any w4.heap.size G W st5 k t hk' hk ht (fun f => by have := BG5.out.1.1 f; omega) (by have := BG5.out.1.2.1; omega)
      have BG6 := hide (big_start BG5.out k t)
      obtain ⟨⟨e6, st6⟩, h6⟩ : ∃ y, Dm.start st5 k t = y := ⟨_, rfl⟩
      rw [h6] at STP STQ BG6
      simp only at STP STQ BG6
      have t7 : (e6 != e6) = false := by simp
      clear h6 BG5
      go_wp2_with fail
      refine STP.out.mono ?_
      rintro E wI ⟨rfl, PI⟩
      go_wp2_with fail
      refine (STQ.out wI PI.out).mono ?_
      rintro E wJ ⟨rfl, PJ⟩
      clear STP STQ PH PI
      have DUP : Hid (Calls Tryz.prog 27 #[.pointer (some ⟨w3.heap.size, 0, none⟩), .int .i64 3] wJ fun E w' => ∃ vd, E = .returned vd ∧ Own .u8 5 wJ.heap.size w' vd (duB st6 3) ∧ Below wJ.heap.size wJ w') := hide (by
        obtain ⟨F', G', h1, _⟩ := PJ.out.ex
        exact durable_any w3.heap.size F' wJ st6 3 h1 (fun f => by have := BG6.out.1.1 f; omega))
      go_wp2_with fail
      refine DUP.out.mono ?_
      rintro E wK ⟨vd1, rfl, own1, belK⟩
      have PK := hide (PJ.out.below belK)
      have DUQ : Hid (Calls Tryz.prog 28 #[.pointer (some ⟨w4.heap.size, 0, none⟩), .int .i64 3] wK fun E w' => ∃ vd, E = .returned vd ∧ Own .u8 5 wK.heap.size w' vd (duB st6 3) ∧ Below wK.heap.size wK w') := hide (by
        obtain ⟨F', G', _, h2, _⟩ := PK.out.ex
        exact durR_any w4.heap.size G' wK st6 3 h2 (fun f => by have := BG6.out.1.1 f; omega))
      have hdl : (duB st6 3).length ≤ 1000000 := by
        have := BG6.out.1.1 3
        unfold duB
        rw [if_neg (by decide)]
        show (st6.sure 3).length ≤ 1000000
        omega
      clear DUP PJ
      go_wp2_with fail
      refine DUQ.out.mono ?_
      rintro E wL ⟨vd2, rfl, own2, belL⟩
      have SB := hide (same_yes vd1 vd2 (duB st6 3) (duB st6 3) wL (own1.is.below belL) own2.is (by omega) rfl)
      have BL := hide (PK.out.bel.trans (belL.mono PK.out.bel.size))
      clear DUQ own1 own2 belK belL PK
      go_wp2_with fail
      refine SB.out.mono ?_
      rintro E wM ⟨rfl, belM⟩
      have BM := hide (BL.out.trans (belM.mono BL.out.size))
      obtain ⟨y0, y1, y2⟩ := RC.out wM (BW.out wM BM.out).2
      have N1 := hide (ponil_any (.pointer none) base e f _ rs wM (.inl rfl) (IC.out.below (BW.out wM BM.out).1) HF.out (by omega))
      clear SB BL belM
      go_wp2_with fail
      refine N1.out.mono ?_
      rintro E wN ⟨rfl, belN⟩
      have BN := hide (BM.out.trans (belN.mono BM.out.size))
      obtain ⟨wO, hwO, szO, belO, hO⟩ := blk_step wN #[.bool false, .bool false, .int .i64 0, .slice none 0 0, .slice none 0 0, .slice none 0 0, .slice none 0 0, .slice none 0 0, .int .i64 0] 47
      have BO := hide (BN.out.trans (belO.mono BN.out.size))
      clear y0 y1 y2
      obtain ⟨y0, y1, y2⟩ := RC.out wO (BW.out wO BO.out).2
      have N2 := hide (ponil_any (.pointer (some ⟨wN.heap.size, 0, none⟩)) base e f _ rs wO (.inr ⟨_, rfl, blk_cell hO 0 rfl⟩) (IC.out.below (BW.out wO BO.out).1) HF.out (by omega))
      clear N1 belN BM BN belO hO szO
      go_wp2_with fail
      refine N2.out.mono ?_
      rintro E wP ⟨rfl, belP⟩
      have BP := hide (BW.out wP (BO.out.trans (belP.mono BO.out.size))).1
      clear N2 belP
      go_wp2
      go_ret
      exact ⟨rfl, BP.out⟩
  · have hevb : (fz.tmod 2 == 0) = false := by simp [hev]
    have BG2 : Hid (Big 5000 101 st1) := hide (BG1.out.mono (Nat.le_refl _) (by omega))
    obtain ⟨st2, hst2⟩ : ∃ y, st1 = y := ⟨_, rfl⟩
    obtain ⟨w9, hw9⟩ : ∃ y, w7 = y := ⟨_, rfl⟩
    have P9 := P7
    rw [hst2] at BG2 P9
    rw [hw9] at P9 ⊢
    clear BG1 P7 hev hst2 hw9
    have FP := hide (P9.out.callP fun F hk' hF => fuse_any w3.heap.size F w9 st2 fz hk')
    have FQ : Hid (∀ W, PQ w3 W w3.heap.size w4.heap.size (Dm.fuse st2 fz).2 st2 → Calls Tryz.prog 13 #[.pointer (some ⟨w4.heap.size, 0, none⟩), .int .i64 fz] W fun E w' => E = .returned (.int .i64 (Dm.fuse st2 fz).1) ∧ Hid (PQ w3 w' w3.heap.size w4.heap.size (Dm.fuse st2 fz).2 (Dm.fuse st2 fz).2)) := hide fun W hW => hW.callQ fun G hk' hG => fuseR_any w4.heap.size G W st2 fz hk'
    have BG3 : Hid (Big 5000 101 (Dm.fuse st2 fz).2) := hide (big_fuse BG2.out fz hz)
    obtain ⟨⟨e3, st3⟩, h3⟩ : ∃ y, Dm.fuse st2 fz = y := ⟨_, rfl⟩
    rw [h3] at FP FQ BG3
    simp only at FP FQ BG3
    have t3 : (e3 != e3) = false := by simp
    clear h3 BG2
    go_wp2_with fail
    refine FP.out.mono ?_
    rintro E wA ⟨rfl, PA⟩
    go_wp2_with fail
    refine (FQ.out wA PA.out).mono ?_
    rintro E wB ⟨rfl, PB⟩
    clear FP FQ P9 PA
    have hru0 : rs.length ≤ 1000 := by omega
    have BW : Hid (∀ W, Below w3.heap.size w3 W → Below w.heap.size w W ∧ Below w1.heap.size w1 W) := hide fun W hW => ⟨B03.out.trans (hW.mono B03.out.size), B3.out.trans (hW.mono B3.out.size)⟩
    obtain ⟨c0, c1, c2⟩ := RC.out wB (BW.out wB PB.out.bel).2
    have LC := hide (lentCs_ap _ rs wB (IC.out.below (BW.out wB PB.out.bel).1) HF.out hru0)
    go_wp2_with fail
    refine LC.out.mono ?_
    rintro E wC ⟨vl, ru, rfl, ownl, eru, lru, apl, belC⟩
    have hrl : ru.length = rs.length := cvs_len eru
    obtain ⟨vo, hvo, rowo⟩ := ownl.row.slice_h Tryz.elemC Tryz.sizeC rs.length (by rw [List.length_append]; omega)
    rw [← hrl, List.take_left] at rowo
    have hvo' : ∀ wx, (Instr.slice 23 vl none (some (.int .i64 ru.length)) none).run Tryz.prog wx = .ok vo wx := by rw [hrl]; exact hvo
    have LN : Hid (Ln wC wB.heap.size vl vo ru) := hide ⟨ownl, lru, rowo⟩
    obtain ⟨oa, ok, hvo2, _, _⟩ := rowo.shape
    rw [hrl] at hvo2
    obtain ⟨F, G, pkB, dkB, hFG, hF, hG⟩ := PB.out.ex
    have ALL : Hid ((∀ g, F g → g < wB.heap.size) ∧ (∀ g, G g → g < wB.heap.size) ∧ (∀ g, F g → ¬ G g) ∧ (∀ g, F g → w3.heap.size ≤ g) ∧ (∀ g, G g → w3.heap.size ≤ g)) := hide ⟨pkB.lt, dkB.lt, hFG, hF, hG⟩
    have PC := hide (pkB.below belC)
    have DC := hide (dkB.below belC)
    have BC3 := hide (PB.out.bel.trans (belC.mono PB.out.bel.size))
    have SC : Hid (wB.heap.size ≤ wC.heap.size) := hide belC.size
    have FRU := hide (fit_cvs2 eru HF.out)
    have ERU := hide eru
    have HVO := hide hvo'
    obtain ⟨s, hs⟩ : ∃ s : Orp.Se, ⟨e, f, cvs rs⟩ = s := ⟨_, rfl⟩
    have hs2 : (⟨e, f, cvs ru⟩ : Orp.Se) = s := by rw [eru]; exact hs
    have hsl : (Orp.sec s).length ≤ 17330 ∨ Orp.chk s ≠ 0 := by
      by_cases hc : Orp.chk s = 0
      · left
        have := Orp.sec_le hc
        have h2 : s.cs.length = rs.length := by rw [← hs]; exact cvs_many rs
        omega
      · exact .inr hc
    have WRP : Hid (Calls Tryz.prog 15 #[.pointer (some ⟨w3.heap.size, 0, none⟩), .int .i64 base, .agg #[.int .i64 e, .int .i64 f, vo]] wC.drew fun E w' => E = .returned (.int .i64 (Orp.wrS st3 base s).1) ∧ (w'.cell? ⟨w.heap.size, 0, none⟩ = some (.int .i64 e) ∧ w'.cell? ⟨w.heap.size, 1, none⟩ = some (.int .i64 f) ∧ w'.cell? ⟨w.heap.size, 2, none⟩ = some (.slice va rs.length vk)) ∧
        Hid (PStep w3.heap.size F wC.drew w' (Orp.wrS st3 base s).2 ∧ Dk w4.heap.size G w' st3 ∧ Ln w' wB.heap.size vl vo ru ∧ Below w3.heap.size w3 w')) := hide (by
      have hd := (Below.refl wC.heap.size wC).drew
      have LD := LN.out.below hd
      have := powrite_any w3.heap.size F wC.drew st3 base e f vo ru (fun W hW => ⟨(LD.out HVO.out hW ALL.out.1).ro, (LD.out HVO.out hW ALL.out.1).lr.inC ERU.out IC.out.2⟩) FRU.out (by omega) (PC.out.below hd) 5000 101 BG3.out (by omega) (by omega)
      unfold cmv at this
      rw [hs2] at this
      refine this.mono ?_
      rintro E w' ⟨rfl, hst⟩
      obtain ⟨F', k1, k2, k3⟩ := hst
      have bD : Below w3.heap.size w3 wC.drew := BC3.out.trans (hd.mono BC3.out.size)
      have b3 : Below w3.heap.size w3 w' := bD.trans (k2.below ALL.out.2.2.2.1 bD.size)
      exact ⟨rfl, RC.out w' (BW.out w' b3).2, hide ⟨⟨F', k1, k2, k3⟩, (DC.out.below hd).out k2 (fun g hg hFg => ALL.out.2.2.1 g hFg hg), LD.out HVO.out k2 ALL.out.1, b3⟩⟩)
    have BG4 : Hid (Orp.chk s = 0 → Big 23000 500 (Orp.wrS st3 base s).2) := hide fun hc => (big_wrS BG3.out base s).mono (by rcases hsl with q | q; omega; exact absurd hc q) (by rcases hsl with q | q; (have : cnt (Orp.sec s).length ≤ 272 := by unfold cnt; omega); omega; exact absurd hc q)
    have BG4' : Hid (Big 23000 500 (Orp.wrS st3 base s).2) := hide (by
      by_cases hc : Orp.chk s = 0
      · exact BG4.out hc
      · have hB := BG3.out.mono (show 5000 ≤ 23000 by omega) (show 101 ≤ 500 by omega)
        by_cases hon : st3.on = true
        · rw [Orp.wrS_chk hon hc]; exact hB
        · rw [Orp.wrS_off (by simpa using hon)]; exact hB)
    obtain ⟨⟨e4, st4⟩, h4⟩ : ∃ y, Orp.wrS st3 base s = y := ⟨_, rfl⟩
    have H4 := hide h4
    rw [h4] at WRP BG4'
    simp only at WRP BG4'
    have HS := hide hs
    rw [hvo2] at WRP HVO LN hvo
    clear c0 c1 c2
    obtain ⟨c0, c1, c2⟩ := RC.out wC (BW.out wC BC3.out).2
    clear LC ownl eru lru apl belC rowo hvo' pkB dkB hFG hF hG PB hvo2 hs hs2 BG4 h4 hsl
    go_wp2_with fail
    go_region_held3 (fun W => W.cell? ⟨w.heap.size, 0, none⟩ = some (.int .i64 e) ∧ W.cell? ⟨w.heap.size, 1, none⟩ = some (.int .i64 f) ∧ W.cell? ⟨w.heap.size, 2, none⟩ = some (.slice va rs.length vk)) (first | exact ⟨c0, c1, c2⟩ | exact ⟨y0, y1, y2⟩ | go_keep)
      (first | (go_at_call 15; refine WRP.out.mono ?_; rintro E wD ⟨rfl, ⟨y0, y1, y2⟩, HD⟩))
    all_goals
      have WRQ : Hid (Calls Tryz.prog 16 #[.pointer (some ⟨w4.heap.size, 0, none⟩), .int .i64 base, .agg #[.int .i64 e, .int .i64 f, .slice va rs.length vk]] wD fun E w' => E = .returned (.int .i64 e4) ∧ Hid (PQ w3 w' w3.heap.size w4.heap.size st4 st4 ∧ Ln w' wB.heap.size vl (.slice oa rs.length ok) ru)) := hide (by
        obtain ⟨⟨F', k1, k2, k3⟩, k4, k5, k6⟩ := HD.out
        have := owrR_any w4.heap.size G wD st3 base e f _ rs (IC.out.below (BW.out wD k6).1) HF.out (by omega) k4 5000 101 BG3.out (by omega) (by omega)
        rw [HS.out, H4.out] at this
        refine this.mono ?_
        rintro E w' ⟨rfl, hst⟩
        have dis : ∀ g, F' g → ¬ G g := fun g hFg hGg => by
          rcases k3 g hFg with q | q
          · exact ALL.out.2.2.1 g q hGg
          · have h1 := ALL.out.2.1 g hGg; have h2 := SC.out; have : wC.heap.size ≤ g := q; omega
        have lowF : ∀ g, F' g → w3.heap.size ≤ g := fun g hFg => by
          rcases k3 g hFg with q | q
          · exact ALL.out.2.2.2.1 g q
          · have h2 := BC3.out.size; have : wC.heap.size ≤ g := q; omega
        refine ⟨rfl, hide ⟨PQ.stepQ k1 k4 dis lowF ALL.out.2.2.2.2 k6 hst, ?_⟩⟩
        obtain ⟨G', _, j2, _⟩ := hst
        exact k5.out HVO.out j2 ALL.out.2.1)
      clear WRP PC DC
      go_wp2_with fail
      refine WRQ.out.mono ?_
      rintro E wE ⟨rfl, HE⟩
      have PE := hide HE.out.1
      have LE := hide HE.out.2
      have t4 : (e4 != e4) = false := by simp
      clear y0 y1 y2
      obtain ⟨y0, y1, y2⟩ := RC.out wE (BW.out wE PE.out.bel).2
      have KC := hide (keptCs_yes vl _ ru rs wB.heap.size wE LE.out.ol.row ERU.out LE.out.lr (IC.out.below (BW.out wE PE.out.bel).1) HF.out hru0)
      clear WRQ HD HE
      go_wp2_with fail
      refine KC.out.mono ?_
      rintro E wF ⟨rfl, belF⟩
      have PF := hide (PE.out.below belF)
      clear KC PE LE belF y0 y1 y2
      have S1 := hide (PF.out.askP fun F hk' => steps_any w3.heap.size F wF st4 hk')
      have S2 := hide (PF.out.askQ fun G hk' => stepsR_any w4.heap.size G wF st4 hk')
      have O1 := hide (PF.out.askP fun F hk' => on_any w3.heap.size F wF st4 hk')
      have O2 := hide (PF.out.askQ fun G hk' => onR_any w4.heap.size G wF st4 hk')
      obtain ⟨cn, hcn⟩ : ∃ y, st4.count = y := ⟨_, rfl⟩
      obtain ⟨on, hon⟩ : ∃ y, st4.on = y := ⟨_, rfl⟩
      rw [hcn] at S1 S2
      rw [hon] at O1 O2
      have t5 : (on != on) = false := by cases on <;> rfl
      clear hcn hon
      go_wp2_with fail
      refine S1.out.mono ?_
      rintro E wX ⟨rfl, hwX⟩
      obtain rfl := hwX.symm
      go_wp2_with fail
      refine S2.out.mono ?_
      rintro E wX ⟨rfl, hwX⟩
      obtain rfl := hwX.symm
      go_wp2_with fail
      refine O1.out.mono ?_
      rintro E wX ⟨rfl, hwX⟩
      obtain rfl := hwX.symm
      go_wp2_with fail
      refine O2.out.mono ?_
      rintro E wX ⟨rfl, hwX⟩
      obtain rfl := hwX.symm
      clear S1 S2 O1 O2
      have PLP := hide (PF.out.callP fun F hk' hF => pull_any w3.heap.size F wF st4 hk')
      have PLQ : Hid (∀ W, PQ w3 W w3.heap.size w4.heap.size (Dm.pull st4).2 st4 → Calls Tryz.prog 23 #[.pointer (some ⟨w4.heap.size, 0, none⟩)] W fun E w' => E = .returned (.int .i64 (Dm.pull st4).1) ∧ Hid (PQ w3 w' w3.heap.size w4.heap.size (Dm.pull st4).2 (Dm.pull st4).2)) := hide fun W hW => hW.callQ fun G hk' hG => pullR_any w4.heap.size G W st4 hk'
      have BG5 := hide (big_pull BG4'.out)
      obtain ⟨⟨e5, st5⟩, h5⟩ : ∃ y, Dm.pull st4 = y := ⟨_, rfl⟩
      rw [h5] at PLP PLQ BG5
      simp only at PLP PLQ BG5
      have t6 : (e5 != e5) = false := by simp
      clear h5 BG4'
      go_wp2_with fail
      refine PLP.out.mono ?_
      rintro E wG ⟨rfl, PG⟩
      go_wp2_with fail
      refine (PLQ.out wG PG.out).mono ?_
      rintro E wH ⟨rfl, PH⟩
      clear PLP PLQ PF PG
      have STP := hide (PH.out.callP fun F hk' hF => start_any w3.heap.size F wH st5 k t hk' ht (fun f => by have := BG5.out.1.1 f; omega) (by have := BG5.out.1.2.1; omega))
      have STQ : Hid (∀ W, PQ w3 W w3.heap.size w4.heap.size (Dm.start st5 k t).2 st5 → Calls Tryz.prog 25 #[.pointer (some ⟨w4.heap.size, 0, none⟩), .int .i64 k, .int .i64 t] W fun E w' => E = .returned (.int .i64 (Dm.start st5 k t).1) ∧ Hid (PQ w3 w' w3.heap.size w4.heap.size (Dm.start st5 k t).2 (Dm.start st5 k t).2)) := hide fun W hW => hW.callQ fun G hk' hG => startR_any w4.heap.size G W st5 k t hk' hk ht (fun f => by have := BG5.out.1.1 f; omega) (by have := BG5.out.1.2.1; omega)
      have BG6 := hide (big_start BG5.out k t)
      obtain ⟨⟨e6, st6⟩, h6⟩ : ∃ y, Dm.start st5 k t = y := ⟨_, rfl⟩
      rw [h6] at STP STQ BG6
      simp only at STP STQ BG6
      have t7 : (e6 != e6) = false := by simp
      clear h6 BG5
      go_wp2_with fail
      refine STP.out.mono ?_
      rintro E wI ⟨rfl, PI⟩
      go_wp2_with fail
      refine (STQ.out wI PI.out).mono ?_
      rintro E wJ ⟨rfl, PJ⟩
      clear STP STQ PH PI
      have DUP : Hid (Calls Tryz.prog 27 #[.pointer (some ⟨w3.heap.size, 0, none⟩), .int .i64 3] wJ fun E w' => ∃ vd, E = .returned vd ∧ Own .u8 5 wJ.heap.size w' vd (duB st6 3) ∧ Below wJ.heap.size wJ w') := hide (by
        obtain ⟨F', G', h1, _⟩ := PJ.out.ex
        exact durable_any w3.heap.size F' wJ st6 3 h1 (fun f => by have := BG6.out.1.1 f; omega))
      go_wp2_with fail
      refine DUP.out.mono ?_
      rintro E wK ⟨vd1, rfl, own1, belK⟩
      have PK := hide (PJ.out.below belK)
      have DUQ : Hid (Calls Tryz.prog 28 #[.pointer (some ⟨w4.heap.size, 0, none⟩), .int .i64 3] wK fun E w' => ∃ vd, E = .returned vd ∧ Own .u8 5 wK.heap.size w' vd (duB st6 3) ∧ Below wK.heap.size wK w') := hide (by
        obtain ⟨F', G', _, h2, _⟩ := PK.out.ex
        exact durR_any w4.heap.size G' wK st6 3 h2 (fun f => by have := BG6.out.1.1 f; omega))
      have hdl : (duB st6 3).length ≤ 1000000 := by
        have := BG6.out.1.1 3
        unfold duB
        rw [if_neg (by decide)]
        show (st6.sure 3).length ≤ 1000000
        omega
      clear DUP PJ
      go_wp2_with fail
      refine DUQ.out.mono ?_
      rintro E wL ⟨vd2, rfl, own2, belL⟩
      have SB := hide (same_yes vd1 vd2 (duB st6 3) (duB st6 3) wL (own1.is.below belL) own2.is (by omega) rfl)
      have BL := hide (PK.out.bel.trans (belL.mono PK.out.bel.size))
      clear DUQ own1 own2 belK belL PK
      go_wp2_with fail
      refine SB.out.mono ?_
      rintro E wM ⟨rfl, belM⟩
      have BM := hide (BL.out.trans (belM.mono BL.out.size))
      obtain ⟨y0, y1, y2⟩ := RC.out wM (BW.out wM BM.out).2
      have N1 := hide (ponil_any (.pointer none) base e f _ rs wM (.inl rfl) (IC.out.below (BW.out wM BM.out).1) HF.out (by omega))
      clear SB BL belM
      go_wp2_with fail
      refine N1.out.mono ?_
      rintro E wN ⟨rfl, belN⟩
      have BN := hide (BM.out.trans (belN.mono BM.out.size))
      obtain ⟨wO, hwO, szO, belO, hO⟩ := blk_step wN #[.bool false, .bool false, .int .i64 0, .slice none 0 0, .slice none 0 0, .slice none 0 0, .slice none 0 0, .slice none 0 0, .int .i64 0] 47
      have BO := hide (BN.out.trans (belO.mono BN.out.size))
      clear y0 y1 y2
      obtain ⟨y0, y1, y2⟩ := RC.out wO (BW.out wO BO.out).2
      have N2 := hide (ponil_any (.pointer (some ⟨wN.heap.size, 0, none⟩)) base e f _ rs wO (.inr ⟨_, rfl, blk_cell hO 0 rfl⟩) (IC.out.below (BW.out wO BO.out).1) HF.out (by omega))
      clear N1 belN BM BN belO hO szO
      go_wp2_with fail
      refine N2.out.mono ?_
      rintro E wP ⟨rfl, belP⟩
      have BP := hide (BW.out wP (BO.out.trans (belP.mono BO.out.size))).1
      clear N2 belP
      go_wp2
      go_ret
      exact ⟨rfl, BP.out⟩

theorem orphanWrite_walk (vb : Value) (bs : List Int) (base : Int) (x : Sw) (fz k t : Int) (w : World) (hb : Is .u8 w vb bs) (hlb : bs.length * 1 ≤ 140737488351232) (hba : (Lit.int .i64 base).wf = true) (h : IsC w x.v x.rs) (hf : FitC x.rs) (hl : x.rs.length * 40 ≤ 140737488351232) (hz : (Lit.int .i64 fz).wf = true) (hk : (Lit.int .i64 k).wf = true) (ht : (Lit.int .i64 t).wf = true) :
    Calls Tryz.prog 3 #[vb, .int .i64 base, .agg #[.int .i64 x.e, .int .i64 x.f, x.v], .int .i64 fz, .int .i64 k, .int .i64 t] w fun E w' => E = .returned (.bool true) ∧ Below w.heap.size w w' := by
  have I : ∀ {z : Int}, (Lit.int .i64 z).wf = true → z ≤ 9223372036854775807 := fun {z} h => by
    have := range_i64 (zs := [z]) (by simpa using h) 0
    simp at this
    omega
  exact orphanWrite_w vb bs base x fz k t w hb (by omega) h hf (by omega) (I hz) (I hk) (I ht)

end Go.Proofs.YtkpnkknolobioaaGreat

/- Proved: OrphanWrite -/
namespace Go.Proofs.YtkpnkknolobioaaGreat
open Go.ChangeShapes Go.WideShapes Go.ChangeAt Go.RowKit
open Go.ChangeMaps (open_string shut_string)
set_option linter.unusedVariables false

namespace orphanWriteFrame
theorem own : ownKnob Tryz.prog.godebug = none := by kernel_rfl
theorem laidOut : laidOutB Tryz.prog = true := by kernel_rfl
theorem bytes5 : Tryz.prog.bytesOf 5 = 1 := by kernel_rfl
theorem cells25 : Tryz.prog.cellsOf 25 = 3 := by kernel_rfl
theorem bytes25 : Tryz.prog.bytesOf 25 = 40 := by kernel_rfl
theorem cells59 : Tryz.prog.cellsOf 59 = 3 := by kernel_rfl
theorem bytes59 : Tryz.prog.bytesOf 59 = 40 := by kernel_rfl
theorem cells93 : Tryz.prog.cellsOf 93 = 3 := by kernel_rfl
theorem bytes93 : Tryz.prog.bytesOf 93 = 40 := by kernel_rfl

set_option maxRecDepth 100000 in
theorem lifted (os : Os) (started : os.Started) (H : Type) (enc : TypeId × Value → H) :
    ReturnsInHanded {} Tryz.checked os 3 .any (Rows.orphanWriteSpec.pre6 enc Tryz.prog Tryz.f3 Rows.orphanWriteRow.domain false) (Rows.orphanWriteSpec.post enc Tryz.prog Tryz.f3 false true false false) := by
  refine returnsInHanded_of_change_sized (C := Tryz.checked) own started (by kernel_rfl) Tryz.func3
    (ChangeSpec.witness6 (enc := enc) (C := Tryz.checked) false ⟨#[], #[.slice none 0 0, .int .i64 0, .agg #[.int .i64 0, .int .i64 0, .slice none 0 0], .int .i64 0, .int .i64 0, .int .i64 0], []⟩ 8 (by kernel_rfl) (by kernel_rfl) (by kernel_rfl) (by kernel_rfl)) ?_
  intro W base args ds gs before hval0 hW hcnd hsz0 _
  have hsz : (DataW.weightsEach Tryz.prog (Tryz.f3.params.toList ++ Rows.orphanWriteSpec.plain.varTypes Tryz.prog) (ds ++ gs)).all (· ≤ reachBytes) = true := hsz0
  clear hsz0
  have hval : ∀ (j : Nat) t v, Tryz.f3.params[j]? = some t → args[j]? = some v → Value.okWide Tryz.prog W .any base t v := hval0
  have hW' := hW
  obtain ⟨p, q, hA0, hV, rfl, hfz, hnd⟩ := hW
  have hA : DataW.TrodAll enc Tryz.prog W 0 (fun _ => true) true Tryz.f3.params.toList args.toList ds p := hA0
  rw [Tryz.params3] at hA hval hsz
  obtain ⟨v0, vs0, d0, ds0, p0, q0, hargs, rfl, rfl, h0, r0⟩ := trodAll_cons hA
  obtain ⟨v1, vs1, d1, ds1, p1, q1, rfl, rfl, rfl, h1, r1⟩ := trodAll_cons r0
  obtain ⟨v2, vs2, d2, ds2, p2, q2, rfl, rfl, rfl, h2, r2⟩ := trodAll_cons r1
  obtain ⟨v3, vs3, d3, ds3, p3, q3, rfl, rfl, rfl, h3, r3⟩ := trodAll_cons r2
  obtain ⟨v4, vs4, d4, ds4, p4, q4, rfl, rfl, rfl, h4, r4⟩ := trodAll_cons r3
  obtain ⟨v5, vs5, d5, ds5, p5, q5, rfl, rfl, rfl, h5, r5⟩ := trodAll_cons r4
  obtain ⟨rfl, rfl, rfl⟩ := trodAll_nil r5
  obtain rfl : args = #[v0, v1, v2, v3, v4, v5] := by cases args; simp_all
  obtain ⟨rfl, rfl⟩ := trodVars_none hV
  obtain ⟨a0, len0, cap0, rfl⟩ := okWide_slice Tryz.underlying22 (hval 0 22 v0 rfl rfl)
  have k0 := h0
  have lt0 : ∀ x ∈ p0, x.block < W.heap.size := by obtain ⟨m, hm⟩ := k0; exact DataW.trod_lt m _ _ _ hm
  obtain ⟨z0, w0, b0⟩ : ∃ zs, Is .u8 W (.slice a0 len0 cap0) zs ∧ zs.length * 1 ≤ 140737488351232 := by
    obtain ⟨fuel, hf⟩ := h0
    rcases open_ints Tryz.underlying22 Tryz.underlying5 (by kernel_rfl) hf with ⟨hcs, _⟩ | ⟨x, l, c, zs, hcs, _, hl, hm, hz, hx, hcell, hwz⟩
    · simp [Value.cells] at hcs
      obtain ⟨rfl, rfl, rfl⟩ := hcs
      exact ⟨[], Is.nil _ _, by simp⟩
    · simp [Value.cells] at hcs
      obtain ⟨rfl, rfl, rfl⟩ := hcs
      have hd : d0 = _ := (Prod.mk.inj hx).1
      have hzl : zs.length = cap0 := by simpa using hz
      have hlen : (zs.take len0).length = len0 := by rw [List.length_take]; omega
      refine ⟨zs.take len0, ⟨fun z hz => hwz z (List.mem_of_mem_take hz), .inr ⟨x, cap0, by rw [hlen], by omega, hm, fun j hj => ?_⟩⟩, ?_⟩
      · rw [hlen] at hj
        rw [hcell j (by omega)]
        simp [List.getD, hj]
      · rw [hd] at hsz
        have := sized_slice hsz (j := 0) (t := 22) (e := 5) rfl rfl Tryz.underlying22
        rw [bytes5] at this
        simp only [lits, List.length_map, List.length_take, List.length_drop, reachBytes] at this
        rw [hlen]
        omega
  obtain ⟨a1, rfl, rfl, rfl, w1⟩ := open_int Tryz.underlying3 (hval 1 3 v1 rfl rfl) h1
  have k2 := h2
  have lt2 : ∀ x ∈ p2, x.block < W.heap.size := by obtain ⟨m, hm⟩ := k2; exact DataW.trod_lt m _ _ _ hm
  have ww2 : ∀ n ∈ d2.weights Tryz.prog 25, n ≤ reachBytes := fun n hn => of_decide_eq_true (List.all_eq_true.1 hsz n (DataW.weights_mem_each (j := 2) (t := 25) rfl rfl n hn))
  obtain ⟨z2, rfl, w2, g2, b2⟩ := open_section Tryz.underlying25 (by kernel_rfl) cells25 Tryz.underlying3 Tryz.underlying3 Tryz.underlying23 Tryz.underlying59 (by kernel_rfl) cells59 bytes59 Tryz.underlying3 Tryz.underlying3 Tryz.underlying57 Tryz.underlying93 (by kernel_rfl) cells93 bytes93 Tryz.underlying4 Tryz.underlying9 Tryz.underlying9 (hval 2 25 v2 rfl rfl) h2 ww2
  obtain ⟨a3, rfl, rfl, rfl, w3⟩ := open_int Tryz.underlying3 (hval 3 3 v3 rfl rfl) h3
  obtain ⟨a4, rfl, rfl, rfl, w4⟩ := open_int Tryz.underlying3 (hval 4 3 v4 rfl rfl) h4
  obtain ⟨a5, rfl, rfl, rfl, w5⟩ := open_int Tryz.underlying3 (hval 5 3 v5 rfl rfl) h5
  clear hA0 hval0
  refine (orphanWrite_walk _ z0 a1 z2 a3 a4 a5 W w0 b0 w1 w2 g2 b2 w3 w4 w5).mono fun e W' ⟨he, bel⟩ => ?_
  subst he
  exact ⟨_, rfl, _, _, _, [], _, [], hW', trodAll_mk1 (shut_bool Tryz.underlying4 _), (trodAll_cons_mk (Below.trod laidOut (by kernel_rfl) (of_decide_eq_true (by kernel_rfl)) k0 bel lt0) (trodAll_cons_mk (shut_int Tryz.underlying3 w1) (trodAll_cons_mk (Below.trod laidOut (by kernel_rfl) (of_decide_eq_true (by kernel_rfl)) k2 bel lt2) (trodAll_cons_mk (shut_int Tryz.underlying3 w3) (trodAll_cons_mk (shut_int Tryz.underlying3 w4) (trodAll_cons_mk (shut_int Tryz.underlying3 w5) trodAll_mk0)))))), rfl, bel.frame _, fun h => by cases h⟩

theorem over : Rows.orphanWriteRow.holds Tryz.pinned (OpenSpec.ofChange Rows.orphanWriteSpec) :=
  OpenClaim.holds_of_wide 3 Tryz.f3 rfl rfl rfl rfl rfl rfl rfl ⟨rfl, rfl, rfl, rfl, rfl⟩ rfl rfl rfl rfl rfl (by kernel_rfl) Tryz.func3 (by kernel_rfl)
    (of_decide_eq_true (by kernel_rfl)) (by unfold Func.isWrapper; first | (rw [if_pos (by decide +kernel)]; kernel_rfl) | (rw [if_neg (by decide +kernel)]; exact ⟨rfl, rfl⟩))
    (fun os started H enc _ => lifted os started H enc)
end orphanWriteFrame

/-- The statement. -/
theorem orphanWrite_holds : Rows.OrphanWriteSaid := orphanWriteFrame.over
#print axioms orphanWrite_holds
end Go.Proofs.YtkpnkknolobioaaGreat
