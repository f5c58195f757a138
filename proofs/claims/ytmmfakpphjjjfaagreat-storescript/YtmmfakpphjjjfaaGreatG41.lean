/- Texts of one layer, one behind the other. -/
import Derived.Test.YtmmfakpphjjjfaaGreatG37
import Derived.Test.YtmmfakpphjjjfaaGreatG40
import Derived.Test.YtmmfakpphjjjfaaGreatG33
import Derived.Test.YtmmfakpphjjjfaaGreatG39
import Derived.Test.YtmmfakpphjjjfaaGreatG6
import Derived.Test.YtmmfakpphjjjfaaGreatProg
import Derived.Test.YtmmfakpphjjjfaaGreatG4
import Derived.Test.YtmmfakpphjjjfaaGreatG5
import Derived.Test.YtmmfakpphjjjfaaGreatG9
import Derived.Test.YtmmfakpphjjjfaaGreatG18
/- Runs that are none, or that nobody made. -/
namespace Go.Proofs.YtmmfakpphjjjfaaGreat
open Go.RowKit
set_option linter.unusedVariables false

end Go.Proofs.YtmmfakpphjjjfaaGreat

/- Open of a store. -/
namespace Go.Proofs.YtmmfakpphjjjfaaGreat
open Go.RowKit
open Bm (Ov)
set_option linter.unusedVariables false

set_option maxHeartbeats 1000000 in
theorem refuses0_any (p q : Nat) (F1 : Nat → Prop) (w : World) (d : Dm.Ds) (bk : Bool) (v : Value) (hB : w.heap[p]? = some (.cells #[.pointer (some ⟨q, 0, none⟩), .bool bk, v] 81 (0, 0))) (h1 : Pk q F1 w d) :
  Calls Tryz.prog 121 #[.pointer (some ⟨p, 0, none⟩)] w fun E w' => (E = .returned (.int .i64 6) ∧ Out (fun g => g = p) w w') ∨ (E = .returned (.int .i64 0) ∧ w = w') := by
 have HM := hide (hmade_any p q w _ _ hB)
 have HO := hide (on_any q F1 w d h1)
 have c0 := blk_cell hB 0 rfl
 have c1 := blk_cell hB 1 rfl
 have f1 := blk_froz hB 1
 simp only [List.getElem_toArray, List.getElem_cons_zero, List.getElem_cons_succ] at c0 c1
 have OX : Hid (Out (fun g => g = p) w (w.setCell ⟨p, 1, none⟩ (.bool true))) := hide (Out.of_grown (grown_setCell w ⟨p, 1, none⟩ (.bool true)) fun g hg => by simp at hg; exact hg.symm)
 generalize d.on = on at HO
 clear hB h1
 cases bk <;> cases on
 ·go_enter Tryz.func121, Tryz.ntmps121
  go_wp2_with fail
  refine HM.out.mono ?_
  rintro E w1 ⟨rfl, rfl⟩
  go_wp2_with fail
  refine HO.out.mono ?_
  rintro E w1 ⟨rfl, rfl⟩
  go_wp2
  go_ret
  exact .inl ⟨rfl, OX.out⟩
 ·go_enter Tryz.func121, Tryz.ntmps121
  go_wp2_with fail
  refine HM.out.mono ?_
  rintro E w1 ⟨rfl, rfl⟩
  go_wp2_with fail
  refine HO.out.mono ?_
  rintro E w1 ⟨rfl, rfl⟩
  go_wp2
  go_ret
  exact .inr ⟨rfl, rfl⟩
 ·go_enter Tryz.func121, Tryz.ntmps121
  go_wp2_with fail
  refine HM.out.mono ?_
  rintro E w1 ⟨rfl, rfl⟩
  go_wp2
  go_ret
  exact .inl ⟨rfl, OX.out⟩
 ·go_enter Tryz.func121, Tryz.ntmps121
  go_wp2_with fail
  refine HM.out.mono ?_
  rintro E w1 ⟨rfl, rfl⟩
  go_wp2
  go_ret
  exact .inl ⟨rfl, OX.out⟩

theorem flush0_any (p q : Nat) (F1 : Nat → Prop) (w : World) (d : Dm.Ds) (bk : Bool) (v : Value) (hB : w.heap[p]? = some (.cells #[.pointer (some ⟨q, 0, none⟩), .bool bk, v] 81 (0, 0))) (h1 : Pk q F1 w d) :
  Calls Tryz.prog 77 #[.pointer (some ⟨p, 0, none⟩), .agg #[.int .i64 0, .int .i64 0, .slice none 0 0]] w fun E w' => (E = .returned (.int .i64 6) ∨ E = .returned (.int .i64 2)) ∧ Out (fun g => g = p) w w' := by
 obtain ⟨w1, hw1, sz1, bel1, hB0⟩ := blk_step w #[.int .i64 0, .int .i64 0, .slice none 0 0] 112
 have c0 : w1.cell? ⟨w.heap.size, 0, none⟩ = some (.int .i64 0) := blk_cell hB0 0 rfl
 have c1 : w1.cell? ⟨w.heap.size, 1, none⟩ = some (.int .i64 0) := blk_cell hB0 1 rfl
 have c2 : w1.cell? ⟨w.heap.size, 2, none⟩ = some (.slice none 0 0) := blk_cell hB0 2 rfl
 have HR := hide (refuses0_any p q F1 w1 d bk v ((bel1.block p (blk_lt hB)).trans hB) (h1.below bel1))
 have HFR := hide (hframed_any 0 0 (.slice none 0 0) [] w1 (IsO.nil _) (fun o ho => by simp at ho) (by simp))
 unfold cmv at HFR
 rw [show Rn.chk 0 0 [] = 2 from rfl] at HFR
 have B1 := hide bel1
 clear hB h1 hB0 bel1 sz1
 go_enter Tryz.func77, Tryz.ntmps77
 go_wp2_with fail
 refine HR.out.mono ?_
 rintro E w2 (⟨rfl, o2⟩ | ⟨rfl, rfl⟩)
 ·have O2 := hide ((Out.of_below (F := fun g => g = p) B1.out).trans o2 fun g hg => .inl hg)
  clear o2 HR
  go_wp2
  go_ret
  exact ⟨.inl rfl, O2.out⟩
 ·clear HR
  go_wp2_with fail
  refine HFR.out.mono ?_
  rintro E w2 ⟨vb, rfl, own, bel2⟩
  obtain ⟨ab, cb, hvb, _, _⟩ := own.is.shape
  have O2 := hide (Out.of_below (F := fun g => g = p) (B1.out.trans (bel2.mono B1.out.size)))
  subst hvb
  clear own bel2
  go_wp2
  go_ret
  exact ⟨.inr rfl, O2.out⟩

theorem aremade_any (p q : Nat) (F : Nat → Prop) (w : World) (s : Rl.Rs) (h : RW p q F w s) :
  Calls Tryz.prog 38 #[.pointer (some ⟨p, 0, none⟩)] w fun E w' => E = .returned (.bool true) ∧ Below w.heap.size w w' := by
 obtain ⟨F1, G1, h1, ⟨v, rs, hv, hG⟩, hF⟩ := h
 have c0 := blk_cell hv.blk 0 rfl
 have c1 := blk_cell hv.blk 1 rfl
 have c2 := blk_cell hv.blk 2 rfl
 simp only [List.getElem_toArray, List.getElem_cons_zero, List.getElem_cons_succ] at c0 c1 c2
 obtain ⟨V, hV1, hV, szV, bV, BV, x0, x1, x2⟩ := new_step w 81 (.pointer none) (.bool false) (.slice none 0 0) (.pointer (some ⟨q, 0, none⟩)) (.bool s.bk) v
 have HFL := hide (flush0_any w.heap.size q F1 V s.d s.bk v BV (h1.below bV))
 obtain ⟨la, ln, lk, hlv⟩ : ∃ a n k, v = .slice a n k := by
  obtain ⟨a1, k1, h1, _⟩ := hv.log.row.row.shape
  exact ⟨a1, _, k1, h1⟩
 have B1 := hide bV
 generalize s.bk = bk at *
 subst hlv
 clear hv h1 hF hG bV BV szV
 go_enter Tryz.func38, Tryz.ntmps38
 go_wp2_with fail
 refine HFL.out.mono ?_
 rintro E w2 ⟨rfl | rfl, o2⟩
 all_goals
  have O2 := hide (B1.out.trans (o2.below (base := w.heap.size) (fun g hg => by omega) B1.out.size))
  clear o2 HFL
  go_wp2
  go_ret
  exact ⟨rfl, O2.out⟩

theorem sw_new {p q : Nat} {F : Nat → Prop} {w w1 w2 : World} {r : Rl.Rs} (h : RW p q F w r) (hb : Below w.heap.size w w1) (ht : Tb (w.heap.size + 1) w.heap.size w1 []) (hw : w1.alloc (.cells #[.pointer (some ⟨p, 0, none⟩), .slice none 0 0, .pointer (some ⟨w.heap.size + 1, 0, none⟩)] 95) = w2) :
  Sk w1.heap.size p (SB w1.heap.size (w.heap.size + 1) w.heap.size (.slice none 0 0) []) w2 [] ∧ Below w.heap.size w w2 ∧ ∀ g, SB w1.heap.size (w.heap.size + 1) w.heap.size (.slice none 0 0) [] g → w.heap.size ≤ g := by
 obtain ⟨W, hW, sz, bel, hB⟩ := blk_step w1 #[.pointer (some ⟨p, 0, none⟩), .slice none 0 0, .pointer (some ⟨w.heap.size + 1, 0, none⟩)] 95
 rw [hw] at hW
 subst hW
 have hs := hb.size
 have hge : ∀ g, SB w1.heap.size (w.heap.size + 1) w.heap.size (.slice none 0 0) [] g → w.heap.size ≤ g := by
  rintro g (e | e | e | e | ⟨c, hc, _⟩)
  ·omega
  ·omega
  ·omega
  ·simp [Value.ownBlock] at e
  ·simp at hc
 exact ⟨⟨_, _, _, _, ⟨hB, Rt.nil _ _, ht.below bel⟩, rfl⟩, hb.trans (bel.mono hs), hge⟩

set_option maxRecDepth 20000 in
set_option maxHeartbeats 4000000 in
theorem sopen_any (p q : Nat) (F : Nat → Prop) (w : World) (r : Rl.Rs) (vr : Value) (rs : List Cw) (h : RW p q F w r) (hr : IsC w vr rs) (hf : FitC rs) (hl : rs.length ≤ 100000) :
  Calls Tryz.prog 13 #[.pointer (some ⟨p, 0, none⟩), vr] w fun E w' => ((Cm.fol 1 (Cm.lastN 0 r.l) 0 (cvs rs)).1 ≠ 0 ∧ E = .returned (.tuple #[.pointer none, .int .i64 (Cm.fol 1 (Cm.lastN 0 r.l) 0 (cvs rs)).1]) ∧ Below w.heap.size w w') ∨ ((Cm.fol 1 (Cm.lastN 0 r.l) 0 (cvs rs)).1 = 0 ∧ ∃ ps, E = .returned (.tuple #[.pointer (some ⟨ps, 0, none⟩), .int .i64 0]) ∧ ∃ G, Sk ps p G w' (cvs rs) ∧ (∀ g, G g → w.heap.size ≤ g) ∧ Below w.heap.size w w') := by
 have HM := hide (aremade_any p q F w r h)
 have HW := hide h
 have HI := hide hr
 have HFC := hide hf
 have hgl := Rl.good_len h.good
 obtain ⟨ra, rk, hvr, _, _⟩ := hr.1.shape
 obtain ⟨fe, hfe⟩ : ∃ x, (Cm.fol 1 (Cm.lastN 0 r.l) 0 (cvs rs)).1 = x := ⟨_, rfl⟩
 obtain ⟨fp, hfp⟩ : ∃ x, (Cm.fol 1 (Cm.lastN 0 r.l) 0 (cvs rs)).2 = x := ⟨_, rfl⟩
 have hat := Cm.fol_at (cvs rs) 1 (Cm.lastN 0 r.l) 0
 rw [hfe, hfp] at hat
 rw [hfe]
 have HAT := hide hat
 have HGD : Hid (fe = 0 → Cm.Good 1 (Cm.lastN 0 r.l) (cvs rs)) := hide fun e => (Cm.fol_good _ _ _ 0).1 (by rw [hfe]; exact e)
 have HFE := hide (And.intro hfe hfp)
 obtain ⟨n, hn⟩ : ∃ n, rs.length = n := ⟨_, rfl⟩
 have HN := hide hn
 rw [hn] at hvr hl
 have HVR := hide hvr
 have q1 := Tryz.neqF fe fp 0 0
 have q2 := Tryz.guardF .neq
 clear h hr hf hat hfe hfp hn hgl
 rw [hvr]
 clear hvr
 go_enter Tryz.func13, Tryz.ntmps13
 go_wp2_with fail
 refine HM.out.mono ?_
 rintro E w1 ⟨rfl, bel1⟩
 have W1 := hide (HW.out.below bel1)
 have I1 := hide (show IsC w1 vr rs from ⟨HI.out.1.below bel1, fun c hc => ⟨(HI.out.2 c hc).1.below bel1, (HI.out.2 c hc).2⟩⟩)
 have HE := hide (hrend_any p q F w1 r W1.out)
 have B1 := hide bel1
 clear HM bel1
 go_wp2_with fail
 refine HE.out.mono ?_
 rintro E w2 ⟨rfl, rfl⟩
 have HF := hide (cfol_any 1 (Cm.lastN 0 r.l) vr rs w1 I1.out HFC.out (by have := HN.out; omega))
 unfold flv at HF
 rw [HFE.out.1, HFE.out.2, HVR.out] at HF
 clear HE
 go_wp2_with fail
 refine HF.out.mono ?_
 rintro E w2 ⟨rfl, bel2⟩
 obtain ⟨w3, hw3, hw32, sz3, bel3, hF3, x0, x1⟩ := new_two w2 90 (.int .i64 0) (.int .i64 0) (.int .i64 fe) (.int .i64 fp)
 have b13 := bel2.trans (bel3.mono bel2.size)
 have B3 := hide (B1.out.trans (b13.mono B1.out.size))
 have W3 := hide (W1.out.below b13)
 have I3 := hide (show IsC w3 vr rs from ⟨I1.out.1.below b13, fun c hc => ⟨(I1.out.2 c hc).1.below b13, (I1.out.2 c hc).2⟩⟩)
 have HF3 := hide hF3
 clear HF bel2 bel3 b13 hF3 W1 I1 HW HI B1 sz3
 by_cases hf0 : fe = 0
 ·have hp0 := HAT.out hf0
  have gd := HGD.out hf0
  subst hf0
  subst hp0
  have GD := hide gd
  have z0 : w3.setCell ⟨w2.heap.size, 0, none⟩ (.int .i64 0) = w3 := set_same HF3.out (j := 0) rfl
  have z1 : w3.setCell ⟨w2.heap.size, 1, none⟩ (.int .i64 0) = w3 := set_same HF3.out (j := 1) rfl
  have f0 := blk_froz HF3.out 0
  have f1 := blk_froz HF3.out 1
  clear gd HGD HAT HFE HF3
  go_wp2_with fail
  refine (tnew_any w3).mono ?_
  rintro E w4 ⟨rfl, T4, b4⟩
  obtain ⟨w5, hw5⟩ : ∃ x, w4.alloc (.cells #[.pointer (some ⟨p, 0, none⟩), .slice none 0 0, .pointer (some ⟨w3.heap.size + 1, 0, none⟩)] 95) = x := ⟨_, rfl⟩
  obtain ⟨S5, b35, hge⟩ := sw_new W3.out b4 T4 hw5
  have Q0 : Hid (∃ G, Sk w4.heap.size p G w5 (cvs (rs.take 0)) ∧ (∀ g, G g → w3.heap.size ≤ g) ∧ Below w3.heap.size w3 w5) := hide ⟨_, S5, hge, b35⟩
  clear S5 b35 hge T4 b4
  go_wp2
  go_loopw [28] (fun iv wr => ∃ k : Nat, k ≤ n ∧ iv = .int .i64 k ∧ Hid (∃ G, Sk w4.heap.size p G wr (cvs (rs.take k)) ∧ (∀ g, G g → w3.heap.size ≤ g) ∧ Below w3.heap.size w3 wr)) (fun iv _ => n - (intOf iv).toNat)
  case atStart => exact ⟨0, by omega, rfl, Q0⟩
  case round =>
   obtain ⟨k, hk, rfl, HQ⟩ := hrel
   clear Q0
   by_cases hlt : k < n
   ·obtain ⟨⟨ce, cn, cv, cl⟩, hc⟩ : ∃ c, rs[k]? = some c := ⟨rs[k]'(by have := HN.out; omega), by rw [List.getElem?_eq_getElem]⟩
    obtain ⟨g, off, cq, hvx, _, _, hgw, hcell⟩ := I3.out.1.full (by have := HN.out; omega)
    rw [HN.out, HVR.out] at hvx
    simp only [Value.slice.injEq, true_and] at hvx
    obtain ⟨rfl, rfl⟩ := hvx
    obtain ⟨c0, c1, c2⟩ := hcell k _ hc
    have hm := List.mem_of_getElem? hc
    obtain ⟨G, ⟨pm, bm, v, rr, hs, rfl⟩, hge, BR⟩ := HQ.out
    have hio := ((I3.out.2 _ hm).1).below BR
    have d0 := (BR.cell (p := ⟨g, off + k * 3, none⟩) hgw).trans c0
    have d1 := (BR.cell (p := ⟨g, off + k * 3 + 1, none⟩) hgw).trans c1
    have d2 := (BR.cell (p := ⟨g, off + k * 3 + 2, none⟩) hgw).trans c2
    obtain ⟨oa, ok, hvo, _, _⟩ := hio.shape
    obtain ⟨wc, hwc, hwc2, szc, belc, bC, y0, y1, y2⟩ := new_step wr 50 (.int .i64 0) (.int .i64 0) (.slice none 0 0) (.int .i64 ce) (.int .i64 cn) cv
    have hnx := cvs_next hc
    have hgk : Cm.Good 1 (Cm.lastN 0 r.l) (cvs (rs.take k)) := by
     rw [cvs_take]
     exact Cm.good_take GD.out _
    have hch : Cm.chk ce cn cl = 0 := (Sto.good_all GD.out _ (List.mem_map.2 ⟨_, hm, rfl⟩)).1
    have HA := hide (sadd_fine w4.heap.size p pm bm wc (cvs (rs.take k)) v rr ⟨ce, cn, cv, cl⟩ (hs.below belc) (hio.below belc) hch (fun hp b hb hf => by
     have h1 := hge b hf
     obtain ⟨g', off', cap', hv', _, _, hg', _⟩ := ((I3.out.2 _ hm).1).full hp
     simp only at hv' hb
     rw [hv'] at hb
     simp [Value.ownBlock] at hb
     omega) (by rw [cvs, List.length_map, List.length_take]; omega) (Sto.tab_len hgk))
    unfold cmv at HA
    simp only at c0 c1 c2 d0 d1 d2 hvo HA
    rw [show cvs (rs.take k) ++ [(⟨ce, cn, cv, cl⟩ : Cw).c] = cvs (rs.take (k + 1)) from hnx.symm] at HA
    subst hvo
    have hlt' : (k : Int) < n := by omega
    have hk0 : (0 : Int) ≤ (k : Int) := by omega
    have HX := hide (And.intro BR (And.intro belc hge))
    clear hcell c0 c1 c2 hc hm hio bC belc hnx hgk hch hs BR hge
    go_wp2_with fail
    refine HA.out.mono ?_
    rintro E w6 ⟨⟨uu, rfl⟩, S6⟩
    have HQ2 : Hid (∃ G, Sk w4.heap.size p G w6 (cvs (rs.take (k + 1))) ∧ (∀ g, G g → w3.heap.size ≤ g) ∧ Below w3.heap.size w3 w6) := hide (by
     obtain ⟨BR, belc, hge⟩ := HX.out
     obtain ⟨G', k1, k2, k3⟩ := S6
     have b1 := BR.trans (belc.mono BR.size)
     have hz := b1.size
     refine ⟨G', k1, fun g hg => ?_, b1.trans (k2.below hge hz)⟩
     rcases k3 g hg with e | e
     ·exact hge g e
     ·omega)
    clear S6 HA HX
    go_wp2
    go_roundw
    case rel => exact ⟨k + 1, by omega, by go_num, HQ2⟩
    case measure => simp [intOf]; omega
   ·have hlt' : ¬ (k : Int) < n := by omega
    obtain rfl : k = n := by omega
    have HQ2 := HQ.out
    rw [List.take_of_length_le (by have := HN.out; omega)] at HQ2
    have FIN : Hid (∃ G, Sk w4.heap.size p G wr (cvs rs) ∧ (∀ g, G g → w.heap.size ≤ g) ∧ Below w.heap.size w wr) := hide (by
     obtain ⟨G, k1, k2, k3⟩ := HQ2
     exact ⟨G, k1, fun g hg => Nat.le_trans B3.out.size (k2 g hg), B3.out.trans (k3.mono B3.out.size)⟩)
    clear HQ2 HQ
    go_wp2
    go_ret2
    first | exact ⟨_, rfl, FIN.out⟩ | exact .inr ⟨rfl, _, rfl, FIN.out⟩
 ·have hne : (fe == 0) = false := by simpa using hf0
  go_wp2
  go_quiet (fail)
  go_wp2
  go_ret2
  first | exact ⟨rfl, below_drewN B3.out _⟩ | exact .inl ⟨hf0, rfl, below_drewN B3.out _⟩

theorem sk_sw {ps p q : Nat} {F G : Nat → Prop} {w w' : World} {r : Rl.Rs} {l : List Cm.Cv} (h : RW p q F w r) (hb : Below w.heap.size w w') (hk : Sk ps p G w' l) (hg : ∀ g, G g → w.heap.size ≤ g) (ok : Sto.Ok ⟨r, l⟩) : SW ps p q (fun g => F g ∨ G g) w' ⟨r, l⟩ :=
 ⟨F, G, h.below hb, hk, fun g h1 h2 => by
  have e1 := hg g h1
  have e2 := h.lt g h2
  omega, ok, rfl⟩

end Go.Proofs.YtmmfakpphjjjfaaGreat

/- A disk grows by a Flush only so much. -/
namespace Go.Proofs.YtmmfakpphjjjfaaGreat
open Go.RowKit
set_option linter.unusedVariables false

theorem big_ext {t u : Nat} {st : Dm.Ds} {bs : List Int} (h : Big t u st) (hl : bs.length ≤ 52236) : Big (t + 52236) (u + 818) (Rl.ext st bs).2 := by
 have hb := (big_write h 2 bs).mono (t' := t + 52236) (u' := u + 817) (by omega) (by have := cnt_run hl; omega)
 unfold Rl.ext
 split
 ·exact hb.mono (Nat.le_refl _) (by omega)
 ·exact big_sync hb

theorem big_flu {t u : Nat} {s : Rl.Rs} {c : Cm.Cv} (h : Big t u s.d) : Big (t + 52236) (u + 818) (Rl.flu s c).2.d := by
 have hm : Big (t + 52236) (u + 818) s.d := h.mono (by omega) (by omega)
 unfold Rl.flu
 split
 ·exact hm
 split
 ·exact hm
 split
 ·exact hm
 ·rename_i h1 h2
  have hf := big_ext (bs := Rl.fr c) h (Rl.fr_small (c := c) (by simpa using h1))
  split
  ·exact hf
  ·exact hf

end Go.Proofs.YtmmfakpphjjjfaaGreat

/- The statement's own: a store of its own, the chapter's example, that the program lives. -/
namespace Go.Proofs.YtmmfakpphjjjfaaGreat
open Go.RowKit
open Bm (Ov)
set_option linter.unusedVariables false

structure Sn (w wr : World) (ps p q : Nat) (F : Nat → Prop) (s : Sto.Ss) : Prop where
 sw : SW ps p q F wr s
 fb : ∀ g, F g → w.heap.size ≤ g
 bel : Below w.heap.size w wr

section
variable {w wr w' : World} {ps p q : Nat} {F : Nat → Prop} {s s' : Sto.Ss}

theorem Sn.below (h : Sn w wr ps p q F s) (hb : Below wr.heap.size wr w') : Sn w w' ps p q F s := ⟨h.sw.below hb, h.fb, h.bel.trans (hb.mono h.bel.size)⟩

theorem Sn.all (h : Sn w wr ps p q F s) (n : Nat) (h1 : s.l.length ≤ 10000) (h2 : s.r.l.length ≤ 800) : Calls Tryz.prog 21 #[.pointer (some ⟨ps, 0, none⟩), .int .i64 n] wr fun E w' => ∃ v, E = .returned v ∧ OwnO 65 wr.heap.size w' v ((Tm.live (Sto.fold s)).take n) ∧ Below wr.heap.size wr w' := by
 have ok := h.sw.ok
 have hl := Sto.tab_len ok.rest
 have := sall_of (.pointer (some ⟨ps, 0, none⟩)) wr s.r.l (Rl.tab s.l) n (Sto.tab_c ok.rest) (by omega) (fun w1 hb => sAll_any ps p q F w1 s (h.sw.below hb) (by omega))
 rw [show fldS s.r.l (Rl.tab s.l) = Sto.fold s from (Sto.fold_app s).symm] at this
 exact this

end

theorem smade_any (w : World) (vr : Value) (rs : List Cw) (hr : IsC w vr rs) (hf : FitC rs) (hl : rs.length ≤ 100000) :
  Calls Tryz.prog 24 #[vr] w fun E w' => ((Cm.fol 1 0 0 (cvs rs)).1 ≠ 0 ∧ E = .returned (.tuple #[.pointer none, .int .i64 (Cm.fol 1 0 0 (cvs rs)).1]) ∧ Below w.heap.size w w') ∨ ((Cm.fol 1 0 0 (cvs rs)).1 = 0 ∧ ∃ ps, E = .returned (.tuple #[.pointer (some ⟨ps, 0, none⟩), .int .i64 0]) ∧ ∃ p q F, Sn w w' ps p q F ⟨rs0, cvs rs⟩) := by
 have HI := hide hr
 have HF := hide hf
 have HL := hide hl
 obtain ⟨ra, rn, rk, hvr⟩ : ∃ a n k, vr = .slice a n k := by
  obtain ⟨a1, k1, h1, _⟩ := hr.1.shape
  exact ⟨a1, _, k1, h1⟩
 subst hvr
 obtain ⟨fe, hfe⟩ : ∃ x, (Cm.fol 1 0 0 (cvs rs)).1 = x := ⟨_, rfl⟩
 rw [hfe]
 have HFE := hide hfe
 clear hr hf hl hfe
 go_enter Tryz.func24, Tryz.ntmps24
 go_wp2_with fail
 refine (new_any w).mono ?_
 rintro E w1 ⟨rfl, K1, b1⟩
 have HO := hide (rnew_any w w1 w.heap.size (Nat.le_refl _) K1 b1)
 clear K1 b1
 go_wp2_with fail
 refine HO.out.mono ?_
 rintro E w2 ⟨p, F2, rfl, W2, g2, b2⟩
 have HS := hide (sopen_any p w.heap.size F2 w2 rs0 (.slice ra rn rk) rs W2 ⟨HI.out.1.below b2, fun c hc => ⟨(HI.out.2 c hc).1.below b2, (HI.out.2 c hc).2⟩⟩ HF.out HL.out)
 rw [show Cm.lastN 0 rs0.l = 0 from rfl, HFE.out] at HS
 have HW := hide (And.intro g2 (And.intro b2 W2))
 clear HO W2 g2 b2
 go_wp2_with fail
 refine HS.out.mono ?_
 rintro E w3 (⟨hne, rfl, b3⟩ | ⟨rfl, ps, rfl, S3⟩)
 ·have B3 := hide (HW.out.2.1.trans (b3.mono HW.out.2.1.size))
  clear b3 HS
  go_wp2
  go_ret2
  first | exact ⟨rfl, B3.out⟩ | exact .inl ⟨hne, rfl, B3.out⟩
 ·have FIN : Hid (∃ p q F, Sn w w3 ps p q F ⟨rs0, cvs rs⟩) := hide (by
   obtain ⟨G, k1, k2, k3⟩ := S3
   obtain ⟨g2, b2, W2⟩ := HW.out
   have hz := b2.size
   refine ⟨_, _, _, sk_sw W2 k3 k1 k2 ⟨trivial, (Cm.fol_good _ _ _ 0).1 HFE.out⟩, ?_, b2.trans (k3.mono hz)⟩
   rintro g (e | e)
   ·exact g2 g e
   ·have := k2 g e
    omega)
  clear S3 HS
  go_wp2
  go_ret2
  first | exact ⟨_, rfl, FIN.out⟩ | exact .inr ⟨rfl, _, rfl, FIN.out⟩

def sA : Ov := ⟨true, ⟨#[97]⟩, ⟨#[49]⟩⟩
def sB : Ov := ⟨true, ⟨#[98]⟩, ⟨#[50]⟩⟩
def sD : Ov := ⟨false, ⟨#[97]⟩, ⟨#[]⟩⟩
def exS : List Cm.Cv := [⟨1, 1, [sA]⟩, ⟨1, 2, [sD, sB]⟩]

structure RwC (base : Nat) (w : World) (v : Value) (rs : List Cw) : Prop where
 row : OwnR 50 base w v rs
 cop : CopyR base w rs

set_option maxHeartbeats 1000000 in
theorem sexample_any (w : World) : Calls Tryz.prog 25 #[] w fun E w' => ∃ v, E = .returned v ∧ ∃ a b c d, v = .slice (some ⟨a, 0, none⟩) 2 2 ∧ RwC w.heap.size w' v [⟨1, 1, .slice (some ⟨b, 0, none⟩) 1 1, [sA]⟩, ⟨1, 2, .slice (some ⟨c, 0, none⟩) d d, [sD, sB]⟩] ∧ Below w.heap.size w w' := by
 obtain ⟨w1, hw1, sz1, b1, o1⟩ := ops_step 65 w #[.bool true, .string ⟨#[97]⟩, .string ⟨#[49]⟩] 1 [sA] rfl rfl (by decide)
 obtain ⟨w2, hw2, sz2, b2, o2⟩ := ops_step 65 w1 #[.bool false, .string ⟨#[97]⟩, .string ⟨#[]⟩, .bool true, .string ⟨#[98]⟩, .string ⟨#[50]⟩] 2 [sD, sB] rfl rfl (by decide)
 rw [sz1] at o2
 obtain ⟨w3, hw3, sz3, b3, o3⟩ := coms_step 50 w2 #[.int .i64 1, .int .i64 1, .slice (some ⟨w.heap.size, 0, none⟩) 1 1, .int .i64 1, .int .i64 2, .slice (some ⟨w.heap.size + 1, 0, none⟩) 2 2] 2 [⟨1, 1, .slice (some ⟨w.heap.size, 0, none⟩) 1 1, [sA]⟩, ⟨1, 2, .slice (some ⟨w.heap.size + 1, 0, none⟩) 2 2, [sD, sB]⟩] rfl rfl (by decide)
 rw [sz2, sz1] at o3
 have HE : Hid (RwC w.heap.size w3 (.slice (some ⟨w.heap.size + 1 + 1, 0, none⟩) 2 2) [⟨1, 1, .slice (some ⟨w.heap.size, 0, none⟩) 1 1, [sA]⟩, ⟨1, 2, .slice (some ⟨w.heap.size + 1, 0, none⟩) 2 2, [sD, sB]⟩] ∧ Below w.heap.size w w3) := hide ⟨⟨o3.rebase (by omega), fun c hc => by
  simp only [List.mem_cons, List.not_mem_nil, or_false] at hc
  rcases hc with rfl | rfl
  ·exact (o1.below b2).below b3
  ·exact (o2.below b3).rebase (by omega)⟩, b1.trans ((b2.mono (by omega)).trans (b3.mono (by omega)))⟩
 clear o1 o2 o3 b1 b2 b3
 go_enter Tryz.func25, Tryz.ntmps25
 go_wp2
 go_ret
 exact ⟨_, rfl, _, _, _, _, rfl, HE.out⟩

theorem exS_fol : (Cm.fol 1 0 0 exS).1 = 0 := by decide
theorem exS_fold : Sto.fold ⟨rs0, exS⟩ = [sD, sB] := by rfl
theorem exS_live : (Tm.live [sD, sB]).take 9 = [sB] := by rfl
theorem exS_a : gv [sD, sB] ⟨#[97]⟩ = ⟨#[]⟩ ∧ gp [sD, sB] ⟨#[97]⟩ = false := ⟨rfl, rfl⟩
theorem exS_b : gv [sD, sB] ⟨#[98]⟩ = ⟨#[50]⟩ ∧ gp [sD, sB] ⟨#[98]⟩ = true := ⟨rfl, rfl⟩

theorem RwC.isc {base : Nat} {w : World} {v : Value} {rs : List Cw} (h : RwC base w v rs) (hg : ∀ c ∈ rs, Cm.chk c.e c.n c.l = 0) : IsC w v rs ∧ FitC rs :=
 ⟨⟨h.row.row, fun c hc => ⟨(h.cop c hc).is, (fit_com (hg c hc)).2.2.1, (fit_com (hg c hc)).2.2.2.1⟩⟩, fun c hc => ⟨(fit_com (hg c hc)).1, (fit_com (hg c hc)).2.1⟩⟩

theorem exS_chk {v1 v2 : Value} : ∀ c ∈ [(⟨1, 1, v1, [sA]⟩ : Cw), ⟨1, 2, v2, [sD, sB]⟩], Cm.chk c.e c.n c.l = 0 := fun c hc => by
 simp only [List.mem_cons, List.not_mem_nil, or_false] at hc
 rcases hc with rfl | rfl
 ·show Cm.chk 1 1 [sA] = 0; decide
 ·show Cm.chk 1 2 [sD, sB] = 0; decide

theorem smex_any (w : World) (v : Value) (b c d : Nat) (a : Nat) (h : RwC w.heap.size w v [⟨1, 1, .slice (some ⟨b, 0, none⟩) 1 1, [sA]⟩, ⟨1, 2, .slice (some ⟨c, 0, none⟩) d d, [sD, sB]⟩] ∨ ∃ b0, RwC b0 w v [⟨1, 1, .slice (some ⟨b, 0, none⟩) 1 1, [sA]⟩, ⟨1, 2, .slice (some ⟨c, 0, none⟩) d d, [sD, sB]⟩]) :
  Calls Tryz.prog 24 #[v] w fun E w' => ∃ ps, E = .returned (.tuple #[.pointer (some ⟨ps, 0, none⟩), .int .i64 0]) ∧ ∃ p q F, Sn w w' ps p q F ⟨rs0, exS⟩ := by
 have h' : ∃ b0, RwC b0 w v [⟨1, 1, .slice (some ⟨b, 0, none⟩) 1 1, [sA]⟩, ⟨1, 2, .slice (some ⟨c, 0, none⟩) d d, [sD, sB]⟩] := h.elim (fun h => ⟨_, h⟩) id
 obtain ⟨b0, h⟩ := h'
 obtain ⟨i1, i2⟩ := h.isc exS_chk
 refine (smade_any w v _ i1 i2 (by simp)).mono ?_
 rintro E w' (⟨h0, _⟩ | ⟨_, ps, rfl, hx⟩)
 ·exact absurd exS_fol h0
 ·exact ⟨ps, rfl, hx⟩

set_option maxRecDepth 20000 in
set_option maxHeartbeats 4000000 in
theorem slives_any (w : World) : Calls Tryz.prog 4 #[] w fun E w' => E = .returned (.bool true) ∧ Below w.heap.size w w' := by
 go_enter Tryz.func4, Tryz.ntmps4
 go_wp2_with fail
 refine (sexample_any w).mono ?_
 rintro E w1 ⟨v1, rfl, a, b, c, d, hv, R1, b1⟩
 have HM := hide (smex_any w1 v1 b c d a (.inr ⟨_, R1⟩))
 subst hv
 clear R1
 go_wp2_with fail
 refine HM.out.mono ?_
 rintro E w2 ⟨ps, rfl, p, q, F, N2⟩
 have HG := hide (sget_any ps p q F w2 _ ⟨#[97]⟩ N2.sw (by decide))
 rw [exS_fold, exS_a.1, exS_a.2] at HG
 have N2 := hide N2
 clear HM
 go_wp2_with fail
 refine HG.out.mono ?_
 rintro E w3 ⟨rfl, b3⟩
 have N3 := hide (N2.out.below b3)
 have HG2 := hide (sget_any ps p q F w3 _ ⟨#[98]⟩ N3.out.sw (by decide))
 rw [exS_fold, exS_b.1, exS_b.2] at HG2
 clear HG N2 b3
 go_wp2_with fail
 refine HG2.out.mono ?_
 rintro E w4 ⟨rfl, b4⟩
 have N4 := hide (N3.out.below b4)
 have HE := hide (sEnd_any ps p q F w4 _ N4.out.sw)
 rw [show Sto.fin ⟨rs0, exS⟩ = 2 from rfl] at HE
 clear HG2 N3 b4
 go_wp2_with fail
 refine HE.out.mono ?_
 rintro E w5 ⟨rfl, b5⟩
 have N5 := hide (N4.out.below b5)
 have HR := hide (sRest_any ps p q F w5 _ N5.out.sw)
 rw [show ((exS.length : Nat) : Int) = 2 from rfl] at HR
 clear HE N4 b5
 go_wp2_with fail
 refine HR.out.mono ?_
 rintro E w6 ⟨rfl, b6⟩
 have N6 := hide (N5.out.below b6)
 have HA := hide (N6.out.all 9 (by decide) (by decide))
 rw [exS_fold, exS_live] at HA
 clear HR N5 b6
 go_wp2_with fail
 refine HA.out.mono ?_
 rintro E w7 ⟨v7, rfl, o7, b7⟩
 obtain ⟨w8, hw8, sz8, b8, o8⟩ := ops_step 65 w7 #[.bool true, .string ⟨#[98]⟩, .string ⟨#[50]⟩] 1 [sB] rfl rfl (by decide)
 have HS := hide (sameO_any v7 _ [sB] [sB] w8 (o7.below b8).is o8.is (by decide) (by decide))
 rw [show Bm.sameL [sB] [sB] = true from rfl] at HS
 have b68 := b7.trans (b8.mono b7.size)
 have N8 := hide (N6.out.below b68)
 obtain ⟨xa, xk, hx, _, _⟩ := o7.is.shape
 subst hx
 clear HA N6 o7 o8 b7 b8 b68 sz8
 go_wp2_with fail
 refine HS.out.mono ?_
 rintro E w9 ⟨rfl, b9⟩
 have B9 := hide (b1.trans (((N8.out.below b9).bel).mono b1.size))
 clear HS N8 b9
 go_wp2
 go_ret
 exact ⟨rfl, B9.out⟩

end Go.Proofs.YtmmfakpphjjjfaaGreat

/- A store on a disk that stays on: each Flush is done. -/
namespace Go.Proofs.YtmmfakpphjjjfaaGreat
open Go.RowKit
open Bm (Ov)
set_option linter.unusedVariables false

def t0 : Sto.Ss := ⟨rs0, exS⟩
def t1 : Sto.Ss := (Sto.flu t0 1).2
def t2 : Sto.Ss := (Sto.flu t1 2).2

end Go.Proofs.YtmmfakpphjjjfaaGreat

/- The contract of Pick. -/
namespace Go.Proofs.YtmmfakpphjjjfaaGreat
open Go.RowKit
set_option linter.unusedVariables false

set_option maxHeartbeats 400000 in
theorem pick_any (x n : Int) (w : World) (hn : 0 < n) (hn2 : n < 9223372036854775808) (hx : -9223372036854775808 ≤ x) (hx2 : x < 9223372036854775808) :
  Calls Tryz.prog 18 #[.int .i64 x, .int .i64 n] w fun e w' => (∃ p : Nat, (p : Int) < n ∧ e = .returned (.int .i64 p)) ∧ w = w' := by
 have hnz : (n == 0) = false := by simp; omega
 have ht1 : x.tmod n < n := Int.tmod_lt_of_pos x hn
 have ht2 : -n < x.tmod n := Int.lt_tmod_of_pos x hn
 by_cases h : x.tmod n < 0
 ·go_enter Tryz.func18, Tryz.ntmps18
  go_wp2
  go_ret
  exact ⟨⟨(x.tmod n + n).toNat, by omega, ret_i64 (by omega)⟩, rfl⟩
 ·go_enter Tryz.func18, Tryz.ntmps18
  go_wp2
  go_ret
  exact ⟨⟨(x.tmod n).toNat, by omega, ret_i64 (by omega)⟩, rfl⟩

def I64 (z : Int) : Prop := -9223372036854775808 ≤ z ∧ z ≤ 9223372036854775807

def pk (x n : Int) : Int := if x.tmod n < 0 then x.tmod n + n else x.tmod n

theorem pk_lt (x n : Int) (hn : 0 < n) : 0 ≤ pk x n ∧ pk x n < n := by
 have ht1 : x.tmod n < n := Int.tmod_lt_of_pos x hn
 have ht2 : -n < x.tmod n := Int.lt_tmod_of_pos x hn
 unfold pk
 split <;> omega

set_option maxHeartbeats 400000 in
theorem pickx_any (x n : Int) (w : World) (hn : 0 < n) (hn2 : n < 9223372036854775808) (hx : I64 x) :
  Calls Tryz.prog 18 #[.int .i64 x, .int .i64 n] w fun e w' => e = .returned (.int .i64 (pk x n)) ∧ w = w' := by
 have hnz : (n == 0) = false := by simp; omega
 obtain ⟨hx1, hx2⟩ := hx
 have ht1 : x.tmod n < n := Int.tmod_lt_of_pos x hn
 have ht2 : -n < x.tmod n := Int.lt_tmod_of_pos x hn
 by_cases h : x.tmod n < 0
 ·have e : pk x n = x.tmod n + n := by simp [pk, h]
  rw [e]
  clear e
  go_enter Tryz.func18, Tryz.ntmps18
  go_wp2
  go_ret
  exact ⟨ret_i64 (by omega), rfl⟩
 ·have e : pk x n = x.tmod n := by simp [pk, h]
  rw [e]
  clear e
  go_enter Tryz.func18, Tryz.ntmps18
  go_wp2
  go_ret
  exact ⟨ret_i64 (by omega), rfl⟩

end Go.Proofs.YtmmfakpphjjjfaaGreat

/- Rows of lists of ops in memory. -/
namespace Go.Proofs.YtmmfakpphjjjfaaGreat
open Go.RowKit
open Bm (Ov)
set_option linter.unusedVariables false

structure Rw where
 v : Value
 l : List Ov

def rwc (a : Rw) : List Value := [a.v]
theorem rwc_len (a : Rw) : (rwc a).length = 1 := rfl

def IsLL (w : World) (v : Value) (r : List Rw) : Prop := RowG rwc w v r ∧ ∀ a ∈ r, IsO w a.v a.l

end Go.Proofs.YtmmfakpphjjjfaaGreat

/- A store and the log that went into it; a row of commits beside it; its disk opened again. -/
namespace Go.Proofs.YtmmfakpphjjjfaaGreat
open Go.RowKit
open Bm (Ov)
set_option linter.unusedVariables false

structure Ag (s : Sto.Ss) (la : List Cm.Cv) : Prop where
 ok : Sto.Ok s
 kin : ∃ al, Rl.Kin s.r al
 has : s.r.d.has = false
 few : la.length ≤ 128
 le : Cm.lastN 0 s.r.l ≤ la.length
 rest : s.l = la.drop (Cm.lastN 0 s.r.l).toNat
 fold : Sto.fold s = Tm.app [] (Rl.ops la)

section
variable {P : Program} {w : World} {ops : Array Oper} {rest : List Oper} {o : Oper} {a : Act} {Q : Exit → Act → World → Prop}

end

theorem RowC.slice_le {P : Program} {w : World} {v : Value} {l : List Cw} (h : RowC w v l) {t : TypeId} (ht : P.underlying t = some (.slice (P.elem t))) (hs : ∀ wx, (sizeOf (P.elem t)).run P wx = .ok 3 wx) (p : Nat) (hp : p ≤ l.length) :
  ∃ vs, (∀ wx, (Instr.slice t v (some (.int .i64 p)) none none).run P wx = .ok vs wx) ∧ RowC w vs (l.drop p) := by
 by_cases hlt : p < l.length
 ·exact h.slice_l ht hs p hlt
 ·obtain rfl : p = l.length := by omega
  obtain ⟨ao, cap, rfl, hcap, hm⟩ := h.shape
  rw [List.drop_length]
  refine ⟨sliced ao l.length l.length cap 3, fun wx => ?_, ?_⟩
  ·rw [run_slice_l wx t ao l.length cap ht .i64 _ (by omega) (by omega), hs]
   simp [Result.andThen]
  ·unfold sliced
   cases ao with
   | none =>
    rcases h with ⟨hv, e⟩ | ⟨ad, cap', hv, _⟩
    ·subst e
     simp at hv
     subst hv
     left
     simp
    ·simp at hv
   | some ad =>
    right
    refine ⟨if cap = l.length then ad else ad.add (l.length * 3), cap - l.length, ?_, by simp, by omega, fun j u hj => by simp [ccells] at hj⟩
    by_cases hc : cap = l.length
    ·simp [hc]
    ·simp [hc]

end Go.Proofs.YtmmfakpphjjjfaaGreat

/- The steps of a region of Flush's. -/
namespace Go.Proofs.YtmmfakpphjjjfaaGreat
open Go.RowKit
set_option linter.unusedVariables false

theorem wzp_new : Array.replicate 12 false = lst 12 0 := by kernel_rfl

theorem wzp_size : (regOf 11 Tryz.f53).size = 12 := by kernel_rfl

theorem wzp_t0_0 : Region.free .any (regOf 11 Tryz.f53) (lst 12 0) 0 = true ∧ (Region.ready .any (regOf 11 Tryz.f53) (lst 12 0)).contains 0 = true ∧ (lst 12 0).setIfInBounds 0 true = lst 12 1 := ⟨by kernel_rfl, by kernel_rfl, by kernel_rfl⟩

theorem wzp_t1_1 : Region.free .any (regOf 11 Tryz.f53) (lst 12 1) 1 = true ∧ (Region.ready .any (regOf 11 Tryz.f53) (lst 12 1)).contains 1 = true ∧ (lst 12 1).setIfInBounds 1 true = lst 12 3 := ⟨by kernel_rfl, by kernel_rfl, by kernel_rfl⟩

theorem wzp_t3_2 : Region.free .any (regOf 11 Tryz.f53) (lst 12 3) 2 = true ∧ (Region.ready .any (regOf 11 Tryz.f53) (lst 12 3)).contains 2 = true ∧ (lst 12 3).setIfInBounds 2 true = lst 12 7 := ⟨by kernel_rfl, by kernel_rfl, by kernel_rfl⟩

theorem wzp_t7_3 : Region.free .any (regOf 11 Tryz.f53) (lst 12 7) 3 = true ∧ (Region.ready .any (regOf 11 Tryz.f53) (lst 12 7)).contains 3 = true ∧ (lst 12 7).setIfInBounds 3 true = lst 12 15 := ⟨by kernel_rfl, by kernel_rfl, by kernel_rfl⟩

theorem wzp_t15_4 : Region.free .any (regOf 11 Tryz.f53) (lst 12 15) 4 = true ∧ (Region.ready .any (regOf 11 Tryz.f53) (lst 12 15)).contains 4 = true ∧ (lst 12 15).setIfInBounds 4 true = lst 12 31 := ⟨by kernel_rfl, by kernel_rfl, by kernel_rfl⟩

theorem wzp_t31_5 : Region.free .any (regOf 11 Tryz.f53) (lst 12 31) 5 = true ∧ (Region.ready .any (regOf 11 Tryz.f53) (lst 12 31)).contains 5 = true ∧ (lst 12 31).setIfInBounds 5 true = lst 12 63 := ⟨by kernel_rfl, by kernel_rfl, by kernel_rfl⟩

theorem wzp_t63_6 : Region.free .any (regOf 11 Tryz.f53) (lst 12 63) 6 = true ∧ (Region.ready .any (regOf 11 Tryz.f53) (lst 12 63)).contains 6 = true ∧ (lst 12 63).setIfInBounds 6 true = lst 12 127 := ⟨by kernel_rfl, by kernel_rfl, by kernel_rfl⟩

theorem wzp_t127_7 : Region.free .any (regOf 11 Tryz.f53) (lst 12 127) 7 = true ∧ (Region.ready .any (regOf 11 Tryz.f53) (lst 12 127)).contains 7 = true ∧ (lst 12 127).setIfInBounds 7 true = lst 12 255 := ⟨by kernel_rfl, by kernel_rfl, by kernel_rfl⟩

theorem wzp_r255 : Region.ready .any (regOf 11 Tryz.f53) (lst 12 255) = [8] ∧ (lst 12 255).setIfInBounds 8 true = lst 12 511 := ⟨by kernel_rfl, by kernel_rfl⟩

theorem wzp_t511_9 : Region.free .any (regOf 11 Tryz.f53) (lst 12 511) 9 = true ∧ (Region.ready .any (regOf 11 Tryz.f53) (lst 12 511)).contains 9 = true ∧ (lst 12 511).setIfInBounds 9 true = lst 12 1023 := ⟨by kernel_rfl, by kernel_rfl, by kernel_rfl⟩

theorem wzp_r1023 : Region.ready .any (regOf 11 Tryz.f53) (lst 12 1023) = [10] ∧ (lst 12 1023).setIfInBounds 10 true = lst 12 2047 := ⟨by kernel_rfl, by kernel_rfl⟩

theorem wzp_t2047_11 : Region.free .any (regOf 11 Tryz.f53) (lst 12 2047) 11 = true ∧ (Region.ready .any (regOf 11 Tryz.f53) (lst 12 2047)).contains 11 = true ∧ (lst 12 2047).setIfInBounds 11 true = lst 12 4095 := ⟨by kernel_rfl, by kernel_rfl, by kernel_rfl⟩

theorem wzp_end : Region.ready .any (regOf 11 Tryz.f53) (lst 12 4095) = [] := by kernel_rfl

end Go.Proofs.YtmmfakpphjjjfaaGreat
