/- Texts of one layer, one behind the other. -/
import Derived.Test.YtmmfakpphjjjfaaGreatG17
import Derived.Test.YtmmfakpphjjjfaaGreatG9
import Derived.Test.YtmmfakpphjjjfaaGreatG6
import Derived.BigQuiet
import Derived.Test.YtmmfakpphjjjfaaGreatG26
/- The document's table in memory: New, none, One, Apply. -/
namespace Go.Proofs.YtmmfakpphjjjfaaGreat
open Go.RowKit
open Bm (Ov)
set_option linter.unusedVariables false

structure Dt (r base : Nat) (w : World) (v : Value) (t : List Ov) : Prop where
 lo : base ≤ r
 blk : w.heap[r]? = some (.cells #[.bool true, v] 135 (0, 0))
 own : OwnO 65 base w v t

theorem Dt.lt {r base : Nat} {w : World} {v : Value} {t : List Ov} (h : Dt r base w v t) : r < w.heap.size := blk_lt h.blk

theorem Dt.below {r base : Nat} {w w' : World} {v : Value} {t : List Ov} (h : Dt r base w v t) (hb : Below w.heap.size w w') : Dt r base w' v t := ⟨h.lo, (hb.block r h.lt).trans h.blk, h.own.below hb⟩

theorem Dt.made {r base : Nat} {w : World} {v : Value} {t : List Ov} (h : Dt r base w v t) : w.cell? ⟨r, 0, none⟩ = some (.bool true) := blk_cell h.blk 0 rfl
theorem Dt.list {r base : Nat} {w : World} {v : Value} {t : List Ov} (h : Dt r base w v t) : w.cell? ⟨r, 1, none⟩ = some v := blk_cell h.blk 1 rfl

theorem tnewR_any (w : World) : Calls Tryz.prog 98 #[] w fun E w' => E = .returned (.pointer (some ⟨w.heap.size, 0, none⟩)) ∧ Dt w.heap.size w.heap.size w' (.slice none 0 0) [] ∧ Below w.heap.size w w' := by
 obtain ⟨w1, hw1, sz1, b1, B1⟩ := blk_step w #[.bool true, .slice none 0 0] 135
 have H := hide (⟨⟨Nat.le_refl _, B1, OwnO.nil _ _ _⟩, b1⟩ : Dt w.heap.size w.heap.size w1 (.slice none 0 0) [] ∧ Below w.heap.size w w1)
 clear B1 b1
 go_enter Tryz.func98, Tryz.ntmps98
 go_wp2
 go_ret
 exact ⟨rfl, H.out⟩

theorem tnoneR_any (r : Nat) (w : World) (hc : w.cell? ⟨r, 0, none⟩ = some (.bool true)) :
  Calls Tryz.prog 139 #[.pointer (some ⟨r, 0, none⟩)] w fun E w' => E = .returned (.bool false) ∧ w = w' := by
 go_enter Tryz.func139, Tryz.ntmps139
 go_wp2
 go_ret
 exact ⟨rfl, rfl⟩

theorem stp_none (o x : Ov) (s : List Ov) (h : x.k = o.k) : Tm.stp o (s, true) x = (s, true) := by simp [Tm.stp, h]
theorem stp_both (o x : Ov) (s : List Ov) (h : Tm.lt x.k o.k = false) (h2 : x.k ≠ o.k) : Tm.stp o (s, false) x = (s ++ [o] ++ [x], true) := by simp [Tm.stp, h, h2]
theorem stp_own (o x : Ov) (s : List Ov) (h : Tm.lt x.k o.k = false) (h2 : x.k = o.k) : Tm.stp o (s, false) x = (s ++ [o], true) := by simp [Tm.stp, h2, Tm.lt_irr]
theorem stp_old (o x : Ov) (s : List Ov) (p : Bool) (h : p = true ∨ Tm.lt x.k o.k = true) (h2 : x.k ≠ o.k) : Tm.stp o (s, p) x = (s ++ [x], p) := by
 rcases h with h | h <;> simp [Tm.stp, h, h2]

theorem stp_len (o x : Ov) (s : List Ov × Bool) : (Tm.stp o s x).1.length ≤ s.1.length + 2 := by
 unfold Tm.stp
 split <;> split <;> simp
theorem stps_len (o : Ov) : ∀ (l : List Ov) (s : List Ov × Bool), (l.foldl (Tm.stp o) s).1.length ≤ s.1.length + 2 * l.length
 | [], s => by simp
 | x :: r, s => by
  have h1 := stps_len o r (Tm.stp o s x)
  have h2 := stp_len o x s
  simp only [List.foldl_cons, List.length_cons]
  omega

theorem fold_next {o x : Ov} {t : List Ov} {k : Nat} {s : List Ov × Bool} (h : (t.take k).foldl (Tm.stp o) ([], false) = s) (hx : t[k]? = some x) : (t.take (k + 1)).foldl (Tm.stp o) ([], false) = Tm.stp o s x := by
 obtain ⟨h1, rfl⟩ := List.getElem?_eq_some_iff.1 hx
 rw [List.take_succ_eq_append_getElem h1, List.foldl_append, h]
 rfl

set_option maxRecDepth 100000 in
set_option maxHeartbeats 4000000 in
theorem oneR_any (r base : Nat) (w : World) (v : Value) (t : List Ov) (o : Ov) (h : Dt r base w v t) (hu : Tm.Up t) (hn : t.length ≤ 1000000) (hb : base ≤ w.heap.size) :
  Calls Tryz.prog 141 #[.pointer (some ⟨r, 0, none⟩), ovv o] w fun E w' => (∃ u, E = .returned u) ∧ (∃ v', Dt r base w' v' (Tm.one t o) ∧ ∀ g, v'.ownBlock = some g → w.heap.size ≤ g) ∧ Out (fun g => g = r) w w' := by
 unfold ovv
 obtain ⟨W1, hW1, sz1, b1, B1⟩ := blk_step w #[.bool o.p, .string o.k, .string o.v] 65
 have D1 := h.below b1
 obtain ⟨ao, cap, hsv, hcap, hcm⟩ := D1.own.is.shape
 have HFULL := hide fun (h0 : 0 < t.length) => D1.own.is.full h0
 subst hsv
 obtain ⟨n, hnn⟩ : ∃ n, t.length = n := ⟨_, rfl⟩
 rw [hnn] at HFULL hcap hn D1
 have HN := hide hnn
 have HD := hide D1
 have HU := hide hu
 have hr : r < w.heap.size := h.lt
 have hl1 := D1.list
 have hq0 := blk_cell B1 0 rfl
 have hq1 := blk_cell B1 1 rfl
 have hq2 := blk_cell B1 2 rfl
 have Hb1 := hide b1
 clear h D1 hu b1 B1 hnn
 go_enter Tryz.func141, Tryz.ntmps141
 go_wp2
 go_loopw [6, 4, 5] (fun i ov pv wr => ∃ (k : Nat) (out : List Ov) (pb : Bool), k ≤ n ∧ i = .int .i64 k ∧ pv = .bool pb ∧ Hid (OwnO 65 W1.heap.size wr ov out) ∧ Hid ((t.take k).foldl (Tm.stp o) ([], false) = (out, pb)) ∧ Below W1.heap.size W1 wr) (fun i _ _ _ => n - (intOf i).toNat)
 case atStart => exact ⟨0, [], false, by omega, rfl, rfl, hide (OwnO.nil _ _ _), hide rfl, Below.refl _ _⟩
 case round =>
  obtain ⟨k, out, pb, hk, rfl, rfl, HOW, HST, bel⟩ := hrel
  have sz := bel.size
  have hl2 := (bel.cell (p := ⟨r, 1, none⟩) (show r < W1.heap.size by omega)).trans hl1
  have e0 := (bel.cell (p := ⟨w.heap.size, 0, none⟩) (show w.heap.size < W1.heap.size by omega)).trans hq0
  have e1 := (bel.cell (p := ⟨w.heap.size, 1, none⟩) (show w.heap.size < W1.heap.size by omega)).trans hq1
  have e2 := (bel.cell (p := ⟨w.heap.size, 2, none⟩) (show w.heap.size < W1.heap.size by omega)).trans hq2
  have hol : out.length ≤ 2000000 := by
   have := stps_len o (t.take k) ([], false)
   rw [HST.out, List.length_take] at this
   have := HN.out
   simp at *
   omega
  by_cases hlt : k < n
  ·obtain ⟨x, hx⟩ : ∃ x, t[k]? = some x := ⟨t[k]'(by have := HN.out; omega), by rw [List.getElem?_eq_getElem]⟩
   obtain ⟨b1, o1, cq, hvx, _, _, hB, hcell⟩ := HFULL.out (by omega)
   simp only [Value.slice.injEq, true_and] at hvx
   obtain ⟨rfl, rfl⟩ := hvx
   obtain ⟨c0, c1, c2⟩ := hcell k x hx
   have d0 := (bel.cell (p := ⟨b1, o1 + k * 3, none⟩) hB).trans c0
   have d1 := (bel.cell (p := ⟨b1, o1 + k * 3 + 1, none⟩) hB).trans c1
   have d2 := (bel.cell (p := ⟨b1, o1 + k * 3 + 2, none⟩) hB).trans c2
   have hlt' : (k : Int) < n := by omega
   have HNX := hide (fold_next HST.out hx)
   have CE : Hid (∀ W, Below W1.heap.size W1 W → (W.cell? ⟨r, 1, none⟩ = some (.slice (some ⟨b1, o1, none⟩) n cap) ∧ W.cell? ⟨w.heap.size, 0, none⟩ = some (.bool o.p) ∧ W.cell? ⟨w.heap.size, 1, none⟩ = some (.string o.k) ∧ W.cell? ⟨w.heap.size, 2, none⟩ = some (.string o.v)) ∧ W.cell? ⟨b1, o1 + k * 3, none⟩ = some (.bool x.p) ∧ W.cell? ⟨b1, o1 + k * 3 + 1, none⟩ = some (.string x.k) ∧ W.cell? ⟨b1, o1 + k * 3 + 2, none⟩ = some (.string x.v)) := hide fun W bel =>
    ⟨⟨(bel.cell (p := ⟨r, 1, none⟩) (show r < W1.heap.size by omega)).trans hl1, (bel.cell (p := ⟨w.heap.size, 0, none⟩) (show w.heap.size < W1.heap.size by omega)).trans hq0, (bel.cell (p := ⟨w.heap.size, 1, none⟩) (show w.heap.size < W1.heap.size by omega)).trans hq1, (bel.cell (p := ⟨w.heap.size, 2, none⟩) (show w.heap.size < W1.heap.size by omega)).trans hq2⟩, (bel.cell (p := ⟨b1, o1 + k * 3, none⟩) hB).trans c0, (bel.cell (p := ⟨b1, o1 + k * 3 + 1, none⟩) hB).trans c1, (bel.cell (p := ⟨b1, o1 + k * 3 + 2, none⟩) hB).trans c2⟩
   clear c0 c1 c2 hcell hx
   have hk0 : (0 : Int) ≤ (k : Int) := by omega
   clear d0 d1 d2 e0 e1 e2 hl2
   by_cases hc1 : pb = false ∧ Tm.lt x.k o.k = false
   ·obtain ⟨rfl, hlx⟩ := hc1
    have hls : Op.bytesLess x.k.toList o.k.toList = false := by rw [Tm.less_lt]; exact hlx
    have HBE := hide bel
    obtain ⟨⟨hl2, e0, e1, e2⟩, d0, d1, d2⟩ := CE.out wr bel
    clear bel
    go_wp2_with fail
    go_quiet (fail)
    obtain ⟨wa, hwa⟩ : ∃ wa, wr.drewN nq = wa := ⟨_, rfl⟩
    have ba : Below W1.heap.size W1 wa := by rw [← hwa]; exact below_drewN HBE.out _
    have bra : Below wr.heap.size wr wa := by rw [← hwa]; exact below_drewN (Below.refl _ _) _
    rw [hwa]
    obtain ⟨wb, hwb, szb, bb, ownb⟩ := ops_step 65 wa #[.bool o.p, .string o.k, .string o.v] 1 [o] rfl rfl (by simp [maxLen])
    have ownW := HOW.out.below (bra.trans (bb.mono bra.size))
    have isb := ownb.is
    have hlen : (out.length + [o].length) * 40 ≤ 140737488355328 := by simp; omega
    have b1b : Below W1.heap.size W1 wb := ba.trans (bb.mono ba.size)
    have hz4 := b1b.size
    have HB1b := hide b1b
    clear d0 d1 d2 e0 e1 e2 hl2
    obtain ⟨⟨hl2, e0, e1, e2⟩, d0, d1, d2⟩ := CE.out wa ba
    clear hwa bb ownb b1b ba bra
    go_wp2_with (at_builtin; refine wpList_append_ops rfl (.tmp 31) (.tmp 33) 48 rfl 65 W1.heap.size Tryz.underlying48 Tryz.info65 _ out rfl ownW _ [o] rfl isb hlen hz4 ?_)
    rintro v1 wc ho1 hb1 _
    rw [← sz1] at ho1 hb1
    obtain ⟨out1, hout1⟩ : ∃ out1, out1 = out ++ [o] := ⟨_, rfl⟩
    rw [← hout1] at ho1
    have hol1 : out1.length ≤ 2000001 := by rw [hout1, List.length_append]; show out.length + 1 ≤ _; omega
    have HOUT := hide hout1
    clear hout1
    have HO1 := hide ho1
    have HBc := hide (HB1b.out.trans hb1)
    clear hl2 e0 e1 e2 d0 d1 d2 ho1 hb1 ownW isb hwb HB1b HBE HOW HST hls hlen
    have hlen1 : (out1.length + [x].length) * 40 ≤ 140737488355328 := by show (out1.length + 1) * 40 ≤ _; omega
    obtain ⟨⟨hl2, e0, e1, e2⟩, d0, d1, d2⟩ := CE.out wc HBc.out
    by_cases hne : x.k = o.k
    ·have he : (x.k.toList == o.k.toList) = true := by rw [Tm.eqk]; simp [hne]
     have HSE : Hid ((t.take (k + 1)).foldl (Tm.stp o) ([], false) = (out1, true)) := hide (by rw [HNX.out]; exact (HOUT.out ▸ stp_own o x out hlx hne))
     clear HNX
     go_wp2_with fail
     go_quiet (fail)
     have HO2 := hide (HO1.out.below (below_drewN (Below.refl _ _) nq))
     have HB2 := hide (below_drewN HBc.out nq)
     clear hl2 e0 e1 e2 d0 d1 d2 he HO1 HBc hlen1
     go_wp2
     go_roundw
     case rel => exact ⟨k + 1, out1, true, by omega, by go_num, rfl, HO2, HSE, HB2.out⟩
     case measure => simp [intOf]; omega
    ·have he : (x.k.toList == o.k.toList) = false := by rw [Tm.eqk]; simp [hne]
     have HSE : Hid ((t.take (k + 1)).foldl (Tm.stp o) ([], false) = (out1 ++ [x], true)) := hide (by rw [HNX.out]; exact (HOUT.out ▸ stp_both o x out hlx hne))
     clear HNX
     go_wp2_with fail
     go_quiet (fail)
     obtain ⟨wd, hwd⟩ : ∃ wd, wc.drewN nq = wd := ⟨_, rfl⟩
     have bd : Below W1.heap.size W1 wd := by rw [← hwd]; exact below_drewN HBc.out _
     have bcd : Below wc.heap.size wc wd := by rw [← hwd]; exact below_drewN (Below.refl _ _) _
     rw [hwd]
     obtain ⟨we, hwe, sze, be, owne⟩ := ops_step 65 wd #[.bool x.p, .string x.k, .string x.v] 1 [x] rfl rfl (by simp [maxLen])
     have own1 := HO1.out.below (bcd.trans (be.mono bcd.size))
     have ise := owne.is
     have b1e : Below W1.heap.size W1 we := bd.trans (be.mono bd.size)
     have hz5 := b1e.size
     have HBe := hide b1e
     clear hl2 e0 e1 e2 d0 d1 d2 he HO1 HBc
     obtain ⟨⟨hl2, e0, e1, e2⟩, d0, d1, d2⟩ := CE.out wd bd
     clear hwd be owne b1e bd bcd
     go_wp2_with (at_builtin; refine wpList_append_ops rfl (.tmp 46) (.tmp 54) 48 rfl 65 W1.heap.size Tryz.underlying48 Tryz.info65 _ (out1) rfl own1 _ [x] rfl ise hlen1 hz5 ?_)
     rintro v2 wf ho2 hb2 _
     rw [← sz1] at ho2 hb2
     have HO2 := hide ho2
     have HB2 := hide (HBe.out.trans hb2)
     clear hl2 e0 e1 e2 d0 d1 d2 ho2 hb2 own1 ise hlen1
     go_wp2
     go_roundw
     case rel => exact ⟨k + 1, out1 ++ [x], true, by omega, by go_num, rfl, HO2, HSE, HB2.out⟩
     case measure => simp [intOf]; omega
   ·rcases (show pb = true ∨ (pb = false ∧ Tm.lt x.k o.k = true) by
     cases pb
     ·right
      cases h : Tm.lt x.k o.k
      ·exact absurd ⟨rfl, h⟩ hc1
      ·exact ⟨rfl, rfl⟩
     ·exact .inl rfl) with rfl | ⟨rfl, hl⟩
    ·have HBE := hide bel
     obtain ⟨⟨hl2, e0, e1, e2⟩, d0, d1, d2⟩ := CE.out wr bel
     clear bel hc1
     go_wp2_with fail
     go_quiet (fail)
     obtain ⟨wc, hwc⟩ : ∃ wc, wr.drewN nq = wc := ⟨_, rfl⟩
     have HBc : Hid (Below W1.heap.size W1 wc) := hide (by rw [← hwc]; exact below_drewN HBE.out _)
     have HO1 := hide (HOW.out.below (show Below wr.heap.size wr wc by rw [← hwc]; exact below_drewN (Below.refl _ _) _))
     rw [hwc]
     clear hl2 e0 e1 e2 d0 d1 d2 hwc HBE HOW HST
     have hlen1 : (out.length + [x].length) * 40 ≤ 140737488355328 := by show (out.length + 1) * 40 ≤ _; omega
     obtain ⟨⟨hl2, e0, e1, e2⟩, d0, d1, d2⟩ := CE.out wc HBc.out
     by_cases hne : x.k = o.k
     ·have he : (x.k.toList == o.k.toList) = true := by rw [Tm.eqk]; simp [hne]
      have HSE : Hid ((t.take (k + 1)).foldl (Tm.stp o) ([], false) = (out, true)) := hide (by rw [HNX.out]; exact stp_none o x out hne)
      clear HNX
      go_wp2_with fail
      go_quiet (fail)
      have HO2 := hide (HO1.out.below (below_drewN (Below.refl _ _) nq))
      have HB2 := hide (below_drewN HBc.out nq)
      clear hl2 e0 e1 e2 d0 d1 d2 he HO1 HBc hlen1
      go_wp2
      go_roundw
      case rel => exact ⟨k + 1, out, true, by omega, by go_num, rfl, HO2, HSE, HB2.out⟩
      case measure => simp [intOf]; omega
     ·have he : (x.k.toList == o.k.toList) = false := by rw [Tm.eqk]; simp [hne]
      have HSE : Hid ((t.take (k + 1)).foldl (Tm.stp o) ([], false) = (out ++ [x], true)) := hide (by rw [HNX.out]; exact stp_old o x out true (.inl rfl) hne)
      clear HNX
      go_wp2_with fail
      go_quiet (fail)
      obtain ⟨wd, hwd⟩ : ∃ wd, wc.drewN nq = wd := ⟨_, rfl⟩
      have bd : Below W1.heap.size W1 wd := by rw [← hwd]; exact below_drewN HBc.out _
      have bcd : Below wc.heap.size wc wd := by rw [← hwd]; exact below_drewN (Below.refl _ _) _
      rw [hwd]
      obtain ⟨we, hwe, sze, be, owne⟩ := ops_step 65 wd #[.bool x.p, .string x.k, .string x.v] 1 [x] rfl rfl (by simp [maxLen])
      have own1 := HO1.out.below (bcd.trans (be.mono bcd.size))
      have ise := owne.is
      have b1e : Below W1.heap.size W1 we := bd.trans (be.mono bd.size)
      have hz5 := b1e.size
      have HBe := hide b1e
      clear hl2 e0 e1 e2 d0 d1 d2 he HO1 HBc
      obtain ⟨⟨hl2, e0, e1, e2⟩, d0, d1, d2⟩ := CE.out wd bd
      clear hwd be owne b1e bd bcd
      go_wp2_with (at_builtin; refine wpList_append_ops rfl (.tmp 46) (.tmp 54) 48 rfl 65 W1.heap.size Tryz.underlying48 Tryz.info65 _ (out) rfl own1 _ [x] rfl ise hlen1 hz5 ?_)
      rintro v2 wf ho2 hb2 _
      rw [← sz1] at ho2 hb2
      have HO2 := hide ho2
      have HB2 := hide (HBe.out.trans hb2)
      clear hl2 e0 e1 e2 d0 d1 d2 ho2 hb2 own1 ise hlen1
      go_wp2
      go_roundw
      case rel => exact ⟨k + 1, out ++ [x], true, by omega, by go_num, rfl, HO2, HSE, HB2.out⟩
      case measure => simp [intOf]; omega
    ·have hls : Op.bytesLess x.k.toList o.k.toList = true := by rw [Tm.less_lt]; exact hl
     have HBE := hide bel
     obtain ⟨⟨hl2, e0, e1, e2⟩, d0, d1, d2⟩ := CE.out wr bel
     clear bel hc1
     go_wp2_with fail
     go_quiet (fail)
     obtain ⟨wc, hwc⟩ : ∃ wc, wr.drewN nq = wc := ⟨_, rfl⟩
     have HBc : Hid (Below W1.heap.size W1 wc) := hide (by rw [← hwc]; exact below_drewN HBE.out _)
     have HO1 := hide (HOW.out.below (show Below wr.heap.size wr wc by rw [← hwc]; exact below_drewN (Below.refl _ _) _))
     rw [hwc]
     clear hl2 e0 e1 e2 d0 d1 d2 hwc HBE HOW HST
     have hlen1 : (out.length + [x].length) * 40 ≤ 140737488355328 := by show (out.length + 1) * 40 ≤ _; omega
     obtain ⟨⟨hl2, e0, e1, e2⟩, d0, d1, d2⟩ := CE.out wc HBc.out
     by_cases hne : x.k = o.k
     ·have he : (x.k.toList == o.k.toList) = true := by rw [Tm.eqk]; simp [hne]
      have HSE : Hid ((t.take (k + 1)).foldl (Tm.stp o) ([], false) = (out, false)) := hide (by rw [HNX.out]; exact absurd hl (by rw [hne, Tm.lt_irr]; simp))
      clear HNX
      go_wp2_with fail
      go_quiet (fail)
      have HO2 := hide (HO1.out.below (below_drewN (Below.refl _ _) nq))
      have HB2 := hide (below_drewN HBc.out nq)
      clear hl2 e0 e1 e2 d0 d1 d2 he HO1 HBc hlen1
      go_wp2
      go_roundw
      case rel => exact ⟨k + 1, out, false, by omega, by go_num, rfl, HO2, HSE, HB2.out⟩
      case measure => simp [intOf]; omega
     ·have he : (x.k.toList == o.k.toList) = false := by rw [Tm.eqk]; simp [hne]
      have HSE : Hid ((t.take (k + 1)).foldl (Tm.stp o) ([], false) = (out ++ [x], false)) := hide (by rw [HNX.out]; exact stp_old o x out false (.inr hl) hne)
      clear HNX
      go_wp2_with fail
      go_quiet (fail)
      obtain ⟨wd, hwd⟩ : ∃ wd, wc.drewN nq = wd := ⟨_, rfl⟩
      have bd : Below W1.heap.size W1 wd := by rw [← hwd]; exact below_drewN HBc.out _
      have bcd : Below wc.heap.size wc wd := by rw [← hwd]; exact below_drewN (Below.refl _ _) _
      rw [hwd]
      obtain ⟨we, hwe, sze, be, owne⟩ := ops_step 65 wd #[.bool x.p, .string x.k, .string x.v] 1 [x] rfl rfl (by simp [maxLen])
      have own1 := HO1.out.below (bcd.trans (be.mono bcd.size))
      have ise := owne.is
      have b1e : Below W1.heap.size W1 we := bd.trans (be.mono bd.size)
      have hz5 := b1e.size
      have HBe := hide b1e
      clear hl2 e0 e1 e2 d0 d1 d2 he HO1 HBc
      obtain ⟨⟨hl2, e0, e1, e2⟩, d0, d1, d2⟩ := CE.out wd bd
      clear hwd be owne b1e bd bcd
      go_wp2_with (at_builtin; refine wpList_append_ops rfl (.tmp 46) (.tmp 54) 48 rfl 65 W1.heap.size Tryz.underlying48 Tryz.info65 _ (out) rfl own1 _ [x] rfl ise hlen1 hz5 ?_)
      rintro v2 wf ho2 hb2 _
      rw [← sz1] at ho2 hb2
      have HO2 := hide ho2
      have HB2 := hide (HBe.out.trans hb2)
      clear hl2 e0 e1 e2 d0 d1 d2 ho2 hb2 own1 ise hlen1
      go_wp2
      go_roundw
      case rel => exact ⟨k + 1, out ++ [x], false, by omega, by go_num, rfl, HO2, HSE, HB2.out⟩
      case measure => simp [intOf]; omega
  ·have hlt' : ¬ (k : Int) < n := by omega
   have HFI : Hid (Tm.fin o (out, pb) = Tm.one t o) := hide (by
    have h1 := Tm.stp_one o t [] HU.out
    have h2 := HST.out
    rw [List.take_of_length_le (by have := HN.out; omega)] at h2
    rw [h2] at h1
    simpa using h1)
   have HBE := hide bel
   have HEND : Hid (∀ v' W, OwnO 65 W1.heap.size W v' (Tm.one t o) → Below W1.heap.size W1 W → (W.cell? ⟨r, 1, none⟩ = some (.slice ao n cap) ∧ W.frozen? ⟨r, 1, none⟩ = false) ∧ (∃ v'', Dt r base (W.setCell ⟨r, 1, none⟩ v') v'' (Tm.one t o) ∧ ∀ g, v''.ownBlock = some g → w.heap.size ≤ g) ∧ Out (fun g => g = r) w (W.setCell ⟨r, 1, none⟩ v')) := hide fun v' W ho hb => by
    have hblk := (hb.block r (by omega)).trans HD.out.blk
    refine ⟨⟨blk_cell hblk 1 rfl, blk_froz hblk 1⟩, ⟨v', ⟨HD.out.lo, set_cells hblk 1 v', ?_⟩, fun g hg => by have := (ho.block g hg).1; omega⟩, ?_⟩
    ·refine (ho.rebase (by omega)).kept (grown_setCell W ⟨r, 1, none⟩ v') ?_
     cases hv : v'.ownBlock with
     | none => exact .inl rfl
     | some g =>
      refine .inr fun e => ?_
      have := (ho.block g hv).1
      simp at e
      omega
    ·have q1 : Out (fun g => g = r) w W := (Out.of_below Hb1.out).trans (Out.of_base (F := fun g => w.heap.size ≤ g) hb (fun g h1 h2 => by omega)) fun g hg => .inr hg
     exact q1.trans (Out.of_grown (F := fun g => g = r) (grown_setCell W ⟨r, 1, none⟩ v') fun g hg => by simpa using hg.symm) fun g hg => .inl hg
   clear bel
   cases pb
   ·obtain ⟨wb, hwb, szb, bb, ownb⟩ := ops_step 65 wr #[.bool o.p, .string o.k, .string o.v] 1 [o] rfl rfl (by simp [maxLen])
    have ownW := HOW.out.below bb
    have isb := ownb.is
    have hlen : (out.length + [o].length) * 40 ≤ 140737488355328 := by show (out.length + 1) * 40 ≤ _; omega
    have HB1b := hide (HBE.out.trans (bb.mono HBE.out.size))
    have hz4 := HB1b.out.size
    clear bb ownb
    go_wp2_with (at_builtin; refine wpList_append_ops rfl (.tmp 58) (.tmp 60) 48 rfl 65 W1.heap.size Tryz.underlying48 Tryz.info65 _ out rfl ownW _ [o] rfl isb hlen hz4 ?_)
    rintro v1 wc ho1 hb1 _
    rw [← sz1] at ho1 hb1
    have ho1' : OwnO 65 W1.heap.size wc v1 (Tm.one t o) := by rw [← HFI.out]; exact ho1
    obtain ⟨ao1, cap1, hv1, _, _⟩ := ho1'.is.shape
    obtain ⟨L1, hL1⟩ : ∃ L1, (Tm.one t o).length = L1 := ⟨_, rfl⟩
    rw [hL1] at hv1
    clear hL1
    subst hv1
    have HH := hide (HEND.out _ wc ho1' (HB1b.out.trans hb1))
    have cz := HH.out.1.1
    have fz := HH.out.1.2
    clear hlen ho1 ho1' hb1 ownW isb hl2 e0 e1 e2 hwb
    go_wp2
    go_end0
    exact ⟨⟨_, rfl⟩, HH.out.2⟩
   ·have ho1' := HOW.out
    rw [show out = Tm.one t o from HFI.out] at ho1'
    obtain ⟨ao1, cap1, hv1, _, _⟩ := ho1'.is.shape
    obtain ⟨L1, hL1⟩ : ∃ L1, (Tm.one t o).length = L1 := ⟨_, rfl⟩
    rw [hL1] at hv1
    clear hL1
    subst hv1
    have HH := hide (HEND.out _ wr ho1' HBE.out)
    have cz := HH.out.1.1
    have fz := HH.out.1.2
    clear ho1' hl2 e0 e1 e2
    go_wp2
    go_end0
    exact ⟨⟨_, rfl⟩, HH.out.2⟩

end Go.Proofs.YtmmfakpphjjjfaaGreat

/- The document's table: Apply, All, Live, Get. -/
namespace Go.Proofs.YtmmfakpphjjjfaaGreat
open Go.RowKit
open Bm (Ov)
set_option linter.unusedVariables false

set_option maxHeartbeats 2000000 in
theorem applyR_any (r base : Nat) (w : World) (v vl : Value) (t l : List Ov) (h : Dt r base w v t) (hu : Tm.Up t) (hl : IsO w vl l) (hne : 0 < l.length → ∀ b, vl.ownBlock = some b → b ≠ r) (hf : FitO l) (hn : t.length + l.length ≤ 1000000) (hb : base ≤ w.heap.size) :
  Calls Tryz.prog 99 #[.pointer (some ⟨r, 0, none⟩), vl] w fun E w' => E = .returned (.int .i64 (Bm.first l)) ∧ (∃ v', Dt r base w' v' (Tm.aft t l) ∧ ∀ g, v'.ownBlock = some g → v.ownBlock = some g ∨ w.heap.size ≤ g) ∧ Out (fun g => g = r) w w' := by
 have HM := hide (tnoneR_any r w h.made)
 obtain ⟨ao, cap, hsv, hcap, hcm⟩ := hl.shape
 have HFULL := hide fun (h0 : 0 < l.length) => hl.full h0
 subst hsv
 have HF := hide hf
 have HT0 := hide h
 have HU := hide hu
 obtain ⟨n, hnn⟩ : ∃ n, l.length = n := ⟨_, rfl⟩
 rw [hnn] at HFULL hcap hn ⊢
 have HN := hide hnn
 have hrlt := h.lt
 clear hl hf h hnn hu
 go_enter Tryz.func99, Tryz.ntmps99
 go_wp2_with fail
 refine HM.out.mono ?_
 rintro E w' ⟨rfl, rfl⟩
 go_wp2
 go_loopw [5] (fun i wr => ∃ (k : Nat), k ≤ n ∧ i = .int .i64 k ∧ Hid (∀ q ∈ l.take k, q.c = 0) ∧ Below w.heap.size w wr) (fun i _ => n - (intOf i).toNat)
 case atStart => exact ⟨0, by omega, rfl, hide (by simp), Below.refl _ _⟩
 case round =>
  obtain ⟨k, hk, rfl, HT, bel⟩ := hrel
  obtain ⟨wa, rfl⟩ : ∃ x, x = wr := ⟨wr, rfl⟩
  have sz := bel.size
  by_cases hlt : k < n
  ·obtain ⟨o, ho⟩ : ∃ o, l[k]? = some o := ⟨l[k]'(by have := HN.out; omega), by rw [List.getElem?_eq_getElem]⟩
   obtain ⟨b1, o1, cq, hvx, _, _, hB, hcell⟩ := HFULL.out (by omega)
   simp only [Value.slice.injEq, true_and] at hvx
   obtain ⟨rfl, rfl⟩ := hvx
   obtain ⟨c0, c1, c2⟩ := hcell k o ho
   have d0 := (bel.cell (p := ⟨b1, o1 + k * 3, none⟩) hB).trans c0
   have d1 := (bel.cell (p := ⟨b1, o1 + k * 3 + 1, none⟩) hB).trans c1
   have d2 := (bel.cell (p := ⟨b1, o1 + k * 3 + 2, none⟩) hB).trans c2
   have HO := hide ho
   clear c0 c1 c2 ho hcell
   have hlt' : (k : Int) < n := by omega
   obtain ⟨hk1, hv1⟩ := HF.out o (List.mem_of_getElem? HO.out)
   go_wp2_with fail
   refine (checkR_any o.p o.k o.v _ hk1 hv1).mono ?_
   rintro E w1 ⟨rfl, bel1⟩
   have bel2 : Below w.heap.size w w1 := bel.trans (bel1.mono (by omega))
   clear bel1 d0 d1 d2
   rcases (show Om.chk o.p o.k.data.toList o.v.data.toList = 0 ∨ _ from Om.chk_two _ _ _) with hc | hc
   ·rw [hc]
    have HT2 := hide (first_take HT.out HO.out hc)
    clear hc
    go_wp2
    go_roundw
    case rel => exact ⟨k + 1, by omega, by go_num, HT2, bel2⟩
    case measure => simp [intOf]; omega
   ·rw [hc]
    have HB := hide (Bm.first_bad (List.mem_of_getElem? HO.out) (show Bm.Ov.c o ≠ 0 by unfold Bm.Ov.c Bm.Ov.kl Bm.Ov.vl; rw [hc]; simp))
    clear hc
    go_wp2
    go_ret
    refine ⟨ret_i64 HB.out.symm, ?_, Out.of_below bel2⟩
    unfold Tm.aft
    rw [HB.out]
    exact ⟨_, HT0.out.below bel2, fun g hg => .inl hg⟩
  ·have hkn : k = n := by omega
   have HB : Hid (Bm.first l = 0) := hide (Bm.first_all (fun q hq => HT.out q (by rw [List.take_of_length_le (by have := HN.out; omega)]; exact hq)))
   have hlt' : ¬ (k : Int) < n := by omega
   have HT1 := hide (HT0.out.below bel)
   have HBEL := hide bel
   clear bel
   go_wp2
   go_loopw [6] (fun i wr => ∃ (k : Nat), k ≤ n ∧ i = .int .i64 k ∧ Hid (∃ v', Dt r base wr v' (Tm.app t (l.take k)) ∧ ∀ g, v'.ownBlock = some g → v.ownBlock = some g ∨ w.heap.size ≤ g) ∧ Out (fun g => g = r) w wr) (fun i _ => n - (intOf i).toNat)
   case atStart => exact ⟨0, by omega, rfl, hide ⟨_, HT1.out, fun g hg => .inl hg⟩, Out.of_below HBEL.out⟩
   case round =>
    obtain ⟨k, hk, rfl, HT, bel⟩ := hrel
    have sz := bel.size
    by_cases hlt : k < n
    ·obtain ⟨o, ho⟩ : ∃ o, l[k]? = some o := ⟨l[k]'(by have := HN.out; omega), by rw [List.getElem?_eq_getElem]⟩
     obtain ⟨b1, o1, cq, hvx, _, _, hB, hcell⟩ := HFULL.out (by omega)
     simp only [Value.slice.injEq, true_and] at hvx
     obtain ⟨rfl, rfl⟩ := hvx
     obtain ⟨c0, c1, c2⟩ := hcell k o ho
     have hblk := bel.block b1 hB (hne (by have := HN.out; omega) b1 rfl)
     have d0 := (cell_of_blk' hblk (o1 + k * 3)).trans c0
     have d1 := (cell_of_blk' hblk (o1 + k * 3 + 1)).trans c1
     have d2 := (cell_of_blk' hblk (o1 + k * 3 + 2)).trans c2
     have HO := hide ho
     clear c0 c1 c2 ho hcell hblk
     have hlt'' : (k : Int) < n := by omega
     obtain ⟨v1, D1, _⟩ := HT.out
     have hlen : (Tm.app t (l.take k)).length ≤ 1000000 := by
      have h1 := Tm.app_len (l.take k) t
      rw [List.length_take] at h1
      omega
     have X := hide (oneR_any r base wr v1 _ o D1 (Tm.up_app _ HU.out) hlen (by omega))
     unfold ovv at X
     have HBE := hide bel
     clear D1 hlen bel
     go_wp2_with fail
     refine X.out.mono ?_
     rintro E w2 ⟨⟨u, rfl⟩, ⟨v2, D2, hg2⟩, O2⟩
     have R2 : Hid (∃ v', Dt r base w2 v' (Tm.app t (l.take (k + 1))) ∧ ∀ g, v'.ownBlock = some g → v.ownBlock = some g ∨ w.heap.size ≤ g) := hide ⟨v2, by
      obtain ⟨hk', hk2⟩ := List.getElem?_eq_some_iff.1 HO.out
      rw [List.take_succ_eq_append_getElem hk', hk2, Tm.app_snoc]
      exact D2, fun g hg => .inr (by have := hg2 g hg; omega)⟩
     have R3 := hide (HBE.out.trans O2 fun g hg => .inl hg)
     clear D2 O2 X hg2
     go_wp2
     go_roundw
     case rel => exact ⟨k + 1, by omega, by go_num, R2, R3.out⟩
     case measure => simp [intOf]; omega
    ·have hlt'' : ¬ (k : Int) < n := by omega
     have HE : Hid (∃ v', Dt r base wr v' (Tm.aft t l) ∧ ∀ g, v'.ownBlock = some g → v.ownBlock = some g ∨ w.heap.size ≤ g) := hide (by
      have h1 := HT.out
      rw [List.take_of_length_le (by have := HN.out; omega)] at h1
      unfold Tm.aft
      rw [HB.out]
      exact h1)
     go_wp2
     go_ret
     exact ⟨ret_i64 HB.out.symm, HE.out, bel⟩

set_option maxHeartbeats 1000000 in
theorem allR_any (r base : Nat) (w : World) (v : Value) (t : List Ov) (h : Dt r base w v t) (hn : t.length ≤ 1000000) :
  Calls Tryz.prog 96 #[.pointer (some ⟨r, 0, none⟩)] w fun E w' => ∃ u, E = .returned u ∧ OwnO 65 w.heap.size w' u t ∧ Below w.heap.size w w' := by
 have HM := hide (tnoneR_any r w h.made)
 have hc := h.list
 have his := h.own.is
 obtain ⟨ao, cap, hsv, _, _⟩ := his.shape
 subst hsv
 have hlen : (([] : List Ov).length + t.length) * 40 ≤ 140737488355328 := by show (0 + t.length) * 40 ≤ _; omega
 have own0 := OwnO.nil 65 w.heap.size w
 clear h
 go_enter Tryz.func96, Tryz.ntmps96
 go_wp2_with fail
 refine HM.out.mono ?_
 rintro E w' ⟨rfl, rfl⟩
 go_wp2_with (at_builtin; refine wpList_append_ops rfl (.tmp 7) (.tmp 11) 48 rfl 65 w.heap.size Tryz.underlying48 Tryz.info65 _ [] rfl own0 _ t rfl his hlen (Nat.le_refl _) ?_)
 rintro v1 w1 ho1 hb1 _
 have HO := hide ho1
 have HB := hide hb1
 clear ho1 hb1 hlen his own0
 go_wp2
 go_ret
 exact ⟨_, rfl, HO.out, HB.out⟩

theorem live_snoc {t : List Ov} {k : Nat} {o : Ov} (h : t[k]? = some o) : Tm.live (t.take (k + 1)) = if o.p then Tm.live (t.take k) ++ [o] else Tm.live (t.take k) := by
 obtain ⟨h1, rfl⟩ := List.getElem?_eq_some_iff.1 h
 rw [List.take_succ_eq_append_getElem h1, show ∀ a b : List Ov, Tm.live (a ++ b) = Tm.live a ++ Tm.live b from fun a b => by simp [Tm.live]]
 cases hp : (t[k]).p <;> simp [Tm.live, hp]

set_option maxHeartbeats 1000000 in
theorem liveR_any (r base : Nat) (w : World) (v : Value) (t : List Ov) (h : Dt r base w v t) (hn : t.length ≤ 1000000) :
  Calls Tryz.prog 57 #[.pointer (some ⟨r, 0, none⟩)] w fun E w' => ∃ u, E = .returned u ∧ OwnO 65 w.heap.size w' u (Tm.live t) ∧ Below w.heap.size w w' := by
 have X := hide (allR_any r base w v t h hn)
 clear h
 go_enter Tryz.func57, Tryz.ntmps57
 go_wp2_with fail
 refine X.out.mono ?_
 rintro E w1 ⟨u, rfl, ho, b1⟩
 obtain ⟨ao, cap, hsv, _, _⟩ := ho.is.shape
 have HFULL := hide fun (h0 : 0 < t.length) => ho.is.full h0
 subst hsv
 obtain ⟨n, hnn⟩ : ∃ n, t.length = n := ⟨_, rfl⟩
 rw [hnn] at HFULL hn ⊢
 have HN := hide hnn
 have Hb1 := hide b1
 clear ho hnn b1
 go_wp2
 go_loopw [5, 3] (fun i ov wr => ∃ (k : Nat), k ≤ n ∧ i = .int .i64 k ∧ Hid (OwnO 65 w1.heap.size wr ov (Tm.live (t.take k))) ∧ Below w1.heap.size w1 wr) (fun i _ _ => n - (intOf i).toNat)
 case atStart => exact ⟨0, by omega, rfl, hide (OwnO.nil _ _ _), Below.refl _ _⟩
 case round =>
  obtain ⟨k, hk, rfl, HOW, bel⟩ := hrel
  have sz := bel.size
  by_cases hlt : k < n
  ·obtain ⟨o, ho⟩ : ∃ o, t[k]? = some o := ⟨t[k]'(by have := HN.out; omega), by rw [List.getElem?_eq_getElem]⟩
   obtain ⟨b1, o1, cq, hvx, _, _, hB, hcell⟩ := HFULL.out (by omega)
   simp only [Value.slice.injEq, true_and] at hvx
   obtain ⟨rfl, rfl⟩ := hvx
   obtain ⟨c0, c1, c2⟩ := hcell k o ho
   have d0 := (bel.cell (p := ⟨b1, o1 + k * 3, none⟩) hB).trans c0
   have d1 := (bel.cell (p := ⟨b1, o1 + k * 3 + 1, none⟩) hB).trans c1
   have d2 := (bel.cell (p := ⟨b1, o1 + k * 3 + 2, none⟩) hB).trans c2
   have hlt' : (k : Int) < n := by omega
   have hsn := live_snoc ho
   clear c0 c1 c2 hcell ho
   cases hp : o.p
   ·rw [hp] at d0 hsn
    have HOW2 : Hid (OwnO 65 w1.heap.size wr _ (Tm.live (t.take (k + 1)))) := hide (by rw [hsn]; exact HOW.out)
    clear hsn hp
    go_wp2
    go_roundw
    case rel => exact ⟨k + 1, by omega, by go_num, HOW2, bel⟩
    case measure => simp [intOf]; omega
   ·rw [hp] at d0 hsn
    obtain ⟨wb, hwb, szb, bb, ownb⟩ := ops_step 65 wr #[.bool true, .string o.k, .string o.v] 1 [o] rfl (by simp [ocells, ocell, hp]) (by simp [maxLen])
    have ownW := HOW.out.below bb
    have isb := ownb.is
    have hll : (Tm.live (t.take k)).length ≤ 1000000 := by
     have := List.length_filter_le Bm.Ov.p (t.take k)
     rw [List.length_take] at this
     unfold Tm.live
     omega
    obtain ⟨out, hout⟩ : ∃ out, Tm.live (t.take k) = out := ⟨_, rfl⟩
    rw [hout] at ownW hll hsn
    have hlen : (out.length + [o].length) * 40 ≤ 140737488355328 := by show (out.length + 1) * 40 ≤ _; omega
    have HB2 := hide (bel.trans (bb.mono sz))
    have hz := HB2.out.size
    have HSN := hide hsn
    clear hp hsn hout bb ownb bel HOW
    go_wp2_with (at_builtin; refine wpList_append_ops rfl (.tmp 19) (.tmp 24) 48 rfl 65 w1.heap.size Tryz.underlying48 Tryz.info65 _ out rfl ownW _ [o] rfl isb hlen hz ?_)
    rintro v1 wc ho1 hb1 _
    have HO2 : Hid (OwnO 65 w1.heap.size wc v1 (Tm.live (t.take (k + 1)))) := hide (by rw [HSN.out]; exact ho1)
    have HB3 := hide (HB2.out.trans hb1)
    clear ho1 hb1 ownW isb hlen d0 d1 d2
    go_wp2
    go_roundw
    case rel => exact ⟨k + 1, by omega, by go_num, HO2, HB3.out⟩
    case measure => simp [intOf]; omega
  ·have hlt' : ¬ (k : Int) < n := by omega
   have HE : Hid (OwnO 65 w.heap.size wr _ (Tm.live t)) := hide (by
    have h1 := HOW.out
    rw [List.take_of_length_le (by have := HN.out; omega)] at h1
    exact h1.rebase Hb1.out.size)
   go_wp2
   go_ret
   exact ⟨_, rfl, HE.out, Hb1.out.trans (bel.mono Hb1.out.size)⟩

theorem get_at {t : List Ov} {k : Nat} {o : Ov} (key : ByteArray) (h : ∀ x ∈ t.take k, x.k ≠ key) (ho : t[k]? = some o) (he : o.k = key) : Tm.get t key = some o := by
 obtain ⟨h1, rfl⟩ := List.getElem?_eq_some_iff.1 ho
 obtain ⟨o, hoo⟩ : ∃ o, t[k] = o := ⟨_, rfl⟩
 rw [hoo] at he ⊢
 have : t = t.take k ++ o :: t.drop (k + 1) := by rw [← hoo, ← List.drop_eq_getElem_cons h1, List.take_append_drop]
 unfold Tm.get
 conv => lhs; rw [this]
 rw [List.find?_append]
 have h2 : (t.take k).find? (fun x => decide (x.k = key)) = none := List.find?_eq_none.2 fun x hx => by simpa using h x hx
 rw [h2]
 simp [he]

theorem get_no {t : List Ov} (key : ByteArray) (h : ∀ x ∈ t, x.k ≠ key) : Tm.get t key = none := List.find?_eq_none.2 fun x hx => by simpa using h x hx

set_option maxHeartbeats 1000000 in
theorem getR_any (r base : Nat) (w : World) (v : Value) (t : List Ov) (key : ByteArray) (h : Dt r base w v t) (hn : t.length ≤ 1000000) :
  Calls Tryz.prog 97 #[.pointer (some ⟨r, 0, none⟩), .string key] w fun E w' => E = .returned (.tuple #[.string (gv t key), .bool (Tm.met t key), .bool (gp t key)]) ∧ ∃ m, w' = w.drewN m := by
 have HM := hide (tnoneR_any r w h.made)
 have hc := h.list
 have his := h.own.is
 obtain ⟨ao, cap, hsv, _, _⟩ := his.shape
 have HFULL := hide fun (h0 : 0 < t.length) => his.full h0
 subst hsv
 obtain ⟨n, hnn⟩ : ∃ n, t.length = n := ⟨_, rfl⟩
 rw [hnn] at HFULL hn hc
 have HN := hide hnn
 obtain ⟨g1, hg1⟩ : ∃ g, gv t key = g := ⟨_, rfl⟩
 obtain ⟨g2, hg2⟩ : ∃ g, Tm.met t key = g := ⟨_, rfl⟩
 obtain ⟨g3, hg3⟩ : ∃ g, gp t key = g := ⟨_, rfl⟩
 rw [hg1, hg2, hg3]
 have HG : Hid (∀ o, Tm.get t key = some o → g1 = o.v ∧ g2 = true ∧ g3 = o.p) := hide fun o ho => by
  subst hg1 hg2 hg3
  unfold gv gp
  rw [Tm.met_get, ho]
  exact ⟨rfl, rfl, rfl⟩
 have HG0 : Hid (Tm.get t key = none → g1 = ⟨#[]⟩ ∧ g2 = false ∧ g3 = false) := hide fun ho => by
  subst hg1 hg2 hg3
  unfold gv gp
  rw [Tm.met_get, ho]
  exact ⟨rfl, rfl, rfl⟩
 clear h his hnn hg1 hg2 hg3
 go_enter Tryz.func97, Tryz.ntmps97
 go_wp2_with fail
 refine HM.out.mono ?_
 rintro E w' ⟨rfl, rfl⟩
 go_wp2
 go_loopw [7] (fun i wr => ∃ (k : Nat), k ≤ n ∧ i = .int .i64 k ∧ Hid (∀ q ∈ t.take k, q.k ≠ key) ∧ wr = w) (fun i _ => n - (intOf i).toNat)
 case atStart => exact ⟨0, by omega, rfl, hide (by simp), rfl⟩
 case round =>
  obtain ⟨k, hk, rfl, HT, rfl⟩ := hrel
  by_cases hlt : k < n
  ·obtain ⟨o, ho⟩ : ∃ o, t[k]? = some o := ⟨t[k]'(by have := HN.out; omega), by rw [List.getElem?_eq_getElem]⟩
   obtain ⟨b1, o1, cq, hvx, _, _, hB, hcell⟩ := HFULL.out (by omega)
   simp only [Value.slice.injEq, true_and] at hvx
   obtain ⟨rfl, rfl⟩ := hvx
   obtain ⟨c0, c1, c2⟩ := hcell k o ho
   have hlt' : (k : Int) < n := by omega
   have hk0 : (0 : Int) ≤ (k : Int) := by omega
   clear hcell
   by_cases hke : o.k = key
   ·have he : (o.k.toList == key.toList) = true := by rw [Tm.eqk]; simp [hke]
    obtain ⟨rfl, rfl, rfl⟩ := HG.out o (get_at key HT.out ho hke)
    clear ho HG HG0
    go_wp2_with fail
    go_quiet (fail)
    go_wp2
    go_ret3
    exact ⟨rfl, _, rfl⟩
   ·have he : (o.k.toList == key.toList) = false := by rw [Tm.eqk]; simp [hke]
    have HT2 : Hid (∀ q ∈ t.take (k + 1), q.k ≠ key) := hide (by
     obtain ⟨h1, rfl⟩ := List.getElem?_eq_some_iff.1 ho
     intro q hq
     rw [List.take_succ_eq_append_getElem h1] at hq
     rcases List.mem_append.1 hq with hq | hq
     ·exact HT.out q hq
     ·simp at hq
      subst hq
      exact hke)
    clear ho
    go_wp2
    go_roundw
    case rel => exact ⟨k + 1, by omega, by go_num, HT2, trivial⟩
    case measure => simp [intOf]; omega
  ·have hlt' : ¬ (k : Int) < n := by omega
   obtain ⟨rfl, rfl, rfl⟩ := HG0.out (get_no key (by
    have h1 := HT.out
    rw [List.take_of_length_le (by have := HN.out; omega)] at h1
    exact h1))
   go_wp2
   go_ret3
   exact ⟨rfl, 0, rfl⟩

end Go.Proofs.YtmmfakpphjjjfaaGreat

/- The document's runs: Get. -/
namespace Go.Proofs.YtmmfakpphjjjfaaGreat
open Go.RowKit
open Bm (Ov)
set_option linter.unusedVariables false

theorem fit_ops {l : List Ov} (h : ∀ o ∈ l, o.c = 0) : FitO l := fun o ho => by
 obtain ⟨_, h2, h3, _⟩ := Om.chk_ok' (h o ho)
 have e1 : o.k.size = o.k.data.toList.length := rfl
 have e2 : o.v.size = o.v.data.toList.length := rfl
 have e3 : o.kl = o.k.data.toList := rfl
 have e4 : o.vl = o.v.data.toList := rfl
 rw [e3] at h2
 rw [e4] at h3
 omega

theorem xapp_len : ∀ (l t : List Ov), (Tm.app t l).length ≤ t.length + l.length
 | [], t => by simp [Tm.app]
 | o :: l, t => by
  have h1 := xapp_len l (Tm.one t o)
  have h2 := Tm.one_len t o
  show (Tm.app (Tm.one t o) l).length ≤ _
  rw [List.length_cons]
  omega

theorem tab_len (l : List Cm.Cv) : (Rl.tab l).length ≤ (Rl.ops l).length := by
 have := xapp_len (Rl.ops l) []
 show (Tm.app [] (Rl.ops l)).length ≤ _
 simpa using this

end Go.Proofs.YtmmfakpphjjjfaaGreat
