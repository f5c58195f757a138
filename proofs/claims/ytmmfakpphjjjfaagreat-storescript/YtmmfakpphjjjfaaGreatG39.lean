/- Texts of one layer, one behind the other. -/
import Derived.Test.YtmmfakpphjjjfaaGreatG38
import Derived.Test.YtmmfakpphjjjfaaGreatG18
import Derived.Test.YtmmfakpphjjjfaaGreatProg
import Derived.Test.YtmmfakpphjjjfaaGreatG32
/- Of a store: Flush. -/
namespace Go.Proofs.YtmmfakpphjjjfaaGreat
open Go.RowKit
open Bm (Ov)
set_option linter.unusedVariables false

theorem Sto.Ok.front {s : Sto.Ss} (h : Sto.Ok s) (k : Nat) : ∀ c ∈ s.l.take k, c.n ≤ Cm.lastN 0 s.r.l + k := fun c hc => by
 have := (Sto.good_all (Cm.good_take h.rest k) c hc).2.2.1
 rw [List.length_take] at this
 omega

theorem Sto.Ok.back {s : Sto.Ss} (h : Sto.Ok s) (k : Nat) (hk : k ≤ s.l.length) : ∀ c ∈ s.l.drop k, Cm.lastN 0 s.r.l + k < c.n := fun c hc => by
 have := (Sto.good_all (Sto.good_drop h.rest k hk) c hc).2.1
 omega

set_option maxRecDepth 20000 in
set_option maxHeartbeats 8000000 in
theorem sflush_any (ps p q : Nat) (F : Nat → Prop) (w : World) (s : Sto.Ss) (u : Int) (h : SW ps p q F w s) (hs : RBig s.r) (hu : In64 u) (hn : s.l.length ≤ 100000) :
  Calls Tryz.prog 52 #[.pointer (some ⟨ps, 0, none⟩), .int .i64 u] w fun E w' => E = .returned (.int .i64 (Sto.flu s u).1) ∧ StS ps p q F w w' (Sto.flu s u).2 := by
 have HR := hide (sready_any ps p q F w s h)
 have ok := h.ok
 obtain ⟨b1, b2, b3, b4⟩ := ok.bound
 have HSW := hide h
 have HOK := hide ok
 have HFO := hide (Sto.flu_ok ok u)
 have HU := hide hu
 have HBIG := hide hs
 obtain ⟨z, hz⟩ : ∃ z, Cm.lastN 0 s.r.l = z := ⟨_, rfl⟩
 obtain ⟨f, hf⟩ : ∃ f, Sto.fin s = f := ⟨_, rfl⟩
 have HZ := hide hz
 have HFN := hide hf
 rw [hz] at b1 b2
 rw [hf] at b3
 have hflu := Sto.flu.eq_1 s u
 rw [hz, hf] at hflu
 have HF0 := hide hflu
 have HFZ : Hid (f = z + s.l.length) := hide (by rw [← hf, ← hz]; rfl)
 clear h hs hu ok hz hf hflu
 go_enter Tryz.func52, Tryz.ntmps52
 go_wp2_with fail
 refine HR.out.mono ?_
 rintro E w1 ⟨rfl, bel1⟩
 have W1 := HSW.out.below bel1
 have HN := hide (send_any ps p q F w1 s W1)
 rw [HFN.out] at HN
 have HW1 := hide W1
 obtain ⟨F1, G1, h1, ⟨pm, bm, v, rs, hs, rfl⟩, hd, _, rfl⟩ := W1
 have HE := hide (hrend_any p q F1 w1 s.r h1)
 rw [HZ.out] at HE
 have x0 := blk_cell hs.blk 0 rfl
 have x1 := blk_cell hs.blk 1 rfl
 simp only [List.getElem_toArray, List.getElem_cons_zero, List.getElem_cons_succ] at x0 x1
 have HH := hide (And.intro h1 (And.intro hs hd))
 have B1 := hide bel1
 clear HR h1 hs hd bel1
 go_wp2_with fail
 refine HE.out.mono ?_
 rintro E w2 ⟨rfl, rfl⟩
 clear HE
 by_cases hlo : u < z
 ·have e1 : Sto.flu s u = (2, s) := by rw [HF0.out, if_pos (.inl hlo)]
  have E1 := hide e1
  clear e1
  go_wp2
  go_ret
  rw [E1.out]
  exact ⟨rfl, StS.same HSW.out B1.out⟩
 go_wp2_with fail
 refine HN.out.mono ?_
 rintro E w2 ⟨rfl, m, rfl⟩
 generalize hy : w1.drewN m = Y
 have BY : Hid (Below w1.heap.size w1 Y) := hide (by rw [← hy]; exact below_drewN (Below.refl _ _) _)
 have B0Y := hide (B1.out.trans (BY.out.mono B1.out.size))
 clear HN hy
 by_cases hhi : f < u
 ·have e1 : Sto.flu s u = (2, s) := by rw [HF0.out, if_pos (.inr hhi)]
  have E1 := hide e1
  clear e1
  go_wp2
  go_ret
  rw [E1.out]
  exact ⟨rfl, StS.same HSW.out B0Y.out⟩
 by_cases heq : u = z
 ·have e1 : Sto.flu s u = (0, s) := by rw [HF0.out, if_neg (by omega), if_pos heq]
  have E1 := hide e1
  clear e1
  go_wp2
  go_ret
  rw [E1.out]
  exact ⟨rfl, StS.same HSW.out B0Y.out⟩
 obtain ⟨k, hk⟩ : ∃ k : Nat, (u - z).toNat = k := ⟨_, rfl⟩
 have hfz := HFZ.out
 have hk1 : 0 < k := by omega
 have hk2 : k ≤ s.l.length := by omega
 have huz : u = z + k := by omega
 have hwk : IntKind.i64.wrap (u - z) = (k : Int) := by rw [wrap_i64_small _ (by omega) (by omega)]; omega
 have hsY := HH.out.2.1.below BY.out
 have hrl := hsY.rest.len
 obtain ⟨vs, hvs, rowk⟩ := hsY.rest.row.row.slice_h Tryz.elemC Tryz.sizeC k (by omega)
 have y1 := (BY.out.cell (p := ⟨ps, 1, none⟩) (blk_lt HH.out.2.1.blk)).trans x1
 have hik : IsC Y vs (rs.take k) := ⟨rowk, fun c hc => hsY.rest.isc.2 c (List.mem_of_mem_take hc)⟩
 have HT := hide (tableof_any vs (rs.take k) Y hik (fun c hc => hsY.rest.get c (List.mem_of_mem_take hc)) (by rw [List.length_take]; omega))
 have ecv : cvs (rs.take k) = s.l.take k := by rw [cvs_take, hsY.rest.is]
 rw [ecv] at HT
 obtain ⟨t, ht⟩ : ∃ t, Rl.tab (s.l.take k) = t := ⟨_, rfl⟩
 rw [ht] at HT
 have hrn : Sto.rnn s u = ⟨z + 1, u, t⟩ := by unfold Sto.rnn; rw [HZ.out, hk, ht]
 have hgt := Cm.good_take HOK.out.rest k
 have htf : FitO t := by rw [← ht]; exact fit_c (Sto.tab_c hgt)
 have htl : t.length ≤ 800000 := by
  have := Sto.tab_len hgt
  rw [ht, List.length_take] at this
  omega
 obtain ⟨va, vn, vc, hvsh⟩ : ∃ a n c, vs = .slice a n c := by
  obtain ⟨a, c, h, _⟩ := rowk.shape
  exact ⟨a, _, c, h⟩
 subst hvsh
 rw [HF0.out, if_neg (by omega), if_neg heq, hrn] at HFO
 have HF1 : Hid (Sto.flu s u = if 1024 < t.length then (3, s) else if (Rl.flu s.r ⟨z + 1, u, t⟩).1 ≠ 0 then ((Rl.flu s.r ⟨z + 1, u, t⟩).1, ⟨(Rl.flu s.r ⟨z + 1, u, t⟩).2, s.l⟩) else (0, ⟨(Rl.flu s.r ⟨z + 1, u, t⟩).2, s.l.drop k⟩)) := hide (by rw [HF0.out, if_neg (by omega), if_neg heq, hrn, hk])
 rw [hk] at HFO
 have HHY := hide (And.intro (HH.out.1.below BY.out) (And.intro hsY HH.out.2.2))
 have HTF := hide (And.intro htf htl)
 have HTT := hide ht
 have HKK := hide (And.intro hk1 (And.intro hk2 huz))
 clear HF0 hrn hgt ht ecv hik rowk hsY hrl hk HW1 HH x0 x1 htf hfz huz hk1 hk2
 go_wp2_with fail
 refine HT.out.mono ?_
 rintro E w3 ⟨pt, rfl, bt, T3, p3, b3', bel3⟩
 have HL := hide (tlen_any pt bt w3 t T3)
 have T3 := hide T3
 have B3 := hide bel3
 have P3 := hide (And.intro p3 b3')
 clear HT p3 b3' bel3 hvs y1 hwk
 go_wp2_with fail
 refine HL.out.mono ?_
 rintro E w4 ⟨rfl, rfl⟩
 clear HL
 by_cases hbig : (1024 : Int) < t.length
 ·have e1 : Sto.flu s u = (3, s) := by rw [HF1.out, if_pos (by omega)]
  have E1 := hide e1
  clear e1
  go_wp2
  go_ret
  rw [E1.out]
  exact ⟨rfl, StS.same HSW.out (B0Y.out.trans (B3.out.mono B0Y.out.size))⟩
 rw [if_neg (by omega)] at HFO HF1
 have HAL := hide (tall_of (.pointer (some ⟨pt, 0, none⟩)) w3 t (tops_any pt bt w3 t T3.out HTF.out.1 (by have := HTF.out.2; omega)))
 have hw1 : IntKind.i64.wrap (z + 1) = z + 1 := wrap_i64_small _ (by omega) (by omega)
 go_wp2_with fail
 refine HAL.out.mono ?_
 rintro E w4 ⟨B, rfl, sq, bel4⟩
 have HCO := hide (collect_any B _ w4 t sq (by have := HTF.out.2; omega))
 have B4 := hide (B3.out.trans (bel4.mono B3.out.size))
 clear HAL sq bel4
 go_wp2_with fail
 refine HCO.out.mono ?_
 rintro E w5 ⟨vt, rfl, own5, bel5⟩
 obtain ⟨oa, ok, hvo, _, _⟩ := own5.is.shape
 have htl2 := HTF.out.2
 obtain ⟨tn, htn⟩ : ∃ n, t.length = n := ⟨_, rfl⟩
 rw [htn] at hvo
 obtain ⟨w6, hw6, hw62, sz6, bel6, bX, e0, e1, e2⟩ := new_step w5 112 (.int .i64 0) (.int .i64 0) (.slice none 0 0) (.int .i64 (z + 1)) (.int .i64 u) vt
 have b56 := bel5.trans (bel6.mono bel5.size)
 have B6 := hide (B4.out.trans (b56.mono B4.out.size))
 obtain ⟨h1, hs, hd⟩ := HHY.out
 have h16 := h1.below B6.out
 have hs6 := hs.below B6.out
 have own6 := own5.below bel6
 have x6 := blk_cell hs6.blk 0 rfl
 simp only [List.getElem_toArray, List.getElem_cons_zero] at x6
 have h64 : In64 (z + 1) := ⟨by omega, by omega⟩
 have hl40 : t.length * 40 ≤ 140737488351232 := by omega
 have HFL := hide (hflush_any p q F1 w6.drew s.r ⟨z + 1, u, vt, t⟩ (h16.below ((Below.refl _ _).drew)) HBIG.out (own6.is.drewN 1) HTF.out.1 ⟨h64, HU.out⟩ hl40 (fun _ b hb hf => by
  have h2 := (OwnO.block own5 b hb).1
  have h3 := h1.lt b hf
  have h4 := B4.out.size
  omega))
 unfold cmv at HFL
 simp only at HFL
 rw [show (⟨z + 1, u, vt, t⟩ : Cw).c = ⟨z + 1, u, t⟩ from rfl] at HFL
 rw [hvo] at hw6 hw62 e2 HFL
 have HX := hide (And.intro h16 (And.intro hs6 hd))
 have hpx := blk_lt hs6.blk
 have hpnF : ¬ F1 ps := hd ps (.inl rfl)
 have hwnF : ¬ F1 w5.heap.size := fun hf => by
  have h3 := h1.lt _ hf
  have h4 := B4.out.size
  have h5 := bel5.size
  omega
 have hwx := blk_lt bX
 subst hvo
 obtain ⟨fe, hfe⟩ : ∃ x, (Rl.flu s.r ⟨z + 1, u, t⟩).1 = x := ⟨_, rfl⟩
 obtain ⟨r', hr'⟩ : ∃ x, (Rl.flu s.r ⟨z + 1, u, t⟩).2 = x := ⟨_, rfl⟩
 have HLL : Hid (fe = 0 → Cm.lastN 0 r'.l = u) := hide fun e => by
  have := Sto.rflu_l (s := s.r) (c := ⟨z + 1, u, t⟩) (hfe.trans e)
  rw [← hr', this]
  exact Rl.last_snoc _ _ _
 rw [hfe, hr'] at HFL HFO HF1
 clear h64 hl40 HCO own5 own6 bel5 bel6 b56 h1 hs hd h16 hs6 HHY B4 T3 htn hfe hr' bX htl2 htl
 go_wp2_with fail
 go_region_held3 (fun w' => w'.cell? ⟨ps, 0, none⟩ = some (.pointer (some ⟨p, 0, none⟩)) ∧ w'.cell? ⟨w5.heap.size, 0, none⟩ = some (.int .i64 (z + 1)) ∧ w'.cell? ⟨w5.heap.size, 1, none⟩ = some (.int .i64 u) ∧ w'.cell? ⟨w5.heap.size, 2, none⟩ = some (.slice oa tn ok)) (first | exact ⟨x6, e0, e1, e2⟩ | exact ⟨x7, g0, g1, g2⟩ | go_keep)
  (first
  | (go_at_call 77; refine HFL.out.mono ?_; rintro E w7 ⟨rfl, RS⟩; obtain ⟨F2, k1, k2', k3'⟩ := RS; have k2 : Out F1 w6 w7 := ((Out.refl _ w6).drew 1).trans k2' fun g hg => .inl hg; have k3 : ∀ g, F2 g → F1 g ∨ w6.heap.size ≤ g := k3'; have x7 := (cell_of_blk' (k2.block ps hpx hpnF) 0).trans x6; have g0 := (cell_of_blk' (k2.block w5.heap.size hwx hwnF) 0).trans e0; have g1 := (cell_of_blk' (k2.block w5.heap.size hwx hwnF) 1).trans e1; have g2 := (cell_of_blk' (k2.block w5.heap.size hwx hwnF) 2).trans e2; have RR := hide (And.intro k1 (And.intro k2 k3)); clear k1 k2 k3 k2' k3'))
 have hB06 := hide (B0Y.out.trans (B6.out.mono B0Y.out.size))
 by_cases hfe : fe = 0
 ·have e5 : Sto.flu s u = (0, ⟨r', s.l.drop k⟩) := by rw [HF1.out, if_neg (by simpa using hfe)]
  have E5 := hide e5
  rw [if_neg (by simpa using hfe)] at HFO
  obtain ⟨k1, k2, k3⟩ := RR.out
  obtain ⟨h16, hs6, hd⟩ := HX.out
  have hs7 := hs6.out k2 hd
  have hd7 : ∀ g, SB ps pm bm v rs g → ¬ F2 g := fun g hg hf => by
   rcases k3 g hf with e | e
   ·exact hd g hg e
   ·have := hs6.lt g hg
    omega
  obtain ⟨q1, q2, q3⟩ := HKK.out
  have hlast := HLL.out hfe
  have HC := hide (catch2_any ps p q pm bm F2 w7 r' s.l v rs k k1 hs7 hd7 q2 q1 (fun c hc => by have := HOK.out.front k c hc; rw [HZ.out] at this; rw [hlast]; omega) (fun c hc => by have := HOK.out.back k q2 c hc; rw [HZ.out] at this; rw [hlast]; omega) HFO.out.1 hn)
  have T7 : Hid (Out (fun g => F1 g ∨ SB ps pm bm v rs g) w w7 ∧ ∀ g, (F2 g ∨ SB ps pm bm v rs g) → (F1 g ∨ SB ps pm bm v rs g) ∨ w.heap.size ≤ g) := hide (by
   have hz6 := hB06.out.size
   refine ⟨(Out.of_below (F := fun g => F1 g ∨ SB ps pm bm v rs g) hB06.out).trans k2 fun g hg => .inl (.inl hg), ?_⟩
   rintro g (e | e)
   ·rcases k3 g e with e | e
    ·exact .inl (.inl e)
    ·exact .inr (by omega)
   ·exact .inl (.inr e))
  subst hfe
  clear k1 k2 k3 h16 hs6 hd hs7 hd7 q1 q2 q3 hlast e5 HFL RR
  go_wp2_with fail
  refine HC.out.mono ?_
  rintro E w8 ⟨⟨uu, rfl⟩, SS⟩
  have FIN := hide (StS.trans T7.out.1 T7.out.2 SS)
  clear SS HC
  go_wp2
  go_ret
  rw [E5.out]
  exact ⟨rfl, FIN.out⟩
 ·have e5 : Sto.flu s u = (fe, ⟨r', s.l⟩) := by rw [HF1.out, if_pos (by simpa using hfe)]
  have E5 := hide e5
  rw [if_pos (by simpa using hfe)] at HFO
  have hne : (fe != 0) = true := by simp [hfe]
  have FIN : Hid (StS ps p q (fun g => F1 g ∨ SB ps pm bm v rs g) w w7 ⟨r', s.l⟩) := hide (by
   obtain ⟨k1, k2, k3⟩ := RR.out
   obtain ⟨h16, hs6, hd⟩ := HX.out
   have hs7 := hs6.out k2 hd
   have hz6 := hB06.out.size
   refine ⟨_, ⟨F2, _, k1, ⟨pm, bm, v, rs, hs7, rfl⟩, fun g hg hf => ?_, HFO.out.1, rfl⟩, (Out.of_below (F := fun g => F1 g ∨ SB ps pm bm v rs g) hB06.out).trans k2 fun g hg => .inl (.inl hg), ?_⟩
   ·rcases k3 g hf with e | e
    ·exact hd g hg e
    ·have := hs6.lt g hg
     omega
   ·rintro g (e | e)
    ·rcases k3 g e with e | e
     ·exact .inl (.inl e)
     ·exact .inr (by omega)
    ·exact .inl (.inr e))
  clear e5 HFL RR
  go_wp2
  go_ret
  rw [E5.out]
  exact ⟨rfl, FIN.out⟩

end Go.Proofs.YtmmfakpphjjjfaaGreat

/- The steps of a region of All's. -/
namespace Go.Proofs.YtmmfakpphjjjfaaGreat
open Go.RowKit
set_option linter.unusedVariables false

theorem wzb_new : Array.replicate 13 false = lst 13 0 := by kernel_rfl

theorem wzb_size : (regOf 4 Tryz.f58).size = 13 := by kernel_rfl

theorem wzb_t0_0 : Region.free .any (regOf 4 Tryz.f58) (lst 13 0) 0 = true ∧ (Region.ready .any (regOf 4 Tryz.f58) (lst 13 0)).contains 0 = true ∧ (lst 13 0).setIfInBounds 0 true = lst 13 1 := ⟨by kernel_rfl, by kernel_rfl, by kernel_rfl⟩

theorem wzb_t1_1 : Region.free .any (regOf 4 Tryz.f58) (lst 13 1) 1 = true ∧ (Region.ready .any (regOf 4 Tryz.f58) (lst 13 1)).contains 1 = true ∧ (lst 13 1).setIfInBounds 1 true = lst 13 3 := ⟨by kernel_rfl, by kernel_rfl, by kernel_rfl⟩

theorem wzb_t3_2 : Region.free .any (regOf 4 Tryz.f58) (lst 13 3) 2 = true ∧ (Region.ready .any (regOf 4 Tryz.f58) (lst 13 3)).contains 2 = true ∧ (lst 13 3).setIfInBounds 2 true = lst 13 7 := ⟨by kernel_rfl, by kernel_rfl, by kernel_rfl⟩

theorem wzb_t7_3 : Region.free .any (regOf 4 Tryz.f58) (lst 13 7) 3 = true ∧ (Region.ready .any (regOf 4 Tryz.f58) (lst 13 7)).contains 3 = true ∧ (lst 13 7).setIfInBounds 3 true = lst 13 15 := ⟨by kernel_rfl, by kernel_rfl, by kernel_rfl⟩

theorem wzb_t15_5 : Region.free .any (regOf 4 Tryz.f58) (lst 13 15) 5 = true ∧ (Region.ready .any (regOf 4 Tryz.f58) (lst 13 15)).contains 5 = true ∧ (lst 13 15).setIfInBounds 5 true = lst 13 47 := ⟨by kernel_rfl, by kernel_rfl, by kernel_rfl⟩

theorem wzb_t47_6 : Region.free .any (regOf 4 Tryz.f58) (lst 13 47) 6 = true ∧ (Region.ready .any (regOf 4 Tryz.f58) (lst 13 47)).contains 6 = true ∧ (lst 13 47).setIfInBounds 6 true = lst 13 111 := ⟨by kernel_rfl, by kernel_rfl, by kernel_rfl⟩

theorem wzb_t111_7 : Region.free .any (regOf 4 Tryz.f58) (lst 13 111) 7 = true ∧ (Region.ready .any (regOf 4 Tryz.f58) (lst 13 111)).contains 7 = true ∧ (lst 13 111).setIfInBounds 7 true = lst 13 239 := ⟨by kernel_rfl, by kernel_rfl, by kernel_rfl⟩

theorem wzb_t239_8 : Region.free .any (regOf 4 Tryz.f58) (lst 13 239) 8 = true ∧ (Region.ready .any (regOf 4 Tryz.f58) (lst 13 239)).contains 8 = true ∧ (lst 13 239).setIfInBounds 8 true = lst 13 495 := ⟨by kernel_rfl, by kernel_rfl, by kernel_rfl⟩

theorem wzb_r495 : Region.ready .any (regOf 4 Tryz.f58) (lst 13 495) = [4] ∧ (lst 13 495).setIfInBounds 4 true = lst 13 511 := ⟨by kernel_rfl, by kernel_rfl⟩

theorem wzb_r511 : Region.ready .any (regOf 4 Tryz.f58) (lst 13 511) = [9] ∧ (lst 13 511).setIfInBounds 9 true = lst 13 1023 := ⟨by kernel_rfl, by kernel_rfl⟩

theorem wzb_r1023 : Region.ready .any (regOf 4 Tryz.f58) (lst 13 1023) = [10] ∧ (lst 13 1023).setIfInBounds 10 true = lst 13 2047 := ⟨by kernel_rfl, by kernel_rfl⟩

theorem wzb_r2047 : Region.ready .any (regOf 4 Tryz.f58) (lst 13 2047) = [11] ∧ (lst 13 2047).setIfInBounds 11 true = lst 13 4095 := ⟨by kernel_rfl, by kernel_rfl⟩

theorem wzb_r4095 : Region.ready .any (regOf 4 Tryz.f58) (lst 13 4095) = [12] ∧ (lst 13 4095).setIfInBounds 12 true = lst 13 8191 := ⟨by kernel_rfl, by kernel_rfl⟩

theorem wzb_end : Region.ready .any (regOf 4 Tryz.f58) (lst 13 8191) = [] := by kernel_rfl

end Go.Proofs.YtmmfakpphjjjfaaGreat

/- Of a store: All. -/
namespace Go.Proofs.YtmmfakpphjjjfaaGreat
open Go.RowKit
open Bm (Ov)
set_option linter.unusedVariables false

set_option maxRecDepth 20000 in
set_option maxHeartbeats 4000000 in
theorem sAll_any (ps p q : Nat) (F : Nat → Prop) (w : World) (s : Sto.Ss) (h : SW ps p q F w s) (hn : s.l.length ≤ 100000) :
  Calls Tryz.prog 58 #[.pointer (some ⟨ps, 0, none⟩)] w fun E w' => ∃ A B, E = .returned (.func (.func 102) #[] #[.pointer (some ⟨A, 0, none⟩), .pointer (some ⟨B, 0, none⟩)]) ∧ SeqS A B w.heap.size w' s.r.l (Rl.tab s.l) ∧ Below w.heap.size w w' := by
 obtain ⟨w1, hw1, sz1, b1, B1⟩ := blk_step w #[.slice none 0 0] 76
 obtain ⟨w2, hw2, sz2, b2, B2⟩ := blk_step w1 #[.slice none 0 0] 48
 rw [sz1] at B2
 have b02 := b1.trans (b2.mono b1.size)
 have HR := hide (sready_any ps p q F w2 s (h.below b02))
 have HSW := hide (h.below b02)
 have HLT := hide h.lt
 have HA := hide ((b2.block w.heap.size (by omega)).trans B1)
 have HB := hide B2
 have HB02 := hide b02
 have HSZ : Hid (w2.heap.size = w.heap.size + 2) := hide (by omega)
 clear h b1 b2 b02 B1 B2 sz2
 go_enter Tryz.func58, Tryz.ntmps58
 go_wp2_with fail
 refine HR.out.mono ?_
 rintro E w3 ⟨rfl, bel3⟩
 have s3 := HSW.out.below bel3
 have sz3 : w.heap.size + 2 ≤ w3.heap.size := by have := bel3.size; have := HSZ.out; omega
 have hA3 := (bel3.block w.heap.size (by have := HSZ.out; omega)).trans HA.out
 have hB3 := (bel3.block (w.heap.size + 1) (by have := HSZ.out; omega)).trans HB.out
 obtain ⟨F1, G1, h1, ⟨pm, bm, v, rs, hs, hG⟩, _, ok, hF⟩ := s3
 have hpw : ps < w.heap.size := HLT.out ps (by rw [hF, hG]; exact .inr (.inl rfl))
 have SX : Hid (∀ W, Below w3.heap.size w3 W → W.cell? ⟨ps, 0, none⟩ = some (.pointer (some ⟨p, 0, none⟩)) ∧ W.cell? ⟨ps, 2, none⟩ = some (.pointer (some ⟨pm, 0, none⟩))) := hide fun W hW => by
  have k := (hs.below hW).blk
  exact ⟨blk_cell k 0 rfl, blk_cell k 2 rfl⟩
 have HLI : Hid (∀ W, Below w3.heap.size w3 W → Calls Tryz.prog 101 #[.pointer (some ⟨p, 0, none⟩)] W fun E w' => ∃ v' rs', E = .returned v' ∧ Rq W.heap.size w' s.r.l v' rs' ∧ Below W.heap.size W w') := hide fun W hW =>
  (hlist_any p q F1 W s.r (h1.below hW)).mono fun E w' h => by
   obtain ⟨v', rs', e1, e2, _, e3⟩ := h
   exact ⟨v', rs', e1, e2, e3⟩
 have htl := Sto.tab_len ok.rest
 have HAL : Hid (∀ W, Below w3.heap.size w3 W → Calls Tryz.prog 92 #[.pointer (some ⟨pm, 0, none⟩)] W fun E w' => ∃ B, E = .returned (.func (.func 158) #[] #[.pointer (some ⟨B, 0, none⟩)]) ∧ SeqT B W.heap.size w' (Rl.tab s.l) ∧ Below W.heap.size W w') := hide fun W hW =>
  tall_of _ W _ (tops_any pm bm W _ (hs.tb.below hW) (fit_c (Sto.tab_c ok.rest)) (by omega))
 have HTL : Hid ((Rl.tab s.l).length ≤ 1000000) := hide (by omega)
 have HA3 := hide hA3
 have HB3 := hide hB3
 have HB3' := hide (HB02.out.trans (bel3.mono HB02.out.size))
 clear HR HSW hs h1 ok bel3 hA3 hB3 htl HA HB hF hG HLT hn
 go_wp2_with fail
 obtain ⟨W0, hW0⟩ : ∃ x, w3.drew = x := ⟨_, rfl⟩
 have bel0 : Below w3.heap.size w3 W0 := by rw [← hW0]; exact (Below.refl _ _).drew
 refine region_any (ops := (regOf 4 Tryz.f58)) (S := fun W => W.cell? ⟨ps, 0, none⟩ = some (.pointer (some ⟨p, 0, none⟩)) ∧ W.cell? ⟨ps, 2, none⟩ = some (.pointer (some ⟨pm, 0, none⟩))) (by kernel_rfl) wzb_size ?_
 rw [wzb_new, hW0]
 refine any_take (v := ?_) wzb_t0_0 (by kernel_rfl) (fun _ _ _ _ _ h => h) (SX.out _ bel0) rfl rfl (by rfl) ?_ ?_
 rotate_left 1
 ·intro w hS
  (try dsimp only at hS)
  go_simp
  all_goals with_reducible rfl
 simp only [Act.put, List.setIfInBounds_toArray, List.set_cons_zero, List.set_cons_succ]
 refine any_take (v := ?_) wzb_t1_1 (by kernel_rfl) (fun _ _ _ _ _ h => h) (SX.out _ bel0) rfl rfl (by rfl) ?_ ?_
 rotate_left 1
 ·intro w hS
  (try dsimp only at hS)
  go_simp
  all_goals with_reducible rfl
 simp only [Act.put, List.setIfInBounds_toArray, List.set_cons_zero, List.set_cons_succ]
 refine any_take (v := ?_) wzb_t3_2 (by kernel_rfl) (fun _ _ _ _ _ h => h) (SX.out _ bel0) rfl rfl (by rfl) ?_ ?_
 rotate_left 1
 ·intro w hS
  (try dsimp only at hS)
  go_simp
  all_goals with_reducible rfl
 simp only [Act.put, List.setIfInBounds_toArray, List.set_cons_zero, List.set_cons_succ]
 refine any_take (v := ?_) wzb_t7_3 (by kernel_rfl) (fun _ _ _ _ _ h => h) (SX.out _ bel0) rfl rfl (by rfl) ?_ ?_
 rotate_left 1
 ·intro w hS
  (try dsimp only at hS)
  go_simp
  all_goals with_reducible rfl
 simp only [Act.put, List.setIfInBounds_toArray, List.set_cons_zero, List.set_cons_succ]
 refine any_take (v := ?_) wzb_t15_5 (by kernel_rfl) (fun _ _ _ _ _ h => h) (SX.out _ bel0) rfl rfl (by rfl) ?_ ?_
 rotate_left 1
 ·intro w hS
  (try dsimp only at hS)
  go_simp
  all_goals with_reducible rfl
 simp only [Act.put, List.setIfInBounds_toArray, List.set_cons_zero, List.set_cons_succ]
 refine any_take (v := ?_) wzb_t47_6 (by kernel_rfl) (fun _ _ _ _ _ h => h) (SX.out _ bel0) rfl rfl (by rfl) ?_ ?_
 rotate_left 1
 ·intro w hS
  (try dsimp only at hS)
  go_simp
  all_goals with_reducible rfl
 simp only [Act.put, List.setIfInBounds_toArray, List.set_cons_zero, List.set_cons_succ]
 refine any_take (v := ?_) wzb_t111_7 (by kernel_rfl) (fun _ _ _ _ _ h => h) (SX.out _ bel0) rfl rfl (by rfl) ?_ ?_
 rotate_left 1
 ·intro w hS
  (try dsimp only at hS)
  go_simp
  all_goals with_reducible rfl
 simp only [Act.put, List.setIfInBounds_toArray, List.set_cons_zero, List.set_cons_succ]
 refine any_take (v := ?_) wzb_t239_8 (by kernel_rfl) (fun _ _ _ _ _ h => h) (SX.out _ bel0) rfl rfl (by rfl) ?_ ?_
 rotate_left 1
 ·intro w hS
  (try dsimp only at hS)
  go_simp
  all_goals with_reducible rfl
 simp only [Act.put, List.setIfInBounds_toArray, List.set_cons_zero, List.set_cons_succ]
 refine any_one wzb_r495 ?_
 refine any_op rfl (by rfl) (fun K hK => ?_)
 go_simp
 refine (HLI.out _ bel0).mono ?_
 rintro E W1 ⟨vr, rr, rfl, Q1, st1⟩
 have bel1 := bel0.trans (st1.mono bel0.size)
 obtain ⟨ra, rn, rk, hvr⟩ : ∃ a n k, vr = .slice a n k := by
  obtain ⟨a1, k1, h1, _⟩ := Q1.row.row.shape
  exact ⟨a1, _, k1, h1⟩
 subst hvr
 have Q1 := hide Q1
 clear st1
 go_wp2_with fail
 refine hK.out _ _ (SX.out _ bel1) ?_
 clear hK K
 try simp only [Act.put, List.setIfInBounds_toArray, List.set_cons_zero, List.set_cons_succ]
 refine any_one wzb_r511 ?_
 refine any_op rfl (by rfl) (fun K hK => ?_)
 go_simp
 refine (HAL.out _ bel1).mono ?_
 rintro E W2 ⟨B', rfl, sq, st2⟩
 have bel2 := bel1.trans (st2.mono bel1.size)
 have HCO := hide (collect_any B' _ W2 _ sq HTL.out)
 have Q2 := hide (Q1.out.below st2)
 clear sq st2 Q1
 go_wp2_with fail
 refine hK.out _ _ (SX.out _ bel2) ?_
 clear hK K
 try simp only [Act.put, List.setIfInBounds_toArray, List.set_cons_zero, List.set_cons_succ]
 refine any_one wzb_r1023 ?_
 refine any_op rfl (by rfl) (fun K hK => ?_)
 go_simp
 refine HCO.out.mono ?_
 rintro E W3 ⟨vo, rfl, O3, st3⟩
 have bel3 := bel2.trans (st3.mono bel2.size)
 obtain ⟨oa, on, ok, hvo⟩ : ∃ a n k, vo = .slice a n k := by
  obtain ⟨a1, k1, h1, _⟩ := O3.is.shape
  exact ⟨a1, _, k1, h1⟩
 subst hvo
 have q3 := Q2.out.below st3
 have hz0 := bel0.size
 have hz2 := bel2.size
 have hA := (bel3.block w.heap.size (by omega)).trans HA3.out
 have hB := (bel3.block (w.heap.size + 1) (by omega)).trans HB3.out
 have cA := blk_cell hA 0 rfl
 simp only [List.getElem_toArray, List.getElem_cons_zero] at cA
 obtain ⟨X1, hX1, bX1, gX1, fX1⟩ := put_at3 hA 0 (.slice ra rn rk)
 have hB1 := (gX1.block (w.heap.size + 1) (blk_lt hB) (by simp)).trans hB
 have cB := blk_cell hB1 0 rfl
 simp only [List.getElem_toArray, List.getElem_cons_zero] at cB
 obtain ⟨X2, hX2, bX2, gX2, fX2⟩ := put_at3 hB1 0 (.slice oa on ok)
 have hA2 := (gX2.block w.heap.size (blk_lt bX1) (by simp)).trans bX1
 have FX1 : X1.cell? ⟨ps, 0, none⟩ = some (.pointer (some ⟨p, 0, none⟩)) ∧ X1.cell? ⟨ps, 2, none⟩ = some (.pointer (some ⟨pm, 0, none⟩)) := by
  have e := gX1.block ps (by have := bel3.size; omega) (by simp; omega)
  exact ⟨(cell_of_blk' e 0).trans (SX.out _ bel3).1, (cell_of_blk' e 2).trans (SX.out _ bel3).2⟩
 have FX2 : X2.cell? ⟨ps, 0, none⟩ = some (.pointer (some ⟨p, 0, none⟩)) ∧ X2.cell? ⟨ps, 2, none⟩ = some (.pointer (some ⟨pm, 0, none⟩)) := by
  have e := gX2.block ps (by have := bel3.size; have := gX1.size; omega) (by simp; omega)
  exact ⟨(cell_of_blk' e 0).trans FX1.1, (cell_of_blk' e 2).trans FX1.2⟩
 have FIN : Hid (SeqS w.heap.size (w.heap.size + 1) w.heap.size X2 s.r.l (Rl.tab s.l) ∧ Below w.heap.size w X2) := hide (by
  have b3 := bel3.size
  have hne : ∀ g, w3.heap.size ≤ g → g < W3.heap.size → X2.heap[g]? = W3.heap[g]? := fun g h1 h2 => by
   rw [gX2.block g (by have := gX1.size; omega) (by simp; omega), gX1.block g h2 (by simp; omega)]
  refine ⟨⟨_, rr, _, Nat.le_refl _, by omega, hA2, bX2, (q3.agree fun g hg => hne g (by have := q3.ge g hg; omega) (q3.lt g hg)).rebase (by omega), ?_⟩, ?_⟩
  ·exact OwnO.rebase (base := W2.heap.size) (row_agree O3 fun g hg => hne g (by have := (OwnO.block O3 g hg).1; omega) (OwnO.block O3 g hg).2) (by omega)
  ·have b4 := HB3'.out.trans (bel3.mono (by omega))
   exact (b4.grown gX1 b4.size (fun k hk => by simp at hk; omega)).grown gX2 (Nat.le_trans b4.size gX1.size) (fun k hk => by simp at hk; omega))
 clear hA hB hB1 bX1 gX1 bX2 gX2 hA2 q3 O3 Q2 st3 HCO
 go_wp2_with fail
 refine hK.out _ _ (SX.out _ bel3) ?_
 clear hK K
 try simp only [Act.put, List.setIfInBounds_toArray, List.set_cons_zero, List.set_cons_succ]
 refine any_one wzb_r2047 ?_
 refine any_op rfl (by rfl) (fun K hK => ?_)
 go_simp
 go_wp2_with fail
 refine hK.out _ _ FX1 ?_
 clear hK K
 try simp only [Act.put, List.setIfInBounds_toArray, List.set_cons_zero, List.set_cons_succ]
 refine any_one wzb_r4095 ?_
 refine any_op rfl (by rfl) (fun K hK => ?_)
 go_simp
 go_wp2_with fail
 refine hK.out _ _ FX2 ?_
 clear hK K
 try simp only [Act.put, List.setIfInBounds_toArray, List.set_cons_zero, List.set_cons_succ]
 refine any_done wzb_end ?_
 go_wp2
 go_ret
 exact ⟨_, _, rfl, FIN.out⟩

end Go.Proofs.YtmmfakpphjjjfaaGreat

/- The steps of a region of Apply's. -/
namespace Go.Proofs.YtmmfakpphjjjfaaGreat
open Go.RowKit
set_option linter.unusedVariables false

theorem wza_new : Array.replicate 9 false = lst 9 0 := by kernel_rfl

theorem wza_size : (regOf 3 Tryz.f50).size = 9 := by kernel_rfl

theorem wza_t0_0 : Region.free .any (regOf 3 Tryz.f50) (lst 9 0) 0 = true ∧ (Region.ready .any (regOf 3 Tryz.f50) (lst 9 0)).contains 0 = true ∧ (lst 9 0).setIfInBounds 0 true = lst 9 1 := ⟨by kernel_rfl, by kernel_rfl, by kernel_rfl⟩

theorem wza_t1_2 : Region.free .any (regOf 3 Tryz.f50) (lst 9 1) 2 = true ∧ (Region.ready .any (regOf 3 Tryz.f50) (lst 9 1)).contains 2 = true ∧ (lst 9 1).setIfInBounds 2 true = lst 9 5 := ⟨by kernel_rfl, by kernel_rfl, by kernel_rfl⟩

theorem wza_t5_4 : Region.free .any (regOf 3 Tryz.f50) (lst 9 5) 4 = true ∧ (Region.ready .any (regOf 3 Tryz.f50) (lst 9 5)).contains 4 = true ∧ (lst 9 5).setIfInBounds 4 true = lst 9 21 := ⟨by kernel_rfl, by kernel_rfl, by kernel_rfl⟩

theorem wza_r21 : Region.ready .any (regOf 3 Tryz.f50) (lst 9 21) = [1, 5, 7] ∧ (lst 9 21).setIfInBounds 1 true = lst 9 23 ∧ (lst 9 21).setIfInBounds 5 true = lst 9 53 ∧ (lst 9 21).setIfInBounds 7 true = lst 9 149 := ⟨by kernel_rfl, by kernel_rfl, by kernel_rfl, by kernel_rfl⟩

theorem wza_r23 : Region.ready .any (regOf 3 Tryz.f50) (lst 9 23) = [3, 5, 7] ∧ (lst 9 23).setIfInBounds 3 true = lst 9 31 ∧ (lst 9 23).setIfInBounds 5 true = lst 9 55 ∧ (lst 9 23).setIfInBounds 7 true = lst 9 151 := ⟨by kernel_rfl, by kernel_rfl, by kernel_rfl, by kernel_rfl⟩

theorem wza_r31 : Region.ready .any (regOf 3 Tryz.f50) (lst 9 31) = [5, 7] ∧ (lst 9 31).setIfInBounds 5 true = lst 9 63 ∧ (lst 9 31).setIfInBounds 7 true = lst 9 159 := ⟨by kernel_rfl, by kernel_rfl, by kernel_rfl⟩

theorem wza_r63 : Region.ready .any (regOf 3 Tryz.f50) (lst 9 63) = [6, 7] ∧ (lst 9 63).setIfInBounds 6 true = lst 9 127 ∧ (lst 9 63).setIfInBounds 7 true = lst 9 191 := ⟨by kernel_rfl, by kernel_rfl, by kernel_rfl⟩

theorem wza_r127 : Region.ready .any (regOf 3 Tryz.f50) (lst 9 127) = [7] ∧ (lst 9 127).setIfInBounds 7 true = lst 9 255 := ⟨by kernel_rfl, by kernel_rfl⟩

theorem wza_r255 : Region.ready .any (regOf 3 Tryz.f50) (lst 9 255) = [8] ∧ (lst 9 255).setIfInBounds 8 true = lst 9 511 := ⟨by kernel_rfl, by kernel_rfl⟩

theorem wza_end : Region.ready .any (regOf 3 Tryz.f50) (lst 9 511) = [] := by kernel_rfl

theorem wza_r191 : Region.ready .any (regOf 3 Tryz.f50) (lst 9 191) = [6] ∧ (lst 9 191).setIfInBounds 6 true = lst 9 255 := ⟨by kernel_rfl, by kernel_rfl⟩

theorem wza_r159 : Region.ready .any (regOf 3 Tryz.f50) (lst 9 159) = [5] ∧ (lst 9 159).setIfInBounds 5 true = lst 9 191 := ⟨by kernel_rfl, by kernel_rfl⟩

theorem wza_r55 : Region.ready .any (regOf 3 Tryz.f50) (lst 9 55) = [3, 7] ∧ (lst 9 55).setIfInBounds 3 true = lst 9 63 ∧ (lst 9 55).setIfInBounds 7 true = lst 9 183 := ⟨by kernel_rfl, by kernel_rfl, by kernel_rfl⟩

theorem wza_r183 : Region.ready .any (regOf 3 Tryz.f50) (lst 9 183) = [3] ∧ (lst 9 183).setIfInBounds 3 true = lst 9 191 := ⟨by kernel_rfl, by kernel_rfl⟩

theorem wza_r151 : Region.ready .any (regOf 3 Tryz.f50) (lst 9 151) = [3, 5] ∧ (lst 9 151).setIfInBounds 3 true = lst 9 159 ∧ (lst 9 151).setIfInBounds 5 true = lst 9 183 := ⟨by kernel_rfl, by kernel_rfl, by kernel_rfl⟩

theorem wza_r53 : Region.ready .any (regOf 3 Tryz.f50) (lst 9 53) = [1, 7] ∧ (lst 9 53).setIfInBounds 1 true = lst 9 55 ∧ (lst 9 53).setIfInBounds 7 true = lst 9 181 := ⟨by kernel_rfl, by kernel_rfl, by kernel_rfl⟩

theorem wza_r181 : Region.ready .any (regOf 3 Tryz.f50) (lst 9 181) = [1] ∧ (lst 9 181).setIfInBounds 1 true = lst 9 183 := ⟨by kernel_rfl, by kernel_rfl⟩

theorem wza_r149 : Region.ready .any (regOf 3 Tryz.f50) (lst 9 149) = [1, 5] ∧ (lst 9 149).setIfInBounds 1 true = lst 9 151 ∧ (lst 9 149).setIfInBounds 5 true = lst 9 181 := ⟨by kernel_rfl, by kernel_rfl, by kernel_rfl⟩

end Go.Proofs.YtmmfakpphjjjfaaGreat
