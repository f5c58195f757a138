/- Texts of one layer, one behind the other. -/
import Derived.Test.YtmmfakpphjjjfaaGreatG28
import Derived.Test.YtmmfakpphjjjfaaGreatG30
import Derived.Test.YtmmfakpphjjjfaaGreatG41
import Derived.Test.YtmmfakpphjjjfaaGreatG18
import Derived.Test.YtmmfakpphjjjfaaGreatProg
import Derived.Test.YtmmfakpphjjjfaaGreatG29
import Derived.Test.YtmmfakpphjjjfaaGreatG40
import Derived.Test.YtmmfakpphjjjfaaGreatG39
import Derived.Test.YtmmfakpphjjjfaaGreatG9
/- The document's store: Flush. -/
namespace Go.Proofs.YtmmfakpphjjjfaaGreat
open Go.RowKit
open Bm (Ov)
set_option linter.unusedVariables false

set_option maxRecDepth 20000 in
set_option maxHeartbeats 8000000 in
theorem dflush_any (xs x y : Nat) (F : Nat → Prop) (w : World) (s : Sto.Ss) (u : Int) (h : YW xs x y F w s) (hs : RBig s.r) (hu : In64 u) (hn : s.l.length ≤ 100000) (hl : (Rl.ops s.l).length ≤ 400000) :
  Calls Tryz.prog 53 #[.pointer (some ⟨xs, 0, none⟩), .int .i64 u] w fun E w' => E = .returned (.int .i64 (Sto.flu s u).1) ∧ YwS xs x y F w w' (Sto.flu s u).2 := by
 have ok := h.ok
 obtain ⟨b1, b2, b3, b4⟩ := ok.bound
 have HY := hide h
 obtain ⟨F1, v, rs, h1, h2, h3, h4, hF⟩ := id h
 obtain ⟨F3, v3, rs3, g1, g2, g3, hG⟩ := id h1
 have d0 : w.cell? ⟨xs, 0, none⟩ = some (.bool true) := blk_cell h2.blk 0 rfl
 have d1 : w.cell? ⟨xs, 1, none⟩ = some (.pointer (some ⟨x, 0, none⟩)) := blk_cell h2.blk 1 rfl
 have HN := hide (dnone_any xs w d0)
 have HE := hide (xend_any x y w s.r.l s.r.bk v3 rs3 g2)
 have HEN : Hid (∀ W, Below w.heap.size w W → Calls Tryz.prog 49 #[.pointer (some ⟨xs, 0, none⟩)] W fun E w' => E = .returned (.int .i64 (Sto.fin s)) ∧ Below w.heap.size w w') := hide fun W hW => by
  refine (dEnd_any xs x y F W s (HY.out.below hW)).mono ?_
  rintro E w' ⟨rfl, b⟩
  exact ⟨rfl, hW.trans (b.mono hW.size)⟩
 have SM : Hid (∀ W, Below w.heap.size w W → YwS xs x y F w W s) := hide fun W hW => YwS.same HY.out hW
 have hfl : Sto.flu s u = if u < Cm.lastN 0 s.r.l ∨ Sto.fin s < u then (2, s) else if u = Cm.lastN 0 s.r.l then (0, s) else if 1024 < (Sto.rnn s u).l.length then (3, s)
   else if (Rl.flu s.r (Sto.rnn s u)).1 ≠ 0 then ((Rl.flu s.r (Sto.rnn s u)).1, ⟨(Rl.flu s.r (Sto.rnn s u)).2, s.l⟩) else (0, ⟨(Rl.flu s.r (Sto.rnn s u)).2, s.l.drop (u - Cm.lastN 0 s.r.l).toNat⟩) := rfl
 obtain ⟨le, hle⟩ : ∃ z, Cm.lastN 0 s.r.l = z := ⟨_, rfl⟩
 obtain ⟨fi, hfi⟩ : ∃ z, Sto.fin s = z := ⟨_, rfl⟩
 have hfe : fi = le + s.l.length := by rw [← hfi, ← hle]; rfl
 rw [hle, hfi] at hfl
 rw [hle] at HE b1 b2
 rw [hfi] at HEN b3
 by_cases c1 : u < le
 ·rw [if_pos (.inl c1)] at hfl
  have E4 := hide hfl
  clear h ok h1 h2 h3 h4 hF g1 g2 g3 hG hfl hs
  go_enter Tryz.func53, Tryz.ntmps53
  go_wp2_with fail
  refine HN.out.mono ?_
  rintro E w1 ⟨rfl, rfl⟩
  go_wp2_with fail
  refine HE.out.mono ?_
  rintro E w1 ⟨rfl, m, rfl⟩
  have J := hide (SM.out _ (below_drewN (Below.refl _ _) m))
  clear HE HN HEN
  go_wp2
  go_ret
  exact ⟨by rw [E4.out]; rfl, by rw [E4.out]; exact J.out⟩
 by_cases c2 : fi < u
 ·rw [if_pos (.inr c2)] at hfl
  have E4 := hide hfl
  clear h ok h1 h2 h3 h4 hF g1 g2 g3 hG hfl hs
  go_enter Tryz.func53, Tryz.ntmps53
  go_wp2_with fail
  refine HN.out.mono ?_
  rintro E w1 ⟨rfl, rfl⟩
  go_wp2_with fail
  refine HE.out.mono ?_
  rintro E w1 ⟨rfl, m, rfl⟩
  have HX := hide (HEN.out _ (below_drewN (Below.refl _ _) m))
  clear HE HN HEN
  go_wp2_with fail
  refine HX.out.mono ?_
  rintro E w2 ⟨rfl, b⟩
  have J := hide (SM.out _ b)
  clear HX b
  go_wp2
  go_ret
  exact ⟨by rw [E4.out]; rfl, by rw [E4.out]; exact J.out⟩
 rw [if_neg (by omega)] at hfl
 by_cases c3 : u = le
 ·rw [if_pos c3] at hfl
  have E4 := hide hfl
  subst c3
  clear h ok h1 h2 h3 h4 hF g1 g2 g3 hG hfl hs
  go_enter Tryz.func53, Tryz.ntmps53
  go_wp2_with fail
  refine HN.out.mono ?_
  rintro E w1 ⟨rfl, rfl⟩
  go_wp2_with fail
  refine HE.out.mono ?_
  rintro E w1 ⟨rfl, m, rfl⟩
  have HX := hide (HEN.out _ (below_drewN (Below.refl _ _) m))
  clear HE HN HEN
  go_wp2_with fail
  refine HX.out.mono ?_
  rintro E w2 ⟨rfl, b⟩
  have J := hide (SM.out _ b)
  clear HX b
  go_wp2
  go_ret
  exact ⟨by rw [E4.out]; rfl, by rw [E4.out]; exact J.out⟩
 rw [if_neg c3] at hfl
 obtain ⟨k, hk⟩ : ∃ k : Nat, u - le = k := ⟨(u - le).toNat, by omega⟩
 have hkt : (u - le).toNat = k := by omega
 have hkl : k ≤ rs.length := by rw [h2.rest.len]; omega
 have hwk : IntKind.i64.wrap (u - le) = (k : Int) := by rw [hk]; exact wrap_i64_small _ (by have := h2.rest.len; omega) (by have := h2.rest.len; omega)
 have hrn : Sto.rnn s u = ⟨le + 1, u, Rl.tab (s.l.take k)⟩ := by
  unfold Sto.rnn
  rw [hle, hkt]
 have hcv : cvs (rs.take k) = s.l.take k := by rw [← h2.rest.is]; simp [cvs]
 rw [hrn, hkt] at hfl
 have htk : (Rl.ops (s.l.take k)).length ≤ 400000 := by
  have z2 : Rl.ops s.l = Rl.ops (s.l.take k) ++ Rl.ops (s.l.drop k) := by rw [← Sto.ops_app, List.take_append_drop]
  rw [z2, List.length_append] at hl
  omega
 have hrw := h2.rest.row.row
 obtain ⟨vs, hsl, isl⟩ := hrw.slice_h Tryz.elemC Tryz.sizeC k hkl
 obtain ⟨vd, hsd, isd⟩ := RowC.slice_le hrw Tryz.elemC Tryz.sizeC k hkl
 obtain ⟨a1, k1, hv, _, _⟩ := hrw.shape
 have HYV := hide h2
 have HXW := hide h1
 have H3 := hide h3
 have HFF := hide hF
 have HRB := hide hs
 have HOK := hide (Sto.flu_ok ok u).1
 have HFO : Hid (∀ W, Below w.heap.size w W → Calls Tryz.prog 94 #[vs] W fun E w' => ∃ vt, E = .returned (.pointer (some ⟨W.heap.size, 0, none⟩)) ∧ Dt W.heap.size W.heap.size w' vt (Rl.tab (s.l.take k)) ∧ Below W.heap.size W w') := hide fun W hW => by
  have ic := (h2.below hW).rest.isc
  have := foldR_any vs (rs.take k) W ⟨isl.below hW, fun d hd => ic.2 d (List.mem_of_mem_take hd)⟩ (fun d hd => h2.rest.fit d (List.mem_of_mem_take hd)) (fun d hd o ho => (Sto.good_ops ok.rest d.c (by
   have hm := List.mem_of_mem_take hd
   rw [← h2.rest.is]
   exact List.mem_map_of_mem hm)).2.2 o ho) (by rw [List.length_take]; have := h2.rest.len; omega) (by rw [hcv]; omega)
  rw [hcv] at this
  exact this
 have HCP : Hid (∀ W, IsC W vd (rs.drop k) → Calls Tryz.prog 45 #[vd] W fun E w' => ∃ v' rs', E = .returned v' ∧ OwnR 50 W.heap.size w' v' rs' ∧ cvs rs' = s.l.drop k ∧ CopyR W.heap.size w' rs' ∧ Below W.heap.size W w') := hide fun W hc => by
  have e : cvs (rs.drop k) = s.l.drop k := by rw [← h2.rest.is]; simp [cvs]
  have := copiesX_any vd (rs.drop k) W hc (fun d hd => h2.rest.fit d (List.mem_of_mem_drop hd)) (by rw [List.length_drop]; have := h2.rest.len; omega)
  rw [e] at this
  exact this
 have htc : ∀ o ∈ Rl.tab (s.l.take k), o.c = 0 := by
  have hgt : Cm.Good 1 (Cm.lastN 0 s.r.l) (s.l.take k) := Cm.good_take ok.rest k
  exact Sto.tab_c hgt
 have HTC := hide htc
 have HISD := hide isd
 have htl : (Rl.tab (s.l.take k)).length ≤ 400000 := Nat.le_trans (tab_len _) htk
 have HUU := hide hu
 have hw2 : IntKind.i64.wrap (le + 1) = le + 1 := wrap_i64_small _ (by omega) (by omega)
 have CL : Hid (∀ W, Below w.heap.size w W → W.cell? ⟨xs, 1, none⟩ = some (.pointer (some ⟨x, 0, none⟩)) ∧ W.cell? ⟨xs, 2, none⟩ = some (.slice a1 rs.length k1)) := hide fun W hW => by
  have hb := (hW.block xs (blk_lt h2.blk)).trans h2.blk
  exact ⟨blk_cell hb 1 rfl, (blk_cell hb 2 rfl).trans (by rw [← hv]; rfl)⟩
 rw [hv] at hsl hsd
 have HV := hide hv
 have nc1 : (decide (u < le)) = false := by simpa using c1
 have nc2 : (decide (fi < u)) = false := by simpa using c2
 have nc3 : (u == le) = false := by simpa using c3
 obtain ⟨ta, tn, tk, hvs⟩ : ∃ a n k, vs = .slice a n k := by
  obtain ⟨q1, q2, q3, _⟩ := isl.shape
  exact ⟨q1, _, q2, q3⟩
 obtain ⟨da, dn, dk, hvd⟩ : ∃ a n k, vd = .slice a n k := by
  obtain ⟨q1, q2, q3, _⟩ := isd.shape
  exact ⟨q1, _, q2, q3⟩
 subst hvs hvd
 clear h ok h1 h2 h3 h4 hF g1 g2 g3 hG hs hrw isl isd hcv hkt hrn htc d0
 go_enter Tryz.func53, Tryz.ntmps53
 go_wp2_with fail
 refine HN.out.mono ?_
 rintro E w1 ⟨rfl, rfl⟩
 go_wp2_with fail
 refine HE.out.mono ?_
 rintro E w1 ⟨rfl, m, rfl⟩
 have HX := hide (HEN.out _ (below_drewN (Below.refl _ _) m))
 clear HE HN HEN
 go_wp2_with fail
 refine HX.out.mono ?_
 rintro E w2 ⟨rfl, bel2⟩
 obtain ⟨e1, e2⟩ := CL.out w2 bel2
 have FO := hide (HFO.out w2 bel2)
 have B2 := hide bel2
 clear HX bel2 HFO d1
 go_wp2_with fail
 refine FO.out.mono ?_
 rintro E w3 ⟨vt, rfl, D3, bel3⟩
 have B3 := hide (B2.out.trans (bel3.mono B2.out.size))
 have DH := hide D3
 have t1 : w3.cell? ⟨w2.heap.size, 1, none⟩ = some vt := blk_cell D3.blk 1 rfl
 obtain ⟨fa, fk, hvt, _, _⟩ := D3.own.is.shape
 rw [hvt] at t1
 by_cases c4 : 1024 < (Rl.tab (s.l.take k)).length
 ·rw [if_pos c4] at hfl
  have E4 := hide hfl
  have J := hide (SM.out _ B3.out)
  have c4' : (1024 : Int) < (Rl.tab (s.l.take k)).length := by omega
  clear FO D3 bel3 DH hvt
  go_wp2
  go_ret
  exact ⟨by rw [E4.out]; rfl, by rw [E4.out]; exact J.out⟩
 ·rw [if_neg c4] at hfl
  have c4' : ¬ (1024 : Int) < (Rl.tab (s.l.take k)).length := by omega
  have HFIT : Hid (FitO (Rl.tab (s.l.take k))) := hide (fit_ops HTC.out)
  obtain ⟨W0, hW0⟩ : ∃ z, w3.drew = z := ⟨_, rfl⟩
  have bel0 : Below w3.heap.size w3 W0 := by rw [← hW0]; exact (Below.refl _ _).drew
  have SX : Hid (∀ W, Below w3.heap.size w3 W → W.cell? ⟨xs, 1, none⟩ = some (.pointer (some ⟨x, 0, none⟩))) := hide fun W hW => (CL.out W (B3.out.trans (hW.mono B3.out.size))).1
  have HAL : Hid (∀ W, Below w3.heap.size w3 W → Calls Tryz.prog 96 #[.pointer (some ⟨w2.heap.size, 0, none⟩)] W fun E w' => ∃ vo, E = .returned vo ∧ OwnO 65 W.heap.size w' vo (Rl.tab (s.l.take k)) ∧ Below W.heap.size W w') := hide fun W hW => allR_any w2.heap.size w2.heap.size W vt _ (DH.out.below hW) (by omega)
  have HFL : Hid (∀ W vo W0, Below w3.heap.size w3 W0 → OwnO 65 W0.heap.size W vo (Rl.tab (s.l.take k)) → Below W0.heap.size W0 W → Calls Tryz.prog 95 #[.pointer (some ⟨x, 0, none⟩), .agg #[.int .i64 (le + 1), .int .i64 u, vo]] W fun E w' => E = .returned (.int .i64 (Rl.flu s.r ⟨le + 1, u, Rl.tab (s.l.take k)⟩).1) ∧ ∃ F2, XW x y F2 w' (Rl.flu s.r ⟨le + 1, u, Rl.tab (s.l.take k)⟩).2 ∧ Out F1 W w' ∧ ∀ g, F2 g → F1 g ∨ w.heap.size ≤ g) := hide fun W vo W0 hb0 ho hb => by
   have b0W := hb0.trans (hb.mono hb0.size)
   have bW := B3.out.trans (b0W.mono B3.out.size)
   have hX := HXW.out.below bW
   have q0 := hb0.size
   have q1 := B3.out.size
   refine (xflush_any x y F1 W s.r ⟨le + 1, u, vo, Rl.tab (s.l.take k)⟩ hX HRB.out ho.is HFIT.out ⟨show In64 (le + 1) from ⟨by omega, by omega⟩, HUU.out⟩ (by show (Rl.tab (s.l.take k)).length * 40 ≤ _; omega) (fun _ b hb hf => by
    have j1 := (OwnO.block ho b hb).1
    have j2 := HXW.out.lt b hf
    omega)).mono ?_
   rintro E w' ⟨rfl, F2, k1, k2, k3⟩
   exact ⟨rfl, F2, k1, k2, fun g hg => (k3 g hg).imp id fun e => by have := bW.size; omega⟩
  have SY : Hid (∀ W W', Below w3.heap.size w3 W → Out F1 W W' → W'.cell? ⟨xs, 1, none⟩ = some (.pointer (some ⟨x, 0, none⟩))) := hide fun W W' hW o => by
   have bW := B3.out.trans (hW.mono B3.out.size)
   have hb := (bW.block xs (blk_lt HYV.out.blk)).trans HYV.out.blk
   exact blk_cell ((o.block xs (blk_lt hb) (H3.out xs (.inl rfl))).trans hb) 1 rfl
  obtain ⟨fl, hfl2⟩ : ∃ z, Rl.flu s.r ⟨le + 1, u, Rl.tab (s.l.take k)⟩ = z := ⟨_, rfl⟩
  rw [hfl2] at hfl HFL
  have E4 := hide hfl
  have HOK2 := HOK
  clear FO D3 bel3 hvt hfl hfl2
  obtain ⟨ze, rz⟩ := fl
  simp only at HFL E4
  go_wp2_with fail
  refine region_any (ops := (regOf 11 Tryz.f53)) (S := fun W => W.cell? ⟨xs, 1, none⟩ = some (.pointer (some ⟨x, 0, none⟩))) (by kernel_rfl) wzp_size ?_
  rw [wzp_new, hW0]
  refine any_take (v := ?_) wzp_t0_0 (by kernel_rfl) (fun _ _ _ _ _ h => h) (SX.out _ bel0) rfl rfl (by rfl) ?_ ?_
  rotate_left 1
  ·intro w hS
   (try dsimp only at hS)
   go_simp
   all_goals with_reducible rfl
  simp only [Act.put, List.setIfInBounds_toArray, List.set_cons_zero, List.set_cons_succ]
  refine any_take (v := ?_) wzp_t1_1 (by kernel_rfl) (fun _ _ _ _ _ h => h) (SX.out _ bel0) rfl rfl (by rfl) ?_ ?_
  rotate_left 1
  ·intro w hS
   (try dsimp only at hS)
   go_simp
   all_goals with_reducible rfl
  simp only [Act.put, List.setIfInBounds_toArray, List.set_cons_zero, List.set_cons_succ]
  refine any_take (v := ?_) wzp_t3_2 (by kernel_rfl) (fun _ _ _ _ _ h => h) (SX.out _ bel0) rfl rfl (by rfl) ?_ ?_
  rotate_left 1
  ·intro w hS
   (try dsimp only at hS)
   go_simp
   all_goals with_reducible rfl
  simp only [Act.put, List.setIfInBounds_toArray, List.set_cons_zero, List.set_cons_succ]
  refine any_take (v := ?_) wzp_t7_3 (by kernel_rfl) (fun _ _ _ _ _ h => h) (SX.out _ bel0) rfl rfl (by rfl) ?_ ?_
  rotate_left 1
  ·intro w hS
   (try dsimp only at hS)
   go_simp
   all_goals with_reducible rfl
  simp only [Act.put, List.setIfInBounds_toArray, List.set_cons_zero, List.set_cons_succ]
  refine any_take (v := ?_) wzp_t15_4 (by kernel_rfl) (fun _ _ _ _ _ h => h) (SX.out _ bel0) rfl rfl (by rfl) ?_ ?_
  rotate_left 1
  ·intro w hS
   (try dsimp only at hS)
   go_simp
   all_goals with_reducible rfl
  simp only [Act.put, List.setIfInBounds_toArray, List.set_cons_zero, List.set_cons_succ]
  refine any_take (v := ?_) wzp_t31_5 (by kernel_rfl) (fun _ _ _ _ _ h => h) (SX.out _ bel0) rfl rfl (by rfl) ?_ ?_
  rotate_left 1
  ·intro w hS
   (try dsimp only at hS)
   go_simp
   all_goals with_reducible rfl
  simp only [Act.put, List.setIfInBounds_toArray, List.set_cons_zero, List.set_cons_succ]
  refine any_take (v := ?_) wzp_t63_6 (by kernel_rfl) (fun _ _ _ _ _ h => h) (SX.out _ bel0) rfl rfl (by rfl) ?_ ?_
  rotate_left 1
  ·intro w hS
   (try dsimp only at hS)
   go_simp
   all_goals with_reducible rfl
  simp only [Act.put, List.setIfInBounds_toArray, List.set_cons_zero, List.set_cons_succ]
  refine any_take (v := ?_) wzp_t127_7 (by kernel_rfl) (fun _ _ _ _ _ h => h) (SX.out _ bel0) rfl rfl (by rfl) ?_ ?_
  rotate_left 1
  ·intro w hS
   (try dsimp only at hS)
   go_simp
   all_goals with_reducible rfl
  simp only [Act.put, List.setIfInBounds_toArray, List.set_cons_zero, List.set_cons_succ]
  refine any_one wzp_r255 ?_
  refine any_op rfl (by rfl) (fun K hK => ?_)
  go_simp
  refine (HAL.out _ bel0).mono ?_
  rintro E W1 ⟨vo, rfl, own1, st1⟩
  have bel1 := bel0.trans (st1.mono bel0.size)
  obtain ⟨oa, ok, hvo, _, _⟩ := own1.is.shape
  subst hvo
  go_wp2_with fail
  refine hK.out _ _ (SX.out _ bel1) ?_
  clear hK K
  try simp only [Act.put, List.setIfInBounds_toArray, List.set_cons_zero, List.set_cons_succ]
  refine any_take (v := ?_) wzp_t511_9 (by kernel_rfl) (fun _ _ _ _ _ h => h) (SX.out _ bel1) rfl rfl (by rfl) ?_ ?_
  rotate_left 1
  ·intro w hS
   (try dsimp only at hS)
   go_simp
   all_goals with_reducible rfl
  simp only [Act.put, List.setIfInBounds_toArray, List.set_cons_zero, List.set_cons_succ]
  refine any_one wzp_r1023 ?_
  have FLX := hide (HFL.out _ _ _ bel0 own1 st1)
  refine any_op rfl (by rfl) (fun K hK => ?_)
  go_simp
  refine FLX.out.mono ?_
  rintro E W2 ⟨rfl, F2, q1, q2, q3⟩
  go_wp2_with fail
  refine hK.out _ _ (SY.out _ _ bel1 q2) ?_
  clear hK K
  try simp only [Act.put, List.setIfInBounds_toArray, List.set_cons_zero, List.set_cons_succ]
  refine any_take (v := ?_) wzp_t2047_11 (by kernel_rfl) (fun _ _ _ _ _ h => h) (SY.out _ _ bel1 q2) rfl rfl (by rfl) ?_ ?_
  rotate_left 1
  ·intro w hS
   (try dsimp only at hS)
   go_simp
   all_goals with_reducible rfl
  simp only [Act.put, List.setIfInBounds_toArray, List.set_cons_zero, List.set_cons_succ]
  refine any_done wzp_end ?_
  have BEL := hide bel1
  have Q1 := hide q1
  have Q2 := hide q2
  have Q3 := hide q3
  clear own1 st1 FLX q1 q2 q3 bel0 bel1
  have BWW := hide (B3.out.trans (BEL.out.mono B3.out.size))
  have YV2 : Hid (YsV xs x W2 s.l v rs) := hide ((HYV.out.below BWW.out).agree fun g hg => Q2.out.block g ((HYV.out.below BWW.out).lt g hg) (H3.out g hg))
  have o12 : Hid (Out F w W2) := hide ((Out.of_below (F := F) BWW.out).trans (Q2.out.mono (G := F) fun g hg => by rw [HFF.out]; exact .inl (.inl hg)) fun g hg => .inl hg)
  by_cases hze : ze = 0
  ·subst hze
   have E5 : Hid (Sto.flu s u = (0, ⟨rz, s.l.drop k⟩)) := hide (by rw [E4.out, if_neg (by decide)])
   have y2 : W2.cell? ⟨xs, 2, none⟩ = some (.slice a1 rs.length k1) := (blk_cell YV2.out.blk 2 rfl).trans (by rw [← HV.out]; rfl)
   have rowd : RowC W2 (.slice da dn dk) (rs.drop k) := by
    obtain ⟨vd', hsd', isd'⟩ := RowC.slice_le YV2.out.rest.row.row Tryz.elemC Tryz.sizeC k hkl
    rw [HV.out] at hsd'
    have e := (hsd' W2).symm.trans (hsd W2)
    simp only [Result.ok.injEq, and_true] at e
    rw [← e]
    exact isd'
   have CP := hide (HCP.out W2 ⟨rowd, fun d hd => YV2.out.rest.isc.2 d (List.mem_of_mem_drop hd)⟩)
   clear HCP HFL HAL SY SX
   go_wp2_with fail
   refine CP.out.mono ?_
   rintro E w5 ⟨v5, rs5, rfl, ow5, is5, cp5, bel5⟩
   have Y5 := YV2.out.below bel5
   have sz5 := bel5.size
   have hok := HOK2.out
   rw [E5.out] at hok
   obtain ⟨X, hX, bX, gX, fX⟩ := put_at3 Y5.blk 2 v5
   have R5 : Rt W2.heap.size w5 (s.l.drop k) v5 rs5 := ⟨ow5, cp5, is5, fun d hd => (Sto.good_all hok.rest d hd).1, by rw [List.length_drop]; omega⟩
   have RX : Rt 0 X (s.l.drop k) v5 rs5 := (R5.agree fun g hg => gX.block g (R5.lt g hg) fun e => by
    simp at e
    have j1 := R5.ge g hg
    have j2 := blk_lt YV2.out.blk
    omega).rebase (Nat.zero_le _)
   have oX : Out (fun g => g = xs) w5 X := Out.of_grown gX fun g hg => by simp at hg; exact hg.symm
   have q2 : w5.cell? ⟨xs, 2, none⟩ = some (.slice a1 rs.length k1) := (blk_cell Y5.blk 2 rfl).trans (by rw [← HV.out]; rfl)
   have hxF : F xs := by rw [HFF.out]; exact .inr (.inl rfl)
   have JJ : Hid (YwS xs x y F w X ⟨rz, s.l.drop k⟩) := hide (by
    have hsw := BWW.out.size
    have hs2 := o12.out.size
    have X5 : XW x y F2 w5 rz := Q1.out.below bel5
    refine ⟨fun g => F2 g ∨ YB xs v5 rs5 g, ⟨F2, v5, rs5, X5.out oX fun g hg e => ?_, ⟨bX, RX⟩, fun g hg hf => ?_, hok, rfl⟩, (o12.out.trans (Out.of_below (F := F) bel5) fun g hg => .inl hg).trans (oX.mono fun g hg => .inl (by rw [hg]; exact hxF)) fun g hg => .inl hg, ?_⟩
    ·rcases Q3.out g hg with a | a
     ·exact H3.out g (.inl e) a
     ·have := blk_lt HYV.out.blk
      omega
    ·have j0 := Q1.out.lt g hf
     rcases hg with e | e
     ·rcases Q3.out g hf with a | a
      ·exact H3.out g (.inl e) a
      ·have := blk_lt HYV.out.blk
       omega
     ·have j1 := R5.ge g e
      omega
    ·rintro g (e | e | e)
     ·exact (Q3.out g e).imp (fun a => by rw [HFF.out]; exact .inl a) id
     ·exact .inl (by rw [e]; exact hxF)
     ·have j1 := R5.ge g e
      exact .inr (by omega))
   obtain ⟨a5, k5, hv5, _, _⟩ := ow5.row.shape
   subst hv5
   clear CP ow5 is5 cp5 bel5 Y5 hok bX gX R5 RX oX YV2 o12
   go_wp2
   go_ret
   exact ⟨by rw [E5.out]; rfl, by rw [E5.out]; exact JJ.out⟩
  ·have hzb : (ze != 0) = true := by simpa using hze
   have E5 : Hid (Sto.flu s u = (ze, ⟨rz, s.l⟩)) := hide (by rw [E4.out, if_pos hze])
   have JJ : Hid (YwS xs x y F w W2 ⟨rz, s.l⟩) := hide (by
    have hok := HOK2.out
    rw [E5.out] at hok
    refine ⟨fun g => F2 g ∨ YB xs v rs g, ⟨F2, v, rs, Q1.out, YV2.out, fun g hg hf => ?_, hok, rfl⟩, o12.out, ?_⟩
    ·rcases Q3.out g hf with a | a
     ·exact H3.out g hg a
     ·have := HYV.out.lt g hg
      omega
    ·rintro g (e | e)
     ·exact (Q3.out g e).imp (fun a => by rw [HFF.out]; exact .inl a) id
     ·exact .inl (by rw [HFF.out]; exact .inr e))
   clear HCP HFL HAL SY SX YV2 o12
   go_wp2
   go_ret
   exact ⟨by rw [E5.out]; rfl, by rw [E5.out]; exact JJ.out⟩

end Go.Proofs.YtmmfakpphjjjfaaGreat

/- The steps of a region of Open's. -/
namespace Go.Proofs.YtmmfakpphjjjfaaGreat
open Go.RowKit
set_option linter.unusedVariables false

theorem wzq_new : Array.replicate 4 false = lst 4 0 := by kernel_rfl

theorem wzq_size : (regOf 5 Tryz.f14).size = 4 := by kernel_rfl

theorem wzq_t0_0 : Region.free .any (regOf 5 Tryz.f14) (lst 4 0) 0 = true ∧ (Region.ready .any (regOf 5 Tryz.f14) (lst 4 0)).contains 0 = true ∧ (lst 4 0).setIfInBounds 0 true = lst 4 1 := ⟨by kernel_rfl, by kernel_rfl, by kernel_rfl⟩

theorem wzq_t1_1 : Region.free .any (regOf 5 Tryz.f14) (lst 4 1) 1 = true ∧ (Region.ready .any (regOf 5 Tryz.f14) (lst 4 1)).contains 1 = true ∧ (lst 4 1).setIfInBounds 1 true = lst 4 3 := ⟨by kernel_rfl, by kernel_rfl, by kernel_rfl⟩

theorem wzq_t3_2 : Region.free .any (regOf 5 Tryz.f14) (lst 4 3) 2 = true ∧ (Region.ready .any (regOf 5 Tryz.f14) (lst 4 3)).contains 2 = true ∧ (lst 4 3).setIfInBounds 2 true = lst 4 7 := ⟨by kernel_rfl, by kernel_rfl, by kernel_rfl⟩

theorem wzq_t7_3 : Region.free .any (regOf 5 Tryz.f14) (lst 4 7) 3 = true ∧ (Region.ready .any (regOf 5 Tryz.f14) (lst 4 7)).contains 3 = true ∧ (lst 4 7).setIfInBounds 3 true = lst 4 15 := ⟨by kernel_rfl, by kernel_rfl, by kernel_rfl⟩

theorem wzq_end : Region.ready .any (regOf 5 Tryz.f14) (lst 4 15) = [] := by kernel_rfl

end Go.Proofs.YtmmfakpphjjjfaaGreat

/- The document's store: Open. -/
namespace Go.Proofs.YtmmfakpphjjjfaaGreat
open Go.RowKit
open Bm (Ov)
set_option linter.unusedVariables false

theorem fol_both : ∀ (l : List Cm.Cv) (ep nu : Int) (i : Nat), (Cm.fol ep nu i l).1 = 0 → Cm.fol ep nu i l = (0, 0)
 | [], _, _, _, _ => rfl
 | c :: r, ep, nu, i, h => by
  by_cases h1 : Cm.chk c.e c.n c.l = 0
  ·by_cases h2 : c.n - 1 ≠ nu ∨ c.e < ep
   ·rw [Cm.fol_off h1 h2] at h
    simp at h
   ·rw [Cm.fol_on h1 h2] at h ⊢
    exact fol_both r _ _ _ h
  ·rw [Cm.fol_bad h1] at h
   exact absurd h h1

theorem fol_chk : ∀ (l : List Cm.Cv) (ep nu : Int) (i : Nat), (Cm.fol ep nu i l).1 = 0 → ∀ c ∈ l, Cm.chk c.e c.n c.l = 0
 | [], _, _, _, _ => fun c hc => by simp at hc
 | c :: r, ep, nu, i, h => by
  by_cases h1 : Cm.chk c.e c.n c.l = 0
  ·by_cases h2 : c.n - 1 ≠ nu ∨ c.e < ep
   ·rw [Cm.fol_off h1 h2] at h
    simp at h
   ·rw [Cm.fol_on h1 h2] at h
    intro d hd
    rcases List.mem_cons.1 hd with rfl | hd
    ·exact h1
    ·exact fol_chk r _ _ _ h d hd
  ·rw [Cm.fol_bad h1] at h
   exact absurd h h1

set_option maxRecDepth 20000 in
set_option maxHeartbeats 2000000 in
theorem dopen_any (x y : Nat) (F : Nat → Prop) (w : World) (r : Rl.Rs) (vr : Value) (rs : List Cw) (h : XW x y F w r) (hr : IsC w vr rs) (hf : FitC rs) (hl : rs.length ≤ 100000) :
  Calls Tryz.prog 14 #[.pointer (some ⟨x, 0, none⟩), vr] w fun E w' => ((Cm.fol 1 (Cm.lastN 0 r.l) 0 (cvs rs)).1 ≠ 0 ∧ E = .returned (.tuple #[.pointer none, .int .i64 (Cm.fol 1 (Cm.lastN 0 r.l) 0 (cvs rs)).1]) ∧ Below w.heap.size w w') ∨ ((Cm.fol 1 (Cm.lastN 0 r.l) 0 (cvs rs)).1 = 0 ∧ ∃ xs, E = .returned (.tuple #[.pointer (some ⟨xs, 0, none⟩), .int .i64 0]) ∧ ∃ v' rs', YsV xs x w' (cvs rs) v' rs' ∧ (∀ g, YB xs v' rs' g → w.heap.size ≤ g) ∧ Below w.heap.size w w') := by
 obtain ⟨F3, v3, rs3, g1, g2, g3, hG⟩ := h
 have d0 : w.cell? ⟨x, 0, none⟩ = some (.bool true) := blk_cell g2.blk 0 rfl
 have HE := hide (xend_any x y w r.l r.bk v3 rs3 g2)
 have HFO : Hid (∀ W, Below w.heap.size w W → Calls Tryz.prog 43 #[.int .i64 1, .int .i64 (Cm.lastN 0 r.l), vr] W fun E w' => E = .returned (.agg #[.int .i64 (Cm.fol 1 (Cm.lastN 0 r.l) 0 (cvs rs)).1, .int .i64 (Cm.fol 1 (Cm.lastN 0 r.l) 0 (cvs rs)).2]) ∧ Below W.heap.size W w') := hide fun W hW => by
  have := cfolR_any 1 (Cm.lastN 0 r.l) vr rs W (hr.below hW) hf (by omega)
  unfold flv at this
  exact this
 have HCP : Hid (∀ W, Below w.heap.size w W → Calls Tryz.prog 45 #[vr] W fun E w' => ∃ v' rs', E = .returned v' ∧ OwnR 50 W.heap.size w' v' rs' ∧ cvs rs' = cvs rs ∧ CopyR W.heap.size w' rs' ∧ Below W.heap.size W w') := hide fun W hW => copiesX_any vr rs W (hr.below hW) hf (by omega)
 have HB := hide (fol_both (cvs rs) 1 (Cm.lastN 0 r.l) 0)
 have HCH := hide (fol_chk (cvs rs) 1 (Cm.lastN 0 r.l) 0)
 obtain ⟨ao, cap, hv, _, _⟩ := hr.1.shape
 subst hv
 have hgd := Tryz.guardF
 obtain ⟨le, hle⟩ : ∃ z, Cm.lastN 0 r.l = z := ⟨_, rfl⟩
 rw [hle] at HE HFO HB HCH ⊢
 obtain ⟨fa, hfa⟩ : ∃ z, Cm.fol 1 le 0 (cvs rs) = z := ⟨_, rfl⟩
 rw [hfa] at HFO HB HCH ⊢
 obtain ⟨fe, fp⟩ := fa
 simp only at HFO HB HCH ⊢
 have hnq := Tryz.neqF fe fp 0 0
 clear hr hf g1 g2 g3 hG hfa
 by_cases hfe : fe = 0
 ·subst hfe
  have hfp : fp = 0 := by
   have := HB.out rfl
   simpa using this
  subst hfp
  go_enter Tryz.func14, Tryz.ntmps14
  go_wp2_with fail
  refine HE.out.mono ?_
  rintro E w1 ⟨rfl, m, rfl⟩
  have b1 : Below w.heap.size w (w.drewN m) := below_drewN (Below.refl _ _) m
  have FO := hide (HFO.out _ b1)
  have B1 := hide b1
  clear HE HFO b1
  go_wp2_with fail
  refine FO.out.mono ?_
  rintro E w2 ⟨rfl, b2⟩
  obtain ⟨wV, hV1, hV2, szV, bV, kV, z0, z1⟩ := new_two w2 90 (.int .i64 0) (.int .i64 0) (.int .i64 0) (.int .i64 0)
  have B2 := hide (B1.out.trans (b2.mono B1.out.size))
  have BV := hide (B2.out.trans (bV.mono B2.out.size))
  have CP := hide (HCP.out wV BV.out)
  clear FO b2 HCP szV hV1 z0 z1 kV bV
  subst hV2
  go_wp2_with fail
  refine CP.out.mono ?_
  rintro E w3 ⟨v', rs', rfl, o3, i3, c3, b3⟩
  obtain ⟨a5, k5, hv5, _, _⟩ := o3.row.shape
  obtain ⟨wB, hwB, szB, belB, bB⟩ := blk_step w3 #[.bool true, .pointer (some ⟨x, 0, none⟩), v'] 98
  have FIN : Hid (∃ v' rs', YsV w3.heap.size x wB (cvs rs) v' rs' ∧ (∀ g, YB w3.heap.size v' rs' g → w.heap.size ≤ g) ∧ Below w.heap.size w wB) := hide (by
   have q1 := BV.out.size
   have q2 := b3.size
   have hlen : rs'.length = rs.length := by rw [← cvs_length, i3, cvs_length]
   have R3 : Rt (w2.alloc (.cells #[.int .i64 0, .int .i64 0] 90)).heap.size w3 (cvs rs) v' rs' := ⟨o3, c3, i3, HCH.out (by trivial), by rw [cvs_length]; omega⟩
   refine ⟨v', rs', ⟨bB, (R3.below belB).rebase (Nat.zero_le _)⟩, ?_, BV.out.trans ((b3.trans (belB.mono b3.size)).mono q1)⟩
   rintro g (e | e)
   ·omega
   ·have := R3.ge g e
    omega)
  subst hv5
  clear CP o3 i3 c3 b3 belB bB HCH HB
  go_wp2
  go_ret2
  first | exact .inr ⟨rfl, _, rfl, FIN.out⟩ | exact .inr ⟨trivial, _, rfl, FIN.out⟩
 ·have hbb : (!((fe == 0) && (fp == 0))) = true := by simp [hfe]
  go_enter Tryz.func14, Tryz.ntmps14
  go_wp2_with fail
  refine HE.out.mono ?_
  rintro E w1 ⟨rfl, m, rfl⟩
  have b1 : Below w.heap.size w (w.drewN m) := below_drewN (Below.refl _ _) m
  have FO := hide (HFO.out _ b1)
  have B1 := hide b1
  clear HE HFO b1
  go_wp2_with fail
  refine FO.out.mono ?_
  rintro E w2 ⟨rfl, b2⟩
  obtain ⟨wV, hV1, hV2, szV, bV, kV, z0, z1⟩ := new_two w2 90 (.int .i64 0) (.int .i64 0) (.int .i64 fe) (.int .i64 fp)
  have B2 := hide (B1.out.trans (b2.mono B1.out.size))
  have BV := hide (B2.out.trans (bV.mono B2.out.size))
  have NE := hide hfe
  clear FO b2 HCP szV
  go_wp2_with fail
  obtain ⟨R, hR⟩ : ∃ R, w2.heap.size = R := ⟨_, rfl⟩
  rw [hR] at z0 z1 ⊢
  obtain ⟨W0, hW0⟩ : ∃ z, wV.drew = z := ⟨_, rfl⟩
  have z0 : W0.cell? ⟨R, 0, none⟩ = some (.int .i64 fe) := by rw [← hW0]; exact z0
  have BW := hide (show Below w.heap.size w W0 by rw [← hW0]; exact BV.out.drew)
  refine region_any (ops := (regOf 5 Tryz.f14)) (S := fun W => W.cell? ⟨R, 0, none⟩ = some (.int .i64 fe)) (by kernel_rfl) wzq_size ?_
  rw [wzq_new, hW0]
  refine any_take (v := ?_) wzq_t0_0 (by kernel_rfl) (fun _ _ _ _ _ h => h) z0 rfl rfl (by rfl) ?_ ?_
  rotate_left 1
  ·intro w hS
   (try dsimp only at hS)
   go_simp
   all_goals with_reducible rfl
  simp only [Act.put, List.setIfInBounds_toArray, List.set_cons_zero, List.set_cons_succ]
  refine any_take (v := ?_) wzq_t1_1 (by kernel_rfl) (fun _ _ _ _ _ h => h) z0 rfl rfl (by rfl) ?_ ?_
  rotate_left 1
  ·intro w hS
   (try dsimp only at hS)
   go_simp
   all_goals with_reducible rfl
  simp only [Act.put, List.setIfInBounds_toArray, List.set_cons_zero, List.set_cons_succ]
  refine any_take (v := ?_) wzq_t3_2 (by kernel_rfl) (fun _ _ _ _ _ h => h) z0 rfl rfl (by rfl) ?_ ?_
  rotate_left 1
  ·intro w hS
   (try dsimp only at hS)
   go_simp
   all_goals with_reducible rfl
  simp only [Act.put, List.setIfInBounds_toArray, List.set_cons_zero, List.set_cons_succ]
  refine any_take (v := ?_) wzq_t7_3 (by kernel_rfl) (fun _ _ _ _ _ h => h) z0 rfl rfl (by rfl) ?_ ?_
  rotate_left 1
  ·intro w hS
   (try dsimp only at hS)
   go_simp
   all_goals with_reducible rfl
  simp only [Act.put, List.setIfInBounds_toArray, List.set_cons_zero, List.set_cons_succ]
  refine any_done wzq_end ?_
  have z0 := z0
  go_wp2
  go_ret2
  exact .inl ⟨NE.out, rfl, BW.out⟩

end Go.Proofs.YtmmfakpphjjjfaaGreat

/- Two stores beside one another: the program's and the document's; sizes of a script's store. -/
namespace Go.Proofs.YtmmfakpphjjjfaaGreat
open Go.RowKit
open Bm (Ov)
set_option linter.unusedVariables false

structure TP (w0 w : World) (s t : Sto.Ss) (ps p q xs x y : Nat) (F G : Nat → Prop) : Prop where
 ss : SW ps p q F w s
 yy : YW xs x y G w t
 ap : ∀ g, F g → ¬ G g
 fb : ∀ g, F g → w0.heap.size ≤ g
 gb : ∀ g, G g → w0.heap.size ≤ g
 bel : Below w0.heap.size w0 w

section
variable {w0 w w' : World} {ps p q xs x y : Nat} {s t s' t' : Sto.Ss} {F G : Nat → Prop}

theorem TP.below (h : TP w0 w s t ps p q xs x y F G) (hb : Below w.heap.size w w') : TP w0 w' s t ps p q xs x y F G :=
 ⟨h.ss.below hb, h.yy.below hb, h.ap, h.fb, h.gb, h.bel.trans (hb.mono h.bel.size)⟩

theorem TP.stepS (h : TP w0 w s t ps p q xs x y F G) (k : StS ps p q F w w' s') : ∃ F', TP w0 w' s' t ps p q xs x y F' G ∧ Out F w w' ∧ ∀ g, F' g → F g ∨ w.heap.size ≤ g := by
 obtain ⟨F', k1, k2, k3⟩ := k
 have hs := h.bel.size
 refine ⟨F', ⟨k1, h.yy.out k2 fun g hg e => h.ap g e hg, fun g hg e => ?_, fun g hg => ?_, h.gb, h.bel.trans (k2.below h.fb h.bel.size)⟩, k2, k3⟩
 ·rcases k3 g hg with a | a
  ·exact h.ap g a e
  ·have := h.yy.lt g e
   omega
 ·rcases k3 g hg with a | a
  ·exact h.fb g a
  ·omega

theorem TP.stepY (h : TP w0 w s t ps p q xs x y F G) (k : YwS xs x y G w w' t') : ∃ G', TP w0 w' s t' ps p q xs x y F G' ∧ Out G w w' ∧ ∀ g, G' g → G g ∨ w.heap.size ≤ g := by
 obtain ⟨G', k1, k2, k3⟩ := k
 have hs := h.bel.size
 refine ⟨G', ⟨h.ss.out k2 fun g hg e => h.ap g hg e, k1, fun g hg e => ?_, h.fb, fun g hg => ?_, h.bel.trans (k2.below h.gb h.bel.size)⟩, k2, k3⟩
 ·rcases k3 g e with a | a
  ·exact h.ap g hg a
  ·have := h.ss.lt g hg
   omega
 ·rcases k3 g hg with a | a
  ·exact h.gb g a
  ·omega

theorem TP.outside {K : Nat → Prop} (h : TP w0 w s t ps p q xs x y F G) (ho : Out K w w') (hK : ∀ g, K g → ¬ F g ∧ ¬ G g ∧ w0.heap.size ≤ g) : TP w0 w' s t ps p q xs x y F G :=
 ⟨h.ss.out ho fun g hg e => (hK g e).1 hg, h.yy.out ho fun g hg e => (hK g e).2.1 hg, h.ap, h.fb, h.gb, h.bel.trans (ho.below (fun g e => (hK g e).2.2) h.bel.size)⟩

end

structure SIn (k : Nat) (s : Sto.Ss) : Prop where
 big : Big (52236 * k) (818 * k) s.r.d
 num : s.r.l.length ≤ k
 ops : (Rl.ops s.r.l).length ≤ 1024 * k
 rest : s.l.length ≤ 40 + k
 fold : (Sto.fold s).length ≤ 8 * (40 + k)

theorem SIn.next {k : Nat} {s : Sto.Ss} (h : SIn k s) : SIn (k + 1) s :=
 ⟨h.big.mono (by omega) (by omega), by have := h.num; omega, by have := h.ops; omega, by have := h.rest; omega, by have := h.fold; omega⟩

theorem SIn.rbig {k : Nat} {s : Sto.Ss} (h : SIn k s) (hk : k ≤ 90) : RBig s.r := Big.mono h.big (by omega) (by omega)

theorem SIn.ro {k : Nat} {s : Sto.Ss} (h : SIn k s) (ok : Sto.Ok s) : (Rl.ops s.l).length ≤ 8 * (40 + k) := by
 have h1 : (Rl.ops s.l).length ≤ s.l.length * 8 := Rl.ops_len fun c hc => (Sto.good_ops ok.rest c hc).2.1
 have := h.rest
 omega

theorem sin_apl {k : Nat} {s : Sto.Ss} (h : SIn k s) (c : Cm.Cv) : SIn (k + 1) (Sto.apl s c).2 := by
 rw [apl_is]
 split
 ·exact h.next
 ·rename_i hk
  have hk : Cm.chk c.e c.n c.l = 0 := Decidable.not_not.1 hk
  split
  ·exact h.next
  ·have h8 : c.l.length ≤ 8 := (Bm.chkL_zero (Cm.chk_zero hk).2.2.2.2).2.1
   refine ⟨h.big.mono (by omega) (by omega), by have := h.num; show s.r.l.length ≤ _; omega, by have := h.ops; show (Rl.ops s.r.l).length ≤ _; omega, ?_, ?_⟩
   ·show (s.l ++ [c]).length ≤ _
    have := h.rest
    rw [List.length_append, List.length_singleton]
    omega
   ·show (Sto.fold ⟨s.r, s.l ++ [c]⟩).length ≤ _
    rw [Sto.fold_apl]
    have h1 := app_ops_len (Sto.fold s) c.l
    have h2 := h.fold
    omega

theorem sin_flu {k : Nat} {s : Sto.Ss} (h : SIn k s) (ok : Sto.Ok s) (u : Int) : SIn (k + 1) (Sto.flu s u).2 := by
 obtain ⟨o1, o2, o3⟩ := Sto.flu_ok ok u
 have hf : (Sto.fold (Sto.flu s u).2).length ≤ 8 * (40 + (k + 1)) := by
  rw [o2]
  have := h.fold
  omega
 have h1 := h.num
 have h2 := h.ops
 have h3 := h.rest
 unfold Sto.flu at hf ⊢
 split
 ·exact h.next
 ·rename_i c1
  rw [if_neg c1] at hf
  split
  ·exact h.next
  ·rename_i c2
   rw [if_neg c2] at hf
   split
   ·exact h.next
   ·rename_i c3
    rw [if_neg c3] at hf
    have hb : Big (52236 * (k + 1)) (818 * (k + 1)) (Rl.flu s.r (Sto.rnn s u)).2.d := (big_flu (c := Sto.rnn s u) h.big).mono (by omega) (by omega)
    split
    ·rename_i c4
     rw [if_pos c4] at hf
     have e := Sto.rflu_n c4
     refine ⟨hb, ?_, ?_, by show s.l.length ≤ _; omega, hf⟩
     ·show (Rl.flu s.r (Sto.rnn s u)).2.l.length ≤ _
      rw [e]
      omega
     ·show (Rl.ops (Rl.flu s.r (Sto.rnn s u)).2.l).length ≤ _
      rw [e]
      omega
    ·rename_i c4
     rw [if_neg c4] at hf
     have e := Sto.rflu_l (Decidable.not_not.1 c4)
     refine ⟨hb, ?_, ?_, ?_, hf⟩
     ·show (Rl.flu s.r (Sto.rnn s u)).2.l.length ≤ _
      rw [e, List.length_append, List.length_singleton]
      omega
     ·show (Rl.ops (Rl.flu s.r (Sto.rnn s u)).2.l).length ≤ _
      rw [e, Rl.ops_snoc, List.length_append]
      omega
     ·show (s.l.drop _).length ≤ _
      rw [List.length_drop]
      omega

end Go.Proofs.YtmmfakpphjjjfaaGreat

/- The calls of a script of a store, in memory. -/
namespace Go.Proofs.YtmmfakpphjjjfaaGreat
open Go.RowKit
set_option linter.unusedVariables false

structure Bc where
 k : Int
 n : Int
 c : Cw

def bcc (a : Bc) : List Value := [.int .i64 a.k, .int .i64 a.n, .int .i64 a.c.e, .int .i64 a.c.n, a.c.v]
theorem bcc_len (a : Bc) : (bcc a).length = 5 := rfl

def BcOk (w : World) (a : Bc) : Prop := IsO w a.c.v a.c.l ∧ (I64 a.k ∧ I64 a.n) ∧ In64 a.c.e ∧ In64 a.c.n

def IsR (w : World) (v : Value) (l : List Bc) : Prop := RowG bcc w v l ∧ ∀ a ∈ l, BcOk w a
def FitR (l : List Bc) : Prop := ∀ a ∈ l, FitO a.c.l ∧ a.c.l.length * 40 ≤ 140737488351232

theorem BcOk.below {w w' : World} {a : Bc} (h : BcOk w a) (hb : Below w.heap.size w w') : BcOk w' a := ⟨h.1.below hb, h.2⟩
theorem IsR.below {w w' : World} {v : Value} {l : List Bc} (h : IsR w v l) (hb : Below w.heap.size w w') : IsR w' v l := ⟨h.1.below hb, fun a ha => (h.2 a ha).below hb⟩

theorem IsR.full {w : World} {v : Value} {l : List Bc} (h : IsR w v l) (hne : 0 < l.length) :
  ∃ b off cap, v = .slice (some ⟨b, off, none⟩) l.length cap ∧ l.length ≤ cap ∧ cap ≤ maxLen ∧ b < w.heap.size ∧
   ∀ i a, l[i]? = some a → w.cell? ⟨b, off + i * 5, none⟩ = some (.int .i64 a.k) ∧ w.cell? ⟨b, off + i * 5 + 1, none⟩ = some (.int .i64 a.n) ∧ w.cell? ⟨b, off + i * 5 + 2, none⟩ = some (.int .i64 a.c.e) ∧ w.cell? ⟨b, off + i * 5 + 3, none⟩ = some (.int .i64 a.c.n) ∧ w.cell? ⟨b, off + i * 5 + 4, none⟩ = some a.c.v := by
 obtain ⟨b, off, cap, hv, h1, h2, h3, h4⟩ := h.1.full bcc_len (by decide) hne
 refine ⟨b, off, cap, hv, h1, h2, h3, fun i a ha => ?_⟩
 have := h4 i a ha
 exact ⟨by simpa using this 0 _ rfl, by simpa using this 1 _ rfl, by simpa using this 2 _ rfl, by simpa using this 3 _ rfl, by simpa using this 4 _ rfl⟩

def TD (w0 : World) (ps p q xs x y k : Nat) (w' : World) : Prop := ∃ s' F' G', TP w0 w' s' s' ps p q xs x y F' G' ∧ SIn (k + 1) s'

def bcv (a : Bc) : Value := .agg #[.int .i64 a.k, .int .i64 a.n, .int .i64 a.c.e, .int .i64 a.c.n, a.c.v]

section
variable {w0 w : World} {ps p q xs x y : Nat} {s t : Sto.Ss} {F G : Nat → Prop}

theorem TP.callS {s' : Sto.Ss} {f : FuncId} {args : Array Value} {e : Int} (h : TP w0 w s t ps p q xs x y F G) (hc : Calls Tryz.prog f args w fun E w' => E = .returned (.int .i64 e) ∧ StS ps p q F w w' s') :
  Calls Tryz.prog f args w fun E w' => E = .returned (.int .i64 e) ∧ ∃ F', TP w0 w' s' t ps p q xs x y F' G ∧ Out F w w' ∧ ∀ g, F' g → F g ∨ w.heap.size ≤ g :=
 hc.mono fun E w' k => ⟨k.1, h.stepS k.2⟩

theorem TP.callY {t' : Sto.Ss} {f : FuncId} {args : Array Value} {e : Int} (h : TP w0 w s t ps p q xs x y F G) (hc : Calls Tryz.prog f args w fun E w' => E = .returned (.int .i64 e) ∧ YwS xs x y G w w' t') :
  Calls Tryz.prog f args w fun E w' => E = .returned (.int .i64 e) ∧ ∃ G', TP w0 w' s t' ps p q xs x y F G' ∧ Out G w w' ∧ ∀ g, G' g → G g ∨ w.heap.size ≤ g :=
 hc.mono fun E w' k => ⟨k.1, h.stepY k.2⟩

end

end Go.Proofs.YtmmfakpphjjjfaaGreat
