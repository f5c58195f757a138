/- Texts of one layer, one behind the other. -/
import Derived.Test.YtmmfakpphjjjfaaGreatG8
import Derived.Test.YtmmfakpphjjjfaaGreatG6
import Derived.Test.YtmmfakpphjjjfaaGreatG20
import Derived.Deep.RegionHeld3
/- The contract of the document's Check of a run. -/
namespace Go.Proofs.YtmmfakpphjjjfaaGreat
open Go.RowKit
open Bm (Ov)
set_option linter.unusedVariables false

theorem lst_at {l : List Ov} {j : Nat} {t : Ov} (h : l[j]? = some t) : Rn.lstK ⟨#[]⟩ (l.take (j + 1)) = t.k := by
 obtain ⟨h1, rfl⟩ := List.getElem?_eq_some_iff.1 h
 rw [List.take_succ_eq_append_getElem h1, Rn.lstK_snoc]

set_option maxRecDepth 20000 in
set_option maxHeartbeats 4000000 in
theorem hcheckR_any (e n : Int) (v : Value) (l : List Ov) (w : World) (h : IsO w v l) (hf : FitO l) (hl : l.length ≤ 140737488355328) :
  Calls Tryz.prog 117 #[cmv e n v] w fun E w' => E = .returned (.int .i64 (Rn.chk e n l)) ∧ Below w.heap.size w w' := by
 unfold cmv
 obtain ⟨w1, hw1, sz1, bel1, hB⟩ := blk_step w #[.int .i64 e, .int .i64 n, v] 112
 have c0 := blk_cell hB 0 rfl
 have c1 := blk_cell hB 1 rfl
 have c2 := blk_cell hB 2 rfl
 obtain ⟨ao, cap, hsv, _, _⟩ := h.shape
 have HFULL := hide fun (h0 : 0 < l.length) => h.full h0
 subst hsv
 have HF := hide hf
 obtain ⟨ans, hans⟩ : ∃ x, Rn.chk e n l = x := ⟨_, rfl⟩
 rw [hans]
 have HA := hide hans
 by_cases hlong : 1024 < l.length
 ·have hfo := HA.out
  rw [Rn.chk_long hlong] at hfo
  subst hfo
  have hlong' : (1024 : Int) < (l.length : Int) := by omega
  generalize l.length = m at *
  clear HA h hf hans hB HFULL
  go_enter Tryz.func117, Tryz.ntmps117
  go_wp2
  go_ret
  exact ⟨rfl, bel1⟩
 have hlong' : ¬ (1024 : Int) < (l.length : Int) := by omega
 by_cases h1 : e < 1
 ·have hfo := HA.out
  rw [Rn.chk_no hlong fun h => by omega] at hfo
  subst hfo
  generalize l.length = m at *
  clear HA h hf hans hB HFULL
  go_enter Tryz.func117, Tryz.ntmps117
  go_wp2
  go_ret
  exact ⟨rfl, bel1⟩
 by_cases h2 : n < e
 ·have hfo := HA.out
  rw [Rn.chk_no hlong fun h => by omega] at hfo
  subst hfo
  generalize l.length = m at *
  clear HA h hf hans hB HFULL
  go_enter Tryz.func117, Tryz.ntmps117
  go_wp2
  go_ret
  exact ⟨rfl, bel1⟩
 by_cases h3 : (1048576 : Int) < n
 ·have hfo := HA.out
  rw [Rn.chk_no hlong fun h => by omega] at hfo
  subst hfo
  generalize l.length = m at *
  clear HA h hf hans hB HFULL
  go_enter Tryz.func117, Tryz.ntmps117
  go_wp2
  go_ret
  exact ⟨rfl, bel1⟩
 have YES : Hid (Rn.may ⟨#[]⟩ l = true → ans = 0) := hide fun hm => by rw [← HA.out]; exact Rn.chk_ok hlong ⟨by omega, by omega, by omega, hm⟩
 have NO : Hid (Rn.may ⟨#[]⟩ l = false → ans = 2) := hide fun hm => by rw [← HA.out]; exact Rn.chk_no hlong fun h => by rw [hm] at h; simp at h
 obtain ⟨m, hmm⟩ : ∃ m, l.length = m := ⟨_, rfl⟩
 rw [hmm] at HFULL hl hlong hlong' c2 hw1 ⊢
 have HN := hide hmm
 clear HA h hf hans hB hmm
 go_enter Tryz.func117, Tryz.ntmps117
 go_wp2
 go_loopw [3] (fun iv wr => ∃ (k : Nat), k ≤ m ∧ iv = .int .i64 k ∧ Hid (Rn.may ⟨#[]⟩ (l.take k) = true) ∧ Below w1.heap.size w1 wr) (fun iv _ => m - (intOf iv).toNat)
 case atStart => exact ⟨0, by omega, rfl, hide (by simp [Rn.may]), Below.refl _ _⟩
 case round =>
  obtain ⟨k, hk, rfl, HT, bel⟩ := hrel
  have sz := bel.size
  have x2 := (bel.cell (p := ⟨w.heap.size, 2, none⟩) (show w.heap.size < w1.heap.size by omega)).trans c2
  have szb1 : w.heap.size < wr.heap.size := by omega
  by_cases hlt : k < m
  ·obtain ⟨o, ho⟩ : ∃ o, l[k]? = some o := ⟨l[k]'(by have := HN.out; omega), by rw [List.getElem?_eq_getElem]⟩
   obtain ⟨b1, o1, cq, hvx, _, _, hB, hcell⟩ := HFULL.out (by omega)
   simp only [Value.slice.injEq, true_and] at hvx
   obtain ⟨rfl, rfl⟩ := hvx
   obtain ⟨a0, a1, a2⟩ := hcell k o ho
   have bel0 := bel1.trans (bel.mono bel1.size)
   have d0 := (bel0.cell (p := ⟨b1, o1 + k * 3, none⟩) hB).trans a0
   have d1 := (bel0.cell (p := ⟨b1, o1 + k * 3 + 1, none⟩) hB).trans a1
   have d2 := (bel0.cell (p := ⟨b1, o1 + k * 3 + 2, none⟩) hB).trans a2
   have hB' : b1 < wr.heap.size := by have := bel0.size; omega
   have HO := hide ho
   have hlt' : (k : Int) < m := by omega
   obtain ⟨hk1, hv1⟩ := HF.out o (List.mem_of_getElem? HO.out)
   have X := hide (fun W => checkR_any o.p o.k o.v W hk1 hv1)
   unfold opv at X
   have hcc := Om.chk_two o.p o.k.data.toList o.v.data.toList
   obtain ⟨cc, hcce⟩ : ∃ x, Om.chk o.p o.k.data.toList o.v.data.toList = x := ⟨_, rfl⟩
   rw [hcce] at X hcc
   have HCC := hide (show o.c = cc from hcce)
   clear hcce a0 a1 a2 ho
   rcases hcc with rfl | rfl
   ·by_cases hk0 : k = 0
    ·have k1 : ¬ (0 : Int) < k := by omega
     have r5 : ¬ 0 < k := by omega
     have HT2 : Hid (Rn.may ⟨#[]⟩ (l.take (k + 1)) = true) := hide (by
      refine (may_next HT.out HO.out HCC.out ?_).1
      rw [hk0]
      exact Rn.lt_none (Rn.key_pos HCC.out))
     clear hcell hk0
     go_wp2_with fail
     refine region_way (ops := (regOf 8 Tryz.f117)) (S := fun w' => w'.cell? ⟨w.heap.size, 2, none⟩ = some (.slice (some ⟨b1, o1, none⟩) m cap) ∧ (w'.cell? ⟨b1, o1 + k * 3, none⟩ = some (.bool o.p) ∧ w'.cell? ⟨b1, o1 + k * 3 + 1, none⟩ = some (.string o.k) ∧ w'.cell? ⟨b1, o1 + k * 3 + 2, none⟩ = some (.string o.v))) (by kernel_rfl) (by kernel_rfl) (fun _ _ _ _ _ h => h) wya_ord (by kernel_rfl) wya_way ⟨x2, d0, d1, d2⟩ ?_
     unfold wya_ord
     refine seq_take (v := ?_) rfl rfl (by rfl) ?_ ?_
     rotate_left 1
     ·intro w hS
      (try dsimp only at hS)
      go_simp
      all_goals with_reducible rfl
     simp only [Act.put, List.setIfInBounds_toArray, List.set_cons_zero, List.set_cons_succ]
     refine seq_take (v := ?_) rfl rfl (by rfl) ?_ ?_
     rotate_left 1
     ·intro w hS
      (try dsimp only at hS)
      go_simp
      all_goals with_reducible rfl
     simp only [Act.put, List.setIfInBounds_toArray, List.set_cons_zero, List.set_cons_succ]
     refine seq_take (v := ?_) rfl rfl (by rfl) ?_ ?_
     rotate_left 1
     ·intro w hS
      (try dsimp only at hS)
      go_simp
      all_goals with_reducible rfl
     simp only [Act.put, List.setIfInBounds_toArray, List.set_cons_zero, List.set_cons_succ]
     refine seq_take (v := ?_) rfl rfl (by rfl) ?_ ?_
     rotate_left 1
     ·intro w hS
      (try dsimp only at hS)
      go_simp
      all_goals with_reducible rfl
     simp only [Act.put, List.setIfInBounds_toArray, List.set_cons_zero, List.set_cons_succ]
     refine seq_take (v := ?_) rfl rfl (by rfl) ?_ ?_
     rotate_left 1
     ·intro w hS
      (try dsimp only at hS)
      go_simp
      all_goals with_reducible rfl
     simp only [Act.put, List.setIfInBounds_toArray, List.set_cons_zero, List.set_cons_succ]
     refine seq_meet rfl (by rfl) (fun K hK => ?_)
     go_simp
     go_at_call 140
     refine (X.out _).mono ?_
     rintro E w3 ⟨rfl, bel3'⟩
     have bel3 : Below wr.heap.size wr w3 := ((Below.refl _ _).drew).trans bel3'
     have g2 := (bel3.cell (p := ⟨w.heap.size, 2, none⟩) szb1).trans x2
     have h0 := (bel3.cell (p := ⟨b1, o1 + k * 3, none⟩) hB').trans d0
     have h1 := (bel3.cell (p := ⟨b1, o1 + k * 3 + 1, none⟩) hB').trans d1
     have h2 := (bel3.cell (p := ⟨b1, o1 + k * 3 + 2, none⟩) hB').trans d2
     clear bel3'
     go_wp2_with fail
     refine hK.out _ _ ⟨g2, h0, h1, h2⟩ ?_
     clear hK K
     try simp only [Act.put, List.setIfInBounds_toArray, List.set_cons_zero, List.set_cons_succ]
     refine seq_take (v := ?_) rfl rfl (by rfl) ?_ ?_
     rotate_left 1
     ·intro w hS
      (try dsimp only at hS)
      go_simp
      all_goals with_reducible rfl
     simp only [Act.put, List.setIfInBounds_toArray, List.set_cons_zero, List.set_cons_succ]
     refine seq_take (v := ?_) rfl rfl (by rfl) ?_ ?_
     rotate_left 1
     ·intro w hS
      (try dsimp only at hS)
      go_simp
      all_goals with_reducible rfl
     simp only [Act.put, List.setIfInBounds_toArray, List.set_cons_zero, List.set_cons_succ]
     refine seq_take (v := ?_) rfl rfl (by rfl) ?_ ?_
     rotate_left 1
     ·intro w hS
      (try dsimp only at hS)
      go_simp
      all_goals with_reducible rfl
     simp only [Act.put, List.setIfInBounds_toArray, List.set_cons_zero, List.set_cons_succ]
     refine seq_take (v := ?_) rfl rfl (by rfl) ?_ ?_
     rotate_left 1
     ·intro w hS
      (try dsimp only at hS)
      go_simp
      all_goals with_reducible rfl
     simp only [Act.put, List.setIfInBounds_toArray, List.set_cons_zero, List.set_cons_succ]
     refine seq_take (v := ?_) rfl rfl (by rfl) ?_ ?_
     rotate_left 1
     ·intro w hS
      (try dsimp only at hS)
      go_simp
      all_goals with_reducible rfl
     simp only [Act.put, List.setIfInBounds_toArray, List.set_cons_zero, List.set_cons_succ]
     refine seq_skip rfl rfl (by rfl) ?_
     simp only [Act.put, List.setIfInBounds_toArray, List.set_cons_zero, List.set_cons_succ]
     refine seq_skip rfl rfl (by rfl) ?_
     simp only [Act.put, List.setIfInBounds_toArray, List.set_cons_zero, List.set_cons_succ]
     refine seq_skip rfl rfl (by rfl) ?_
     simp only [Act.put, List.setIfInBounds_toArray, List.set_cons_zero, List.set_cons_succ]
     refine seq_skip rfl rfl (by rfl) ?_
     simp only [Act.put, List.setIfInBounds_toArray, List.set_cons_zero, List.set_cons_succ]
     refine seq_skip rfl rfl (by rfl) ?_
     simp only [Act.put, List.setIfInBounds_toArray, List.set_cons_zero, List.set_cons_succ]
     refine seq_skip rfl rfl (by rfl) ?_
     simp only [Act.put, List.setIfInBounds_toArray, List.set_cons_zero, List.set_cons_succ]
     refine seq_skip rfl rfl (by rfl) ?_
     simp only [Act.put, List.setIfInBounds_toArray, List.set_cons_zero, List.set_cons_succ]
     refine seq_skip rfl rfl (by rfl) ?_
     simp only [Act.put, List.setIfInBounds_toArray, List.set_cons_zero, List.set_cons_succ]
     refine seq_skip rfl rfl (by rfl) ?_
     simp only [Act.put, List.setIfInBounds_toArray, List.set_cons_zero, List.set_cons_succ]
     refine seq_skip rfl rfl (by rfl) ?_
     simp only [Act.put, List.setIfInBounds_toArray, List.set_cons_zero, List.set_cons_succ]
     refine seq_skip rfl rfl (by rfl) ?_
     simp only [Act.put, List.setIfInBounds_toArray, List.set_cons_zero, List.set_cons_succ]
     refine seq_skip rfl rfl (by rfl) ?_
     simp only [Act.put, List.setIfInBounds_toArray, List.set_cons_zero, List.set_cons_succ]
     refine seq_skip rfl rfl (by rfl) ?_
     simp only [Act.put, List.setIfInBounds_toArray, List.set_cons_zero, List.set_cons_succ]
     refine seq_skip rfl rfl (by rfl) ?_
     simp only [Act.put, List.setIfInBounds_toArray, List.set_cons_zero, List.set_cons_succ]
     refine seq_take (v := ?_) rfl rfl (by rfl) ?_ ?_
     rotate_left 1
     ·intro w hS
      (try dsimp only at hS)
      go_simp
      all_goals with_reducible rfl
     simp only [Act.put, List.setIfInBounds_toArray, List.set_cons_zero, List.set_cons_succ]
     refine seq_take (v := ?_) rfl rfl (by rfl) ?_ ?_
     rotate_left 1
     ·intro w hS
      (try dsimp only at hS)
      go_simp
      all_goals with_reducible rfl
     simp only [Act.put, List.setIfInBounds_toArray, List.set_cons_zero, List.set_cons_succ]
     unfold seqW
     have belR := bel.trans (bel3.mono sz)
     clear g2 h0 h1 h2 x2 d0 d1 d2 bel3 bel X
     go_wp2
     go_roundw
     case rel => exact ⟨k + 1, by omega, by go_num, HT2, belR⟩
     case measure => simp [intOf]; omega
    ·obtain ⟨j, hkj⟩ : ∃ j, k = j + 1 := ⟨k - 1, by omega⟩
     obtain ⟨t, ht⟩ : ∃ t, l[j]? = some t := ⟨l[j]'(by have := HN.out; omega), by rw [List.getElem?_eq_getElem]⟩
     obtain ⟨_, b1', _⟩ := hcell j t ht
     have t1 := (bel0.cell (p := ⟨b1, o1 + j * 3 + 1, none⟩) hB).trans b1'
     have HL : Hid (Rn.lstK ⟨#[]⟩ (l.take k) = t.k) := hide (by rw [hkj]; exact lst_at ht)
     have hj0 : (0 : Int) ≤ (j : Int) := by omega
     have k1 : (0 : Int) < k := by omega
     have r5 : 0 < k := by omega
     have hsub : (k : Int) - 1 = (j : Int) := by omega
     have hjn : (j : Int) < m := by omega
     have hwj : IntKind.i64.wrap (j : Int) = (j : Int) := wrap_i64_small _ (by omega) (by omega)
     clear hcell b1' ht hkj
     cases hlk : Tm.lt t.k o.k with
     | true =>
      obtain ⟨q1, q2⟩ := key_on hlk
      have HT2 := hide (may_next HT.out HO.out HCC.out (by rw [HL.out]; exact hlk)).1
      clear hlk
      go_wp2_with fail
      refine region_way (ops := (regOf 8 Tryz.f117)) (S := fun w' => w'.cell? ⟨w.heap.size, 2, none⟩ = some (.slice (some ⟨b1, o1, none⟩) m cap) ∧ w'.cell? ⟨b1, o1 + j * 3 + 1, none⟩ = some (.string t.k) ∧ (w'.cell? ⟨b1, o1 + k * 3, none⟩ = some (.bool o.p) ∧ w'.cell? ⟨b1, o1 + k * 3 + 1, none⟩ = some (.string o.k) ∧ w'.cell? ⟨b1, o1 + k * 3 + 2, none⟩ = some (.string o.v))) (by kernel_rfl) (by kernel_rfl) (fun _ _ _ _ _ h => h) wya_ord (by kernel_rfl) wya_way ⟨x2, t1, d0, d1, d2⟩ ?_
      unfold wya_ord
      refine seq_take (v := ?_) rfl rfl (by rfl) ?_ ?_
      rotate_left 1
      ·intro w hS
       (try dsimp only at hS)
       go_simp
       all_goals with_reducible rfl
      simp only [Act.put, List.setIfInBounds_toArray, List.set_cons_zero, List.set_cons_succ]
      refine seq_take (v := ?_) rfl rfl (by rfl) ?_ ?_
      rotate_left 1
      ·intro w hS
       (try dsimp only at hS)
       go_simp
       all_goals with_reducible rfl
      simp only [Act.put, List.setIfInBounds_toArray, List.set_cons_zero, List.set_cons_succ]
      refine seq_take (v := ?_) rfl rfl (by rfl) ?_ ?_
      rotate_left 1
      ·intro w hS
       (try dsimp only at hS)
       go_simp
       all_goals with_reducible rfl
      simp only [Act.put, List.setIfInBounds_toArray, List.set_cons_zero, List.set_cons_succ]
      refine seq_take (v := ?_) rfl rfl (by rfl) ?_ ?_
      rotate_left 1
      ·intro w hS
       (try dsimp only at hS)
       go_simp
       all_goals with_reducible rfl
      simp only [Act.put, List.setIfInBounds_toArray, List.set_cons_zero, List.set_cons_succ]
      refine seq_take (v := ?_) rfl rfl (by rfl) ?_ ?_
      rotate_left 1
      ·intro w hS
       (try dsimp only at hS)
       go_simp
       all_goals with_reducible rfl
      simp only [Act.put, List.setIfInBounds_toArray, List.set_cons_zero, List.set_cons_succ]
      refine seq_meet rfl (by rfl) (fun K hK => ?_)
      go_simp
      go_at_call 140
      refine (X.out _).mono ?_
      rintro E w3 ⟨rfl, bel3'⟩
      have bel3 : Below wr.heap.size wr w3 := ((Below.refl _ _).drew).trans bel3'
      have g2 := (bel3.cell (p := ⟨w.heap.size, 2, none⟩) szb1).trans x2
      have i1 := (bel3.cell (p := ⟨b1, o1 + j * 3 + 1, none⟩) hB').trans t1
      have h0 := (bel3.cell (p := ⟨b1, o1 + k * 3, none⟩) hB').trans d0
      have h1 := (bel3.cell (p := ⟨b1, o1 + k * 3 + 1, none⟩) hB').trans d1
      have h2 := (bel3.cell (p := ⟨b1, o1 + k * 3 + 2, none⟩) hB').trans d2
      clear bel3'
      go_wp2_with fail
      refine hK.out _ _ ⟨g2, i1, h0, h1, h2⟩ ?_
      clear hK K
      try simp only [Act.put, List.setIfInBounds_toArray, List.set_cons_zero, List.set_cons_succ]
      refine seq_take (v := ?_) rfl rfl (by rfl) ?_ ?_
      rotate_left 1
      ·intro w hS
       (try dsimp only at hS)
       go_simp
       all_goals with_reducible rfl
      simp only [Act.put, List.setIfInBounds_toArray, List.set_cons_zero, List.set_cons_succ]
      refine seq_take (v := ?_) rfl rfl (by rfl) ?_ ?_
      rotate_left 1
      ·intro w hS
       (try dsimp only at hS)
       go_simp
       all_goals with_reducible rfl
      simp only [Act.put, List.setIfInBounds_toArray, List.set_cons_zero, List.set_cons_succ]
      refine seq_take (v := ?_) rfl rfl (by rfl) ?_ ?_
      rotate_left 1
      ·intro w hS
       (try dsimp only at hS)
       go_simp
       all_goals with_reducible rfl
      simp only [Act.put, List.setIfInBounds_toArray, List.set_cons_zero, List.set_cons_succ]
      refine seq_take (v := ?_) rfl rfl (by rfl) ?_ ?_
      rotate_left 1
      ·intro w hS
       (try dsimp only at hS)
       go_simp
       all_goals with_reducible rfl
      simp only [Act.put, List.setIfInBounds_toArray, List.set_cons_zero, List.set_cons_succ]
      refine seq_take (v := ?_) rfl rfl (by rfl) ?_ ?_
      rotate_left 1
      ·intro w hS
       (try dsimp only at hS)
       go_simp
       all_goals with_reducible rfl
      simp only [Act.put, List.setIfInBounds_toArray, List.set_cons_zero, List.set_cons_succ]
      refine seq_take (v := ?_) rfl rfl (by rfl) ?_ ?_
      rotate_left 1
      ·intro w hS
       (try dsimp only at hS)
       go_simp
       all_goals with_reducible rfl
      simp only [Act.put, List.setIfInBounds_toArray, List.set_cons_zero, List.set_cons_succ]
      refine seq_take (v := ?_) rfl rfl (by rfl) ?_ ?_
      rotate_left 1
      ·intro w hS
       (try dsimp only at hS)
       go_simp
       all_goals with_reducible rfl
      simp only [Act.put, List.setIfInBounds_toArray, List.set_cons_zero, List.set_cons_succ]
      refine seq_take (v := ?_) rfl rfl (by rfl) ?_ ?_
      rotate_left 1
      ·intro w hS
       (try dsimp only at hS)
       go_simp
       all_goals with_reducible rfl
      simp only [Act.put, List.setIfInBounds_toArray, List.set_cons_zero, List.set_cons_succ]
      refine seq_take (v := ?_) rfl rfl (by rfl) ?_ ?_
      rotate_left 1
      ·intro w hS
       (try dsimp only at hS)
       go_simp
       all_goals with_reducible rfl
      simp only [Act.put, List.setIfInBounds_toArray, List.set_cons_zero, List.set_cons_succ]
      refine seq_take (v := ?_) rfl rfl (by rfl) ?_ ?_
      rotate_left 1
      ·intro w hS
       (try dsimp only at hS)
       go_simp
       all_goals with_reducible rfl
      simp only [Act.put, List.setIfInBounds_toArray, List.set_cons_zero, List.set_cons_succ]
      refine seq_take (v := ?_) rfl rfl (by rfl) ?_ ?_
      rotate_left 1
      ·intro w hS
       (try dsimp only at hS)
       go_simp
       all_goals with_reducible rfl
      simp only [Act.put, List.setIfInBounds_toArray, List.set_cons_zero, List.set_cons_succ]
      refine seq_take (v := ?_) rfl rfl (by rfl) ?_ ?_
      rotate_left 1
      ·intro w hS
       (try dsimp only at hS)
       go_simp
       all_goals with_reducible rfl
      simp only [Act.put, List.setIfInBounds_toArray, List.set_cons_zero, List.set_cons_succ]
      refine seq_take (v := ?_) rfl rfl (by rfl) ?_ ?_
      rotate_left 1
      ·intro w hS
       (try dsimp only at hS)
       go_simp
       all_goals with_reducible rfl
      simp only [Act.put, List.setIfInBounds_toArray, List.set_cons_zero, List.set_cons_succ]
      refine seq_take (v := ?_) rfl rfl (by rfl) ?_ ?_
      rotate_left 1
      ·intro w hS
       (try dsimp only at hS)
       go_simp
       all_goals with_reducible rfl
      simp only [Act.put, List.setIfInBounds_toArray, List.set_cons_zero, List.set_cons_succ]
      refine seq_take (v := ?_) rfl rfl (by rfl) ?_ ?_
      rotate_left 1
      ·intro w hS
       (try dsimp only at hS)
       go_simp
       all_goals with_reducible rfl
      simp only [Act.put, List.setIfInBounds_toArray, List.set_cons_zero, List.set_cons_succ]
      refine seq_take (v := ?_) rfl rfl (by rfl) ?_ ?_
      rotate_left 1
      ·intro w hS
       (try dsimp only at hS)
       go_simp
       all_goals with_reducible rfl
      simp only [Act.put, List.setIfInBounds_toArray, List.set_cons_zero, List.set_cons_succ]
      refine seq_take (v := ?_) rfl rfl (by rfl) ?_ ?_
      rotate_left 1
      ·intro w hS
       (try dsimp only at hS)
       go_simp
       all_goals with_reducible rfl
      simp only [Act.put, List.setIfInBounds_toArray, List.set_cons_zero, List.set_cons_succ]
      refine seq_take (v := ?_) rfl rfl (by rfl) ?_ ?_
      rotate_left 1
      ·intro w hS
       (try dsimp only at hS)
       go_simp
       all_goals with_reducible rfl
      simp only [Act.put, List.setIfInBounds_toArray, List.set_cons_zero, List.set_cons_succ]
      refine seq_take (v := ?_) rfl rfl (by rfl) ?_ ?_
      rotate_left 1
      ·intro w hS
       (try dsimp only at hS)
       go_simp
       all_goals with_reducible rfl
      simp only [Act.put, List.setIfInBounds_toArray, List.set_cons_zero, List.set_cons_succ]
      refine seq_take (v := ?_) rfl rfl (by rfl) ?_ ?_
      rotate_left 1
      ·intro w hS
       (try dsimp only at hS)
       go_simp
       all_goals with_reducible rfl
      simp only [Act.put, List.setIfInBounds_toArray, List.set_cons_zero, List.set_cons_succ]
      refine seq_take (v := ?_) rfl rfl (by rfl) ?_ ?_
      rotate_left 1
      ·intro w hS
       (try dsimp only at hS)
       go_simp
       all_goals with_reducible rfl
      simp only [Act.put, List.setIfInBounds_toArray, List.set_cons_zero, List.set_cons_succ]
      unfold seqW
      have belR := bel.trans (bel3.mono sz)
      clear g2 h0 h1 h2 i1 t1 x2 d0 d1 d2 bel3 bel X
      go_wp2
      go_roundw
      case rel => exact ⟨k + 1, by omega, by go_num, HT2, belR⟩
      case measure => simp [intOf]; omega
     | false =>
      obtain rfl := NO.out (may_stop HO.out (.inr (by rw [HL.out]; exact hlk)))
      obtain ⟨x, y, q1, q2, q3⟩ : ∃ x y, Op.bytesLess o.k.toList t.k.toList = x ∧ (o.k.toList == t.k.toList) = y ∧ (x || y) = true := ⟨_, _, rfl, rfl, by
       rcases key_off hlk with ⟨q1, _⟩ | ⟨_, q2⟩
       ·rw [q1]; rfl
       ·rw [q2]; simp⟩
      clear hlk
      go_wp2_with fail
      refine region_way (ops := (regOf 8 Tryz.f117)) (S := fun w' => w'.cell? ⟨w.heap.size, 2, none⟩ = some (.slice (some ⟨b1, o1, none⟩) m cap) ∧ w'.cell? ⟨b1, o1 + j * 3 + 1, none⟩ = some (.string t.k) ∧ (w'.cell? ⟨b1, o1 + k * 3, none⟩ = some (.bool o.p) ∧ w'.cell? ⟨b1, o1 + k * 3 + 1, none⟩ = some (.string o.k) ∧ w'.cell? ⟨b1, o1 + k * 3 + 2, none⟩ = some (.string o.v))) (by kernel_rfl) (by kernel_rfl) (fun _ _ _ _ _ h => h) wya_ord (by kernel_rfl) wya_way ⟨x2, t1, d0, d1, d2⟩ ?_
      unfold wya_ord
      refine seq_take (v := ?_) rfl rfl (by rfl) ?_ ?_
      rotate_left 1
      ·intro w hS
       (try dsimp only at hS)
       go_simp
       all_goals with_reducible rfl
      simp only [Act.put, List.setIfInBounds_toArray, List.set_cons_zero, List.set_cons_succ]
      refine seq_take (v := ?_) rfl rfl (by rfl) ?_ ?_
      rotate_left 1
      ·intro w hS
       (try dsimp only at hS)
       go_simp
       all_goals with_reducible rfl
      simp only [Act.put, List.setIfInBounds_toArray, List.set_cons_zero, List.set_cons_succ]
      refine seq_take (v := ?_) rfl rfl (by rfl) ?_ ?_
      rotate_left 1
      ·intro w hS
       (try dsimp only at hS)
       go_simp
       all_goals with_reducible rfl
      simp only [Act.put, List.setIfInBounds_toArray, List.set_cons_zero, List.set_cons_succ]
      refine seq_take (v := ?_) rfl rfl (by rfl) ?_ ?_
      rotate_left 1
      ·intro w hS
       (try dsimp only at hS)
       go_simp
       all_goals with_reducible rfl
      simp only [Act.put, List.setIfInBounds_toArray, List.set_cons_zero, List.set_cons_succ]
      refine seq_take (v := ?_) rfl rfl (by rfl) ?_ ?_
      rotate_left 1
      ·intro w hS
       (try dsimp only at hS)
       go_simp
       all_goals with_reducible rfl
      simp only [Act.put, List.setIfInBounds_toArray, List.set_cons_zero, List.set_cons_succ]
      refine seq_meet rfl (by rfl) (fun K hK => ?_)
      go_simp
      go_at_call 140
      refine (X.out _).mono ?_
      rintro E w3 ⟨rfl, bel3'⟩
      have bel3 : Below wr.heap.size wr w3 := ((Below.refl _ _).drew).trans bel3'
      have g2 := (bel3.cell (p := ⟨w.heap.size, 2, none⟩) szb1).trans x2
      have i1 := (bel3.cell (p := ⟨b1, o1 + j * 3 + 1, none⟩) hB').trans t1
      have h0 := (bel3.cell (p := ⟨b1, o1 + k * 3, none⟩) hB').trans d0
      have h1 := (bel3.cell (p := ⟨b1, o1 + k * 3 + 1, none⟩) hB').trans d1
      have h2 := (bel3.cell (p := ⟨b1, o1 + k * 3 + 2, none⟩) hB').trans d2
      clear bel3'
      go_wp2_with fail
      refine hK.out _ _ ⟨g2, i1, h0, h1, h2⟩ ?_
      clear hK K
      try simp only [Act.put, List.setIfInBounds_toArray, List.set_cons_zero, List.set_cons_succ]
      refine seq_take (v := ?_) rfl rfl (by rfl) ?_ ?_
      rotate_left 1
      ·intro w hS
       (try dsimp only at hS)
       go_simp
       all_goals with_reducible rfl
      simp only [Act.put, List.setIfInBounds_toArray, List.set_cons_zero, List.set_cons_succ]
      refine seq_take (v := ?_) rfl rfl (by rfl) ?_ ?_
      rotate_left 1
      ·intro w hS
       (try dsimp only at hS)
       go_simp
       all_goals with_reducible rfl
      simp only [Act.put, List.setIfInBounds_toArray, List.set_cons_zero, List.set_cons_succ]
      refine seq_take (v := ?_) rfl rfl (by rfl) ?_ ?_
      rotate_left 1
      ·intro w hS
       (try dsimp only at hS)
       go_simp
       all_goals with_reducible rfl
      simp only [Act.put, List.setIfInBounds_toArray, List.set_cons_zero, List.set_cons_succ]
      refine seq_take (v := ?_) rfl rfl (by rfl) ?_ ?_
      rotate_left 1
      ·intro w hS
       (try dsimp only at hS)
       go_simp
       all_goals with_reducible rfl
      simp only [Act.put, List.setIfInBounds_toArray, List.set_cons_zero, List.set_cons_succ]
      refine seq_take (v := ?_) rfl rfl (by rfl) ?_ ?_
      rotate_left 1
      ·intro w hS
       (try dsimp only at hS)
       go_simp
       all_goals with_reducible rfl
      simp only [Act.put, List.setIfInBounds_toArray, List.set_cons_zero, List.set_cons_succ]
      refine seq_take (v := ?_) rfl rfl (by rfl) ?_ ?_
      rotate_left 1
      ·intro w hS
       (try dsimp only at hS)
       go_simp
       all_goals with_reducible rfl
      simp only [Act.put, List.setIfInBounds_toArray, List.set_cons_zero, List.set_cons_succ]
      refine seq_take (v := ?_) rfl rfl (by rfl) ?_ ?_
      rotate_left 1
      ·intro w hS
       (try dsimp only at hS)
       go_simp
       all_goals with_reducible rfl
      simp only [Act.put, List.setIfInBounds_toArray, List.set_cons_zero, List.set_cons_succ]
      refine seq_take (v := ?_) rfl rfl (by rfl) ?_ ?_
      rotate_left 1
      ·intro w hS
       (try dsimp only at hS)
       go_simp
       all_goals with_reducible rfl
      simp only [Act.put, List.setIfInBounds_toArray, List.set_cons_zero, List.set_cons_succ]
      refine seq_take (v := ?_) rfl rfl (by rfl) ?_ ?_
      rotate_left 1
      ·intro w hS
       (try dsimp only at hS)
       go_simp
       all_goals with_reducible rfl
      simp only [Act.put, List.setIfInBounds_toArray, List.set_cons_zero, List.set_cons_succ]
      refine seq_take (v := ?_) rfl rfl (by rfl) ?_ ?_
      rotate_left 1
      ·intro w hS
       (try dsimp only at hS)
       go_simp
       all_goals with_reducible rfl
      simp only [Act.put, List.setIfInBounds_toArray, List.set_cons_zero, List.set_cons_succ]
      refine seq_take (v := ?_) rfl rfl (by rfl) ?_ ?_
      rotate_left 1
      ·intro w hS
       (try dsimp only at hS)
       go_simp
       all_goals with_reducible rfl
      simp only [Act.put, List.setIfInBounds_toArray, List.set_cons_zero, List.set_cons_succ]
      refine seq_take (v := ?_) rfl rfl (by rfl) ?_ ?_
      rotate_left 1
      ·intro w hS
       (try dsimp only at hS)
       go_simp
       all_goals with_reducible rfl
      simp only [Act.put, List.setIfInBounds_toArray, List.set_cons_zero, List.set_cons_succ]
      refine seq_take (v := ?_) rfl rfl (by rfl) ?_ ?_
      rotate_left 1
      ·intro w hS
       (try dsimp only at hS)
       go_simp
       all_goals with_reducible rfl
      simp only [Act.put, List.setIfInBounds_toArray, List.set_cons_zero, List.set_cons_succ]
      refine seq_take (v := ?_) rfl rfl (by rfl) ?_ ?_
      rotate_left 1
      ·intro w hS
       (try dsimp only at hS)
       go_simp
       all_goals with_reducible rfl
      simp only [Act.put, List.setIfInBounds_toArray, List.set_cons_zero, List.set_cons_succ]
      refine seq_take (v := ?_) rfl rfl (by rfl) ?_ ?_
      rotate_left 1
      ·intro w hS
       (try dsimp only at hS)
       go_simp
       all_goals with_reducible rfl
      simp only [Act.put, List.setIfInBounds_toArray, List.set_cons_zero, List.set_cons_succ]
      refine seq_take (v := ?_) rfl rfl (by rfl) ?_ ?_
      rotate_left 1
      ·intro w hS
       (try dsimp only at hS)
       go_simp
       all_goals with_reducible rfl
      simp only [Act.put, List.setIfInBounds_toArray, List.set_cons_zero, List.set_cons_succ]
      refine seq_take (v := ?_) rfl rfl (by rfl) ?_ ?_
      rotate_left 1
      ·intro w hS
       (try dsimp only at hS)
       go_simp
       all_goals with_reducible rfl
      simp only [Act.put, List.setIfInBounds_toArray, List.set_cons_zero, List.set_cons_succ]
      refine seq_take (v := ?_) rfl rfl (by rfl) ?_ ?_
      rotate_left 1
      ·intro w hS
       (try dsimp only at hS)
       go_simp
       all_goals with_reducible rfl
      simp only [Act.put, List.setIfInBounds_toArray, List.set_cons_zero, List.set_cons_succ]
      refine seq_take (v := ?_) rfl rfl (by rfl) ?_ ?_
      rotate_left 1
      ·intro w hS
       (try dsimp only at hS)
       go_simp
       all_goals with_reducible rfl
      simp only [Act.put, List.setIfInBounds_toArray, List.set_cons_zero, List.set_cons_succ]
      refine seq_take (v := ?_) rfl rfl (by rfl) ?_ ?_
      rotate_left 1
      ·intro w hS
       (try dsimp only at hS)
       go_simp
       all_goals with_reducible rfl
      simp only [Act.put, List.setIfInBounds_toArray, List.set_cons_zero, List.set_cons_succ]
      refine seq_take (v := ?_) rfl rfl (by rfl) ?_ ?_
      rotate_left 1
      ·intro w hS
       (try dsimp only at hS)
       go_simp
       all_goals with_reducible rfl
      simp only [Act.put, List.setIfInBounds_toArray, List.set_cons_zero, List.set_cons_succ]
      unfold seqW
      have belR := bel1.trans ((bel.trans (bel3.mono sz)).mono bel1.size)
      clear g2 h0 h1 h2 i1 t1 x2 d0 d1 d2 bel3 bel X
      go_wp2
      go_ret
      exact ⟨rfl, belR⟩
   ·obtain rfl := NO.out (may_stop HO.out (.inl (by rw [HCC.out]; decide)))
    clear hcell
    go_wp2_with fail
    refine region_way (ops := (regOf 8 Tryz.f117)) (S := fun w' => w'.cell? ⟨w.heap.size, 2, none⟩ = some (.slice (some ⟨b1, o1, none⟩) m cap) ∧ (w'.cell? ⟨b1, o1 + k * 3, none⟩ = some (.bool o.p) ∧ w'.cell? ⟨b1, o1 + k * 3 + 1, none⟩ = some (.string o.k) ∧ w'.cell? ⟨b1, o1 + k * 3 + 2, none⟩ = some (.string o.v))) (by kernel_rfl) (by kernel_rfl) (fun _ _ _ _ _ h => h) wya_ord (by kernel_rfl) wya_way ⟨x2, d0, d1, d2⟩ ?_
    unfold wya_ord
    refine seq_take (v := ?_) rfl rfl (by rfl) ?_ ?_
    rotate_left 1
    ·intro w hS
     (try dsimp only at hS)
     go_simp
     all_goals with_reducible rfl
    simp only [Act.put, List.setIfInBounds_toArray, List.set_cons_zero, List.set_cons_succ]
    refine seq_take (v := ?_) rfl rfl (by rfl) ?_ ?_
    rotate_left 1
    ·intro w hS
     (try dsimp only at hS)
     go_simp
     all_goals with_reducible rfl
    simp only [Act.put, List.setIfInBounds_toArray, List.set_cons_zero, List.set_cons_succ]
    refine seq_take (v := ?_) rfl rfl (by rfl) ?_ ?_
    rotate_left 1
    ·intro w hS
     (try dsimp only at hS)
     go_simp
     all_goals with_reducible rfl
    simp only [Act.put, List.setIfInBounds_toArray, List.set_cons_zero, List.set_cons_succ]
    refine seq_take (v := ?_) rfl rfl (by rfl) ?_ ?_
    rotate_left 1
    ·intro w hS
     (try dsimp only at hS)
     go_simp
     all_goals with_reducible rfl
    simp only [Act.put, List.setIfInBounds_toArray, List.set_cons_zero, List.set_cons_succ]
    refine seq_take (v := ?_) rfl rfl (by rfl) ?_ ?_
    rotate_left 1
    ·intro w hS
     (try dsimp only at hS)
     go_simp
     all_goals with_reducible rfl
    simp only [Act.put, List.setIfInBounds_toArray, List.set_cons_zero, List.set_cons_succ]
    refine seq_meet rfl (by rfl) (fun K hK => ?_)
    go_simp
    go_at_call 140
    refine (X.out _).mono ?_
    rintro E w3 ⟨rfl, bel3'⟩
    have bel3 : Below wr.heap.size wr w3 := ((Below.refl _ _).drew).trans bel3'
    have g2 := (bel3.cell (p := ⟨w.heap.size, 2, none⟩) szb1).trans x2
    have h0 := (bel3.cell (p := ⟨b1, o1 + k * 3, none⟩) hB').trans d0
    have h1 := (bel3.cell (p := ⟨b1, o1 + k * 3 + 1, none⟩) hB').trans d1
    have h2 := (bel3.cell (p := ⟨b1, o1 + k * 3 + 2, none⟩) hB').trans d2
    clear bel3'
    go_wp2_with fail
    refine hK.out _ _ ⟨g2, h0, h1, h2⟩ ?_
    clear hK K
    try simp only [Act.put, List.setIfInBounds_toArray, List.set_cons_zero, List.set_cons_succ]
    refine seq_take (v := ?_) rfl rfl (by rfl) ?_ ?_
    rotate_left 1
    ·intro w hS
     (try dsimp only at hS)
     go_simp
     all_goals with_reducible rfl
    simp only [Act.put, List.setIfInBounds_toArray, List.set_cons_zero, List.set_cons_succ]
    refine seq_take (v := ?_) rfl rfl (by rfl) ?_ ?_
    rotate_left 1
    ·intro w hS
     (try dsimp only at hS)
     go_simp
     all_goals with_reducible rfl
    simp only [Act.put, List.setIfInBounds_toArray, List.set_cons_zero, List.set_cons_succ]
    refine seq_skip rfl rfl (by rfl) ?_
    simp only [Act.put, List.setIfInBounds_toArray, List.set_cons_zero, List.set_cons_succ]
    refine seq_skip rfl rfl (by rfl) ?_
    simp only [Act.put, List.setIfInBounds_toArray, List.set_cons_zero, List.set_cons_succ]
    refine seq_skip rfl rfl (by rfl) ?_
    simp only [Act.put, List.setIfInBounds_toArray, List.set_cons_zero, List.set_cons_succ]
    refine seq_skip rfl rfl (by rfl) ?_
    simp only [Act.put, List.setIfInBounds_toArray, List.set_cons_zero, List.set_cons_succ]
    refine seq_skip rfl rfl (by rfl) ?_
    simp only [Act.put, List.setIfInBounds_toArray, List.set_cons_zero, List.set_cons_succ]
    refine seq_skip rfl rfl (by rfl) ?_
    simp only [Act.put, List.setIfInBounds_toArray, List.set_cons_zero, List.set_cons_succ]
    refine seq_skip rfl rfl (by rfl) ?_
    simp only [Act.put, List.setIfInBounds_toArray, List.set_cons_zero, List.set_cons_succ]
    refine seq_skip rfl rfl (by rfl) ?_
    simp only [Act.put, List.setIfInBounds_toArray, List.set_cons_zero, List.set_cons_succ]
    refine seq_skip rfl rfl (by rfl) ?_
    simp only [Act.put, List.setIfInBounds_toArray, List.set_cons_zero, List.set_cons_succ]
    refine seq_skip rfl rfl (by rfl) ?_
    simp only [Act.put, List.setIfInBounds_toArray, List.set_cons_zero, List.set_cons_succ]
    refine seq_skip rfl rfl (by rfl) ?_
    simp only [Act.put, List.setIfInBounds_toArray, List.set_cons_zero, List.set_cons_succ]
    refine seq_skip rfl rfl (by rfl) ?_
    simp only [Act.put, List.setIfInBounds_toArray, List.set_cons_zero, List.set_cons_succ]
    refine seq_skip rfl rfl (by rfl) ?_
    simp only [Act.put, List.setIfInBounds_toArray, List.set_cons_zero, List.set_cons_succ]
    refine seq_skip rfl rfl (by rfl) ?_
    simp only [Act.put, List.setIfInBounds_toArray, List.set_cons_zero, List.set_cons_succ]
    refine seq_skip rfl rfl (by rfl) ?_
    simp only [Act.put, List.setIfInBounds_toArray, List.set_cons_zero, List.set_cons_succ]
    refine seq_skip rfl rfl (by rfl) ?_
    simp only [Act.put, List.setIfInBounds_toArray, List.set_cons_zero, List.set_cons_succ]
    refine seq_skip rfl rfl (by rfl) ?_
    simp only [Act.put, List.setIfInBounds_toArray, List.set_cons_zero, List.set_cons_succ]
    refine seq_skip rfl rfl (by rfl) ?_
    simp only [Act.put, List.setIfInBounds_toArray, List.set_cons_zero, List.set_cons_succ]
    refine seq_take (v := ?_) rfl rfl (by rfl) ?_ ?_
    rotate_left 1
    ·intro w hS
     (try dsimp only at hS)
     go_simp
     all_goals with_reducible rfl
    simp only [Act.put, List.setIfInBounds_toArray, List.set_cons_zero, List.set_cons_succ]
    unfold seqW
    have belR := bel1.trans ((bel.trans (bel3.mono sz)).mono bel1.size)
    clear g2 h0 h1 h2 x2 d0 d1 d2 bel3 bel X
    go_wp2
    go_ret
    exact ⟨rfl, belR⟩
  ·have hlt' : ¬ (k : Int) < m := by omega
   obtain rfl := YES.out (by have h1 := HT.out; rw [List.take_of_length_le (by have := HN.out; omega)] at h1; exact h1)
   have belR := bel1.trans (bel.mono bel1.size)
   clear bel
   go_wp2
   go_ret
   exact ⟨rfl, belR⟩

end Go.Proofs.YtmmfakpphjjjfaaGreat
