/- Texts of one layer, one behind the other. -/
import Derived.Test.YtmmfakpphjjjfaaGreatG17
import Derived.Test.YtmmfakpphjjjfaaGreatG26
import Derived.Test.YtmmfakpphjjjfaaGreatG27
import Derived.Test.YtmmfakpphjjjfaaGreatG18
import Derived.Test.YtmmfakpphjjjfaaGreatProg
import Derived.Test.YtmmfakpphjjjfaaGreatG10
import Derived.Test.YtmmfakpphjjjfaaGreatG6
import Derived.Test.YtmmfakpphjjjfaaGreatG9
/- The document's store in memory. -/
namespace Go.Proofs.YtmmfakpphjjjfaaGreat
open Go.RowKit
open Bm (Ov)
set_option linter.unusedVariables false

structure YsV (xs x : Nat) (w : World) (l : List Cm.Cv) (v : Value) (rs : List Cw) : Prop where
 blk : w.heap[xs]? = some (.cells #[.bool true, .pointer (some ⟨x, 0, none⟩), v] 98 (0, 0))
 rest : Rt 0 w l v rs

def YB (xs : Nat) (v : Value) (rs : List Cw) (g : Nat) : Prop := g = xs ∨ QB v rs g

section
variable {xs x y : Nat} {F G : Nat → Prop} {w w' w1 w2 : World} {s s' : Sto.Ss} {l : List Cm.Cv} {v : Value} {rs : List Cw}

theorem YsV.lt (h : YsV xs x w l v rs) : ∀ g, YB xs v rs g → g < w.heap.size := by
 rintro g (rfl | hg)
 ·exact blk_lt h.blk
 ·exact h.rest.lt g hg
theorem YsV.agree (h : YsV xs x w l v rs) (ha : ∀ g, YB xs v rs g → w'.heap[g]? = w.heap[g]?) : YsV xs x w' l v rs := ⟨(ha xs (.inl rfl)).trans h.blk, h.rest.agree fun g hg => ha g (.inr hg)⟩
theorem YsV.below (h : YsV xs x w l v rs) (hb : Below w.heap.size w w') : YsV xs x w' l v rs := h.agree fun g hg => hb.block g (h.lt g hg)

def YW (xs x y : Nat) (F : Nat → Prop) (w : World) (s : Sto.Ss) : Prop := ∃ F1 v rs, XW x y F1 w s.r ∧ YsV xs x w s.l v rs ∧ (∀ g, YB xs v rs g → ¬ F1 g) ∧ Sto.Ok s ∧ F = fun g => F1 g ∨ YB xs v rs g

def YwS (xs x y : Nat) (F : Nat → Prop) (w w' : World) (s' : Sto.Ss) : Prop := ∃ F', YW xs x y F' w' s' ∧ Out F w w' ∧ ∀ g, F' g → F g ∨ w.heap.size ≤ g

theorem YW.lt (h : YW xs x y F w s) : ∀ g, F g → g < w.heap.size := by
 obtain ⟨F1, v, rs, h1, h2, _, _, rfl⟩ := h
 rintro g (hg | hg)
 ·exact h1.lt g hg
 ·exact h2.lt g hg
theorem YW.agree (h : YW xs x y F w s) (ha : ∀ g, F g → w'.heap[g]? = w.heap[g]?) (hs : w.heap.size ≤ w'.heap.size) : YW xs x y F w' s := by
 obtain ⟨F1, v, rs, h1, h2, h3, h4, rfl⟩ := h
 exact ⟨F1, v, rs, h1.agree (fun g hg => ha g (.inl hg)) hs, h2.agree fun g hg => ha g (.inr hg), h3, h4, rfl⟩
theorem YW.below (h : YW xs x y F w s) (hb : Below w.heap.size w w') : YW xs x y F w' s := h.agree (fun g hg => hb.block g (h.lt g hg)) hb.size
theorem YW.out (h : YW xs x y F w s) (ho : Out G w w') (hd : ∀ g, F g → ¬ G g) : YW xs x y F w' s := h.agree (fun g hg => ho.block g (h.lt g hg) (hd g hg)) ho.size
theorem YW.ok (h : YW xs x y F w s) : Sto.Ok s := by
 obtain ⟨F1, v, rs, h1, h2, h3, h4, rfl⟩ := h
 exact h4

theorem YwS.trans {F1 : Nat → Prop} (ho : Out F w w1) (hs : ∀ g, F1 g → F g ∨ w.heap.size ≤ g) (k : YwS xs x y F1 w1 w2 s') : YwS xs x y F w w2 s' := by
 obtain ⟨F2, h1, h2, h3⟩ := k
 refine ⟨F2, h1, ho.trans h2 hs, fun g hg => ?_⟩
 rcases h3 g hg with h | h
 ·exact hs g h
 ·exact .inr (Nat.le_trans ho.size h)
theorem YwS.same (h : YW xs x y F w s) (hb : Below w.heap.size w w') : YwS xs x y F w w' s := ⟨F, h.below hb, Out.of_below hb, fun g hg => .inl hg⟩
theorem YwS.pre (hb : Below w.heap.size w w1) (h : YwS xs x y F w1 w2 s') : YwS xs x y F w w2 s' := h.trans (Out.of_below hb) fun g hg => .inl hg

end

theorem dnone_any (xs : Nat) (w : World) (hc : w.cell? ⟨xs, 0, none⟩ = some (.bool true)) :
  Calls Tryz.prog 87 #[.pointer (some ⟨xs, 0, none⟩)] w fun E w' => E = .returned (.bool false) ∧ w = w' := by
 go_enter Tryz.func87, Tryz.ntmps87
 go_wp2
 go_ret
 exact ⟨rfl, rfl⟩

set_option maxHeartbeats 1000000 in
theorem dRest_any (xs x y : Nat) (F : Nat → Prop) (w : World) (s : Sto.Ss) (h : YW xs x y F w s) :
  Calls Tryz.prog 54 #[.pointer (some ⟨xs, 0, none⟩)] w fun E w' => E = .returned (.int .i64 s.l.length) ∧ w = w' := by
 obtain ⟨F1, v, rs, h1, h2, h3, h4, hF⟩ := h
 have c0 : w.cell? ⟨xs, 0, none⟩ = some (.bool true) := blk_cell h2.blk 0 rfl
 have c2 : w.cell? ⟨xs, 2, none⟩ = some v := blk_cell h2.blk 2 rfl
 have HN := hide (dnone_any xs w c0)
 obtain ⟨a1, k1, hv, _, _⟩ := h2.rest.row.row.shape
 rw [h2.rest.len] at hv
 subst hv
 clear h1 h2 h3 h4 hF
 go_enter Tryz.func54, Tryz.ntmps54
 go_wp2_with fail
 refine HN.out.mono ?_
 rintro E w1 ⟨rfl, rfl⟩
 go_wp2
 go_ret
 exact ⟨rfl, rfl⟩

end Go.Proofs.YtmmfakpphjjjfaaGreat

/- The steps of a region of End's. -/
namespace Go.Proofs.YtmmfakpphjjjfaaGreat
open Go.RowKit
set_option linter.unusedVariables false

theorem wzm_new : Array.replicate 12 false = lst 12 0 := by kernel_rfl

theorem wzm_size : (regOf 3 Tryz.f49).size = 12 := by kernel_rfl

theorem wzm_t0_0 : Region.free .any (regOf 3 Tryz.f49) (lst 12 0) 0 = true ∧ (Region.ready .any (regOf 3 Tryz.f49) (lst 12 0)).contains 0 = true ∧ (lst 12 0).setIfInBounds 0 true = lst 12 1 := ⟨by kernel_rfl, by kernel_rfl, by kernel_rfl⟩

theorem wzm_t1_1 : Region.free .any (regOf 3 Tryz.f49) (lst 12 1) 1 = true ∧ (Region.ready .any (regOf 3 Tryz.f49) (lst 12 1)).contains 1 = true ∧ (lst 12 1).setIfInBounds 1 true = lst 12 3 := ⟨by kernel_rfl, by kernel_rfl, by kernel_rfl⟩

theorem wzm_t3_2 : Region.free .any (regOf 3 Tryz.f49) (lst 12 3) 2 = true ∧ (Region.ready .any (regOf 3 Tryz.f49) (lst 12 3)).contains 2 = true ∧ (lst 12 3).setIfInBounds 2 true = lst 12 7 := ⟨by kernel_rfl, by kernel_rfl, by kernel_rfl⟩

theorem wzm_t7_3 : Region.free .any (regOf 3 Tryz.f49) (lst 12 7) 3 = true ∧ (Region.ready .any (regOf 3 Tryz.f49) (lst 12 7)).contains 3 = true ∧ (lst 12 7).setIfInBounds 3 true = lst 12 15 := ⟨by kernel_rfl, by kernel_rfl, by kernel_rfl⟩

theorem wzm_t15_5 : Region.free .any (regOf 3 Tryz.f49) (lst 12 15) 5 = true ∧ (Region.ready .any (regOf 3 Tryz.f49) (lst 12 15)).contains 5 = true ∧ (lst 12 15).setIfInBounds 5 true = lst 12 47 := ⟨by kernel_rfl, by kernel_rfl, by kernel_rfl⟩

theorem wzm_t47_6 : Region.free .any (regOf 3 Tryz.f49) (lst 12 47) 6 = true ∧ (Region.ready .any (regOf 3 Tryz.f49) (lst 12 47)).contains 6 = true ∧ (lst 12 47).setIfInBounds 6 true = lst 12 111 := ⟨by kernel_rfl, by kernel_rfl, by kernel_rfl⟩

theorem wzm_t111_7 : Region.free .any (regOf 3 Tryz.f49) (lst 12 111) 7 = true ∧ (Region.ready .any (regOf 3 Tryz.f49) (lst 12 111)).contains 7 = true ∧ (lst 12 111).setIfInBounds 7 true = lst 12 239 := ⟨by kernel_rfl, by kernel_rfl, by kernel_rfl⟩

theorem wzm_t239_8 : Region.free .any (regOf 3 Tryz.f49) (lst 12 239) 8 = true ∧ (Region.ready .any (regOf 3 Tryz.f49) (lst 12 239)).contains 8 = true ∧ (lst 12 239).setIfInBounds 8 true = lst 12 495 := ⟨by kernel_rfl, by kernel_rfl, by kernel_rfl⟩

theorem wzm_t495_9 : Region.free .any (regOf 3 Tryz.f49) (lst 12 495) 9 = true ∧ (Region.ready .any (regOf 3 Tryz.f49) (lst 12 495)).contains 9 = true ∧ (lst 12 495).setIfInBounds 9 true = lst 12 1007 := ⟨by kernel_rfl, by kernel_rfl, by kernel_rfl⟩

theorem wzm_r1007 : Region.ready .any (regOf 3 Tryz.f49) (lst 12 1007) = [4] ∧ (lst 12 1007).setIfInBounds 4 true = lst 12 1023 := ⟨by kernel_rfl, by kernel_rfl⟩

theorem wzm_t1023_10 : Region.free .any (regOf 3 Tryz.f49) (lst 12 1023) 10 = true ∧ (Region.ready .any (regOf 3 Tryz.f49) (lst 12 1023)).contains 10 = true ∧ (lst 12 1023).setIfInBounds 10 true = lst 12 2047 := ⟨by kernel_rfl, by kernel_rfl, by kernel_rfl⟩

theorem wzm_t2047_11 : Region.free .any (regOf 3 Tryz.f49) (lst 12 2047) 11 = true ∧ (Region.ready .any (regOf 3 Tryz.f49) (lst 12 2047)).contains 11 = true ∧ (lst 12 2047).setIfInBounds 11 true = lst 12 4095 := ⟨by kernel_rfl, by kernel_rfl, by kernel_rfl⟩

theorem wzm_end : Region.ready .any (regOf 3 Tryz.f49) (lst 12 4095) = [] := by kernel_rfl

end Go.Proofs.YtmmfakpphjjjfaaGreat

/- The document's store: End, its fold, Get, All. -/
namespace Go.Proofs.YtmmfakpphjjjfaaGreat
open Go.RowKit
open Bm (Ov)
set_option linter.unusedVariables false

set_option maxRecDepth 20000 in
set_option maxHeartbeats 1000000 in
theorem dEnd_any (xs x y : Nat) (F : Nat → Prop) (w : World) (s : Sto.Ss) (h : YW xs x y F w s) :
  Calls Tryz.prog 49 #[.pointer (some ⟨xs, 0, none⟩)] w fun E w' => E = .returned (.int .i64 (Sto.fin s)) ∧ Below w.heap.size w w' := by
 obtain ⟨b1, b2, b3, b4⟩ := h.ok.bound
 have HY := hide h
 obtain ⟨F1, v, rs, h1, h2, h3, h4, hF⟩ := h
 obtain ⟨F3, v3, rs3, g1, g2, g3, hG⟩ := h1
 have c0 : w.cell? ⟨xs, 0, none⟩ = some (.bool true) := blk_cell h2.blk 0 rfl
 have HN := hide (dnone_any xs w c0)
 obtain ⟨a1, k1, hv, _, _⟩ := h2.rest.row.row.shape
 rw [h2.rest.len] at hv
 have SX : Hid (∀ W, Below w.heap.size w W → W.cell? ⟨xs, 1, none⟩ = some (.pointer (some ⟨x, 0, none⟩)) ∧ W.cell? ⟨xs, 2, none⟩ = some (.slice a1 s.l.length k1)) := hide fun W hW => by
  have hb := (hW.block xs (blk_lt h2.blk)).trans h2.blk
  exact ⟨blk_cell hb 1 rfl, (blk_cell hb 2 rfl).trans (by rw [← hv]; rfl)⟩
 have HE : Hid (∀ W, Below w.heap.size w W → Calls Tryz.prog 44 #[.pointer (some ⟨x, 0, none⟩)] W fun E w' => E = .returned (.int .i64 (Cm.lastN 0 s.r.l)) ∧ Below w.heap.size w w') := hide fun W hW => by
  refine (xend_any x y W s.r.l s.r.bk v3 rs3 (g2.below hW)).mono ?_
  rintro E w' ⟨rfl, m, rfl⟩
  exact ⟨rfl, below_drewN hW m⟩
 have hfin : Sto.fin s = Cm.lastN 0 s.r.l + s.l.length := rfl
 rw [hfin] at b3 ⊢
 generalize Cm.lastN 0 s.r.l = le at *
 generalize s.l.length = n at *
 have hwr : IntKind.i64.wrap (le + (n : Int)) = le + n := wrap_i64_small _ (by omega) (by omega)
 obtain ⟨W0, hW0⟩ : ∃ x, w.drew = x := ⟨_, rfl⟩
 have bel0 : Below w.heap.size w W0 := by rw [← hW0]; exact (Below.refl _ _).drew
 clear h2 h3 h4 hF g1 g2 g3 hG hv hfin HY
 go_enter Tryz.func49, Tryz.ntmps49
 go_wp2_with fail
 refine HN.out.mono ?_
 rintro E w1 ⟨rfl, rfl⟩
 clear HN c0
 go_wp2_with fail
 refine region_any (ops := (regOf 3 Tryz.f49)) (S := fun W => W.cell? ⟨xs, 1, none⟩ = some (.pointer (some ⟨x, 0, none⟩)) ∧ W.cell? ⟨xs, 2, none⟩ = some (.slice a1 n k1)) (by kernel_rfl) wzm_size ?_
 rw [wzm_new, hW0]
 refine any_take (v := ?_) wzm_t0_0 (by kernel_rfl) (fun _ _ _ _ _ h => h) (SX.out _ bel0) rfl rfl (by rfl) ?_ ?_
 rotate_left 1
 ·intro w hS
  (try dsimp only at hS)
  go_simp
  all_goals with_reducible rfl
 simp only [Act.put, List.setIfInBounds_toArray, List.set_cons_zero, List.set_cons_succ]
 refine any_take (v := ?_) wzm_t1_1 (by kernel_rfl) (fun _ _ _ _ _ h => h) (SX.out _ bel0) rfl rfl (by rfl) ?_ ?_
 rotate_left 1
 ·intro w hS
  (try dsimp only at hS)
  go_simp
  all_goals with_reducible rfl
 simp only [Act.put, List.setIfInBounds_toArray, List.set_cons_zero, List.set_cons_succ]
 refine any_take (v := ?_) wzm_t3_2 (by kernel_rfl) (fun _ _ _ _ _ h => h) (SX.out _ bel0) rfl rfl (by rfl) ?_ ?_
 rotate_left 1
 ·intro w hS
  (try dsimp only at hS)
  go_simp
  all_goals with_reducible rfl
 simp only [Act.put, List.setIfInBounds_toArray, List.set_cons_zero, List.set_cons_succ]
 refine any_take (v := ?_) wzm_t7_3 (by kernel_rfl) (fun _ _ _ _ _ h => h) (SX.out _ bel0) rfl rfl (by rfl) ?_ ?_
 rotate_left 1
 ·intro w hS
  (try dsimp only at hS)
  go_simp
  all_goals with_reducible rfl
 simp only [Act.put, List.setIfInBounds_toArray, List.set_cons_zero, List.set_cons_succ]
 refine any_take (v := ?_) wzm_t15_5 (by kernel_rfl) (fun _ _ _ _ _ h => h) (SX.out _ bel0) rfl rfl (by rfl) ?_ ?_
 rotate_left 1
 ·intro w hS
  (try dsimp only at hS)
  go_simp
  all_goals with_reducible rfl
 simp only [Act.put, List.setIfInBounds_toArray, List.set_cons_zero, List.set_cons_succ]
 refine any_take (v := ?_) wzm_t47_6 (by kernel_rfl) (fun _ _ _ _ _ h => h) (SX.out _ bel0) rfl rfl (by rfl) ?_ ?_
 rotate_left 1
 ·intro w hS
  (try dsimp only at hS)
  go_simp
  all_goals with_reducible rfl
 simp only [Act.put, List.setIfInBounds_toArray, List.set_cons_zero, List.set_cons_succ]
 refine any_take (v := ?_) wzm_t111_7 (by kernel_rfl) (fun _ _ _ _ _ h => h) (SX.out _ bel0) rfl rfl (by rfl) ?_ ?_
 rotate_left 1
 ·intro w hS
  (try dsimp only at hS)
  go_simp
  all_goals with_reducible rfl
 simp only [Act.put, List.setIfInBounds_toArray, List.set_cons_zero, List.set_cons_succ]
 refine any_take (v := ?_) wzm_t239_8 (by kernel_rfl) (fun _ _ _ _ _ h => h) (SX.out _ bel0) rfl rfl (by rfl) ?_ ?_
 rotate_left 1
 ·intro w hS
  (try dsimp only at hS)
  go_simp
  all_goals with_reducible rfl
 simp only [Act.put, List.setIfInBounds_toArray, List.set_cons_zero, List.set_cons_succ]
 refine any_take (v := ?_) wzm_t495_9 (by kernel_rfl) (fun _ _ _ _ _ h => h) (SX.out _ bel0) rfl rfl (by rfl) ?_ ?_
 rotate_left 1
 ·intro w hS
  (try dsimp only at hS)
  go_simp
  all_goals with_reducible rfl
 simp only [Act.put, List.setIfInBounds_toArray, List.set_cons_zero, List.set_cons_succ]
 refine any_one wzm_r1007 ?_
 refine any_op rfl (by rfl) (fun K hK => ?_)
 go_simp
 refine (HE.out _ bel0).mono ?_
 rintro E W1 ⟨rfl, bel1⟩
 go_wp2_with fail
 refine hK.out _ _ (SX.out _ bel1) ?_
 clear hK K
 try simp only [Act.put, List.setIfInBounds_toArray, List.set_cons_zero, List.set_cons_succ]
 refine any_take (v := ?_) wzm_t1023_10 (by kernel_rfl) (fun _ _ _ _ _ h => h) (SX.out _ bel1) rfl rfl (by rfl) ?_ ?_
 rotate_left 1
 ·intro w hS
  (try dsimp only at hS)
  go_simp
  all_goals with_reducible rfl
 simp only [Act.put, List.setIfInBounds_toArray, List.set_cons_zero, List.set_cons_succ]
 refine any_take (v := ?_) wzm_t2047_11 (by kernel_rfl) (fun _ _ _ _ _ h => h) (SX.out _ bel1) rfl rfl (by rfl) ?_ ?_
 rotate_left 1
 ·intro w hS
  (try dsimp only at hS)
  go_simp
  all_goals with_reducible rfl
 simp only [Act.put, List.setIfInBounds_toArray, List.set_cons_zero, List.set_cons_succ]
 refine any_done wzm_end ?_
 have B1 := hide bel1
 go_wp2
 go_ret
 exact ⟨rfl, B1.out⟩

theorem app_take {t : List Ov} {l : List Cm.Cv} {k : Nat} {c : Cm.Cv} (hc : l[k]? = some c) : Tm.app t (Rl.ops (l.take (k + 1))) = Tm.app (Tm.app t (Rl.ops (l.take k))) c.l := by
 have e : l.take (k + 1) = l.take k ++ [c] := by rw [List.take_add_one, hc]; rfl
 rw [e, Rl.ops_snoc]
 exact Tm.app_app _ _ _

theorem app_ops_len (t : List Ov) (l : List Ov) : (Tm.app t l).length ≤ t.length + l.length := xapp_len l t

set_option maxRecDepth 20000 in
set_option maxHeartbeats 2000000 in
theorem dfold_any (xs x y : Nat) (F : Nat → Prop) (w : World) (s : Sto.Ss) (h : YW xs x y F w s) (hr : (Rl.ops s.r.l).length ≤ 400000) (hl : (Rl.ops s.l).length ≤ 400000) :
  Calls Tryz.prog 56 #[.pointer (some ⟨xs, 0, none⟩)] w fun E w' => ∃ v, E = .returned (.pointer (some ⟨w.heap.size, 0, none⟩)) ∧ Dt w.heap.size w.heap.size w' v (Sto.fold s) ∧ Below w.heap.size w w' := by
 have ok := h.ok
 obtain ⟨F1, v, rs, h1, h2, h3, h4, hF⟩ := h
 obtain ⟨F3, v3, rs3, g1, g2, g3, hG⟩ := h1
 obtain ⟨a1, k1, hv, _, _⟩ := h2.rest.row.row.shape
 have hcr := Rl.ops_c ok.run
 have hf : FitO (Rl.ops s.r.l) := fit_ops hcr
 have ha : Tm.aft [] (Rl.ops s.r.l) = Rl.tab s.r.l := by
  unfold Tm.aft
  rw [if_pos (Bm.first_all hcr)]
  rfl
 have YV := hide h2
 have XV := hide g2
 have OKK := hide ok
 have HF := hide hf
 have HA := hide ha
 have hn := h2.rest.len
 have hfew := h2.rest.few
 have htl := tab_len s.r.l
 have CE : Hid (∀ W, Below w.heap.size w W → W.cell? ⟨xs, 0, none⟩ = some (.bool true) ∧ W.cell? ⟨xs, 1, none⟩ = some (.pointer (some ⟨x, 0, none⟩)) ∧ W.cell? ⟨xs, 2, none⟩ = some (.slice a1 rs.length k1)) := hide fun W hW => by
  have hb := (hW.block xs (blk_lt h2.blk)).trans h2.blk
  exact ⟨blk_cell hb 0 rfl, blk_cell hb 1 rfl, (blk_cell hb 2 rfl).trans (by rw [← hv]; rfl)⟩
 have HV := hide hv
 have HNN := hide hn
 clear h2 h3 h4 hF g1 g2 g3 hG hv ok hcr hf ha hn
 go_enter Tryz.func56, Tryz.ntmps56
 go_wp2_with fail
 refine (tnewR_any w).mono ?_
 rintro E w1 ⟨rfl, D1, b1⟩
 obtain ⟨c0, c1, c2⟩ := CE.out w1 b1
 have HN := hide (dnone_any xs w1 c0)
 have DH := hide D1
 have BH := hide b1
 have XO := hide (xops_any x y w1 s.r.l s.r.bk v3 rs3 (XV.out.below b1) (by omega))
 clear D1 b1
 go_wp2_with fail
 refine HN.out.mono ?_
 rintro E w2 ⟨rfl, rfl⟩
 clear HN
 go_wp2_with fail
 refine XO.out.mono ?_
 rintro E w2 ⟨u, rfl, ou, b2⟩
 have hlt := DH.out.lt
 have AP := hide (applyR_any w.heap.size w.heap.size w2 _ u [] (Rl.ops s.r.l) (DH.out.below b2) List.Pairwise.nil ou.is (fun _ b hb e => by have := (ou.block b hb).1; omega) HF.out (by simp; omega) (Nat.le_trans BH.out.size b2.size))
 rw [HA.out] at AP
 have B2 := hide (BH.out.trans (b2.mono BH.out.size))
 obtain ⟨ua, uk, hu, _, _⟩ := ou.is.shape
 subst hu
 clear ou b2 XO DH BH hlt c0 c1 c2
 go_wp2_with fail
 refine AP.out.mono ?_
 rintro E w3 ⟨rfl, ⟨v3, D3, _⟩, o3⟩
 have B3 := hide (B2.out.trans (o3.below (fun g hg => by omega) B2.out.size))
 have DD3 := hide D3
 clear AP D3 o3 B2
 go_wp2
 go_loopw [4] (fun iv wr => ∃ (k : Nat) (vt : Value), k ≤ rs.length ∧ iv = .int .i64 k ∧ Hid (Dt w.heap.size w.heap.size wr vt (Tm.app (Rl.tab s.r.l) (Rl.ops (s.l.take k)))) ∧ Hid (Below w.heap.size w wr)) (fun iv _ => rs.length - (intOf iv).toNat)
 case atStart => exact ⟨0, v3, by omega, rfl, DD3, B3⟩
 case round =>
  obtain ⟨k, vt, hk, rfl, DR, BR⟩ := hrel
  clear DD3 B3
  obtain ⟨c0, c1, c2⟩ := CE.out wr BR.out
  have hfew := YV.out.rest.few
  have hnn := HNN.out
  by_cases hlt : k < rs.length
  ·have hlt' : (k : Int) < rs.length := by omega
   have hk0 : (0 : Int) ≤ (k : Int) := by omega
   have YR := YV.out.below BR.out
   obtain ⟨b1, o1, e1, hvx, _, _, hB, hcl⟩ := YR.rest.row.row.full (by omega)
   rw [HV.out] at hvx
   simp only [Value.slice.injEq, true_and] at hvx
   obtain ⟨rfl, rfl⟩ := hvx
   obtain ⟨c, hc⟩ : ∃ c, rs[k]? = some c := ⟨rs[k], by rw [List.getElem?_eq_getElem]⟩
   obtain ⟨y0, y1, y2⟩ := hcl k c hc
   have hcm := List.mem_of_getElem? hc
   have io := (YR.rest.cop c hcm)
   obtain ⟨ax, cx, hcv, _, _⟩ := io.is.shape
   have hlc := YR.rest.at hc
   obtain ⟨f1, f2, f3⟩ := Sto.good_ops OKK.out.rest c.c (List.mem_of_getElem? hlc)
   have haft : Tm.aft (Tm.app (Rl.tab s.r.l) (Rl.ops (s.l.take k))) c.l = Tm.app (Rl.tab s.r.l) (Rl.ops (s.l.take (k + 1))) := by
    unfold Tm.aft
    rw [if_pos (show Bm.first c.l = 0 from Bm.first_all f3), app_take hlc]
    rfl
   have hsum : (Tm.app (Rl.tab s.r.l) (Rl.ops (s.l.take k))).length ≤ 800000 := by
    have z1 := app_ops_len (Rl.tab s.r.l) (Rl.ops (s.l.take k))
    have z2 : (Rl.ops (s.l.take k)).length ≤ (Rl.ops s.l).length := by
     have : Rl.ops s.l = Rl.ops (s.l.take k) ++ Rl.ops (s.l.drop k) := by rw [← Sto.ops_app, List.take_append_drop]
     rw [this, List.length_append]
     omega
    omega
   have AP := hide (applyR_any w.heap.size w.heap.size wr vt c.v (Tm.app (Rl.tab s.r.l) (Rl.ops (s.l.take k))) c.l DR.out (Tm.up_app _ (Rl.up_tab _)) io.is (fun _ b hb e => by
    have q1 := YV.out.rest.lt b (.inr ⟨c, hcm, hb⟩)
    omega) (YR.rest.fit c hcm).1 (by have : c.l.length ≤ 8 := f2; omega) BR.out.size)
   rw [haft] at AP
   rw [hcv] at AP y2
   clear hcl hc hcv hlc f3 haft hcm YR io
   go_wp2_with fail
   refine AP.out.mono ?_
   rintro E w4 ⟨rfl, ⟨v4, D4, _⟩, o4⟩
   have B4 := hide (BR.out.trans (o4.below (fun g hg => by omega) BR.out.size))
   have DD4 := hide D4
   clear AP D4 o4
   go_wp2
   go_roundw
   case rel => exact ⟨k + 1, v4, by omega, by go_num, DD4, B4⟩
   case measure => simp [intOf]; omega
  ·have hge : ¬ (k : Int) < rs.length := by omega
   have e : s.l.take k = s.l := List.take_of_length_le (by omega)
   have DF : Hid (Dt w.heap.size w.heap.size wr vt (Sto.fold s)) := hide (by
    have := DR.out
    rw [e] at this
    exact this)
   clear DR
   go_wp2
   go_ret
   first | exact ⟨vt, rfl, DF.out, BR.out⟩ | exact ⟨rfl, ⟨vt, DF.out⟩, BR.out⟩

theorem fold_len (s : Sto.Ss) : (Sto.fold s).length ≤ (Rl.ops s.r.l).length + (Rl.ops s.l).length := by
 have z1 := app_ops_len (Rl.tab s.r.l) (Rl.ops s.l)
 have z2 := tab_len s.r.l
 show (Tm.app (Rl.tab s.r.l) (Rl.ops s.l)).length ≤ _
 omega

set_option maxHeartbeats 1000000 in
theorem dGet_any (xs x y : Nat) (F : Nat → Prop) (w : World) (s : Sto.Ss) (key : ByteArray) (h : YW xs x y F w s) (hr : (Rl.ops s.r.l).length ≤ 400000) (hl : (Rl.ops s.l).length ≤ 400000) :
  Calls Tryz.prog 55 #[.pointer (some ⟨xs, 0, none⟩), .string key] w fun E w' => E = .returned (.tuple #[.string (gv (Sto.fold s) key), .bool (gp (Sto.fold s) key)]) ∧ Below w.heap.size w w' := by
 have FO := hide (dfold_any xs x y F w s h hr hl)
 have hfl := fold_len s
 clear h
 go_enter Tryz.func55, Tryz.ntmps55
 go_wp2_with fail
 refine FO.out.mono ?_
 rintro E w1 ⟨v, rfl, D1, b1⟩
 have GR := hide (getR_any w.heap.size w.heap.size w1 v _ key D1 (by omega))
 have B1 := hide b1
 clear D1 b1 FO
 go_wp2_with fail
 refine GR.out.mono ?_
 rintro E w2 ⟨rfl, m, rfl⟩
 have B2 := hide (below_drewN B1.out m)
 go_wp2
 go_ret2
 exact ⟨rfl, B2.out⟩

set_option maxHeartbeats 1000000 in
theorem dAll_any (xs x y : Nat) (F : Nat → Prop) (w : World) (s : Sto.Ss) (h : YW xs x y F w s) (hr : (Rl.ops s.r.l).length ≤ 400000) (hl : (Rl.ops s.l).length ≤ 400000) :
  Calls Tryz.prog 19 #[.pointer (some ⟨xs, 0, none⟩)] w fun E w' => ∃ u, E = .returned u ∧ OwnO 65 w.heap.size w' u (Tm.live (Sto.fold s)) ∧ Below w.heap.size w w' := by
 have FO := hide (dfold_any xs x y F w s h hr hl)
 have hfl := fold_len s
 clear h
 go_enter Tryz.func19, Tryz.ntmps19
 go_wp2_with fail
 refine FO.out.mono ?_
 rintro E w1 ⟨v, rfl, D1, b1⟩
 have GR := hide (liveR_any w.heap.size w.heap.size w1 v _ D1 (by omega))
 have B1 := hide b1
 clear D1 b1 FO
 go_wp2_with fail
 refine GR.out.mono ?_
 rintro E w2 ⟨u, rfl, ou, b2⟩
 have O2 := hide (ou.rebase B1.out.size)
 have B2 := hide (B1.out.trans (b2.mono B1.out.size))
 obtain ⟨ua, uk, hu, _, _⟩ := ou.is.shape
 subst hu
 clear ou b2
 go_wp2
 go_ret
 exact ⟨_, rfl, O2.out, B2.out⟩

end Go.Proofs.YtmmfakpphjjjfaaGreat

/- The document's Copy and Copies of commits. -/
namespace Go.Proofs.YtmmfakpphjjjfaaGreat
open Go.RowKit
set_option linter.unusedVariables false

theorem ocells_g : ∀ (r : List Bm.Ov), ocells r = gcells ocell r
 | [] => rfl
 | c :: r => by rw [ocells, gcells, ocells_g r]

theorem ocell_len (o : Bm.Ov) : (ocell o).length = 3 := rfl

theorem ownO_g {e base : Nat} {w : World} {v : Value} {r : List Bm.Ov} : OwnO e base w v r ↔ OwnG ocell 3 e base w v r := by
 unfold OwnO OwnG
 rw [ocells_g]

theorem isO_g {w : World} {v : Value} {r : List Bm.Ov} : IsO w v r ↔ RowG ocell w v r := by
 unfold IsO RowG
 rw [ocells_g]

set_option maxRecDepth 20000 in
set_option maxHeartbeats 2000000 in
theorem copyX_any (e n : Int) (v : Value) (l : List Bm.Ov) (w : World) (h : IsO w v l) (hl : l.length * 40 ≤ 140737488351232) :
  Calls Tryz.prog 85 #[cmv e n v] w fun E w' => ∃ v', E = .returned (cmv e n v') ∧ OwnO 65 w.heap.size w' v' l ∧ Below w.heap.size w w' := by
 unfold cmv
 obtain ⟨w1, hw1, sz1, bel1, hB⟩ := blk_step w #[.int .i64 e, .int .i64 n, v] 50
 obtain ⟨w2, hw2, sz2, bel2, hR⟩ := blk_step w1 #[.int .i64 0, .int .i64 0, .slice none 0 0] 50
 rw [sz1] at hR
 have hB2 := (bel2.block w.heap.size (by omega)).trans hB
 have bel02 : Below w.heap.size w w2 := bel1.trans (bel2.mono (by omega))
 have h2 := h.below bel02
 have c0 : w2.cell? ⟨w.heap.size, 0, none⟩ = some (.int .i64 e) := blk_cell hB2 0 rfl
 have c1 : w2.cell? ⟨w.heap.size, 1, none⟩ = some (.int .i64 n) := blk_cell hB2 1 rfl
 have c2 : w2.cell? ⟨w.heap.size, 2, none⟩ = some v := blk_cell hB2 2 rfl
 have X : Hid (∀ ty, ∃ v' w', (Builtin.append_ #[48, 48] ty #[.slice none 0 0, v]).run Tryz.prog w2.drew = .ok v' w' ∧ ((∃ a k, v' = .slice a l.length k) ∧ (w'.cell? ⟨w.heap.size, 0, none⟩ = some (.int .i64 e) ∧ w'.cell? ⟨w.heap.size, 1, none⟩ = some (.int .i64 n) ∧ w'.cell? ⟨w.heap.size, 2, none⟩ = some v) ∧ (∃ V, ((w'.setCell ⟨w.heap.size + 1, 0, none⟩ (.int .i64 e)).setCell ⟨w.heap.size + 1, 1, none⟩ (.int .i64 n)).setCell ⟨w.heap.size + 1, 2, none⟩ v' = V ∧ (w'.cell? ⟨w.heap.size + 1, 0, none⟩ = some (.int .i64 0) ∧ w'.cell? ⟨w.heap.size + 1, 1, none⟩ = some (.int .i64 0) ∧ w'.cell? ⟨w.heap.size + 1, 2, none⟩ = some (.slice none 0 0)) ∧ (w'.frozen? ⟨w.heap.size + 1, 0, none⟩ = false ∧ w'.frozen? ⟨w.heap.size + 1, 1, none⟩ = false ∧ w'.frozen? ⟨w.heap.size + 1, 2, none⟩ = false) ∧ (V.cell? ⟨w.heap.size + 1, 0, none⟩ = some (.int .i64 e) ∧ V.cell? ⟨w.heap.size + 1, 1, none⟩ = some (.int .i64 n) ∧ V.cell? ⟨w.heap.size + 1, 2, none⟩ = some v') ∧ Hid (OwnO 65 w.heap.size V v' l ∧ Below w.heap.size w V)))) := hide fun ty => by
  obtain ⟨v', w', hr, hown, hg, _⟩ := run_append_rows_at (P := Tryz.prog) (w := w2.drew) 48 ty ocell 3 40 ocell_len (by decide) (by decide) (.agg #[.bool false, .string ⟨#[]⟩, .string ⟨#[]⟩]) rfl 65 w2.heap.size Tryz.underlying48 Tryz.info65 (.slice none 0 0) [] (OwnG.nil _ _ _ _ _) v l (isO_g.1 (h2.drewN 1)) (by
   rw [← ocells_g]
   exact ocells_cell l) (by simp; omega) (Nat.le_refl _)
  rw [List.nil_append] at hown
  have bw : Below w2.heap.size w2 w' := ((Below.refl w2.heap.size w2).drew).grown hg (Nat.le_refl _) fun g e => by simp [Value.ownBlock] at e
  have szw := bw.size
  have k1 := (bw.block w.heap.size (by omega)).trans hB2
  have k2 := (bw.block (w.heap.size + 1) (by omega)).trans hR
  obtain ⟨V, hV, bV, gV, a, f, z⟩ := res_step k2 (.int .i64 e) (.int .i64 n) v'
  have ownV := ((ownO_g.2 hown).keptg gV (by omega)).rebase (base' := w.heap.size) (by omega)
  obtain ⟨xa, xc, hx, _⟩ := hown.row.shape
  exact ⟨v', w', hr, ⟨xa, xc, hx⟩, ⟨blk_cell k1 0 rfl, blk_cell k1 1 rfl, blk_cell k1 2 rfl⟩, V, hV, a, f, z, hide ⟨ownV, below_put (bel02.trans (bw.mono (by omega))) gV (by omega) (by omega)⟩⟩
 obtain ⟨ao, cap, hv, _, _⟩ := h.shape
 rw [hv] at hw1 c2 X ⊢
 clear h h2 hB hB2 hR bel1 bel2 bel02 hv hl
 go_enter Tryz.func85, Tryz.ntmps85
 go_wp2_with fail
 go_region_law (refine step_append_at rfl (.tmp 8) (.tmp 10) 48 rfl (.slice none 0 0) (.slice ao l.length cap) (by first | rfl | (simp [Act.eval]; done)) (by first | rfl | (simp [Act.eval]; done)) X.out ?_; rintro v7 w7 ⟨⟨a7, k7, rfl⟩, ⟨y0, y1, y2⟩, V, hV, ⟨a0, a1, a2⟩, ⟨f0, f1, f2⟩, ⟨z0, z1, z2⟩, J⟩)
 all_goals
  go_wp2
  refine bodyPost_ret (v := .agg #[.int .i64 e, .int .i64 n, .slice a7 l.length k7]) (by simp [results, Tryz.results85, go_sem, z0, z1, z2]) rfl ?_
  exact ⟨_, rfl, J.out⟩

theorem FitC.one {e n : Int} {v : Value} {o : List Bm.Ov} (hf : FitO o) (hl : o.length * 40 ≤ 140737488351232) : FitC [⟨e, n, v, o⟩] := fun c hc => by rw [List.mem_singleton.1 hc]; exact ⟨hf, hl⟩

theorem one_row {w : World} {a : Nat} {e n : Int} {v : Value} {o : List Bm.Ov} {t : TypeId} (h : w.heap[a]? = some (.cells #[.int .i64 e, .int .i64 n, v] t (0, 0))) : RowC w (.slice (some ⟨a, 0, none⟩) 1 1) [⟨e, n, v, o⟩] := by
 refine .inr ⟨⟨a, 0, none⟩, 1, rfl, by simp, by simp [maxLen], fun j u hj => ?_⟩
 rw [add_at]
 simp only [ccells, ccell, List.append_nil] at hj
 match j, hj with
 | 0, hj => simp at hj; subst hj; exact blk_cell h 0 rfl
 | 1, hj => simp at hj; subst hj; exact blk_cell h 1 rfl
 | 2, hj => simp at hj; subst hj; exact blk_cell h 2 rfl
 | k + 3, hj => simp at hj

end Go.Proofs.YtmmfakpphjjjfaaGreat

/- The document's store: a commit more. -/
namespace Go.Proofs.YtmmfakpphjjjfaaGreat
open Go.RowKit
open Bm (Ov)
set_option linter.unusedVariables false

theorem Tryz.enters85 : ∀ args w, (callFunc 85 args).run Tryz.prog w = .ok (.enter 85 args) w := enters_of Tryz.func85 (by kernel_rfl) rfl

theorem y_push {xs x : Nat} {w wc : World} {l : List Cm.Cv} {v : Value} {rs : List Cw} {c : Cw} (hv : YsV xs x w l v rs) (hb : Below w.heap.size w wc) (hc : OwnO 65 w.heap.size wc c.v c.l) (hg : Cm.chk c.e c.n c.l = 0) (hn : l.length + 1 ≤ 1048576) (ty : TypeId) :
  ∃ V, wc.alloc (.cells #[.int .i64 c.e, .int .i64 c.n, c.v] 50) = V ∧ V.cell? ⟨xs, 2, none⟩ = some v ∧ ∃ v2 w2, (Builtin.append_ #[22, 22] ty #[v, .slice (some ⟨wc.heap.size, 0, none⟩) 1 1]).run Tryz.prog V = .ok v2 w2 ∧ w2.cell? ⟨xs, 2, none⟩ = some v ∧ w2.frozen? ⟨xs, 2, none⟩ = false ∧ (∃ a n k, v2 = .slice a n k) ∧
   YsV xs x (w2.setCell ⟨xs, 2, none⟩ v2) (l ++ [c.c]) v2 (rs ++ [c]) ∧ Out (YB xs v rs) w (w2.setCell ⟨xs, 2, none⟩ v2) ∧ ∀ g, YB xs v2 (rs ++ [c]) g → YB xs v rs g ∨ w.heap.size ≤ g := by
 have hsz := hb.size
 obtain ⟨V, hV, szV, belV, ownV⟩ := coms_step 50 wc #[.int .i64 c.e, .int .i64 c.n, c.v] 1 [c] rfl rfl (by simp [maxLen])
 have bwV := hb.trans (belV.mono hsz)
 have qV := hv.rest.below bwV
 have BV := (bwV.block xs (blk_lt hv.blk)).trans hv.blk
 have hone : ∀ d ∈ [c], d.v.oneCell' = true := fun d hd => by rw [List.mem_singleton.1 hd]; exact hc.is.one
 obtain ⟨v2, w2, hr, own2, gr2, at2⟩ := run_append_coms_at (P := Tryz.prog) (w := V) 22 ty 50 0 Tryz.underlying22 Tryz.info50 v rs qV.row _ [c] ownV.row hone (by have h1 := hv.rest.len; simp; omega) (Nat.zero_le _)
 have kp : KeepT 50 V w2 := KeepT.of_row qV.row gr2
 have q2 := qV.grow own2 kp ((hc.below belV).rebase (Nat.zero_le _)) hg hn
 have hpn : ¬ v.ownBlock = some xs := fun e => qV.ne BV (by decide) (by decide) (.inl e)
 have B2 := (gr2.block xs (blk_lt BV) (fun e => hpn e.symm)).trans BV
 obtain ⟨X, hX, bX, gX, fX⟩ := put_at3 B2 2 v2
 have qX : Rt 0 X (l ++ [c.c]) v2 (rs ++ [c]) := q2.agree fun g hg => gX.block g (q2.lt g hg) fun e => by
  simp at e
  exact q2.ne B2 (by decide) (by decide) (e ▸ hg)
 have o : Out (YB xs v rs) w X := ((Out.of_below (F := YB xs v rs) bwV).trans (Out.of_grown (F := YB xs v rs) gr2 fun g hg => .inr (.inl hg)) fun g hg => .inl hg).trans (Out.of_grown (F := YB xs v rs) gX fun g hg => .inl (by simpa using hg.symm)) fun g hg => .inl hg
 refine ⟨V, hV, blk_cell BV 2 rfl, v2, w2, hr, blk_cell B2 2 rfl, fX, ?_, ?_⟩
 ·obtain ⟨a1, k1, h1, _⟩ := own2.row.shape
  exact ⟨a1, _, k1, h1⟩
 ·rw [hX]
  refine ⟨⟨bX, qX⟩, o, ?_⟩
  rintro g (e | e | ⟨d, hd, e⟩)
  ·exact .inl (.inl e)
  ·rcases at2 with h | h
   ·exact .inl (.inr (.inl (h ▸ e)))
   ·rw [h] at e
    simp at e
    exact .inr (by omega)
  ·rcases List.mem_append.1 hd with hd | hd
   ·exact .inl (.inr (.inr ⟨d, hd, e⟩))
   ·rw [List.mem_singleton.1 hd] at e
    exact .inr (hc.block g e).1

theorem YwS.rest {xs x y : Nat} {F1 : Nat → Prop} {w X : World} {s : Sto.Ss} {l' : List Cm.Cv} {v v2 : Value} {rs rs2 : List Cw} (h1 : XW x y F1 w s.r) (hy : YsV xs x w s.l v rs) (h3 : ∀ g, YB xs v rs g → ¬ F1 g) (hX : YsV xs x X l' v2 rs2) (o : Out (YB xs v rs) w X) (hn : ∀ g, YB xs v2 rs2 g → YB xs v rs g ∨ w.heap.size ≤ g) (ok : Sto.Ok ⟨s.r, l'⟩) :
  YwS xs x y (fun g => F1 g ∨ YB xs v rs g) w X ⟨s.r, l'⟩ := by
 refine ⟨_, ⟨F1, v2, rs2, h1.out o fun g hg e => h3 g e hg, hX, fun g hg hf => ?_, ok, rfl⟩, o.mono fun g hg => .inl (.inr hg), ?_⟩
 ·rcases hn g hg with e | e
  ·exact h3 g e hf
  ·have := h1.lt g hf
   omega
 ·rintro g (e | e)
  ·exact .inl (.inl e)
  ·rcases hn g e with e | e
   ·exact .inl (.inr e)
   ·exact .inr e

theorem dlast {l : List Cm.Cv} {k : Nat} {c : Cm.Cv} (hk : l[k]? = some c) (hl : l.length = k + 1) (e : Int) : Cm.lastE e l = c.e := by
 rcases List.eq_nil_or_concat l with rfl | ⟨r, d, rfl⟩
 ·simp at hk
 ·rw [List.concat_eq_append] at hk hl ⊢
  have : k = r.length := by simp at hl; omega
  subst this
  simp at hk
  subst hk
  clear hl
  induction r generalizing e with
  | nil => rfl
  | cons a r ih => exact ih a.e

theorem apl_is (s : Sto.Ss) (c : Cm.Cv) : Sto.apl s c = if Cm.chk c.e c.n c.l ≠ 0 then (Cm.chk c.e c.n c.l, s) else if (Cm.fol (Cm.lastE 1 s.l) (Sto.fin s) 0 [c]) ≠ (0, 0) then (15, s) else (0, ⟨s.r, s.l ++ [c]⟩) := by
 unfold Sto.apl
 by_cases h : Cm.chk c.e c.n c.l = 0
 ·rw [if_neg (by simp [h] : ¬ Cm.chk c.e c.n c.l ≠ 0)]
  by_cases h2 : c.n - 1 ≠ Sto.fin s ∨ c.e < Cm.lastE 1 s.l
  ·rw [Cm.fol_off h h2, if_pos (by decide), if_pos (by simp)]
  ·rw [Cm.fol_on h h2, Cm.fol_nil, if_neg (by decide), if_neg (by simp)]
 ·rw [if_pos h, Cm.fol_bad h, if_pos h]

end Go.Proofs.YtmmfakpphjjjfaaGreat

/- The steps of a region of Apply's. -/
namespace Go.Proofs.YtmmfakpphjjjfaaGreat
open Go.RowKit
set_option linter.unusedVariables false

theorem wzn_new : Array.replicate 14 false = lst 14 0 := by kernel_rfl

theorem wzn_size : (regOf 8 Tryz.f51).size = 14 := by kernel_rfl

theorem wzn_t0_0 : Region.free .any (regOf 8 Tryz.f51) (lst 14 0) 0 = true ∧ (Region.ready .any (regOf 8 Tryz.f51) (lst 14 0)).contains 0 = true ∧ (lst 14 0).setIfInBounds 0 true = lst 14 1 := ⟨by kernel_rfl, by kernel_rfl, by kernel_rfl⟩

theorem wzn_t1_1 : Region.free .any (regOf 8 Tryz.f51) (lst 14 1) 1 = true ∧ (Region.ready .any (regOf 8 Tryz.f51) (lst 14 1)).contains 1 = true ∧ (lst 14 1).setIfInBounds 1 true = lst 14 3 := ⟨by kernel_rfl, by kernel_rfl, by kernel_rfl⟩

theorem wzn_t3_2 : Region.free .any (regOf 8 Tryz.f51) (lst 14 3) 2 = true ∧ (Region.ready .any (regOf 8 Tryz.f51) (lst 14 3)).contains 2 = true ∧ (lst 14 3).setIfInBounds 2 true = lst 14 7 := ⟨by kernel_rfl, by kernel_rfl, by kernel_rfl⟩

theorem wzn_t7_3 : Region.free .any (regOf 8 Tryz.f51) (lst 14 7) 3 = true ∧ (Region.ready .any (regOf 8 Tryz.f51) (lst 14 7)).contains 3 = true ∧ (lst 14 7).setIfInBounds 3 true = lst 14 15 := ⟨by kernel_rfl, by kernel_rfl, by kernel_rfl⟩

theorem wzn_t15_4 : Region.free .any (regOf 8 Tryz.f51) (lst 14 15) 4 = true ∧ (Region.ready .any (regOf 8 Tryz.f51) (lst 14 15)).contains 4 = true ∧ (lst 14 15).setIfInBounds 4 true = lst 14 31 := ⟨by kernel_rfl, by kernel_rfl, by kernel_rfl⟩

theorem wzn_t31_5 : Region.free .any (regOf 8 Tryz.f51) (lst 14 31) 5 = true ∧ (Region.ready .any (regOf 8 Tryz.f51) (lst 14 31)).contains 5 = true ∧ (lst 14 31).setIfInBounds 5 true = lst 14 63 := ⟨by kernel_rfl, by kernel_rfl, by kernel_rfl⟩

theorem wzn_t63_6 : Region.free .any (regOf 8 Tryz.f51) (lst 14 63) 6 = true ∧ (Region.ready .any (regOf 8 Tryz.f51) (lst 14 63)).contains 6 = true ∧ (lst 14 63).setIfInBounds 6 true = lst 14 127 := ⟨by kernel_rfl, by kernel_rfl, by kernel_rfl⟩

theorem wzn_t127_7 : Region.free .any (regOf 8 Tryz.f51) (lst 14 127) 7 = true ∧ (Region.ready .any (regOf 8 Tryz.f51) (lst 14 127)).contains 7 = true ∧ (lst 14 127).setIfInBounds 7 true = lst 14 255 := ⟨by kernel_rfl, by kernel_rfl, by kernel_rfl⟩

theorem wzn_t255_8 : Region.free .any (regOf 8 Tryz.f51) (lst 14 255) 8 = true ∧ (Region.ready .any (regOf 8 Tryz.f51) (lst 14 255)).contains 8 = true ∧ (lst 14 255).setIfInBounds 8 true = lst 14 511 := ⟨by kernel_rfl, by kernel_rfl, by kernel_rfl⟩

theorem wzn_t511_9 : Region.free .any (regOf 8 Tryz.f51) (lst 14 511) 9 = true ∧ (Region.ready .any (regOf 8 Tryz.f51) (lst 14 511)).contains 9 = true ∧ (lst 14 511).setIfInBounds 9 true = lst 14 1023 := ⟨by kernel_rfl, by kernel_rfl, by kernel_rfl⟩

theorem wzn_t1023_10 : Region.free .any (regOf 8 Tryz.f51) (lst 14 1023) 10 = true ∧ (Region.ready .any (regOf 8 Tryz.f51) (lst 14 1023)).contains 10 = true ∧ (lst 14 1023).setIfInBounds 10 true = lst 14 2047 := ⟨by kernel_rfl, by kernel_rfl, by kernel_rfl⟩

theorem wzn_t2047_11 : Region.free .any (regOf 8 Tryz.f51) (lst 14 2047) 11 = true ∧ (Region.ready .any (regOf 8 Tryz.f51) (lst 14 2047)).contains 11 = true ∧ (lst 14 2047).setIfInBounds 11 true = lst 14 4095 := ⟨by kernel_rfl, by kernel_rfl, by kernel_rfl⟩

theorem wzn_t4095_12 : Region.free .any (regOf 8 Tryz.f51) (lst 14 4095) 12 = true ∧ (Region.ready .any (regOf 8 Tryz.f51) (lst 14 4095)).contains 12 = true ∧ (lst 14 4095).setIfInBounds 12 true = lst 14 8191 := ⟨by kernel_rfl, by kernel_rfl, by kernel_rfl⟩

theorem wzn_t8191_13 : Region.free .any (regOf 8 Tryz.f51) (lst 14 8191) 13 = true ∧ (Region.ready .any (regOf 8 Tryz.f51) (lst 14 8191)).contains 13 = true ∧ (lst 14 8191).setIfInBounds 13 true = lst 14 16383 := ⟨by kernel_rfl, by kernel_rfl, by kernel_rfl⟩

theorem wzn_end : Region.ready .any (regOf 8 Tryz.f51) (lst 14 16383) = [] := by kernel_rfl

theorem wzo_new : Array.replicate 8 false = lst 8 0 := by kernel_rfl

theorem wzo_size : (regOf 9 Tryz.f51).size = 8 := by kernel_rfl

theorem wzo_t0_0 : Region.free .any (regOf 9 Tryz.f51) (lst 8 0) 0 = true ∧ (Region.ready .any (regOf 9 Tryz.f51) (lst 8 0)).contains 0 = true ∧ (lst 8 0).setIfInBounds 0 true = lst 8 1 := ⟨by kernel_rfl, by kernel_rfl, by kernel_rfl⟩

theorem wzo_t1_1 : Region.free .any (regOf 9 Tryz.f51) (lst 8 1) 1 = true ∧ (Region.ready .any (regOf 9 Tryz.f51) (lst 8 1)).contains 1 = true ∧ (lst 8 1).setIfInBounds 1 true = lst 8 3 := ⟨by kernel_rfl, by kernel_rfl, by kernel_rfl⟩

theorem wzo_t3_3 : Region.free .any (regOf 9 Tryz.f51) (lst 8 3) 3 = true ∧ (Region.ready .any (regOf 9 Tryz.f51) (lst 8 3)).contains 3 = true ∧ (lst 8 3).setIfInBounds 3 true = lst 8 11 := ⟨by kernel_rfl, by kernel_rfl, by kernel_rfl⟩

theorem wzo_t11_6 : Region.free .any (regOf 9 Tryz.f51) (lst 8 11) 6 = true ∧ (Region.ready .any (regOf 9 Tryz.f51) (lst 8 11)).contains 6 = true ∧ (lst 8 11).setIfInBounds 6 true = lst 8 75 := ⟨by kernel_rfl, by kernel_rfl, by kernel_rfl⟩

theorem wzo_r75 : Region.ready .any (regOf 9 Tryz.f51) (lst 8 75) = [2, 4] ∧ (lst 8 75).setIfInBounds 2 true = lst 8 79 ∧ (lst 8 75).setIfInBounds 4 true = lst 8 91 := ⟨by kernel_rfl, by kernel_rfl, by kernel_rfl⟩

theorem wzo_r79 : Region.ready .any (regOf 9 Tryz.f51) (lst 8 79) = [4] ∧ (lst 8 79).setIfInBounds 4 true = lst 8 95 := ⟨by kernel_rfl, by kernel_rfl⟩

theorem wzo_r95 : Region.ready .any (regOf 9 Tryz.f51) (lst 8 95) = [5] ∧ (lst 8 95).setIfInBounds 5 true = lst 8 127 := ⟨by kernel_rfl, by kernel_rfl⟩

theorem wzo_t127_7 : Region.free .any (regOf 9 Tryz.f51) (lst 8 127) 7 = true ∧ (Region.ready .any (regOf 9 Tryz.f51) (lst 8 127)).contains 7 = true ∧ (lst 8 127).setIfInBounds 7 true = lst 8 255 := ⟨by kernel_rfl, by kernel_rfl, by kernel_rfl⟩

theorem wzo_end : Region.ready .any (regOf 9 Tryz.f51) (lst 8 255) = [] := by kernel_rfl

theorem wzo_r91 : Region.ready .any (regOf 9 Tryz.f51) (lst 8 91) = [2] ∧ (lst 8 91).setIfInBounds 2 true = lst 8 95 := ⟨by kernel_rfl, by kernel_rfl⟩

end Go.Proofs.YtmmfakpphjjjfaaGreat
