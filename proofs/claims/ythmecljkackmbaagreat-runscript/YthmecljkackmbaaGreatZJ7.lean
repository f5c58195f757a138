/- Texts of one layer, one behind the other. -/
import Derived.Test.YthmecljkackmbaaGreatZW
import Derived.Test.YthmecljkackmbaaGreatProg
import Derived.Test.YthmecljkackmbaaGreatZJ5
import Derived.Test.YthmecljkackmbaaGreatZJ6
/- The steps of a region of next's. -/
namespace Go.Proofs.YthmecljkackmbaaGreat
open Go.RowKit
set_option linter.unusedVariables false

theorem wzh_new : Array.replicate 14 false = lst 14 0 := by kernel_rfl

theorem wzh_size : (regOf 1 Tryz.f96).size = 14 := by kernel_rfl

theorem wzh_t0_0 : Region.free .any (regOf 1 Tryz.f96) (lst 14 0) 0 = true ∧ (Region.ready .any (regOf 1 Tryz.f96) (lst 14 0)).contains 0 = true ∧ (lst 14 0).setIfInBounds 0 true = lst 14 1 := ⟨by kernel_rfl, by kernel_rfl, by kernel_rfl⟩

theorem wzh_t1_1 : Region.free .any (regOf 1 Tryz.f96) (lst 14 1) 1 = true ∧ (Region.ready .any (regOf 1 Tryz.f96) (lst 14 1)).contains 1 = true ∧ (lst 14 1).setIfInBounds 1 true = lst 14 3 := ⟨by kernel_rfl, by kernel_rfl, by kernel_rfl⟩

theorem wzh_t3_2 : Region.free .any (regOf 1 Tryz.f96) (lst 14 3) 2 = true ∧ (Region.ready .any (regOf 1 Tryz.f96) (lst 14 3)).contains 2 = true ∧ (lst 14 3).setIfInBounds 2 true = lst 14 7 := ⟨by kernel_rfl, by kernel_rfl, by kernel_rfl⟩

theorem wzh_t7_3 : Region.free .any (regOf 1 Tryz.f96) (lst 14 7) 3 = true ∧ (Region.ready .any (regOf 1 Tryz.f96) (lst 14 7)).contains 3 = true ∧ (lst 14 7).setIfInBounds 3 true = lst 14 15 := ⟨by kernel_rfl, by kernel_rfl, by kernel_rfl⟩

theorem wzh_t15_4 : Region.free .any (regOf 1 Tryz.f96) (lst 14 15) 4 = true ∧ (Region.ready .any (regOf 1 Tryz.f96) (lst 14 15)).contains 4 = true ∧ (lst 14 15).setIfInBounds 4 true = lst 14 31 := ⟨by kernel_rfl, by kernel_rfl, by kernel_rfl⟩

theorem wzh_t31_5 : Region.free .any (regOf 1 Tryz.f96) (lst 14 31) 5 = true ∧ (Region.ready .any (regOf 1 Tryz.f96) (lst 14 31)).contains 5 = true ∧ (lst 14 31).setIfInBounds 5 true = lst 14 63 := ⟨by kernel_rfl, by kernel_rfl, by kernel_rfl⟩

theorem wzh_t63_8 : Region.free .any (regOf 1 Tryz.f96) (lst 14 63) 8 = true ∧ (Region.ready .any (regOf 1 Tryz.f96) (lst 14 63)).contains 8 = true ∧ (lst 14 63).setIfInBounds 8 true = lst 14 319 := ⟨by kernel_rfl, by kernel_rfl, by kernel_rfl⟩

theorem wzh_t319_9 : Region.free .any (regOf 1 Tryz.f96) (lst 14 319) 9 = true ∧ (Region.ready .any (regOf 1 Tryz.f96) (lst 14 319)).contains 9 = true ∧ (lst 14 319).setIfInBounds 9 true = lst 14 831 := ⟨by kernel_rfl, by kernel_rfl, by kernel_rfl⟩

theorem wzh_t831_10 : Region.free .any (regOf 1 Tryz.f96) (lst 14 831) 10 = true ∧ (Region.ready .any (regOf 1 Tryz.f96) (lst 14 831)).contains 10 = true ∧ (lst 14 831).setIfInBounds 10 true = lst 14 1855 := ⟨by kernel_rfl, by kernel_rfl, by kernel_rfl⟩

theorem wzh_r1855 : Region.ready .any (regOf 1 Tryz.f96) (lst 14 1855) = [6] ∧ (lst 14 1855).setIfInBounds 6 true = lst 14 1919 := ⟨by kernel_rfl, by kernel_rfl⟩

theorem wzh_t1919_7 : Region.free .any (regOf 1 Tryz.f96) (lst 14 1919) 7 = true ∧ (Region.ready .any (regOf 1 Tryz.f96) (lst 14 1919)).contains 7 = true ∧ (lst 14 1919).setIfInBounds 7 true = lst 14 2047 := ⟨by kernel_rfl, by kernel_rfl, by kernel_rfl⟩

theorem wzh_r2047 : Region.ready .any (regOf 1 Tryz.f96) (lst 14 2047) = [11] ∧ (lst 14 2047).setIfInBounds 11 true = lst 14 4095 := ⟨by kernel_rfl, by kernel_rfl⟩

theorem wzh_t4095_12 : Region.free .any (regOf 1 Tryz.f96) (lst 14 4095) 12 = true ∧ (Region.ready .any (regOf 1 Tryz.f96) (lst 14 4095)).contains 12 = true ∧ (lst 14 4095).setIfInBounds 12 true = lst 14 8191 := ⟨by kernel_rfl, by kernel_rfl, by kernel_rfl⟩

theorem wzh_r8191 : Region.ready .any (regOf 1 Tryz.f96) (lst 14 8191) = [13] ∧ (lst 14 8191).setIfInBounds 13 true = lst 14 16383 := ⟨by kernel_rfl, by kernel_rfl⟩

theorem wzh_end : Region.ready .any (regOf 1 Tryz.f96) (lst 14 16383) = [] := by kernel_rfl

end Go.Proofs.YthmecljkackmbaaGreat

/- The law's next: a run of an act's ops. -/
namespace Go.Proofs.YthmecljkackmbaaGreat
open Go.RowKit
open Bm (Ov)
set_option linter.unusedVariables false

set_option maxRecDepth 20000 in
set_option maxHeartbeats 2000000 in
theorem rnext_any (a : Ac) (en : Int) (w : World) (h : AcOk w a) (hfit : FitO a.c.l) (hl : a.c.l.length ≤ 40) (hn : 0 ≤ en ∧ en ≤ 1048576) :
    Calls Tryz.prog 96 #[.agg #[.int .i64 a.k, .int .i64 a.n, .int .i64 a.t, .int .i64 a.c.e, .int .i64 a.c.n, a.c.v], .int .i64 en] w fun E w' => ∃ u, E = .returned (cmv (en + 1) (en + 1 + pk a.n 3) u) ∧ OwnO 81 w.heap.size w' u (srt a.c.l) ∧ Below w.heap.size w w' := by
  obtain ⟨ao, cap, hv, _, _⟩ := h.1.shape
  obtain ⟨w1, hw1, sz1, bel1, hB⟩ := blk_step w #[.int .i64 a.k, .int .i64 a.n, .int .i64 a.t, .int .i64 a.c.e, .int .i64 a.c.n, a.c.v] 95
  obtain ⟨w2, hw2, sz2, bel2, hR⟩ := blk_step w1 #[.int .i64 0, .int .i64 0, .slice none 0 0] 93
  have SX : Hid (∀ W, Below w1.heap.size w1 W → W.cell? ⟨w.heap.size, 1, none⟩ = some (.int .i64 a.n) ∧ W.cell? ⟨w.heap.size, 5, none⟩ = some (.slice ao a.c.l.length cap)) := hide fun W hW => by
    have hb := (hW.block w.heap.size (by omega)).trans hB
    exact ⟨blk_cell hb 1 rfl, (blk_cell hb 5 rfl).trans (by rw [← hv]; rfl)⟩
  have HPK : Hid (∀ W, Calls Tryz.prog 28 #[.int .i64 a.n, .int .i64 3] W fun E w' => E = .returned (.int .i64 (pk a.n 3)) ∧ W = w') := hide fun W => pickx_any a.n 3 W (by omega) (by omega) h.2.1.2.1
  have HSO : Hid (∀ W, Below w1.heap.size w1 W → Calls Tryz.prog 156 #[.slice ao a.c.l.length cap] W fun E w' => ∃ u, E = .returned u ∧ OwnO 81 W.heap.size w' u (srt a.c.l) ∧ Below W.heap.size W w') := hide fun W hW => by
    rw [← hv]
    exact sorted_any a.c.v a.c.l W ((h.1.below bel1).below hW) hfit (by omega)
  obtain ⟨hp0, hp1⟩ := pk_lt a.n 3 (by omega)
  have hw3 : IntKind.i64.wrap (en + 1) = en + 1 := wrap_i64_small _ (by omega) (by omega)
  have hw4 : IntKind.i64.wrap (en + 1 + pk a.n 3) = en + 1 + pk a.n 3 := wrap_i64_small _ (by omega) (by omega)
  rw [hv] at hw1 ⊢
  unfold cmv
  generalize pk a.n 3 = pp at *
  have B1 := hide bel1
  obtain ⟨W0, hW0⟩ : ∃ x, w2.drew = x := ⟨_, rfl⟩
  have bel0 : Below w1.heap.size w1 W0 := by rw [← hW0]; exact bel2.drew
  have hR0 : W0.heap[w1.heap.size]? = some (.cells #[.int .i64 0, .int .i64 0, .slice none 0 0] 93 (0, 0)) := by rw [← hW0]; exact hR
  clear h hB hR bel1 bel2 hv hp0 hp1 hfit sz1 sz2
  go_enter Tryz.func96, Tryz.ntmps96
  go_wp2_with fail
  refine region_any (ops := (regOf 1 Tryz.f96)) (S := fun W => W.cell? ⟨w.heap.size, 1, none⟩ = some (.int .i64 a.n) ∧ W.cell? ⟨w.heap.size, 5, none⟩ = some (.slice ao a.c.l.length cap)) (by kernel_rfl) wzh_size ?_
  rw [wzh_new, hW0]
  refine any_take (v := ?_) wzh_t0_0 (by kernel_rfl) (fun _ _ _ _ _ h => h) (SX.out _ bel0) rfl rfl (by rfl) ?_ ?_
  rotate_left 1
  · intro w hS
    (try dsimp only at hS)
    go_simp
    all_goals with_reducible rfl
  simp only [Act.put, List.setIfInBounds_toArray, List.set_cons_zero, List.set_cons_succ]
  refine any_take (v := ?_) wzh_t1_1 (by kernel_rfl) (fun _ _ _ _ _ h => h) (SX.out _ bel0) rfl rfl (by rfl) ?_ ?_
  rotate_left 1
  · intro w hS
    (try dsimp only at hS)
    go_simp
    all_goals with_reducible rfl
  simp only [Act.put, List.setIfInBounds_toArray, List.set_cons_zero, List.set_cons_succ]
  refine any_take (v := ?_) wzh_t3_2 (by kernel_rfl) (fun _ _ _ _ _ h => h) (SX.out _ bel0) rfl rfl (by rfl) ?_ ?_
  rotate_left 1
  · intro w hS
    (try dsimp only at hS)
    go_simp
    all_goals with_reducible rfl
  simp only [Act.put, List.setIfInBounds_toArray, List.set_cons_zero, List.set_cons_succ]
  refine any_take (v := ?_) wzh_t7_3 (by kernel_rfl) (fun _ _ _ _ _ h => h) (SX.out _ bel0) rfl rfl (by rfl) ?_ ?_
  rotate_left 1
  · intro w hS
    (try dsimp only at hS)
    go_simp
    all_goals with_reducible rfl
  simp only [Act.put, List.setIfInBounds_toArray, List.set_cons_zero, List.set_cons_succ]
  refine any_take (v := ?_) wzh_t15_4 (by kernel_rfl) (fun _ _ _ _ _ h => h) (SX.out _ bel0) rfl rfl (by rfl) ?_ ?_
  rotate_left 1
  · intro w hS
    (try dsimp only at hS)
    go_simp
    all_goals with_reducible rfl
  simp only [Act.put, List.setIfInBounds_toArray, List.set_cons_zero, List.set_cons_succ]
  refine any_take (v := ?_) wzh_t31_5 (by kernel_rfl) (fun _ _ _ _ _ h => h) (SX.out _ bel0) rfl rfl (by rfl) ?_ ?_
  rotate_left 1
  · intro w hS
    (try dsimp only at hS)
    go_simp
    all_goals with_reducible rfl
  simp only [Act.put, List.setIfInBounds_toArray, List.set_cons_zero, List.set_cons_succ]
  refine any_take (v := ?_) wzh_t63_8 (by kernel_rfl) (fun _ _ _ _ _ h => h) (SX.out _ bel0) rfl rfl (by rfl) ?_ ?_
  rotate_left 1
  · intro w hS
    (try dsimp only at hS)
    go_simp
    all_goals with_reducible rfl
  simp only [Act.put, List.setIfInBounds_toArray, List.set_cons_zero, List.set_cons_succ]
  refine any_take (v := ?_) wzh_t319_9 (by kernel_rfl) (fun _ _ _ _ _ h => h) (SX.out _ bel0) rfl rfl (by rfl) ?_ ?_
  rotate_left 1
  · intro w hS
    (try dsimp only at hS)
    go_simp
    all_goals with_reducible rfl
  simp only [Act.put, List.setIfInBounds_toArray, List.set_cons_zero, List.set_cons_succ]
  refine any_take (v := ?_) wzh_t831_10 (by kernel_rfl) (fun _ _ _ _ _ h => h) (SX.out _ bel0) rfl rfl (by rfl) ?_ ?_
  rotate_left 1
  · intro w hS
    (try dsimp only at hS)
    go_simp
    all_goals with_reducible rfl
  simp only [Act.put, List.setIfInBounds_toArray, List.set_cons_zero, List.set_cons_succ]
  refine any_one wzh_r1855 ?_
  refine any_op rfl (by rfl) (fun K hK => ?_)
  go_simp
  refine (HPK.out _).mono ?_
  rintro E Wp ⟨rfl, rfl⟩
  go_wp2_with fail
  refine hK.out _ _ (SX.out _ bel0) ?_
  clear hK K
  try simp only [Act.put, List.setIfInBounds_toArray, List.set_cons_zero, List.set_cons_succ]
  refine any_take (v := ?_) wzh_t1919_7 (by kernel_rfl) (fun _ _ _ _ _ h => h) (SX.out _ bel0) rfl rfl (by rfl) ?_ ?_
  rotate_left 1
  · intro w hS
    (try dsimp only at hS)
    go_simp
    all_goals with_reducible rfl
  simp only [Act.put, List.setIfInBounds_toArray, List.set_cons_zero, List.set_cons_succ]
  refine any_one wzh_r2047 ?_
  refine any_op rfl (by rfl) (fun K hK => ?_)
  go_simp
  refine (HSO.out _ bel0).mono ?_
  rintro E W1 ⟨u, rfl, o1, st1⟩
  have bel1 := bel0.trans (st1.mono bel0.size)
  have hR1 := (st1.block _ (blk_lt hR0)).trans hR0
  obtain ⟨ua, un, uk, hu⟩ : ∃ a n k, u = .slice a n k := by
    obtain ⟨a1, k1, h1, _⟩ := o1.is.shape
    exact ⟨a1, _, k1, h1⟩
  subst hu
  go_wp2_with fail
  refine hK.out _ _ (SX.out _ bel1) ?_
  clear hK K
  try simp only [Act.put, List.setIfInBounds_toArray, List.set_cons_zero, List.set_cons_succ]
  refine any_take (v := ?_) wzh_t4095_12 (by kernel_rfl) (fun _ _ _ _ _ h => h) (SX.out _ bel1) rfl rfl (by rfl) ?_ ?_
  rotate_left 1
  · intro w hS
    (try dsimp only at hS)
    go_simp
    all_goals with_reducible rfl
  simp only [Act.put, List.setIfInBounds_toArray, List.set_cons_zero, List.set_cons_succ]
  refine any_one wzh_r8191 ?_
  obtain ⟨V, hV, bV, gV, ⟨p0, p1, p2⟩, ⟨f0, f1, f2⟩, ⟨z0, z1, z2⟩⟩ := res_step hR1 (.int .i64 (en + 1)) (.int .i64 (en + 1 + pp)) (.slice ua un uk)
  have belV := below_put bel1 gV (Nat.le_refl _) bel1.size
  refine any_op rfl (by rfl) (fun K hK => ?_)
  go_simp
  go_wp2_with fail
  refine hK.out _ _ (SX.out _ belV) ?_
  clear hK K
  try simp only [Act.put, List.setIfInBounds_toArray, List.set_cons_zero, List.set_cons_succ]
  refine any_done wzh_end ?_
  have FIN := hide (show OwnO 81 w.heap.size V (.slice ua un uk) (srt a.c.l) ∧ Below w.heap.size w V from by
    have hsz := bel0.size
    have hsy := B1.out.size
    have hlt := blk_lt hR0
    refine ⟨(OwnO.agree o1 fun g hg => gV.block g (OwnO.block o1 g hg).2 fun e => ?_).rebase (by omega), B1.out.trans (belV.mono (by omega))⟩
    have h9 := (OwnO.block o1 g hg).1
    simp at e
    omega)
  clear o1 st1 hR1 gV bV belV bel1 bel0
  go_wp2
  refine bodyPost_ret (v := .agg #[.int .i64 (en + 1), .int .i64 (en + 1 + pp), .slice ua un uk]) (by simp [results, Tryz.results96, go_sem, z0, z1, z2]) rfl ?_
  exact ⟨_, rfl, FIN.out⟩

end Go.Proofs.YthmecljkackmbaaGreat

/- Ops that are written over; what is outside of a pair of runs. -/
namespace Go.Proofs.YthmecljkackmbaaGreat
open Go.RowKit
set_option linter.unusedVariables false

theorem isO_lt {w : World} {v : Value} {l : List Bm.Ov} (h : IsO w v l) (hl : 0 < l.length) {b : Nat} (hb : v.ownBlock = some b) : b < w.heap.size := by
  rcases h with ⟨_, h⟩ | ⟨ad, cap, hv, h1, h2, hc⟩
  · subst h
    simp at hl
  · subst hv
    have e : ad.block = b := by simpa [Value.ownBlock] using hb
    obtain ⟨o, r, rfl⟩ : ∃ o r, l = o :: r := by
      rcases l with _ | ⟨o, r⟩
      · simp at hl
      · exact ⟨o, r, rfl⟩
    have hk := hc 0 (.bool o.p) rfl
    have hlt := World.block_lt_of_cell? _ _ hk
    have eb : (ad.add 0).block = ad.block := by unfold Addr.add; split <;> rfl
    rw [eb, e] at hlt
    exact hlt

theorem ocellsX_set : ∀ (l : List Bm.Ov) (i : Nat) (o : Bm.Ov), i < l.length → (((ocells l).set (i * 3) (.bool o.p)).set (i * 3 + 1) (.string o.k)).set (i * 3 + 2) (.string o.v) = ocells (l.set i o)
  | [], i, o, h => by simp at h
  | x :: r, 0, o, _ => by simp [ocells, ocell]
  | x :: r, i + 1, o, h => by
    have ih := ocellsX_set r i o (by simpa using h)
    have e : ∀ q : List Value, ocells (x :: r) = [.bool x.p, .string x.k, .string x.v] ++ ocells r := fun _ => rfl
    have e2 : ocells ((x :: r).set (i + 1) o) = [.bool x.p, .string x.k, .string x.v] ++ ocells (r.set i o) := rfl
    rw [e [], e2, ← ih]
    have h3 : (i + 1) * 3 = i * 3 + 3 := by omega
    rw [h3]
    simp

/-- An op is stored in a row of the call's own. -/
theorem own_putO {e base g n cap : Nat} {w : World} {l : List Bm.Ov} (h : OwnO e base w (.slice (some ⟨g, 0, none⟩) n cap) l) (hn : l.length = n) (i : Nat) (hi : i < n) (o : Bm.Ov) :
    ∃ W, ((w.setCell ⟨g, i * 3, none⟩ (.bool o.p)).setCell ⟨g, i * 3 + 1, none⟩ (.string o.k)).setCell ⟨g, i * 3 + 2, none⟩ (.string o.v) = W ∧ OwnO e base W (.slice (some ⟨g, 0, none⟩) n cap) (l.set i o) ∧ w.grownBy W (some g) := by
  subst hn
  unfold OwnO at h
  have s1 := h.stored (i * 3) (.bool o.p)
  have s2 := s1.1.stored (i * 3 + 1) (.string o.k)
  have s3 := s2.1.stored (i * 3 + 2) (.string o.v)
  refine ⟨_, rfl, ?_, grown_trans s1.2 (grown_trans s2.2 s3.2)⟩
  unfold OwnO
  rw [List.length_set, ← ocellsX_set l i o hi]
  exact s3.1

theorem own_atO {e base g n cap : Nat} {w : World} {l : List Bm.Ov} (h : OwnO e base w (.slice (some ⟨g, 0, none⟩) n cap) l) (hn : l.length = n) (i : Nat) (o : Bm.Ov) (ho : l[i]? = some o) :
    (w.cell? ⟨g, i * 3, none⟩ = some (.bool o.p) ∧ w.cell? ⟨g, i * 3 + 1, none⟩ = some (.string o.k) ∧ w.cell? ⟨g, i * 3 + 2, none⟩ = some (.string o.v)) ∧ (w.frozen? ⟨g, i * 3, none⟩ = false ∧ w.frozen? ⟨g, i * 3 + 1, none⟩ = false ∧ w.frozen? ⟨g, i * 3 + 2, none⟩ = false) := by
  subst hn
  unfold OwnO at h
  obtain ⟨hi, rfl⟩ := List.getElem?_eq_some_iff.1 ho
  obtain ⟨a0, a1, a2⟩ := ocells_at l i hi
  exact ⟨⟨by rw [h.cellAt (i * 3) (by omega)]; exact a0, by rw [h.cellAt (i * 3 + 1) (by omega)]; exact a1, by rw [h.cellAt (i * 3 + 2) (by omega)]; exact a2⟩, h.frozenAt _, h.frozenAt _, h.frozenAt _⟩

theorem own_fullO {e base n : Nat} {w : World} {v : Value} {l : List Bm.Ov} (h : OwnO e base w v l) (hn : l.length = n) (hp : 0 < n) : ∃ g cap, v = .slice (some ⟨g, 0, none⟩) n cap ∧ n ≤ cap ∧ cap ≤ maxLen ∧ base ≤ g ∧ g < w.heap.size := by
  rcases h.2 with ⟨_, hz⟩ | ⟨g, cap, cur, hv, h1, hh, hc, hm, hs, ht⟩
  · omega
  · exact ⟨g, cap, by rw [hv, hn], by omega, hm, h1, blk_lt hh⟩

/-- What is not the pair's is written. -/
theorem RP.outside {w0 w w' : World} {r p q x y : Nat} {s t : Rl.Rs} {F G K : Nat → Prop} (h : RP w0 r w s t p q x y F G) (ho : Out K w w') (hK : ∀ g, K g → ¬ F g ∧ ¬ G g ∧ g ≠ r ∧ w0.heap.size ≤ g) : RP w0 r w' s t p q x y F G :=
  ⟨(ho.block r (blk_lt h.blk) fun e => (hK r e).2.2.1 rfl).trans h.blk, h.ww.out ho fun g hg e => (hK g e).1 hg, h.xx.out ho fun g hg e => (hK g e).2.1 hg, h.ap, h.nf, h.ng, h.fb, h.gb, h.rb, h.bel.trans (ho.below (fun g e => (hK g e).2.2.2) h.bel.size)⟩

/-- 'ops[:n]'. -/
theorem front_run (g n cap p : Nat) (hp : p ≤ n) (hn : n ≤ cap) (wx : World) : (Instr.slice 53 (.slice (some ⟨g, 0, none⟩) n cap) none (some (.int .i64 p)) none).run Tryz.prog wx = .ok (.slice (some ⟨g, 0, none⟩) p cap) wx := by
  rw [run_slice_h wx 53 (some ⟨g, 0, none⟩) n cap Tryz.elemO .i64 _ (by omega) (by omega), Tryz.sizeO]
  simp only [Result.andThen, sliced]
  simp [Addr.add]

end Go.Proofs.YthmecljkackmbaaGreat
