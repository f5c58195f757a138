/- Texts of one layer, one behind the other. -/
import Derived.Test.YthmecljkackmbaaGreatZ11
import Derived.Test.YthmecljkackmbaaGreatZ17
import Derived.Test.YthmecljkackmbaaGreatZW
import Derived.Test.YthmecljkackmbaaGreatZ10
/- The document's runs in memory. -/
namespace Go.Proofs.YthmecljkackmbaaGreat
open Go.RowKit
open Bm (Ov)
set_option linter.unusedVariables false

/-- The document's runs: block x, its disk y. -/
structure XrV (x y : Nat) (w : World) (l : List Cm.Cv) (bk : Bool) (v : Value) (rs : List Cw) : Prop where
  blk : w.heap[x]? = some (.cells #[.bool true, .pointer (some ⟨y, 0, none⟩), v, .bool bk] 128 (0, 0))
  log : Rq 0 w l v rs

theorem XrV.below {x y : Nat} {w w' : World} {l : List Cm.Cv} {bk : Bool} {v : Value} {rs : List Cw} (h : XrV x y w l bk v rs) (hb : Below w.heap.size w w') : XrV x y w' l bk v rs := ⟨(hb.block x (blk_lt h.blk)).trans h.blk, h.log.below hb⟩

theorem xnone_any (x : Nat) (w : World) (hc : w.cell? ⟨x, 0, none⟩ = some (.bool true)) :
    Calls Tryz.prog 138 #[.pointer (some ⟨x, 0, none⟩)] w fun E w' => E = .returned (.bool false) ∧ w = w' := by
  go_enter Tryz.func138, Tryz.ntmps138
  go_wp2
  go_ret
  exact ⟨rfl, rfl⟩

theorem xlast {l : List Cm.Cv} {k : Nat} {c : Cm.Cv} (hk : l[k]? = some c) (hl : l.length = k + 1) (e : Int) : Cm.lastN e l = c.n := by
  rcases List.eq_nil_or_concat l with rfl | ⟨r, d, rfl⟩
  · simp at hk
  · rw [List.concat_eq_append] at hk hl ⊢
    rw [Rl.last_snoc]
    have : k = r.length := by simp at hl; omega
    subst this
    simp at hk
    rw [hk]

set_option maxRecDepth 20000 in
set_option maxHeartbeats 1000000 in
theorem xend_any (x y : Nat) (w : World) (l : List Cm.Cv) (bk : Bool) (v : Value) (rs : List Cw) (h : XrV x y w l bk v rs) :
    Calls Tryz.prog 70 #[.pointer (some ⟨x, 0, none⟩)] w fun E w' => E = .returned (.int .i64 (Cm.lastN 0 l)) ∧ ∃ m, w' = w.drewN m := by
  have c0 : w.cell? ⟨x, 0, none⟩ = some (.bool true) := blk_cell h.blk 0 rfl
  have c2 : w.cell? ⟨x, 2, none⟩ = some v := blk_cell h.blk 2 rfl
  have HN := hide (xnone_any x w c0)
  obtain ⟨a1, k1, hv, _, _⟩ := h.log.row.row.shape
  have hll := h.log.len_le
  by_cases h0 : rs.length = 0
  · have hl0 : l = [] := List.eq_nil_of_length_eq_zero (by rw [← h.log.len]; exact h0)
    subst hl0
    rw [hv, h0] at c2
    clear h hv
    go_enter Tryz.func70, Tryz.ntmps70
    go_wp2_with fail
    refine HN.out.mono ?_
    rintro E w1 ⟨rfl, rfl⟩
    go_wp2
    go_ret
    exact ⟨rfl, by first | exact ⟨0, rfl⟩ | exact ⟨1, rfl⟩⟩
  · obtain ⟨gb, go, gk, hvx, _, _, _, hrow⟩ := h.log.row.row.full (by omega)
    obtain ⟨y1, hy⟩ : ∃ y, rs.length = y + 1 := ⟨rs.length - 1, by omega⟩
    obtain ⟨c, hcy⟩ : ∃ c, rs[y1]? = some c := ⟨rs[y1]'(by omega), by rw [List.getElem?_eq_getElem]⟩
    obtain ⟨_, x1, _⟩ := hrow y1 c hcy
    have hlast := xlast (h.log.at hcy) (by rw [← h.log.len]; exact hy) 0
    rw [hlast]
    rw [hvx] at c2
    have hn : c.c.n = c.n := rfl
    rw [hn]
    have hwy : IntKind.i64.wrap ((rs.length : Int) - 1) = (y1 : Int) := by rw [wrap_i64_small _ (by omega) (by omega)]; omega
    have hy1 : (y1 : Int) < (rs.length : Int) := by omega
    have hy0 : ¬ (rs.length : Int) = 0 := by omega
    have hyb : ((rs.length : Int) == 0) = false := by rw [beq_eq_false_iff_ne]; omega
    generalize rs.length = n at *
    have hyz : (0 : Int) ≤ (y1 : Int) := by omega
    clear h hv hvx hrow hcy hlast hy
    go_enter Tryz.func70, Tryz.ntmps70
    go_wp2_with fail
    refine HN.out.mono ?_
    rintro E w1 ⟨rfl, rfl⟩
    go_wp2_with fail
    refine region_any (ops := (regOf 3 Tryz.f70)) (S := fun W => W.cell? ⟨x, 2, none⟩ = some (.slice (some ⟨gb, go, none⟩) n gk) ∧ W.cell? ⟨gb, go + y1 * 3 + 1, none⟩ = some (.int .i64 c.n)) (by kernel_rfl) wyi_size ?_
    rw [wyi_new]
    refine any_take (v := ?_) wyi_t0 (by kernel_rfl) (fun _ _ _ _ _ h => h) ⟨c2, x1⟩ rfl rfl (by rfl) ?_ ?_
    rotate_left 1
    · intro w hS
      (try dsimp only at hS)
      go_simp
      all_goals with_reducible rfl
    simp only [Act.put, List.setIfInBounds_toArray, List.set_cons_zero, List.set_cons_succ]
    refine any_take (v := ?_) wyi_t1 (by kernel_rfl) (fun _ _ _ _ _ h => h) ⟨c2, x1⟩ rfl rfl (by rfl) ?_ ?_
    rotate_left 1
    · intro w hS
      (try dsimp only at hS)
      go_simp
      all_goals with_reducible rfl
    simp only [Act.put, List.setIfInBounds_toArray, List.set_cons_zero, List.set_cons_succ]
    refine any_take (v := ?_) wyi_t3 (by kernel_rfl) (fun _ _ _ _ _ h => h) ⟨c2, x1⟩ rfl rfl (by rfl) ?_ ?_
    rotate_left 1
    · intro w hS
      (try dsimp only at hS)
      go_simp
      all_goals with_reducible rfl
    simp only [Act.put, List.setIfInBounds_toArray, List.set_cons_zero, List.set_cons_succ]
    refine any_take (v := ?_) wyi_t7 (by kernel_rfl) (fun _ _ _ _ _ h => h) ⟨c2, x1⟩ rfl rfl (by rfl) ?_ ?_
    rotate_left 1
    · intro w hS
      (try dsimp only at hS)
      go_simp
      all_goals with_reducible rfl
    simp only [Act.put, List.setIfInBounds_toArray, List.set_cons_zero, List.set_cons_succ]
    refine any_take (v := ?_) wyi_t15 (by kernel_rfl) (fun _ _ _ _ _ h => h) ⟨c2, x1⟩ rfl rfl (by rfl) ?_ ?_
    rotate_left 1
    · intro w hS
      (try dsimp only at hS)
      go_simp
      all_goals with_reducible rfl
    simp only [Act.put, List.setIfInBounds_toArray, List.set_cons_zero, List.set_cons_succ]
    refine any_take (v := ?_) wyi_t31 (by kernel_rfl) (fun _ _ _ _ _ h => h) ⟨c2, x1⟩ rfl rfl (by rfl) ?_ ?_
    rotate_left 1
    · intro w hS
      (try dsimp only at hS)
      go_simp
      all_goals with_reducible rfl
    simp only [Act.put, List.setIfInBounds_toArray, List.set_cons_zero, List.set_cons_succ]
    refine any_take (v := ?_) wyi_t63 (by kernel_rfl) (fun _ _ _ _ _ h => h) ⟨c2, x1⟩ rfl rfl (by rfl) ?_ ?_
    rotate_left 1
    · intro w hS
      (try dsimp only at hS)
      go_simp
      all_goals with_reducible rfl
    simp only [Act.put, List.setIfInBounds_toArray, List.set_cons_zero, List.set_cons_succ]
    refine any_take (v := ?_) wyi_t127 (by kernel_rfl) (fun _ _ _ _ _ h => h) ⟨c2, x1⟩ rfl rfl (by rfl) ?_ ?_
    rotate_left 1
    · intro w hS
      (try dsimp only at hS)
      go_simp
      all_goals with_reducible rfl
    simp only [Act.put, List.setIfInBounds_toArray, List.set_cons_zero, List.set_cons_succ]
    refine any_take (v := ?_) wyi_t255 (by kernel_rfl) (fun _ _ _ _ _ h => h) ⟨c2, x1⟩ rfl rfl (by rfl) ?_ ?_
    rotate_left 1
    · intro w hS
      (try dsimp only at hS)
      go_simp
      all_goals with_reducible rfl
    simp only [Act.put, List.setIfInBounds_toArray, List.set_cons_zero, List.set_cons_succ]
    refine any_take (v := ?_) wyi_t511 (by kernel_rfl) (fun _ _ _ _ _ h => h) ⟨c2, x1⟩ rfl rfl (by rfl) ?_ ?_
    rotate_left 1
    · intro w hS
      (try dsimp only at hS)
      go_simp
      all_goals with_reducible rfl
    simp only [Act.put, List.setIfInBounds_toArray, List.set_cons_zero, List.set_cons_succ]
    refine any_take (v := ?_) wyi_t1023 (by kernel_rfl) (fun _ _ _ _ _ h => h) ⟨c2, x1⟩ rfl rfl (by rfl) ?_ ?_
    rotate_left 1
    · intro w hS
      (try dsimp only at hS)
      go_simp
      all_goals with_reducible rfl
    simp only [Act.put, List.setIfInBounds_toArray, List.set_cons_zero, List.set_cons_succ]
    refine any_take (v := ?_) wyi_t2047 (by kernel_rfl) (fun _ _ _ _ _ h => h) ⟨c2, x1⟩ rfl rfl (by rfl) ?_ ?_
    rotate_left 1
    · intro w hS
      (try dsimp only at hS)
      go_simp
      all_goals with_reducible rfl
    simp only [Act.put, List.setIfInBounds_toArray, List.set_cons_zero, List.set_cons_succ]
    refine any_take (v := ?_) wyi_t4095 (by kernel_rfl) (fun _ _ _ _ _ h => h) ⟨c2, x1⟩ rfl rfl (by rfl) ?_ ?_
    rotate_left 1
    · intro w hS
      (try dsimp only at hS)
      go_simp
      all_goals with_reducible rfl
    simp only [Act.put, List.setIfInBounds_toArray, List.set_cons_zero, List.set_cons_succ]
    refine any_take (v := ?_) wyi_t8191 (by kernel_rfl) (fun _ _ _ _ _ h => h) ⟨c2, x1⟩ rfl rfl (by rfl) ?_ ?_
    rotate_left 1
    · intro w hS
      (try dsimp only at hS)
      go_simp
      all_goals with_reducible rfl
    simp only [Act.put, List.setIfInBounds_toArray, List.set_cons_zero, List.set_cons_succ]
    refine any_done wyi_end ?_
    go_wp2
    go_ret
    exact ⟨rfl, by first | exact ⟨0, rfl⟩ | exact ⟨1, rfl⟩⟩

set_option maxRecDepth 20000 in
set_option maxHeartbeats 1000000 in
theorem xcopy_any (e n : Int) (v : Value) (l : List Ov) (w : World) (h : IsO w v l) (hl : l.length * 40 ≤ 140737488351232) :
    Calls Tryz.prog 160 #[cmv e n v] w fun E w' => ∃ v', E = .returned (cmv e n v') ∧ OwnO 81 w.heap.size w' v' l ∧ Below w.heap.size w w' := by
  unfold cmv
  obtain ⟨a1, k1, hv, _, _⟩ := h.shape
  obtain ⟨w1, hw1, sz1, bel1, hB1⟩ := blk_step w #[.int .i64 e, .int .i64 n, v] 93
  obtain ⟨w2, hw2, sz2, bel2, hB2⟩ := blk_step w1 #[.int .i64 0, .int .i64 0, .slice none 0 0] 93
  subst hv
  obtain ⟨W0, hW0⟩ : ∃ x, w2.drew = x := ⟨_, rfl⟩
  have b20 : Below w2.heap.size w2 W0 := by rw [← hW0]; exact (Below.refl _ _).drew
  have b02 : Below w.heap.size w w2 := bel1.trans (bel2.mono bel1.size)
  have b00 : Below w.heap.size w W0 := b02.trans (b20.mono b02.size)
  have hR0 := (b20.block w.heap.size (by omega)).trans ((bel2.block w.heap.size (by omega)).trans hB1)
  have hZ0 := (b20.block w1.heap.size (by omega)).trans hB2
  obtain ⟨v1, w3, hr, own1, gr1, at1⟩ := run_append_ops_at (P := Tryz.prog) (w := W0) 53 53 81 W0.heap.size Tryz.underlying53 Tryz.info81 _ [] (OwnO.nil _ _ _) _ l (h.below b00) (by simp; omega) (Nat.le_refl _)
  rw [List.nil_append] at own1
  have b03 : Below W0.heap.size W0 w3 := (Below.refl _ _).grown gr1 (Nat.le_refl _) (fun k hk => by simp [Value.ownBlock] at hk)
  have hR3 := (b03.block w.heap.size (blk_lt hR0)).trans hR0
  have hZ3 := (b03.block w1.heap.size (blk_lt hZ0)).trans hZ0
  obtain ⟨V, hV, bV, gV, ⟨p0, p1, p2⟩, ⟨f0, f1, f2⟩, ⟨z0, z1, z2⟩⟩ := res_step hZ3 (.int .i64 e) (.int .i64 n) v1
  have hRV := (gV.block w.heap.size (blk_lt hR3) (by simp; omega)).trans hR3
  have F0 : W0.cell? ⟨w.heap.size, 0, none⟩ = some (.int .i64 e) ∧ W0.cell? ⟨w.heap.size, 1, none⟩ = some (.int .i64 n) ∧ W0.cell? ⟨w.heap.size, 2, none⟩ = some (.slice a1 l.length k1) := ⟨blk_cell hR0 0 rfl, blk_cell hR0 1 rfl, blk_cell hR0 2 rfl⟩
  have F1 : w3.cell? ⟨w.heap.size, 0, none⟩ = some (.int .i64 e) ∧ w3.cell? ⟨w.heap.size, 1, none⟩ = some (.int .i64 n) ∧ w3.cell? ⟨w.heap.size, 2, none⟩ = some (.slice a1 l.length k1) := ⟨blk_cell hR3 0 rfl, blk_cell hR3 1 rfl, blk_cell hR3 2 rfl⟩
  have F2 : V.cell? ⟨w.heap.size, 0, none⟩ = some (.int .i64 e) ∧ V.cell? ⟨w.heap.size, 1, none⟩ = some (.int .i64 n) ∧ V.cell? ⟨w.heap.size, 2, none⟩ = some (.slice a1 l.length k1) := ⟨blk_cell hRV 0 rfl, blk_cell hRV 1 rfl, blk_cell hRV 2 rfl⟩
  obtain ⟨a3, k3, hv1, _, _⟩ := own1.is.shape
  subst hv1
  have OV : Hid (OwnO 81 w.heap.size V (.slice a3 l.length k3) l) := hide ((own1.kept gV (.inr fun e => by have h1 := (own1.block _ e).1; have := b20.size; omega)).rebase b00.size)
  have BV : Hid (Below w.heap.size w V) := hide (below_put (b00.trans (b03.mono b00.size)) gV (by omega) (Nat.le_trans b00.size b03.size))
  clear own1 at1 gr1 bV gV hRV hR3 hZ3 hR0 hZ0 hB1 hB2 bel1 bel2 b20 b02 b00 b03 h sz1 sz2
  go_enter Tryz.func160, Tryz.ntmps160
  go_wp2_with fail
  refine region_any (ops := (regOf 2 Tryz.f160)) (S := fun W => W.cell? ⟨w.heap.size, 0, none⟩ = some (.int .i64 e) ∧ W.cell? ⟨w.heap.size, 1, none⟩ = some (.int .i64 n) ∧ W.cell? ⟨w.heap.size, 2, none⟩ = some (.slice a1 l.length k1)) (by kernel_rfl) wyh_size ?_
  rw [wyh_new, hW0]
  refine any_take (v := ?_) wyh_t0 (by kernel_rfl) (fun _ _ _ _ _ h => h) F0 rfl rfl (by rfl) ?_ ?_
  rotate_left 1
  · intro w hS
    (try dsimp only at hS)
    go_simp
    all_goals with_reducible rfl
  simp only [Act.put, List.setIfInBounds_toArray, List.set_cons_zero, List.set_cons_succ]
  refine any_take (v := ?_) wyh_t1 (by kernel_rfl) (fun _ _ _ _ _ h => h) F0 rfl rfl (by rfl) ?_ ?_
  rotate_left 1
  · intro w hS
    (try dsimp only at hS)
    go_simp
    all_goals with_reducible rfl
  simp only [Act.put, List.setIfInBounds_toArray, List.set_cons_zero, List.set_cons_succ]
  refine any_take (v := ?_) wyh_t3 (by kernel_rfl) (fun _ _ _ _ _ h => h) F0 rfl rfl (by rfl) ?_ ?_
  rotate_left 1
  · intro w hS
    (try dsimp only at hS)
    go_simp
    all_goals with_reducible rfl
  simp only [Act.put, List.setIfInBounds_toArray, List.set_cons_zero, List.set_cons_succ]
  refine any_take (v := ?_) wyh_t7 (by kernel_rfl) (fun _ _ _ _ _ h => h) F0 rfl rfl (by rfl) ?_ ?_
  rotate_left 1
  · intro w hS
    (try dsimp only at hS)
    go_simp
    all_goals with_reducible rfl
  simp only [Act.put, List.setIfInBounds_toArray, List.set_cons_zero, List.set_cons_succ]
  refine any_take (v := ?_) wyh_t15 (by kernel_rfl) (fun _ _ _ _ _ h => h) F0 rfl rfl (by rfl) ?_ ?_
  rotate_left 1
  · intro w hS
    (try dsimp only at hS)
    go_simp
    all_goals with_reducible rfl
  simp only [Act.put, List.setIfInBounds_toArray, List.set_cons_zero, List.set_cons_succ]
  refine any_take (v := ?_) wyh_t31 (by kernel_rfl) (fun _ _ _ _ _ h => h) F0 rfl rfl (by rfl) ?_ ?_
  rotate_left 1
  · intro w hS
    (try dsimp only at hS)
    go_simp
    all_goals with_reducible rfl
  simp only [Act.put, List.setIfInBounds_toArray, List.set_cons_zero, List.set_cons_succ]
  refine any_take (v := ?_) wyh_t63 (by kernel_rfl) (fun _ _ _ _ _ h => h) F0 rfl rfl (by rfl) ?_ ?_
  rotate_left 1
  · intro w hS
    (try dsimp only at hS)
    go_simp
    all_goals with_reducible rfl
  simp only [Act.put, List.setIfInBounds_toArray, List.set_cons_zero, List.set_cons_succ]
  refine any_one wyh_o127 ?_
  refine any_append rfl (by rfl) (.tmp 8) (.tmp 10) 53 rfl rfl rfl hr ⟨F1, ?_⟩
  simp only [Act.put, List.setIfInBounds_toArray, List.set_cons_zero, List.set_cons_succ]
  refine any_take (v := ?_) wyh_t255 (by kernel_rfl) (fun _ _ _ _ _ h => h) F1 rfl rfl (by rfl) ?_ ?_
  rotate_left 1
  · intro w hS
    (try dsimp only at hS)
    go_simp
    all_goals with_reducible rfl
  simp only [Act.put, List.setIfInBounds_toArray, List.set_cons_zero, List.set_cons_succ]
  refine any_one wyh_o511 ?_
  refine any_op rfl (by rfl) (fun K hK => ?_)
  go_simp
  go_wp2_with fail
  refine hK.out _ _ F2 ?_
  clear hK K
  try simp only [Act.put, List.setIfInBounds_toArray, List.set_cons_zero, List.set_cons_succ]
  refine any_done wyh_end ?_
  go_wp2
  refine bodyPost_ret (v := .agg #[.int .i64 e, .int .i64 n, .slice a3 l.length k3]) (by simp [results, Tryz.results160, go_sem, z0, z1, z2]) rfl ?_
  exact ⟨_, rfl, OV.out, BV.out⟩

end Go.Proofs.YthmecljkackmbaaGreat

/- The document's runs: List. -/
namespace Go.Proofs.YthmecljkackmbaaGreat
open Go.RowKit
open Bm (Ov)
set_option linter.unusedVariables false

theorem xq_grow {base : Nat} {w w' : World} {l : List Cm.Cv} {v v' : Value} {rs : List Cw} {c : Cw} (h : Rq base w l v rs) (ho : OwnR 93 base w' v' (rs ++ [c])) (hk : KeepT 93 w w') (hc : OwnO 81 base w c.v c.l) (hg : Rl.Good 0 (l ++ [c.c])) : Rq base w' (l ++ [c.c]) v' (rs ++ [c]) := by
  refine ⟨ho, fun d hd => ?_, by unfold cvs; rw [List.map_append, ← h.is]; rfl, hg⟩
  rcases List.mem_append.1 hd with hd | hd
  · exact (h.cop d hd).keepT hk (by decide)
  · rw [List.mem_singleton.1 hd]
    exact hc.keepT hk (by decide)

set_option maxRecDepth 20000 in
set_option maxHeartbeats 2000000 in
theorem xlist_any (x y : Nat) (w : World) (l : List Cm.Cv) (bk : Bool) (v : Value) (rs : List Cw) (h : XrV x y w l bk v rs) :
    Calls Tryz.prog 105 #[.pointer (some ⟨x, 0, none⟩)] w fun E w' => ∃ v' rs', E = .returned v' ∧ Rq w.heap.size w' l v' rs' ∧ Below w.heap.size w w' := by
  have c0 : w.cell? ⟨x, 0, none⟩ = some (.bool true) := blk_cell h.blk 0 rfl
  have HN := hide (xnone_any x w c0)
  obtain ⟨a1, k1, hv, _, _⟩ := h.log.row.row.shape
  have hll := h.log.len_le
  have H := hide h
  clear h
  go_enter Tryz.func105, Tryz.ntmps105
  go_wp2_with fail
  refine HN.out.mono ?_
  rintro E w1 ⟨rfl, rfl⟩
  go_wp2
  go_loopw [3, 4] (fun ov iv wr => ∃ (k : Nat) (rk : List Cw), k ≤ rs.length ∧ iv = .int .i64 k ∧ rk.length = k ∧ Hid (Rq w.heap.size wr (l.take k) ov rk) ∧ Hid (Below w.heap.size w wr)) (fun _ iv _ => rs.length - (intOf iv).toNat)
  case atStart => exact ⟨0, [], by omega, rfl, rfl, hide (Rq.nil _ _), hide (Below.refl _ _)⟩
  case round =>
    obtain ⟨k, rk, hk, rfl, hrk, OR, BR⟩ := hrel
    obtain ⟨oa, ok, hov, _, _⟩ := OR.out.row.row.shape
    subst hov
    rw [hrk] at OR ⊢
    have HR := hide (H.out.below BR.out)
    have c2 : wr.cell? ⟨x, 2, none⟩ = some v := blk_cell HR.out.blk 2 rfl
    rw [hv] at c2
    by_cases hlt : k < rs.length
    · obtain ⟨gb, go, gk, hvx, _, _, _, hrow⟩ := HR.out.log.row.row.full (by omega)
      rw [hv] at hvx
      simp only [Value.slice.injEq, true_and] at hvx
      obtain ⟨rfl, rfl⟩ := hvx
      obtain ⟨c, hc⟩ : ∃ c, rs[k]? = some c := ⟨rs[k], by rw [List.getElem?_eq_getElem]⟩
      obtain ⟨x0, x1, x2⟩ := hrow k c hc
      have hlc := HR.out.log.at hc
      have hgl : Rl.Good 0 l := HR.out.log.good
      have hkl : k < l.length := by rw [← HR.out.log.len]; exact hlt
      have htk : l.take (k + 1) = l.take k ++ [c.c] := by
        rw [List.take_succ_eq_append_getElem hkl]
        rw [List.getElem?_eq_getElem hkl] at hlc
        simp at hlc
        rw [hlc]
      have hg1 : Rl.Good 0 (l.take k ++ [c.c]) := by
        rw [← htk]
        have := hgl
        rw [← List.take_append_drop (k + 1) l] at this
        exact ((Rl.good_app _ _ _).1 this).1
      have ic := (HR.out.log.cop c (List.mem_of_getElem? hc)).is
      have hck := good_get HR.out.log.good HR.out.log.is c (List.mem_of_getElem? hc)
      have CP := hide (xcopy_any c.e c.n c.v c.l wr ic (fit_run hck).2.1)
      unfold cmv at CP
      obtain ⟨ca, ck, hcv, _, _⟩ := ic.shape
      rw [hcv] at CP x2
      have hlt' : (k : Int) < rs.length := by omega
      have HG1 := hide hg1
      have HTK := hide htk
      clear hrow hc ic hlc hgl hkl htk hg1 hck
      go_wp2_with fail
      refine CP.out.mono ?_
      rintro E wa ⟨vc, rfl, oc, ba⟩
      obtain ⟨da, dk, hdv, _, _⟩ := oc.is.shape
      obtain ⟨V, hV, szV, belV, ownV⟩ := coms_step 93 wa #[.int .i64 c.e, .int .i64 c.n, vc] 1 [⟨c.e, c.n, vc, c.l⟩] rfl rfl (by simp [maxLen])
      have bV := ba.trans (belV.mono ba.size)
      have hone : ∀ d ∈ [(⟨c.e, c.n, vc, c.l⟩ : Cw)], d.v.oneCell' = true := fun d hd => by rw [List.mem_singleton.1 hd]; exact oc.is.one
      have X : Hid (∀ ty, ∃ v' w', (Builtin.append_ #[69, 69] ty #[.slice oa k ok, .slice (some ⟨wa.heap.size, 0, none⟩) 1 1]).run Tryz.prog V = .ok v' w' ∧ (Rq w.heap.size w' (l.take (k + 1)) v' (rk ++ [⟨c.e, c.n, vc, c.l⟩]) ∧ Below w.heap.size w w')) := hide fun ty => by
        have qV := OR.out.below bV
        obtain ⟨v1, w3, hr, own1, gr1, at1⟩ := run_append_coms_at (P := Tryz.prog) (w := V) 69 ty 93 w.heap.size Tryz.underlying69 Tryz.info93 _ rk qV.row _ [⟨c.e, c.n, vc, c.l⟩] ownV.row hone (by simp; omega) (Nat.le_trans BR.out.size bV.size)
        have b0V := BR.out.trans (bV.mono BR.out.size)
        refine ⟨v1, w3, hr, ?_, b0V.grown gr1 b0V.size (fun g hg => (World.ownsRow.lt qV.row g hg).1)⟩
        rw [HTK.out]
        exact xq_grow qV own1 (KeepT.of_row qV.row gr1) ((oc.below belV).rebase BR.out.size) HG1.out
      rw [hdv] at hV
      subst hdv
      clear CP oc ba belV ownV bV hone x0 x1 x2
      go_wp2_with (at_builtin; refine wpList_append_at rfl (.tmp 17) (.tmp 26) 69 rfl _ _ rfl rfl X.out ?_)
      intro v8 w8 O8 B8
      have O8 := hide O8
      have B8 := hide B8
      go_wp2
      go_roundw
      case rel => exact ⟨k + 1, _, by omega, by go_num, by rw [List.length_append, hrk]; rfl, O8, B8⟩
      case measure => simp [intOf]; omega
    · obtain rfl : k = rs.length := by omega
      have hlt' : ¬ (rs.length : Int) < rs.length := by omega
      have e : l.take rs.length = l := List.take_of_length_le (by rw [HR.out.log.len]; exact Nat.le_refl _)
      rw [e] at OR
      go_wp2
      go_ret
      exact ⟨_, rfl, ⟨_, OR.out⟩, BR.out⟩

end Go.Proofs.YthmecljkackmbaaGreat
