/- Texts of one layer, one behind the other. -/
import Derived.Test.YthmecljkackmbaaGreatG19
import Derived.Test.YthmecljkackmbaaGreatProg
import Derived.Test.YthmecljkackmbaaGreatGK3
import Derived.Test.YthmecljkackmbaaGreatGK1
/- A drawn region, walked step by step, with forks. -/
namespace Go.Proofs.YthmecljkackmbaaGreat
open Go.RowKit
set_option linter.unusedVariables false

section
variable {P : Program} {ops : Array Oper} {Q : Exit → Act → World → Prop} {S : World → Prop}

theorem any_take {L L' : Array Bool} {i n : Nat} {a : Act} {w : World} {oi : Oper} {v : Value} {t : Tmp} (st : Region.free .any ops L i = true ∧ (Region.ready .any ops L).contains i = true ∧ L.setIfInBounds i true = L') (hs : Region.noSelect ops = true) (hQ : ∀ c a t v w, Q (.panic c) (Act.put a (some t) v) w → Q (.panic c) a w) (hS : S w) (hi : (ops.toList.drop i).head? = some oi) (ht : oi.dst = some t) (hw : Region.wanted oi (yielded ops a.tmps) = true) (hy : ∀ w, S w → (execOp a.eval oi).run P w = .ok (.value v) w) (h : wpAnyH P .any ops Q S n L' (a.put (some t) v) w) : wpAnyH P .any ops Q S (n + 1) L a w :=
  wpAnyH_take (op_at hi) hs st.1 st.2.1 (by rw [ht]; exact fun c a w => hQ c a _ _ w) (.inl ⟨hw, hy⟩) hS (by rw [st.2.2, ht]; exact h)

theorem any_one {L L' : Array Bool} {i n : Nat} {a : Act} {w : World} (st : Region.ready .any ops L = [i] ∧ L.setIfInBounds i true = L') (h : wpOp P ops Q i (fun a' w' => S w' ∧ wpAnyH P .any ops Q S n L' a' w') a w) : wpAnyH P .any ops Q S (n + 1) L a w :=
  wpAnyH_all st.1 (by simp) (fun j hj => by
    rw [List.mem_singleton.1 hj, st.2]
    exact h)

theorem any_two {L Li Lj : Array Bool} {i j n : Nat} {a : Act} {w : World} (st : Region.ready .any ops L = [i, j] ∧ L.setIfInBounds i true = Li ∧ L.setIfInBounds j true = Lj) (hi : wpOp P ops Q i (fun a' w' => S w' ∧ wpAnyH P .any ops Q S n Li a' w') a w) (hj : wpOp P ops Q j (fun a' w' => S w' ∧ wpAnyH P .any ops Q S n Lj a' w') a w) : wpAnyH P .any ops Q S (n + 1) L a w :=
  wpAnyH_all st.1 (by simp) (fun x hx => by
    simp only [List.mem_cons, List.not_mem_nil, or_false] at hx
    rcases hx with rfl | rfl
    · rw [st.2.1]
      exact hi
    · rw [st.2.2]
      exact hj)

theorem any_three {L Li Lj Lk : Array Bool} {i j k n : Nat} {a : Act} {w : World} (st : Region.ready .any ops L = [i, j, k] ∧ L.setIfInBounds i true = Li ∧ L.setIfInBounds j true = Lj ∧ L.setIfInBounds k true = Lk) (hi : wpOp P ops Q i (fun a' w' => S w' ∧ wpAnyH P .any ops Q S n Li a' w') a w) (hj : wpOp P ops Q j (fun a' w' => S w' ∧ wpAnyH P .any ops Q S n Lj a' w') a w) (hk : wpOp P ops Q k (fun a' w' => S w' ∧ wpAnyH P .any ops Q S n Lk a' w') a w) : wpAnyH P .any ops Q S (n + 1) L a w :=
  wpAnyH_all st.1 (by simp) (fun x hx => by
    simp only [List.mem_cons, List.not_mem_nil, or_false] at hx
    rcases hx with rfl | rfl | rfl
    · rw [st.2.1]
      exact hi
    · rw [st.2.2.1]
      exact hj
    · rw [st.2.2.2]
      exact hk)

theorem any_done {L : Array Bool} {a : Act} {w : World} (h : Region.ready .any ops L = []) (k : Q .normal a w) : wpAnyH P .any ops Q S 0 L a w := ⟨h, k⟩

theorem any_op {L : Array Bool} {i n : Nat} {a : Act} {w : World} {o : Oper} (ho : (ops.toList.drop i).head? = some o) (hw : Region.wanted o (yielded ops a.tmps) = true) (h : ∀ K' : Act → World → Prop, Shut (∀ a w, S w → wpAnyH P .any ops Q S n L a w → K' a w) → Oper.wp P o a w K' Q) : wpOp P ops Q i (fun a' w' => S w' ∧ wpAnyH P .any ops Q S n L a' w') a w := by
  have hs := h (fun a' w' => S w' ∧ wpAnyH P .any ops Q S n L a' w') (fun a w h1 h2 => ⟨h1, h2⟩)
  unfold wpOp
  rw [op_at ho]
  simp only [hw, if_true]
  exact .inl hs

theorem any_append {L : Array Bool} {i n : Nat} {a : Act} {w w' : World} {o : Oper} {v vx v' : Value} (ho : (ops.toList.drop i).head? = some o) (hw : Region.wanted o (yielded ops a.tmps) = true) (s x : Operand) (t : TypeId) (hop : o.op = .call { callee := .builtin .append, args := #[s, x], argTypes := #[t, t] }) (hs : a.eval s = v) (hx : a.eval x = vx) (hr : (Builtin.append_ #[t, t] o.type #[v, vx]).run P w = .ok v' w') (h : S w' ∧ wpAnyH P .any ops Q S n L (a.put o.dst v') w') : wpOp P ops Q i (fun a' w' => S w' ∧ wpAnyH P .any ops Q S n L a' w') a w := by
  unfold wpOp
  rw [op_at ho]
  simp only [hw, if_true]
  refine .inl ?_
  unfold Oper.wp execOp
  simp only [hop, resolve, invoke, builtin, Sem.run_bind, Sem.run_pure, Result.andThen_ok, List.map_toArray, List.map_cons, List.map_nil, hs, hx, hr]
  exact h

theorem region_any {id n : Nat} {a : Act} {w : World} (hm : P.follows .mixedOrders = true) (hn : ops.size = n) (h : wpAnyH P .any ops Q S n (Array.replicate n false) a w.drew) : (Code.region id ops true).wp P Q a w := by
  subst hn
  exact wp_region_held (S := S) hm h

end

end Go.Proofs.YthmecljkackmbaaGreat

/- The steps of a region of All's. -/
namespace Go.Proofs.YthmecljkackmbaaGreat
open Go.RowKit
set_option linter.unusedVariables false

theorem wzb_new : Array.replicate 13 false = lst 13 0 := by kernel_rfl

theorem wzb_size : (regOf 4 Tryz.f82).size = 13 := by kernel_rfl

theorem wzb_t0_0 : Region.free .any (regOf 4 Tryz.f82) (lst 13 0) 0 = true ∧ (Region.ready .any (regOf 4 Tryz.f82) (lst 13 0)).contains 0 = true ∧ (lst 13 0).setIfInBounds 0 true = lst 13 1 := ⟨by kernel_rfl, by kernel_rfl, by kernel_rfl⟩

theorem wzb_t1_1 : Region.free .any (regOf 4 Tryz.f82) (lst 13 1) 1 = true ∧ (Region.ready .any (regOf 4 Tryz.f82) (lst 13 1)).contains 1 = true ∧ (lst 13 1).setIfInBounds 1 true = lst 13 3 := ⟨by kernel_rfl, by kernel_rfl, by kernel_rfl⟩

theorem wzb_t3_2 : Region.free .any (regOf 4 Tryz.f82) (lst 13 3) 2 = true ∧ (Region.ready .any (regOf 4 Tryz.f82) (lst 13 3)).contains 2 = true ∧ (lst 13 3).setIfInBounds 2 true = lst 13 7 := ⟨by kernel_rfl, by kernel_rfl, by kernel_rfl⟩

theorem wzb_t7_3 : Region.free .any (regOf 4 Tryz.f82) (lst 13 7) 3 = true ∧ (Region.ready .any (regOf 4 Tryz.f82) (lst 13 7)).contains 3 = true ∧ (lst 13 7).setIfInBounds 3 true = lst 13 15 := ⟨by kernel_rfl, by kernel_rfl, by kernel_rfl⟩

theorem wzb_t15_5 : Region.free .any (regOf 4 Tryz.f82) (lst 13 15) 5 = true ∧ (Region.ready .any (regOf 4 Tryz.f82) (lst 13 15)).contains 5 = true ∧ (lst 13 15).setIfInBounds 5 true = lst 13 47 := ⟨by kernel_rfl, by kernel_rfl, by kernel_rfl⟩

theorem wzb_t47_6 : Region.free .any (regOf 4 Tryz.f82) (lst 13 47) 6 = true ∧ (Region.ready .any (regOf 4 Tryz.f82) (lst 13 47)).contains 6 = true ∧ (lst 13 47).setIfInBounds 6 true = lst 13 111 := ⟨by kernel_rfl, by kernel_rfl, by kernel_rfl⟩

theorem wzb_t111_7 : Region.free .any (regOf 4 Tryz.f82) (lst 13 111) 7 = true ∧ (Region.ready .any (regOf 4 Tryz.f82) (lst 13 111)).contains 7 = true ∧ (lst 13 111).setIfInBounds 7 true = lst 13 239 := ⟨by kernel_rfl, by kernel_rfl, by kernel_rfl⟩

theorem wzb_t239_8 : Region.free .any (regOf 4 Tryz.f82) (lst 13 239) 8 = true ∧ (Region.ready .any (regOf 4 Tryz.f82) (lst 13 239)).contains 8 = true ∧ (lst 13 239).setIfInBounds 8 true = lst 13 495 := ⟨by kernel_rfl, by kernel_rfl, by kernel_rfl⟩

theorem wzb_r495 : Region.ready .any (regOf 4 Tryz.f82) (lst 13 495) = [4] ∧ (lst 13 495).setIfInBounds 4 true = lst 13 511 := ⟨by kernel_rfl, by kernel_rfl⟩

theorem wzb_r511 : Region.ready .any (regOf 4 Tryz.f82) (lst 13 511) = [9] ∧ (lst 13 511).setIfInBounds 9 true = lst 13 1023 := ⟨by kernel_rfl, by kernel_rfl⟩

theorem wzb_r1023 : Region.ready .any (regOf 4 Tryz.f82) (lst 13 1023) = [10] ∧ (lst 13 1023).setIfInBounds 10 true = lst 13 2047 := ⟨by kernel_rfl, by kernel_rfl⟩

theorem wzb_r2047 : Region.ready .any (regOf 4 Tryz.f82) (lst 13 2047) = [11] ∧ (lst 13 2047).setIfInBounds 11 true = lst 13 4095 := ⟨by kernel_rfl, by kernel_rfl⟩

theorem wzb_r4095 : Region.ready .any (regOf 4 Tryz.f82) (lst 13 4095) = [12] ∧ (lst 13 4095).setIfInBounds 12 true = lst 13 8191 := ⟨by kernel_rfl, by kernel_rfl⟩

theorem wzb_end : Region.ready .any (regOf 4 Tryz.f82) (lst 13 8191) = [] := by kernel_rfl

end Go.Proofs.YthmecljkackmbaaGreat

/- Of a store: All. -/
namespace Go.Proofs.YthmecljkackmbaaGreat
open Go.RowKit
open Bm (Ov)
set_option linter.unusedVariables false

set_option maxRecDepth 20000 in
set_option maxHeartbeats 4000000 in
theorem sAll_any (ps p q : Nat) (F : Nat → Prop) (w : World) (s : Sto.Ss) (h : SW ps p q F w s) (hn : s.l.length ≤ 100000) :
    Calls Tryz.prog 82 #[.pointer (some ⟨ps, 0, none⟩)] w fun E w' => ∃ A B, E = .returned (.func (.func 147) #[] #[.pointer (some ⟨A, 0, none⟩), .pointer (some ⟨B, 0, none⟩)]) ∧ SeqS A B w.heap.size w' s.r.l (Rl.tab s.l) ∧ Below w.heap.size w w' := by
  obtain ⟨w1, hw1, sz1, b1, B1⟩ := blk_step w #[.slice none 0 0] 69
  obtain ⟨w2, hw2, sz2, b2, B2⟩ := blk_step w1 #[.slice none 0 0] 53
  rw [sz1] at B2
  have b02 := b1.trans (b2.mono b1.size)
  have HR := hide (sready_any ps p q F w2 s (h.below b02))
  have HSW := hide (h.below b02)
  have HLT := hide h.lt
  have HA := hide ((b2.block w.heap.size (by omega)).trans B1)
  have HB := hide B2
  have HB02 := hide b02
  have HSZ : Hid (w2.heap.size = w.heap.size + 2) := hide (by omega)
  clear h b1 b2 b02 B1 B2 sz2
  go_enter Tryz.func82, Tryz.ntmps82
  go_wp2_with fail
  refine HR.out.mono ?_
  rintro E w3 ⟨rfl, bel3⟩
  have s3 := HSW.out.below bel3
  have sz3 : w.heap.size + 2 ≤ w3.heap.size := by have := bel3.size; have := HSZ.out; omega
  have hA3 := (bel3.block w.heap.size (by have := HSZ.out; omega)).trans HA.out
  have hB3 := (bel3.block (w.heap.size + 1) (by have := HSZ.out; omega)).trans HB.out
  obtain ⟨F1, G1, h1, ⟨pm, bm, v, rs, hs, hG⟩, _, ok, hF⟩ := s3
  have hpw : ps < w.heap.size := HLT.out ps (by rw [hF, hG]; exact .inr (.inl rfl))
  have SX : Hid (∀ W, Below w3.heap.size w3 W → W.cell? ⟨ps, 0, none⟩ = some (.pointer (some ⟨p, 0, none⟩)) ∧ W.cell? ⟨ps, 2, none⟩ = some (.pointer (some ⟨pm, 0, none⟩))) := hide fun W hW => by
    have k := (hs.below hW).blk
    exact ⟨blk_cell k 0 rfl, blk_cell k 2 rfl⟩
  have HLI : Hid (∀ W, Below w3.heap.size w3 W → Calls Tryz.prog 46 #[.pointer (some ⟨p, 0, none⟩)] W fun E w' => ∃ v' rs', E = .returned v' ∧ Rq W.heap.size w' s.r.l v' rs' ∧ Below W.heap.size W w') := hide fun W hW =>
    (hlist_any p q F1 W s.r (h1.below hW)).mono fun E w' h => by
      obtain ⟨v', rs', e1, e2, _, e3⟩ := h
      exact ⟨v', rs', e1, e2, e3⟩
  have htl := Sto.tab_len ok.rest
  have HAL : Hid (∀ W, Below w3.heap.size w3 W → Calls Tryz.prog 53 #[.pointer (some ⟨pm, 0, none⟩)] W fun E w' => ∃ B, E = .returned (.func (.func 166) #[] #[.pointer (some ⟨B, 0, none⟩)]) ∧ SeqT B W.heap.size w' (Rl.tab s.l) ∧ Below W.heap.size W w') := hide fun W hW =>
    tall_of _ W _ (tops_any pm bm W _ (hs.tb.below hW) (fit_c (Sto.tab_c ok.rest)) (by omega))
  have HTL : Hid ((Rl.tab s.l).length ≤ 1000000) := hide (by omega)
  have HA3 := hide hA3
  have HB3 := hide hB3
  have HB3' := hide (HB02.out.trans (bel3.mono HB02.out.size))
  clear HR HSW hs h1 ok bel3 hA3 hB3 htl HA HB hF hG HLT hn
  go_wp2_with fail
  obtain ⟨W0, hW0⟩ : ∃ x, w3.drew = x := ⟨_, rfl⟩
  have bel0 : Below w3.heap.size w3 W0 := by rw [← hW0]; exact (Below.refl _ _).drew
  refine region_any (ops := (regOf 4 Tryz.f82)) (S := fun W => W.cell? ⟨ps, 0, none⟩ = some (.pointer (some ⟨p, 0, none⟩)) ∧ W.cell? ⟨ps, 2, none⟩ = some (.pointer (some ⟨pm, 0, none⟩))) (by kernel_rfl) wzb_size ?_
  rw [wzb_new, hW0]
  refine any_take (v := ?_) wzb_t0_0 (by kernel_rfl) (fun _ _ _ _ _ h => h) (SX.out _ bel0) rfl rfl (by rfl) ?_ ?_
  rotate_left 1
  · intro w hS
    (try dsimp only at hS)
    go_simp
    all_goals with_reducible rfl
  simp only [Act.put, List.setIfInBounds_toArray, List.set_cons_zero, List.set_cons_succ]
  refine any_take (v := ?_) wzb_t1_1 (by kernel_rfl) (fun _ _ _ _ _ h => h) (SX.out _ bel0) rfl rfl (by rfl) ?_ ?_
  rotate_left 1
  · intro w hS
    (try dsimp only at hS)
    go_simp
    all_goals with_reducible rfl
  simp only [Act.put, List.setIfInBounds_toArray, List.set_cons_zero, List.set_cons_succ]
  refine any_take (v := ?_) wzb_t3_2 (by kernel_rfl) (fun _ _ _ _ _ h => h) (SX.out _ bel0) rfl rfl (by rfl) ?_ ?_
  rotate_left 1
  · intro w hS
    (try dsimp only at hS)
    go_simp
    all_goals with_reducible rfl
  simp only [Act.put, List.setIfInBounds_toArray, List.set_cons_zero, List.set_cons_succ]
  refine any_take (v := ?_) wzb_t7_3 (by kernel_rfl) (fun _ _ _ _ _ h => h) (SX.out _ bel0) rfl rfl (by rfl) ?_ ?_
  rotate_left 1
  · intro w hS
    (try dsimp only at hS)
    go_simp
    all_goals with_reducible rfl
  simp only [Act.put, List.setIfInBounds_toArray, List.set_cons_zero, List.set_cons_succ]
  refine any_take (v := ?_) wzb_t15_5 (by kernel_rfl) (fun _ _ _ _ _ h => h) (SX.out _ bel0) rfl rfl (by rfl) ?_ ?_
  rotate_left 1
  · intro w hS
    (try dsimp only at hS)
    go_simp
    all_goals with_reducible rfl
  simp only [Act.put, List.setIfInBounds_toArray, List.set_cons_zero, List.set_cons_succ]
  refine any_take (v := ?_) wzb_t47_6 (by kernel_rfl) (fun _ _ _ _ _ h => h) (SX.out _ bel0) rfl rfl (by rfl) ?_ ?_
  rotate_left 1
  · intro w hS
    (try dsimp only at hS)
    go_simp
    all_goals with_reducible rfl
  simp only [Act.put, List.setIfInBounds_toArray, List.set_cons_zero, List.set_cons_succ]
  refine any_take (v := ?_) wzb_t111_7 (by kernel_rfl) (fun _ _ _ _ _ h => h) (SX.out _ bel0) rfl rfl (by rfl) ?_ ?_
  rotate_left 1
  · intro w hS
    (try dsimp only at hS)
    go_simp
    all_goals with_reducible rfl
  simp only [Act.put, List.setIfInBounds_toArray, List.set_cons_zero, List.set_cons_succ]
  refine any_take (v := ?_) wzb_t239_8 (by kernel_rfl) (fun _ _ _ _ _ h => h) (SX.out _ bel0) rfl rfl (by rfl) ?_ ?_
  rotate_left 1
  · intro w hS
    (try dsimp only at hS)
    go_simp
    all_goals with_reducible rfl
  simp only [Act.put, List.setIfInBounds_toArray, List.set_cons_zero, List.set_cons_succ]
  refine any_one wzb_r495 ?_
  refine any_op rfl (by rfl) (fun K hK => ?_)
  go_simp
  refine (HLI.out _ bel0).mono ?_
  rintro E W1 ⟨vr, rr, rfl, Q1, st1⟩
  have bel1 := bel0.trans (st1.mono bel0.size)
  obtain ⟨ra, rn, rk, hvr⟩ : ∃ a n k, vr = .slice a n k := by
    obtain ⟨a1, k1, h1, _⟩ := Q1.row.row.shape
    exact ⟨a1, _, k1, h1⟩
  subst hvr
  have Q1 := hide Q1
  clear st1
  go_wp2_with fail
  refine hK.out _ _ (SX.out _ bel1) ?_
  clear hK K
  try simp only [Act.put, List.setIfInBounds_toArray, List.set_cons_zero, List.set_cons_succ]
  refine any_one wzb_r511 ?_
  refine any_op rfl (by rfl) (fun K hK => ?_)
  go_simp
  refine (HAL.out _ bel1).mono ?_
  rintro E W2 ⟨B', rfl, sq, st2⟩
  have bel2 := bel1.trans (st2.mono bel1.size)
  have HCO := hide (collect_any B' _ W2 _ sq HTL.out)
  have Q2 := hide (Q1.out.below st2)
  clear sq st2 Q1
  go_wp2_with fail
  refine hK.out _ _ (SX.out _ bel2) ?_
  clear hK K
  try simp only [Act.put, List.setIfInBounds_toArray, List.set_cons_zero, List.set_cons_succ]
  refine any_one wzb_r1023 ?_
  refine any_op rfl (by rfl) (fun K hK => ?_)
  go_simp
  refine HCO.out.mono ?_
  rintro E W3 ⟨vo, rfl, O3, st3⟩
  have bel3 := bel2.trans (st3.mono bel2.size)
  obtain ⟨oa, on, ok, hvo⟩ : ∃ a n k, vo = .slice a n k := by
    obtain ⟨a1, k1, h1, _⟩ := O3.is.shape
    exact ⟨a1, _, k1, h1⟩
  subst hvo
  have q3 := Q2.out.below st3
  have hz0 := bel0.size
  have hz2 := bel2.size
  have hA := (bel3.block w.heap.size (by omega)).trans HA3.out
  have hB := (bel3.block (w.heap.size + 1) (by omega)).trans HB3.out
  have cA := blk_cell hA 0 rfl
  simp only [List.getElem_toArray, List.getElem_cons_zero] at cA
  obtain ⟨X1, hX1, bX1, gX1, fX1⟩ := put_at3 hA 0 (.slice ra rn rk)
  have hB1 := (gX1.block (w.heap.size + 1) (blk_lt hB) (by simp)).trans hB
  have cB := blk_cell hB1 0 rfl
  simp only [List.getElem_toArray, List.getElem_cons_zero] at cB
  obtain ⟨X2, hX2, bX2, gX2, fX2⟩ := put_at3 hB1 0 (.slice oa on ok)
  have hA2 := (gX2.block w.heap.size (blk_lt bX1) (by simp)).trans bX1
  have FX1 : X1.cell? ⟨ps, 0, none⟩ = some (.pointer (some ⟨p, 0, none⟩)) ∧ X1.cell? ⟨ps, 2, none⟩ = some (.pointer (some ⟨pm, 0, none⟩)) := by
    have e := gX1.block ps (by have := bel3.size; omega) (by simp; omega)
    exact ⟨(cell_of_blk' e 0).trans (SX.out _ bel3).1, (cell_of_blk' e 2).trans (SX.out _ bel3).2⟩
  have FX2 : X2.cell? ⟨ps, 0, none⟩ = some (.pointer (some ⟨p, 0, none⟩)) ∧ X2.cell? ⟨ps, 2, none⟩ = some (.pointer (some ⟨pm, 0, none⟩)) := by
    have e := gX2.block ps (by have := bel3.size; have := gX1.size; omega) (by simp; omega)
    exact ⟨(cell_of_blk' e 0).trans FX1.1, (cell_of_blk' e 2).trans FX1.2⟩
  have FIN : Hid (SeqS w.heap.size (w.heap.size + 1) w.heap.size X2 s.r.l (Rl.tab s.l) ∧ Below w.heap.size w X2) := hide (by
    have b3 := bel3.size
    have hne : ∀ g, w3.heap.size ≤ g → g < W3.heap.size → X2.heap[g]? = W3.heap[g]? := fun g h1 h2 => by
      rw [gX2.block g (by have := gX1.size; omega) (by simp; omega), gX1.block g h2 (by simp; omega)]
    refine ⟨⟨_, rr, _, Nat.le_refl _, by omega, hA2, bX2, (q3.agree fun g hg => hne g (by have := q3.ge g hg; omega) (q3.lt g hg)).rebase (by omega), ?_⟩, ?_⟩
    · exact OwnO.rebase (base := W2.heap.size) (row_agree O3 fun g hg => hne g (by have := (OwnO.block O3 g hg).1; omega) (OwnO.block O3 g hg).2) (by omega)
    · have b4 := HB3'.out.trans (bel3.mono (by omega))
      exact (b4.grown gX1 b4.size (fun k hk => by simp at hk; omega)).grown gX2 (Nat.le_trans b4.size gX1.size) (fun k hk => by simp at hk; omega))
  clear hA hB hB1 bX1 gX1 bX2 gX2 hA2 q3 O3 Q2 st3 HCO
  go_wp2_with fail
  refine hK.out _ _ (SX.out _ bel3) ?_
  clear hK K
  try simp only [Act.put, List.setIfInBounds_toArray, List.set_cons_zero, List.set_cons_succ]
  refine any_one wzb_r2047 ?_
  refine any_op rfl (by rfl) (fun K hK => ?_)
  go_simp
  go_wp2_with fail
  refine hK.out _ _ FX1 ?_
  clear hK K
  try simp only [Act.put, List.setIfInBounds_toArray, List.set_cons_zero, List.set_cons_succ]
  refine any_one wzb_r4095 ?_
  refine any_op rfl (by rfl) (fun K hK => ?_)
  go_simp
  go_wp2_with fail
  refine hK.out _ _ FX2 ?_
  clear hK K
  try simp only [Act.put, List.setIfInBounds_toArray, List.set_cons_zero, List.set_cons_succ]
  refine any_done wzb_end ?_
  go_wp2
  go_ret
  exact ⟨_, _, rfl, FIN.out⟩

end Go.Proofs.YthmecljkackmbaaGreat
