/- Texts of one layer, one behind the other. -/
import Derived.Test.YtofbnkeglhhnlaaGD
import Derived.Test.YtofbnkeglhhnlaaProg
/- A drawn region, walked step by step, with forks. -/
namespace Go.Proofs.Ytofbnkeglhhnlaa
open Go.RowKit
set_option linter.unusedVariables false

section
variable {P : Program} {ops : Array Oper} {Q : Exit → Act → World → Prop} {S : World → Prop}

theorem any_take {L L' : Array Bool} {i n : Nat} {a : Act} {w : World} {oi : Oper} {v : Value} {t : Tmp} (st : Region.free .any ops L i = true ∧ (Region.ready .any ops L).contains i = true ∧ L.setIfInBounds i true = L') (hs : Region.noSelect ops = true) (hQ : ∀ c a t v w, Q (.panic c) (Act.put a (some t) v) w → Q (.panic c) a w) (hS : S w) (hi : (ops.toList.drop i).head? = some oi) (ht : oi.dst = some t) (hw : Region.wanted oi (yielded ops a.tmps) = true) (hy : ∀ w, S w → (execOp a.eval oi).run P w = .ok (.value v) w) (h : wpAnyH P .any ops Q S n L' (a.put (some t) v) w) : wpAnyH P .any ops Q S (n + 1) L a w :=
  wpAnyH_take (op_at hi) hs st.1 st.2.1 (by rw [ht]; exact fun c a w => hQ c a _ _ w) (.inl ⟨hw, hy⟩) hS (by rw [st.2.2, ht]; exact h)

theorem any_one {L L' : Array Bool} {i n : Nat} {a : Act} {w : World} (st : Region.ready .any ops L = [i] ∧ L.setIfInBounds i true = L') (h : wpOp P ops Q i (fun a' w' => S w' ∧ wpAnyH P .any ops Q S n L' a' w') a w) : wpAnyH P .any ops Q S (n + 1) L a w :=
  wpAnyH_all st.1 (by simp) (fun j hj => by
    rw [List.mem_singleton.1 hj, st.2]
    exact h)

theorem any_two {L Li Lj : Array Bool} {i j n : Nat} {a : Act} {w : World} (st : Region.ready .any ops L = [i, j] ∧ L.setIfInBounds i true = Li ∧ L.setIfInBounds j true = Lj) (hi : wpOp P ops Q i (fun a' w' => S w' ∧ wpAnyH P .any ops Q S n Li a' w') a w) (hj : wpOp P ops Q j (fun a' w' => S w' ∧ wpAnyH P .any ops Q S n Lj a' w') a w) : wpAnyH P .any ops Q S (n + 1) L a w :=
  wpAnyH_all st.1 (by simp) (fun x hx => by
    simp only [List.mem_cons, List.not_mem_nil, or_false] at hx
    rcases hx with rfl | rfl
    · rw [st.2.1]
      exact hi
    · rw [st.2.2]
      exact hj)

theorem any_three {L Li Lj Lk : Array Bool} {i j k n : Nat} {a : Act} {w : World} (st : Region.ready .any ops L = [i, j, k] ∧ L.setIfInBounds i true = Li ∧ L.setIfInBounds j true = Lj ∧ L.setIfInBounds k true = Lk) (hi : wpOp P ops Q i (fun a' w' => S w' ∧ wpAnyH P .any ops Q S n Li a' w') a w) (hj : wpOp P ops Q j (fun a' w' => S w' ∧ wpAnyH P .any ops Q S n Lj a' w') a w) (hk : wpOp P ops Q k (fun a' w' => S w' ∧ wpAnyH P .any ops Q S n Lk a' w') a w) : wpAnyH P .any ops Q S (n + 1) L a w :=
  wpAnyH_all st.1 (by simp) (fun x hx => by
    simp only [List.mem_cons, List.not_mem_nil, or_false] at hx
    rcases hx with rfl | rfl | rfl
    · rw [st.2.1]
      exact hi
    · rw [st.2.2.1]
      exact hj
    · rw [st.2.2.2]
      exact hk)

theorem any_done {L : Array Bool} {a : Act} {w : World} (h : Region.ready .any ops L = []) (k : Q .normal a w) : wpAnyH P .any ops Q S 0 L a w := ⟨h, k⟩

theorem any_op {L : Array Bool} {i n : Nat} {a : Act} {w : World} {o : Oper} (ho : (ops.toList.drop i).head? = some o) (hw : Region.wanted o (yielded ops a.tmps) = true) (h : ∀ K' : Act → World → Prop, Shut (∀ a w, S w → wpAnyH P .any ops Q S n L a w → K' a w) → Oper.wp P o a w K' Q) : wpOp P ops Q i (fun a' w' => S w' ∧ wpAnyH P .any ops Q S n L a' w') a w := by
  have hs := h (fun a' w' => S w' ∧ wpAnyH P .any ops Q S n L a' w') (fun a w h1 h2 => ⟨h1, h2⟩)
  unfold wpOp
  rw [op_at ho]
  simp only [hw, if_true]
  exact .inl hs

theorem any_append {L : Array Bool} {i n : Nat} {a : Act} {w w' : World} {o : Oper} {v vx v' : Value} (ho : (ops.toList.drop i).head? = some o) (hw : Region.wanted o (yielded ops a.tmps) = true) (s x : Operand) (t : TypeId) (hop : o.op = .call { callee := .builtin .append, args := #[s, x], argTypes := #[t, t] }) (hs : a.eval s = v) (hx : a.eval x = vx) (hr : (Builtin.append_ #[t, t] o.type #[v, vx]).run P w = .ok v' w') (h : S w' ∧ wpAnyH P .any ops Q S n L (a.put o.dst v') w') : wpOp P ops Q i (fun a' w' => S w' ∧ wpAnyH P .any ops Q S n L a' w') a w := by
  unfold wpOp
  rw [op_at ho]
  simp only [hw, if_true]
  refine .inl ?_
  unfold Oper.wp execOp
  simp only [hop, resolve, invoke, builtin, Sem.run_bind, Sem.run_pure, Result.andThen_ok, List.map_toArray, List.map_cons, List.map_nil, hs, hx, hr]
  exact h

theorem region_any {id n : Nat} {a : Act} {w : World} (hm : P.follows .mixedOrders = true) (hn : ops.size = n) (h : wpAnyH P .any ops Q S n (Array.replicate n false) a w.drew) : (Code.region id ops true).wp P Q a w := by
  subst hn
  exact wp_region_held (S := S) hm h

end

end Go.Proofs.Ytofbnkeglhhnlaa

/- The steps of a region of a call's. -/
namespace Go.Proofs.Ytofbnkeglhhnlaa
open Go.RowKit
set_option linter.unusedVariables false

theorem wza16_new : Array.replicate 14 false = lst 14 0 := by kernel_rfl

theorem wza16_size : (regOf 3 Try.f18).size = 14 := by kernel_rfl

theorem wza16_t0_0 : Region.free .any (regOf 3 Try.f18) (lst 14 0) 0 = true ∧ (Region.ready .any (regOf 3 Try.f18) (lst 14 0)).contains 0 = true ∧ (lst 14 0).setIfInBounds 0 true = lst 14 1 := ⟨by kernel_rfl, by kernel_rfl, by kernel_rfl⟩

theorem wza16_t1_1 : Region.free .any (regOf 3 Try.f18) (lst 14 1) 1 = true ∧ (Region.ready .any (regOf 3 Try.f18) (lst 14 1)).contains 1 = true ∧ (lst 14 1).setIfInBounds 1 true = lst 14 3 := ⟨by kernel_rfl, by kernel_rfl, by kernel_rfl⟩

theorem wza16_t3_2 : Region.free .any (regOf 3 Try.f18) (lst 14 3) 2 = true ∧ (Region.ready .any (regOf 3 Try.f18) (lst 14 3)).contains 2 = true ∧ (lst 14 3).setIfInBounds 2 true = lst 14 7 := ⟨by kernel_rfl, by kernel_rfl, by kernel_rfl⟩

theorem wza16_t7_3 : Region.free .any (regOf 3 Try.f18) (lst 14 7) 3 = true ∧ (Region.ready .any (regOf 3 Try.f18) (lst 14 7)).contains 3 = true ∧ (lst 14 7).setIfInBounds 3 true = lst 14 15 := ⟨by kernel_rfl, by kernel_rfl, by kernel_rfl⟩

theorem wza16_t15_4 : Region.free .any (regOf 3 Try.f18) (lst 14 15) 4 = true ∧ (Region.ready .any (regOf 3 Try.f18) (lst 14 15)).contains 4 = true ∧ (lst 14 15).setIfInBounds 4 true = lst 14 31 := ⟨by kernel_rfl, by kernel_rfl, by kernel_rfl⟩

theorem wza16_t31_6 : Region.free .any (regOf 3 Try.f18) (lst 14 31) 6 = true ∧ (Region.ready .any (regOf 3 Try.f18) (lst 14 31)).contains 6 = true ∧ (lst 14 31).setIfInBounds 6 true = lst 14 95 := ⟨by kernel_rfl, by kernel_rfl, by kernel_rfl⟩

theorem wza16_t95_7 : Region.free .any (regOf 3 Try.f18) (lst 14 95) 7 = true ∧ (Region.ready .any (regOf 3 Try.f18) (lst 14 95)).contains 7 = true ∧ (lst 14 95).setIfInBounds 7 true = lst 14 223 := ⟨by kernel_rfl, by kernel_rfl, by kernel_rfl⟩

theorem wza16_t223_8 : Region.free .any (regOf 3 Try.f18) (lst 14 223) 8 = true ∧ (Region.ready .any (regOf 3 Try.f18) (lst 14 223)).contains 8 = true ∧ (lst 14 223).setIfInBounds 8 true = lst 14 479 := ⟨by kernel_rfl, by kernel_rfl, by kernel_rfl⟩

theorem wza16_t479_9 : Region.free .any (regOf 3 Try.f18) (lst 14 479) 9 = true ∧ (Region.ready .any (regOf 3 Try.f18) (lst 14 479)).contains 9 = true ∧ (lst 14 479).setIfInBounds 9 true = lst 14 991 := ⟨by kernel_rfl, by kernel_rfl, by kernel_rfl⟩

theorem wza16_t991_10 : Region.free .any (regOf 3 Try.f18) (lst 14 991) 10 = true ∧ (Region.ready .any (regOf 3 Try.f18) (lst 14 991)).contains 10 = true ∧ (lst 14 991).setIfInBounds 10 true = lst 14 2015 := ⟨by kernel_rfl, by kernel_rfl, by kernel_rfl⟩

theorem wza16_r2015 : Region.ready .any (regOf 3 Try.f18) (lst 14 2015) = [5] ∧ (lst 14 2015).setIfInBounds 5 true = lst 14 2047 := ⟨by kernel_rfl, by kernel_rfl⟩

theorem wza16_r2047 : Region.ready .any (regOf 3 Try.f18) (lst 14 2047) = [11] ∧ (lst 14 2047).setIfInBounds 11 true = lst 14 4095 := ⟨by kernel_rfl, by kernel_rfl⟩

theorem wza16_t4095_12 : Region.free .any (regOf 3 Try.f18) (lst 14 4095) 12 = true ∧ (Region.ready .any (regOf 3 Try.f18) (lst 14 4095)).contains 12 = true ∧ (lst 14 4095).setIfInBounds 12 true = lst 14 8191 := ⟨by kernel_rfl, by kernel_rfl, by kernel_rfl⟩

theorem wza16_t8191_13 : Region.free .any (regOf 3 Try.f18) (lst 14 8191) 13 = true ∧ (Region.ready .any (regOf 3 Try.f18) (lst 14 8191)).contains 13 = true ∧ (lst 14 8191).setIfInBounds 13 true = lst 14 16383 := ⟨by kernel_rfl, by kernel_rfl, by kernel_rfl⟩

theorem wza16_end : Region.ready .any (regOf 3 Try.f18) (lst 14 16383) = [] := by kernel_rfl

end Go.Proofs.Ytofbnkeglhhnlaa

/- The steps of a region of a call's. -/
namespace Go.Proofs.Ytofbnkeglhhnlaa
open Go.RowKit
set_option linter.unusedVariables false

theorem wzb16_new : Array.replicate 10 false = lst 10 0 := by kernel_rfl

theorem wzb16_size : (regOf 5 Try.f18).size = 10 := by kernel_rfl

theorem wzb16_t0_0 : Region.free .any (regOf 5 Try.f18) (lst 10 0) 0 = true ∧ (Region.ready .any (regOf 5 Try.f18) (lst 10 0)).contains 0 = true ∧ (lst 10 0).setIfInBounds 0 true = lst 10 1 := ⟨by kernel_rfl, by kernel_rfl, by kernel_rfl⟩

theorem wzb16_t1_1 : Region.free .any (regOf 5 Try.f18) (lst 10 1) 1 = true ∧ (Region.ready .any (regOf 5 Try.f18) (lst 10 1)).contains 1 = true ∧ (lst 10 1).setIfInBounds 1 true = lst 10 3 := ⟨by kernel_rfl, by kernel_rfl, by kernel_rfl⟩

theorem wzb16_t3_2 : Region.free .any (regOf 5 Try.f18) (lst 10 3) 2 = true ∧ (Region.ready .any (regOf 5 Try.f18) (lst 10 3)).contains 2 = true ∧ (lst 10 3).setIfInBounds 2 true = lst 10 7 := ⟨by kernel_rfl, by kernel_rfl, by kernel_rfl⟩

theorem wzb16_t7_4 : Region.free .any (regOf 5 Try.f18) (lst 10 7) 4 = true ∧ (Region.ready .any (regOf 5 Try.f18) (lst 10 7)).contains 4 = true ∧ (lst 10 7).setIfInBounds 4 true = lst 10 23 := ⟨by kernel_rfl, by kernel_rfl, by kernel_rfl⟩

theorem wzb16_t23_5 : Region.free .any (regOf 5 Try.f18) (lst 10 23) 5 = true ∧ (Region.ready .any (regOf 5 Try.f18) (lst 10 23)).contains 5 = true ∧ (lst 10 23).setIfInBounds 5 true = lst 10 55 := ⟨by kernel_rfl, by kernel_rfl, by kernel_rfl⟩

theorem wzb16_t55_6 : Region.free .any (regOf 5 Try.f18) (lst 10 55) 6 = true ∧ (Region.ready .any (regOf 5 Try.f18) (lst 10 55)).contains 6 = true ∧ (lst 10 55).setIfInBounds 6 true = lst 10 119 := ⟨by kernel_rfl, by kernel_rfl, by kernel_rfl⟩

theorem wzb16_r119 : Region.ready .any (regOf 5 Try.f18) (lst 10 119) = [3] ∧ (lst 10 119).setIfInBounds 3 true = lst 10 127 := ⟨by kernel_rfl, by kernel_rfl⟩

theorem wzb16_r127 : Region.ready .any (regOf 5 Try.f18) (lst 10 127) = [7] ∧ (lst 10 127).setIfInBounds 7 true = lst 10 255 := ⟨by kernel_rfl, by kernel_rfl⟩

theorem wzb16_t255_8 : Region.free .any (regOf 5 Try.f18) (lst 10 255) 8 = true ∧ (Region.ready .any (regOf 5 Try.f18) (lst 10 255)).contains 8 = true ∧ (lst 10 255).setIfInBounds 8 true = lst 10 511 := ⟨by kernel_rfl, by kernel_rfl, by kernel_rfl⟩

theorem wzb16_t511_9 : Region.free .any (regOf 5 Try.f18) (lst 10 511) 9 = true ∧ (Region.ready .any (regOf 5 Try.f18) (lst 10 511)).contains 9 = true ∧ (lst 10 511).setIfInBounds 9 true = lst 10 1023 := ⟨by kernel_rfl, by kernel_rfl, by kernel_rfl⟩

theorem wzb16_end : Region.ready .any (regOf 5 Try.f18) (lst 10 1023) = [] := by kernel_rfl

end Go.Proofs.Ytofbnkeglhhnlaa

/- The steps of a region of a call's. -/
namespace Go.Proofs.Ytofbnkeglhhnlaa
open Go.RowKit
set_option linter.unusedVariables false

theorem wzc16_new : Array.replicate 10 false = lst 10 0 := by kernel_rfl

theorem wzc16_size : (regOf 7 Try.f18).size = 10 := by kernel_rfl

theorem wzc16_t0_0 : Region.free .any (regOf 7 Try.f18) (lst 10 0) 0 = true ∧ (Region.ready .any (regOf 7 Try.f18) (lst 10 0)).contains 0 = true ∧ (lst 10 0).setIfInBounds 0 true = lst 10 1 := ⟨by kernel_rfl, by kernel_rfl, by kernel_rfl⟩

theorem wzc16_t1_1 : Region.free .any (regOf 7 Try.f18) (lst 10 1) 1 = true ∧ (Region.ready .any (regOf 7 Try.f18) (lst 10 1)).contains 1 = true ∧ (lst 10 1).setIfInBounds 1 true = lst 10 3 := ⟨by kernel_rfl, by kernel_rfl, by kernel_rfl⟩

theorem wzc16_t3_2 : Region.free .any (regOf 7 Try.f18) (lst 10 3) 2 = true ∧ (Region.ready .any (regOf 7 Try.f18) (lst 10 3)).contains 2 = true ∧ (lst 10 3).setIfInBounds 2 true = lst 10 7 := ⟨by kernel_rfl, by kernel_rfl, by kernel_rfl⟩

theorem wzc16_t7_4 : Region.free .any (regOf 7 Try.f18) (lst 10 7) 4 = true ∧ (Region.ready .any (regOf 7 Try.f18) (lst 10 7)).contains 4 = true ∧ (lst 10 7).setIfInBounds 4 true = lst 10 23 := ⟨by kernel_rfl, by kernel_rfl, by kernel_rfl⟩

theorem wzc16_t23_5 : Region.free .any (regOf 7 Try.f18) (lst 10 23) 5 = true ∧ (Region.ready .any (regOf 7 Try.f18) (lst 10 23)).contains 5 = true ∧ (lst 10 23).setIfInBounds 5 true = lst 10 55 := ⟨by kernel_rfl, by kernel_rfl, by kernel_rfl⟩

theorem wzc16_t55_6 : Region.free .any (regOf 7 Try.f18) (lst 10 55) 6 = true ∧ (Region.ready .any (regOf 7 Try.f18) (lst 10 55)).contains 6 = true ∧ (lst 10 55).setIfInBounds 6 true = lst 10 119 := ⟨by kernel_rfl, by kernel_rfl, by kernel_rfl⟩

theorem wzc16_r119 : Region.ready .any (regOf 7 Try.f18) (lst 10 119) = [3] ∧ (lst 10 119).setIfInBounds 3 true = lst 10 127 := ⟨by kernel_rfl, by kernel_rfl⟩

theorem wzc16_r127 : Region.ready .any (regOf 7 Try.f18) (lst 10 127) = [7] ∧ (lst 10 127).setIfInBounds 7 true = lst 10 255 := ⟨by kernel_rfl, by kernel_rfl⟩

theorem wzc16_t255_8 : Region.free .any (regOf 7 Try.f18) (lst 10 255) 8 = true ∧ (Region.ready .any (regOf 7 Try.f18) (lst 10 255)).contains 8 = true ∧ (lst 10 255).setIfInBounds 8 true = lst 10 511 := ⟨by kernel_rfl, by kernel_rfl, by kernel_rfl⟩

theorem wzc16_t511_9 : Region.free .any (regOf 7 Try.f18) (lst 10 511) 9 = true ∧ (Region.ready .any (regOf 7 Try.f18) (lst 10 511)).contains 9 = true ∧ (lst 10 511).setIfInBounds 9 true = lst 10 1023 := ⟨by kernel_rfl, by kernel_rfl, by kernel_rfl⟩

theorem wzc16_end : Region.ready .any (regOf 7 Try.f18) (lst 10 1023) = [] := by kernel_rfl

end Go.Proofs.Ytofbnkeglhhnlaa
