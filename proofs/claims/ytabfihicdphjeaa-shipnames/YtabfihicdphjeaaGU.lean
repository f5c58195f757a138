/- Texts of one layer, one behind the other. -/
import Derived.Test.YtabfihicdphjeaaG2
import Derived.Deep.RegionHeld
import Derived.KernelRfl
import Derived.Test.YtabfihicdphjeaaProg
/- A region that draws its order, walked in one order. -/
namespace Go.Proofs.Ytabfihicdphjeaa
open Go.RowKit
set_option linter.unusedVariables false

/-- A function's region of that number. -/
def regAt (k : Nat) : Code → Array Oper
  | .region id ops _ => if id = k then ops else #[]
  | .seq a b => if (regAt k a).size = 0 then regAt k b else regAt k a
  | .scope a => regAt k a
  | .block _ a => regAt k a
  | .loop a => regAt k a
  | .cond _ a b => if (regAt k a).size = 0 then regAt k b else regAt k a
  | .rangeFunc _ _ a b => if (regAt k a).size = 0 then regAt k b else regAt k a
  | _ => #[]
def regOf (k : Nat) (f : Func) : Array Oper := match f.body with
  | some c => regAt k c
  | none => #[]

/-- Which have come up: the bits of a number. -/
def lst (n m : Nat) : Array Bool := ((List.range n).map (fun j => m.testBit j)).toArray

section
variable {P : Program} {ops : Array Oper} {Q : Exit → Act → World → Prop} {S : World → Prop} {md : Region.Mode}

/-- In one order: what is taken first (true), what is met (false). -/
def seqW (P : Program) (ops : Array Oper) (Q : Exit → Act → World → Prop) (S : World → Prop) : List (Bool × Nat) → Act → World → Prop
  | [], a, w => Q .normal a w
  | (true, i) :: r, a, w => ∃ oi v t, ops[i]? = some oi ∧ oi.dst = some t ∧ YieldsIf P ops S oi v a ∧ seqW P ops Q S r (a.put (some t) v) w
  | (false, i) :: r, a, w => wpOp P ops Q i (fun a' w' => S w' ∧ seqW P ops Q S r a' w') a w

/-- The order may be walked: what is taken first may be; what is met is alone. -/
def Way (md : Region.Mode) (ops : Array Oper) : Array Bool → List (Bool × Nat) → Prop
  | L, [] => Region.ready md ops L = []
  | L, (true, i) :: r => ∃ L', (Region.free md ops L i = true ∧ (Region.ready md ops L).contains i = true ∧ L.setIfInBounds i true = L') ∧ Way md ops L' r
  | L, (false, i) :: r => ∃ L', (Region.ready md ops L = [i] ∧ L.setIfInBounds i true = L') ∧ Way md ops L' r

theorem Way.done {L : Array Bool} (h : Region.ready md ops L = []) : Way md ops L [] := h
theorem Way.take {L L' : Array Bool} {i : Nat} {r : List (Bool × Nat)} (h : Region.free md ops L i = true ∧ (Region.ready md ops L).contains i = true ∧ L.setIfInBounds i true = L') (k : Way md ops L' r) : Way md ops L ((true, i) :: r) := ⟨L', h, k⟩
theorem Way.meet {L L' : Array Bool} {i : Nat} {r : List (Bool × Nat)} (h : Region.ready md ops L = [i] ∧ L.setIfInBounds i true = L') (k : Way md ops L' r) : Way md ops L ((false, i) :: r) := ⟨L', h, k⟩

theorem way_held (hs : Region.noSelect ops = true) (hQ : ∀ c a t v w, Q (.panic c) (Act.put a (some t) v) w → Q (.panic c) a w) : ∀ (l : List (Bool × Nat)) (L : Array Bool) (a : Act) (w : World), Way md ops L l → S w → seqW P ops Q S l a w → wpAnyH P md ops Q S l.length L a w
  | [], L, a, w, hr, hS, h => ⟨hr, h⟩
  | (true, i) :: r, L, a, w, ⟨L', ⟨h1, h2, h3⟩, k⟩, hS, ⟨oi, v, t, e1, e0, e2, e3⟩ => wpAnyH_take e1 hs h1 h2 (by rw [e0]; exact fun c a w => hQ c a _ _ w) e2 hS (by rw [h3, e0]; exact way_held hs hQ r _ _ _ k hS e3)
  | (false, i) :: r, L, a, w, ⟨L', ⟨h1, h3⟩, k⟩, hS, h => wpAnyH_all h1 (by simp) (fun j hj => by
      rw [List.mem_singleton.1 hj]
      exact wpOp_mono (fun a' w' h' => ⟨h'.1, by rw [h3]; exact way_held hs hQ r _ a' w' k h'.1 h'.2⟩) h)

theorem region_way {id : Nat} {a : Act} {w : World} (hm : P.follows .mixedOrders = true) (hs : Region.noSelect ops = true) (hQ : ∀ c a t v w, Q (.panic c) (Act.put a (some t) v) w → Q (.panic c) a w) (l : List (Bool × Nat)) (hl : l.length = ops.size) (hw : Way .any ops (Array.replicate ops.size false) l) (hS : S w.drew) (h : seqW P ops Q S l a w.drew) : (Code.region id ops true).wp P Q a w := by
  refine wp_region_held_drew (S := S) hm hS fun _ => ?_
  rw [← hl]
  have := way_held hs hQ l _ a w.drew hw hS h
  rwa [← hl] at this

theorem op_at {i : Nat} {o : Oper} (h : (ops.toList.drop i).head? = some o) : ops[i]? = some o := by
  rw [List.head?_drop] at h
  simpa using h

theorem seq_take {i : Nat} {r : List (Bool × Nat)} {a : Act} {w : World} {oi : Oper} {v : Value} {t : Tmp} (hi : (ops.toList.drop i).head? = some oi) (ht : oi.dst = some t) (hw : Region.wanted oi (yielded ops a.tmps) = true) (hy : ∀ w, S w → (execOp a.eval oi).run P w = .ok (.value v) w) (h : seqW P ops Q S r (a.put (some t) v) w) : seqW P ops Q S ((true, i) :: r) a w := ⟨oi, v, t, op_at hi, ht, .inl ⟨hw, hy⟩, h⟩

theorem seq_skip {i : Nat} {r : List (Bool × Nat)} {a : Act} {w : World} {oi : Oper} {t : Tmp} (hi : (ops.toList.drop i).head? = some oi) (ht : oi.dst = some t) (hw : Region.wanted oi (yielded ops a.tmps) = false) (h : seqW P ops Q S r (a.put (some t) undef) w) : seqW P ops Q S ((true, i) :: r) a w := ⟨oi, undef, t, op_at hi, ht, .inr ⟨hw, rfl⟩, h⟩

theorem seq_meet {i : Nat} {r : List (Bool × Nat)} {a : Act} {w : World} {o : Oper} (ho : (ops.toList.drop i).head? = some o) (hw : Region.wanted o (yielded ops a.tmps) = true) (h : ∀ K' : Act → World → Prop, Shut (∀ a w, S w → seqW P ops Q S r a w → K' a w) → Oper.wp P o a w K' Q) : seqW P ops Q S ((false, i) :: r) a w :=
  wpOp_step (op_at ho) (fun K' hK => by
    rw [if_pos hw]
    exact h K' (fun a w hS hW => hK a w ⟨hS, hW⟩))

end

end Go.Proofs.Ytabfihicdphjeaa

/- A drawn region, walked step by step, with forks. -/
namespace Go.Proofs.Ytabfihicdphjeaa
open Go.RowKit
set_option linter.unusedVariables false

section
variable {P : Program} {ops : Array Oper} {Q : Exit → Act → World → Prop} {S : World → Prop}

theorem any_take {L L' : Array Bool} {i n : Nat} {a : Act} {w : World} {oi : Oper} {v : Value} {t : Tmp} (st : Region.free .any ops L i = true ∧ (Region.ready .any ops L).contains i = true ∧ L.setIfInBounds i true = L') (hs : Region.noSelect ops = true) (hQ : ∀ c a t v w, Q (.panic c) (Act.put a (some t) v) w → Q (.panic c) a w) (hS : S w) (hi : (ops.toList.drop i).head? = some oi) (ht : oi.dst = some t) (hw : Region.wanted oi (yielded ops a.tmps) = true) (hy : ∀ w, S w → (execOp a.eval oi).run P w = .ok (.value v) w) (h : wpAnyH P .any ops Q S n L' (a.put (some t) v) w) : wpAnyH P .any ops Q S (n + 1) L a w :=
  wpAnyH_take (op_at hi) hs st.1 st.2.1 (by rw [ht]; exact fun c a w => hQ c a _ _ w) (.inl ⟨hw, hy⟩) hS (by rw [st.2.2, ht]; exact h)

theorem any_one {L L' : Array Bool} {i n : Nat} {a : Act} {w : World} (st : Region.ready .any ops L = [i] ∧ L.setIfInBounds i true = L') (h : wpOp P ops Q i (fun a' w' => S w' ∧ wpAnyH P .any ops Q S n L' a' w') a w) : wpAnyH P .any ops Q S (n + 1) L a w :=
  wpAnyH_all st.1 (by simp) (fun j hj => by
    rw [List.mem_singleton.1 hj, st.2]
    exact h)

theorem any_two {L Li Lj : Array Bool} {i j n : Nat} {a : Act} {w : World} (st : Region.ready .any ops L = [i, j] ∧ L.setIfInBounds i true = Li ∧ L.setIfInBounds j true = Lj) (hi : wpOp P ops Q i (fun a' w' => S w' ∧ wpAnyH P .any ops Q S n Li a' w') a w) (hj : wpOp P ops Q j (fun a' w' => S w' ∧ wpAnyH P .any ops Q S n Lj a' w') a w) : wpAnyH P .any ops Q S (n + 1) L a w :=
  wpAnyH_all st.1 (by simp) (fun x hx => by
    simp only [List.mem_cons, List.not_mem_nil, or_false] at hx
    rcases hx with rfl | rfl
    · rw [st.2.1]
      exact hi
    · rw [st.2.2]
      exact hj)

theorem any_three {L Li Lj Lk : Array Bool} {i j k n : Nat} {a : Act} {w : World} (st : Region.ready .any ops L = [i, j, k] ∧ L.setIfInBounds i true = Li ∧ L.setIfInBounds j true = Lj ∧ L.setIfInBounds k true = Lk) (hi : wpOp P ops Q i (fun a' w' => S w' ∧ wpAnyH P .any ops Q S n Li a' w') a w) (hj : wpOp P ops Q j (fun a' w' => S w' ∧ wpAnyH P .any ops Q S n Lj a' w') a w) (hk : wpOp P ops Q k (fun a' w' => S w' ∧ wpAnyH P .any ops Q S n Lk a' w') a w) : wpAnyH P .any ops Q S (n + 1) L a w :=
  wpAnyH_all st.1 (by simp) (fun x hx => by
    simp only [List.mem_cons, List.not_mem_nil, or_false] at hx
    rcases hx with rfl | rfl | rfl
    · rw [st.2.1]
      exact hi
    · rw [st.2.2.1]
      exact hj
    · rw [st.2.2.2]
      exact hk)

theorem any_done {L : Array Bool} {a : Act} {w : World} (h : Region.ready .any ops L = []) (k : Q .normal a w) : wpAnyH P .any ops Q S 0 L a w := ⟨h, k⟩

theorem any_op {L : Array Bool} {i n : Nat} {a : Act} {w : World} {o : Oper} (ho : (ops.toList.drop i).head? = some o) (hw : Region.wanted o (yielded ops a.tmps) = true) (h : ∀ K' : Act → World → Prop, Shut (∀ a w, S w → wpAnyH P .any ops Q S n L a w → K' a w) → Oper.wp P o a w K' Q) : wpOp P ops Q i (fun a' w' => S w' ∧ wpAnyH P .any ops Q S n L a' w') a w := by
  have hs := h (fun a' w' => S w' ∧ wpAnyH P .any ops Q S n L a' w') (fun a w h1 h2 => ⟨h1, h2⟩)
  unfold wpOp
  rw [op_at ho]
  simp only [hw, if_true]
  exact .inl hs

theorem any_append {L : Array Bool} {i n : Nat} {a : Act} {w w' : World} {o : Oper} {v vx v' : Value} (ho : (ops.toList.drop i).head? = some o) (hw : Region.wanted o (yielded ops a.tmps) = true) (s x : Operand) (t : TypeId) (hop : o.op = .call { callee := .builtin .append, args := #[s, x], argTypes := #[t, t] }) (hs : a.eval s = v) (hx : a.eval x = vx) (hr : (Builtin.append_ #[t, t] o.type #[v, vx]).run P w = .ok v' w') (h : S w' ∧ wpAnyH P .any ops Q S n L (a.put o.dst v') w') : wpOp P ops Q i (fun a' w' => S w' ∧ wpAnyH P .any ops Q S n L a' w') a w := by
  unfold wpOp
  rw [op_at ho]
  simp only [hw, if_true]
  refine .inl ?_
  unfold Oper.wp execOp
  simp only [hop, resolve, invoke, builtin, Sem.run_bind, Sem.run_pure, Result.andThen_ok, List.map_toArray, List.map_cons, List.map_nil, hs, hx, hr]
  exact h

theorem region_any {id n : Nat} {a : Act} {w : World} (hm : P.follows .mixedOrders = true) (hn : ops.size = n) (h : wpAnyH P .any ops Q S n (Array.replicate n false) a w.drew) : (Code.region id ops true).wp P Q a w := by
  subst hn
  exact wp_region_held (S := S) hm h

end

end Go.Proofs.Ytabfihicdphjeaa

/- The steps of a region. -/
namespace Go.Proofs.Ytabfihicdphjeaa
open Go.RowKit
set_option linter.unusedVariables false

theorem wzh17_new : Array.replicate 48 false = lst 48 0 := by kernel_rfl

theorem wzh17_size : (regOf 9 Try.f3).size = 48 := by kernel_rfl

theorem wzh17_t0_0 : Region.free .any (regOf 9 Try.f3) (lst 48 0) 0 = true ∧ (Region.ready .any (regOf 9 Try.f3) (lst 48 0)).contains 0 = true ∧ (lst 48 0).setIfInBounds 0 true = lst 48 1 := ⟨by kernel_rfl, by kernel_rfl, by kernel_rfl⟩

theorem wzh17_t1_1 : Region.free .any (regOf 9 Try.f3) (lst 48 1) 1 = true ∧ (Region.ready .any (regOf 9 Try.f3) (lst 48 1)).contains 1 = true ∧ (lst 48 1).setIfInBounds 1 true = lst 48 3 := ⟨by kernel_rfl, by kernel_rfl, by kernel_rfl⟩

theorem wzh17_t3_2 : Region.free .any (regOf 9 Try.f3) (lst 48 3) 2 = true ∧ (Region.ready .any (regOf 9 Try.f3) (lst 48 3)).contains 2 = true ∧ (lst 48 3).setIfInBounds 2 true = lst 48 7 := ⟨by kernel_rfl, by kernel_rfl, by kernel_rfl⟩

theorem wzh17_t7_3 : Region.free .any (regOf 9 Try.f3) (lst 48 7) 3 = true ∧ (Region.ready .any (regOf 9 Try.f3) (lst 48 7)).contains 3 = true ∧ (lst 48 7).setIfInBounds 3 true = lst 48 15 := ⟨by kernel_rfl, by kernel_rfl, by kernel_rfl⟩

theorem wzh17_t15_4 : Region.free .any (regOf 9 Try.f3) (lst 48 15) 4 = true ∧ (Region.ready .any (regOf 9 Try.f3) (lst 48 15)).contains 4 = true ∧ (lst 48 15).setIfInBounds 4 true = lst 48 31 := ⟨by kernel_rfl, by kernel_rfl, by kernel_rfl⟩

theorem wzh17_t31_5 : Region.free .any (regOf 9 Try.f3) (lst 48 31) 5 = true ∧ (Region.ready .any (regOf 9 Try.f3) (lst 48 31)).contains 5 = true ∧ (lst 48 31).setIfInBounds 5 true = lst 48 63 := ⟨by kernel_rfl, by kernel_rfl, by kernel_rfl⟩

theorem wzh17_t63_6 : Region.free .any (regOf 9 Try.f3) (lst 48 63) 6 = true ∧ (Region.ready .any (regOf 9 Try.f3) (lst 48 63)).contains 6 = true ∧ (lst 48 63).setIfInBounds 6 true = lst 48 127 := ⟨by kernel_rfl, by kernel_rfl, by kernel_rfl⟩

theorem wzh17_t127_7 : Region.free .any (regOf 9 Try.f3) (lst 48 127) 7 = true ∧ (Region.ready .any (regOf 9 Try.f3) (lst 48 127)).contains 7 = true ∧ (lst 48 127).setIfInBounds 7 true = lst 48 255 := ⟨by kernel_rfl, by kernel_rfl, by kernel_rfl⟩

theorem wzh17_t255_8 : Region.free .any (regOf 9 Try.f3) (lst 48 255) 8 = true ∧ (Region.ready .any (regOf 9 Try.f3) (lst 48 255)).contains 8 = true ∧ (lst 48 255).setIfInBounds 8 true = lst 48 511 := ⟨by kernel_rfl, by kernel_rfl, by kernel_rfl⟩

theorem wzh17_t511_9 : Region.free .any (regOf 9 Try.f3) (lst 48 511) 9 = true ∧ (Region.ready .any (regOf 9 Try.f3) (lst 48 511)).contains 9 = true ∧ (lst 48 511).setIfInBounds 9 true = lst 48 1023 := ⟨by kernel_rfl, by kernel_rfl, by kernel_rfl⟩

theorem wzh17_t1023_10 : Region.free .any (regOf 9 Try.f3) (lst 48 1023) 10 = true ∧ (Region.ready .any (regOf 9 Try.f3) (lst 48 1023)).contains 10 = true ∧ (lst 48 1023).setIfInBounds 10 true = lst 48 2047 := ⟨by kernel_rfl, by kernel_rfl, by kernel_rfl⟩

theorem wzh17_t2047_11 : Region.free .any (regOf 9 Try.f3) (lst 48 2047) 11 = true ∧ (Region.ready .any (regOf 9 Try.f3) (lst 48 2047)).contains 11 = true ∧ (lst 48 2047).setIfInBounds 11 true = lst 48 4095 := ⟨by kernel_rfl, by kernel_rfl, by kernel_rfl⟩

theorem wzh17_t4095_12 : Region.free .any (regOf 9 Try.f3) (lst 48 4095) 12 = true ∧ (Region.ready .any (regOf 9 Try.f3) (lst 48 4095)).contains 12 = true ∧ (lst 48 4095).setIfInBounds 12 true = lst 48 8191 := ⟨by kernel_rfl, by kernel_rfl, by kernel_rfl⟩

theorem wzh17_t8191_13 : Region.free .any (regOf 9 Try.f3) (lst 48 8191) 13 = true ∧ (Region.ready .any (regOf 9 Try.f3) (lst 48 8191)).contains 13 = true ∧ (lst 48 8191).setIfInBounds 13 true = lst 48 16383 := ⟨by kernel_rfl, by kernel_rfl, by kernel_rfl⟩

theorem wzh17_t16383_14 : Region.free .any (regOf 9 Try.f3) (lst 48 16383) 14 = true ∧ (Region.ready .any (regOf 9 Try.f3) (lst 48 16383)).contains 14 = true ∧ (lst 48 16383).setIfInBounds 14 true = lst 48 32767 := ⟨by kernel_rfl, by kernel_rfl, by kernel_rfl⟩

theorem wzh17_r32767 : Region.ready .any (regOf 9 Try.f3) (lst 48 32767) = [15] ∧ (lst 48 32767).setIfInBounds 15 true = lst 48 65535 := ⟨by kernel_rfl, by kernel_rfl⟩

theorem wzh17_t65535_16 : Region.free .any (regOf 9 Try.f3) (lst 48 65535) 16 = true ∧ (Region.ready .any (regOf 9 Try.f3) (lst 48 65535)).contains 16 = true ∧ (lst 48 65535).setIfInBounds 16 true = lst 48 131071 := ⟨by kernel_rfl, by kernel_rfl, by kernel_rfl⟩

theorem wzh17_r131071 : Region.ready .any (regOf 9 Try.f3) (lst 48 131071) = [17] ∧ (lst 48 131071).setIfInBounds 17 true = lst 48 262143 := ⟨by kernel_rfl, by kernel_rfl⟩

theorem wzh17_t262143_18 : Region.free .any (regOf 9 Try.f3) (lst 48 262143) 18 = true ∧ (Region.ready .any (regOf 9 Try.f3) (lst 48 262143)).contains 18 = true ∧ (lst 48 262143).setIfInBounds 18 true = lst 48 524287 := ⟨by kernel_rfl, by kernel_rfl, by kernel_rfl⟩

theorem wzh17_t524287_19 : Region.free .any (regOf 9 Try.f3) (lst 48 524287) 19 = true ∧ (Region.ready .any (regOf 9 Try.f3) (lst 48 524287)).contains 19 = true ∧ (lst 48 524287).setIfInBounds 19 true = lst 48 1048575 := ⟨by kernel_rfl, by kernel_rfl, by kernel_rfl⟩

theorem wzh17_t1048575_20 : Region.free .any (regOf 9 Try.f3) (lst 48 1048575) 20 = true ∧ (Region.ready .any (regOf 9 Try.f3) (lst 48 1048575)).contains 20 = true ∧ (lst 48 1048575).setIfInBounds 20 true = lst 48 2097151 := ⟨by kernel_rfl, by kernel_rfl, by kernel_rfl⟩

theorem wzh17_t2097151_21 : Region.free .any (regOf 9 Try.f3) (lst 48 2097151) 21 = true ∧ (Region.ready .any (regOf 9 Try.f3) (lst 48 2097151)).contains 21 = true ∧ (lst 48 2097151).setIfInBounds 21 true = lst 48 4194303 := ⟨by kernel_rfl, by kernel_rfl, by kernel_rfl⟩

theorem wzh17_t4194303_22 : Region.free .any (regOf 9 Try.f3) (lst 48 4194303) 22 = true ∧ (Region.ready .any (regOf 9 Try.f3) (lst 48 4194303)).contains 22 = true ∧ (lst 48 4194303).setIfInBounds 22 true = lst 48 8388607 := ⟨by kernel_rfl, by kernel_rfl, by kernel_rfl⟩

theorem wzh17_t8388607_23 : Region.free .any (regOf 9 Try.f3) (lst 48 8388607) 23 = true ∧ (Region.ready .any (regOf 9 Try.f3) (lst 48 8388607)).contains 23 = true ∧ (lst 48 8388607).setIfInBounds 23 true = lst 48 16777215 := ⟨by kernel_rfl, by kernel_rfl, by kernel_rfl⟩

theorem wzh17_t16777215_24 : Region.free .any (regOf 9 Try.f3) (lst 48 16777215) 24 = true ∧ (Region.ready .any (regOf 9 Try.f3) (lst 48 16777215)).contains 24 = true ∧ (lst 48 16777215).setIfInBounds 24 true = lst 48 33554431 := ⟨by kernel_rfl, by kernel_rfl, by kernel_rfl⟩

theorem wzh17_t33554431_25 : Region.free .any (regOf 9 Try.f3) (lst 48 33554431) 25 = true ∧ (Region.ready .any (regOf 9 Try.f3) (lst 48 33554431)).contains 25 = true ∧ (lst 48 33554431).setIfInBounds 25 true = lst 48 67108863 := ⟨by kernel_rfl, by kernel_rfl, by kernel_rfl⟩

theorem wzh17_t67108863_26 : Region.free .any (regOf 9 Try.f3) (lst 48 67108863) 26 = true ∧ (Region.ready .any (regOf 9 Try.f3) (lst 48 67108863)).contains 26 = true ∧ (lst 48 67108863).setIfInBounds 26 true = lst 48 134217727 := ⟨by kernel_rfl, by kernel_rfl, by kernel_rfl⟩

theorem wzh17_t134217727_27 : Region.free .any (regOf 9 Try.f3) (lst 48 134217727) 27 = true ∧ (Region.ready .any (regOf 9 Try.f3) (lst 48 134217727)).contains 27 = true ∧ (lst 48 134217727).setIfInBounds 27 true = lst 48 268435455 := ⟨by kernel_rfl, by kernel_rfl, by kernel_rfl⟩

theorem wzh17_t268435455_28 : Region.free .any (regOf 9 Try.f3) (lst 48 268435455) 28 = true ∧ (Region.ready .any (regOf 9 Try.f3) (lst 48 268435455)).contains 28 = true ∧ (lst 48 268435455).setIfInBounds 28 true = lst 48 536870911 := ⟨by kernel_rfl, by kernel_rfl, by kernel_rfl⟩

theorem wzh17_t536870911_29 : Region.free .any (regOf 9 Try.f3) (lst 48 536870911) 29 = true ∧ (Region.ready .any (regOf 9 Try.f3) (lst 48 536870911)).contains 29 = true ∧ (lst 48 536870911).setIfInBounds 29 true = lst 48 1073741823 := ⟨by kernel_rfl, by kernel_rfl, by kernel_rfl⟩

theorem wzh17_t1073741823_30 : Region.free .any (regOf 9 Try.f3) (lst 48 1073741823) 30 = true ∧ (Region.ready .any (regOf 9 Try.f3) (lst 48 1073741823)).contains 30 = true ∧ (lst 48 1073741823).setIfInBounds 30 true = lst 48 2147483647 := ⟨by kernel_rfl, by kernel_rfl, by kernel_rfl⟩

theorem wzh17_t2147483647_31 : Region.free .any (regOf 9 Try.f3) (lst 48 2147483647) 31 = true ∧ (Region.ready .any (regOf 9 Try.f3) (lst 48 2147483647)).contains 31 = true ∧ (lst 48 2147483647).setIfInBounds 31 true = lst 48 4294967295 := ⟨by kernel_rfl, by kernel_rfl, by kernel_rfl⟩

theorem wzh17_t4294967295_32 : Region.free .any (regOf 9 Try.f3) (lst 48 4294967295) 32 = true ∧ (Region.ready .any (regOf 9 Try.f3) (lst 48 4294967295)).contains 32 = true ∧ (lst 48 4294967295).setIfInBounds 32 true = lst 48 8589934591 := ⟨by kernel_rfl, by kernel_rfl, by kernel_rfl⟩

theorem wzh17_t8589934591_33 : Region.free .any (regOf 9 Try.f3) (lst 48 8589934591) 33 = true ∧ (Region.ready .any (regOf 9 Try.f3) (lst 48 8589934591)).contains 33 = true ∧ (lst 48 8589934591).setIfInBounds 33 true = lst 48 17179869183 := ⟨by kernel_rfl, by kernel_rfl, by kernel_rfl⟩

theorem wzh17_t17179869183_34 : Region.free .any (regOf 9 Try.f3) (lst 48 17179869183) 34 = true ∧ (Region.ready .any (regOf 9 Try.f3) (lst 48 17179869183)).contains 34 = true ∧ (lst 48 17179869183).setIfInBounds 34 true = lst 48 34359738367 := ⟨by kernel_rfl, by kernel_rfl, by kernel_rfl⟩

theorem wzh17_t34359738367_35 : Region.free .any (regOf 9 Try.f3) (lst 48 34359738367) 35 = true ∧ (Region.ready .any (regOf 9 Try.f3) (lst 48 34359738367)).contains 35 = true ∧ (lst 48 34359738367).setIfInBounds 35 true = lst 48 68719476735 := ⟨by kernel_rfl, by kernel_rfl, by kernel_rfl⟩

theorem wzh17_t68719476735_36 : Region.free .any (regOf 9 Try.f3) (lst 48 68719476735) 36 = true ∧ (Region.ready .any (regOf 9 Try.f3) (lst 48 68719476735)).contains 36 = true ∧ (lst 48 68719476735).setIfInBounds 36 true = lst 48 137438953471 := ⟨by kernel_rfl, by kernel_rfl, by kernel_rfl⟩

theorem wzh17_t137438953471_37 : Region.free .any (regOf 9 Try.f3) (lst 48 137438953471) 37 = true ∧ (Region.ready .any (regOf 9 Try.f3) (lst 48 137438953471)).contains 37 = true ∧ (lst 48 137438953471).setIfInBounds 37 true = lst 48 274877906943 := ⟨by kernel_rfl, by kernel_rfl, by kernel_rfl⟩

theorem wzh17_t274877906943_38 : Region.free .any (regOf 9 Try.f3) (lst 48 274877906943) 38 = true ∧ (Region.ready .any (regOf 9 Try.f3) (lst 48 274877906943)).contains 38 = true ∧ (lst 48 274877906943).setIfInBounds 38 true = lst 48 549755813887 := ⟨by kernel_rfl, by kernel_rfl, by kernel_rfl⟩

theorem wzh17_t549755813887_39 : Region.free .any (regOf 9 Try.f3) (lst 48 549755813887) 39 = true ∧ (Region.ready .any (regOf 9 Try.f3) (lst 48 549755813887)).contains 39 = true ∧ (lst 48 549755813887).setIfInBounds 39 true = lst 48 1099511627775 := ⟨by kernel_rfl, by kernel_rfl, by kernel_rfl⟩

theorem wzh17_t1099511627775_40 : Region.free .any (regOf 9 Try.f3) (lst 48 1099511627775) 40 = true ∧ (Region.ready .any (regOf 9 Try.f3) (lst 48 1099511627775)).contains 40 = true ∧ (lst 48 1099511627775).setIfInBounds 40 true = lst 48 2199023255551 := ⟨by kernel_rfl, by kernel_rfl, by kernel_rfl⟩

theorem wzh17_t2199023255551_41 : Region.free .any (regOf 9 Try.f3) (lst 48 2199023255551) 41 = true ∧ (Region.ready .any (regOf 9 Try.f3) (lst 48 2199023255551)).contains 41 = true ∧ (lst 48 2199023255551).setIfInBounds 41 true = lst 48 4398046511103 := ⟨by kernel_rfl, by kernel_rfl, by kernel_rfl⟩

theorem wzh17_t4398046511103_42 : Region.free .any (regOf 9 Try.f3) (lst 48 4398046511103) 42 = true ∧ (Region.ready .any (regOf 9 Try.f3) (lst 48 4398046511103)).contains 42 = true ∧ (lst 48 4398046511103).setIfInBounds 42 true = lst 48 8796093022207 := ⟨by kernel_rfl, by kernel_rfl, by kernel_rfl⟩

theorem wzh17_t8796093022207_43 : Region.free .any (regOf 9 Try.f3) (lst 48 8796093022207) 43 = true ∧ (Region.ready .any (regOf 9 Try.f3) (lst 48 8796093022207)).contains 43 = true ∧ (lst 48 8796093022207).setIfInBounds 43 true = lst 48 17592186044415 := ⟨by kernel_rfl, by kernel_rfl, by kernel_rfl⟩

theorem wzh17_t17592186044415_44 : Region.free .any (regOf 9 Try.f3) (lst 48 17592186044415) 44 = true ∧ (Region.ready .any (regOf 9 Try.f3) (lst 48 17592186044415)).contains 44 = true ∧ (lst 48 17592186044415).setIfInBounds 44 true = lst 48 35184372088831 := ⟨by kernel_rfl, by kernel_rfl, by kernel_rfl⟩

theorem wzh17_t35184372088831_45 : Region.free .any (regOf 9 Try.f3) (lst 48 35184372088831) 45 = true ∧ (Region.ready .any (regOf 9 Try.f3) (lst 48 35184372088831)).contains 45 = true ∧ (lst 48 35184372088831).setIfInBounds 45 true = lst 48 70368744177663 := ⟨by kernel_rfl, by kernel_rfl, by kernel_rfl⟩

theorem wzh17_t70368744177663_46 : Region.free .any (regOf 9 Try.f3) (lst 48 70368744177663) 46 = true ∧ (Region.ready .any (regOf 9 Try.f3) (lst 48 70368744177663)).contains 46 = true ∧ (lst 48 70368744177663).setIfInBounds 46 true = lst 48 140737488355327 := ⟨by kernel_rfl, by kernel_rfl, by kernel_rfl⟩

theorem wzh17_t140737488355327_47 : Region.free .any (regOf 9 Try.f3) (lst 48 140737488355327) 47 = true ∧ (Region.ready .any (regOf 9 Try.f3) (lst 48 140737488355327)).contains 47 = true ∧ (lst 48 140737488355327).setIfInBounds 47 true = lst 48 281474976710655 := ⟨by kernel_rfl, by kernel_rfl, by kernel_rfl⟩

theorem wzh17_end : Region.ready .any (regOf 9 Try.f3) (lst 48 281474976710655) = [] := by kernel_rfl

end Go.Proofs.Ytabfihicdphjeaa
