/- Texts of one layer, one behind the other. -/
import Derived.Test.YtajlhdmnincehaaGreatDoorH1
import Derived.Deep.RegionHeld
import Derived.KernelRfl
import Derived.OrdersIn
import Derived.Test.YtajlhdmnincehaaGreatDoorProg
/- A region that draws its order, walked in one order. -/
namespace Go.Proofs.YtajlhdmnincehaaGreatDoor
open Go.RowKit
set_option linter.unusedVariables false

/-- A function's region of that number. -/
def regAt (k : Nat) : Code → Array Oper
  | .region id ops _ => if id = k then ops else #[]
  | .seq a b => if (regAt k a).size = 0 then regAt k b else regAt k a
  | .scope a => regAt k a
  | .block _ a => regAt k a
  | .loop a => regAt k a
  | .cond _ a b => if (regAt k a).size = 0 then regAt k b else regAt k a
  | .rangeFunc _ _ a b => if (regAt k a).size = 0 then regAt k b else regAt k a
  | _ => #[]
def regOf (k : Nat) (f : Func) : Array Oper := match f.body with
  | some c => regAt k c
  | none => #[]

/-- Which have come up: the bits of a number. -/
def lst (n m : Nat) : Array Bool := ((List.range n).map (fun j => m.testBit j)).toArray

section
variable {P : Program} {ops : Array Oper} {Q : Exit → Act → World → Prop} {S : World → Prop} {md : Region.Mode}

/-- In one order: what is taken first (true), what is met (false). -/
def seqW (P : Program) (ops : Array Oper) (Q : Exit → Act → World → Prop) (S : World → Prop) : List (Bool × Nat) → Act → World → Prop
  | [], a, w => Q .normal a w
  | (true, i) :: r, a, w => ∃ oi v t, ops[i]? = some oi ∧ oi.dst = some t ∧ YieldsIf P ops S oi v a ∧ seqW P ops Q S r (a.put (some t) v) w
  | (false, i) :: r, a, w => wpOp P ops Q i (fun a' w' => S w' ∧ seqW P ops Q S r a' w') a w

/-- The order may be walked: what is taken first may be; what is met is alone. -/
def Way (md : Region.Mode) (ops : Array Oper) : Array Bool → List (Bool × Nat) → Prop
  | L, [] => Region.ready md ops L = []
  | L, (true, i) :: r => ∃ L', (Region.free md ops L i = true ∧ (Region.ready md ops L).contains i = true ∧ L.setIfInBounds i true = L') ∧ Way md ops L' r
  | L, (false, i) :: r => ∃ L', (Region.ready md ops L = [i] ∧ L.setIfInBounds i true = L') ∧ Way md ops L' r

theorem Way.done {L : Array Bool} (h : Region.ready md ops L = []) : Way md ops L [] := h
theorem Way.take {L L' : Array Bool} {i : Nat} {r : List (Bool × Nat)} (h : Region.free md ops L i = true ∧ (Region.ready md ops L).contains i = true ∧ L.setIfInBounds i true = L') (k : Way md ops L' r) : Way md ops L ((true, i) :: r) := ⟨L', h, k⟩
theorem Way.meet {L L' : Array Bool} {i : Nat} {r : List (Bool × Nat)} (h : Region.ready md ops L = [i] ∧ L.setIfInBounds i true = L') (k : Way md ops L' r) : Way md ops L ((false, i) :: r) := ⟨L', h, k⟩

theorem way_held (hs : Region.noSelect ops = true) (hQ : ∀ c a t v w, Q (.panic c) (Act.put a (some t) v) w → Q (.panic c) a w) : ∀ (l : List (Bool × Nat)) (L : Array Bool) (a : Act) (w : World), Way md ops L l → S w → seqW P ops Q S l a w → wpAnyH P md ops Q S l.length L a w
  | [], L, a, w, hr, hS, h => ⟨hr, h⟩
  | (true, i) :: r, L, a, w, ⟨L', ⟨h1, h2, h3⟩, k⟩, hS, ⟨oi, v, t, e1, e0, e2, e3⟩ => wpAnyH_take e1 hs h1 h2 (by rw [e0]; exact fun c a w => hQ c a _ _ w) e2 hS (by rw [h3, e0]; exact way_held hs hQ r _ _ _ k hS e3)
  | (false, i) :: r, L, a, w, ⟨L', ⟨h1, h3⟩, k⟩, hS, h => wpAnyH_all h1 (by simp) (fun j hj => by
      rw [List.mem_singleton.1 hj]
      exact wpOp_mono (fun a' w' h' => ⟨h'.1, by rw [h3]; exact way_held hs hQ r _ a' w' k h'.1 h'.2⟩) h)


theorem op_at {i : Nat} {o : Oper} (h : (ops.toList.drop i).head? = some o) : ops[i]? = some o := by
  rw [List.head?_drop] at h
  simpa using h

theorem seq_take {i : Nat} {r : List (Bool × Nat)} {a : Act} {w : World} {oi : Oper} {v : Value} {t : Tmp} (hi : (ops.toList.drop i).head? = some oi) (ht : oi.dst = some t) (hw : Region.wanted oi (yielded ops a.tmps) = true) (hy : ∀ w, S w → (execOp a.eval oi).run P w = .ok (.value v) w) (h : seqW P ops Q S r (a.put (some t) v) w) : seqW P ops Q S ((true, i) :: r) a w := ⟨oi, v, t, op_at hi, ht, .inl ⟨hw, hy⟩, h⟩


theorem seq_meet {i : Nat} {r : List (Bool × Nat)} {a : Act} {w : World} {o : Oper} (ho : (ops.toList.drop i).head? = some o) (hw : Region.wanted o (yielded ops a.tmps) = true) (h : ∀ K' : Act → World → Prop, Shut (∀ a w, S w → seqW P ops Q S r a w → K' a w) → Oper.wp P o a w K' Q) : seqW P ops Q S ((false, i) :: r) a w :=
  wpOp_step (op_at ho) (fun K' hK => by
    rw [if_pos hw]
    exact h K' (fun a w hS hW => hK a w ⟨hS, hW⟩))

end

end Go.Proofs.YtajlhdmnincehaaGreatDoor

/- A region that draws its order and makes no call, walked in one order, inside a round of a loop over a function. -/
namespace Go.Proofs.YtajlhdmnincehaaGreatDoor
open Go.RowKit
set_option linter.unusedVariables false

/-- An operation that makes no call. -/
def pln (o : Oper) : Bool := match o.op with
  | .move _ => true
  | .assign _ => true
  | .load _ _ => true
  | .store _ _ _ => true
  | .fieldAddr _ _ _ => true
  | .indexAddr _ _ _ => true
  | _ => false

section
variable {F : Fence} {n : Nat} {P : Program} {ops : Array Oper} {Q : Exit → Act → World → Prop} {S : World → Prop} {md : Region.Mode}

theorem pln_about {o : Oper} (h : pln o = true) (w : World) (ρ : Operand → Value) : o.about P w ρ = none := by
  unfold Oper.about
  unfold pln at h
  cases ho : o.op <;> rw [ho] at h <;> first | rfl | cases h

theorem pln_wpIn {o : Oper} (h : pln o = true) {a : Act} {w : World} {K : Act → World → Prop} (hw : Oper.wp P o a w K Q) : Oper.wpIn F n P o a w K Q := by
  refine ⟨fun f hf => (by rw [pln_about h] at hf; cases hf), ?_⟩
  rw [Oper.semAt_eq _ _ _ (fun c hc => by unfold pln at h; rw [hc] at h; cases h)]
  unfold Oper.wp at hw
  unfold pln at h
  unfold execOp at hw ⊢
  cases ho : o.op <;> rw [ho] at h <;> try (cases h; done)
  all_goals
    simp only [ho, Sem.run_bind, Sem.run_pure] at hw ⊢
  · exact hw
  · exact hw
  all_goals
    generalize Sem.run P _ w = r at hw ⊢
    cases r with
    | ok x w' => exact hw
    | halt x w' => cases x <;> exact hw

theorem pln_wpOpIn (hL : ¬ LetsOut Q) (hp : ∀ (i : Nat) (o : Oper), ops[i]? = some o → pln o = true) {i : Nat} {K : Act → World → Prop} {a : Act} {w : World} (h : wpOp P ops Q i K a w) : wpOpIn F n P ops Q i K a w := by
  unfold wpOp at h
  unfold wpOpIn
  cases ho : ops[i]? with
  | none => rw [ho] at h; exact h
  | some o =>
    rw [ho] at h
    simp only at h ⊢
    split
    · rename_i hw
      rw [if_pos hw] at h
      rcases h with h | h
      · exact pln_wpIn (hp i o ho) h
      · exact absurd h.2 hL
    · rename_i hw
      rw [if_neg hw] at h
      exact ⟨fun f hf => (by rw [pln_about (hp i o ho)] at hf; cases hf), h⟩

theorem pln_anyIn (hL : ¬ LetsOut Q) (hp : ∀ (i : Nat) (o : Oper), ops[i]? = some o → pln o = true) : ∀ (fuel : Nat) (L : Array Bool) (a : Act) (w : World), wpAny P md ops Q fuel L a w → wpAnyIn F n P md ops Q fuel L a w
  | 0, _, _, _, h => h
  | fuel + 1, L, a, w, h => ⟨h.1, fun i hi => wpOpIn_mono (fun a' w' h' => pln_anyIn hL hp fuel _ a' w' h') (pln_wpOpIn hL hp (h.2 i hi))⟩

theorem pln_all (h : ops.toList.all pln = true) : ∀ (i : Nat) (o : Oper), ops[i]? = some o → pln o = true := fun i o ho => List.all_eq_true.1 h o (by
  rw [← Array.getElem?_toList] at ho
  exact List.mem_of_getElem? ho)

theorem regionIn_way {id : Nat} {a : Act} {w : World} (hm : P.follows .mixedOrders = true) (hs : Region.noSelect ops = true) (hp : ops.toList.all pln = true) (hL : ¬ LetsOut Q) (hQ : ∀ c a t v w, Q (.panic c) (Act.put a (some t) v) w → Q (.panic c) a w) (l : List (Bool × Nat)) (hl : l.length = ops.size) (hw : Way .any ops (Array.replicate ops.size false) l) (hS : S w.drew) (h : seqW P ops Q S l a w.drew) : (Code.region id ops true).wpIn F n P Q a w := by
  refine wpIn_region_any hm (pln_anyIn hL (pln_all hp) _ _ _ _ (wpAny_of_held (S := S) _ _ _ _ ?_))
  have := way_held hs hQ l _ a w.drew hw hS h
  rw [hl] at this
  exact this

end

end Go.Proofs.YtajlhdmnincehaaGreatDoor

/- The order of a region's operations. -/
namespace Go.Proofs.YtajlhdmnincehaaGreatDoor
open Go.RowKit
set_option linter.unusedVariables false

theorem wyb_st0 : Region.free .any (regOf 7 Tryz.f163) (lst 15 0) 0 = true ∧ (Region.ready .any (regOf 7 Tryz.f163) (lst 15 0)).contains 0 = true ∧ (lst 15 0).setIfInBounds 0 true = lst 15 1 := ⟨by kernel_rfl, by kernel_rfl, by kernel_rfl⟩

theorem wyb_st1 : Region.free .any (regOf 7 Tryz.f163) (lst 15 1) 1 = true ∧ (Region.ready .any (regOf 7 Tryz.f163) (lst 15 1)).contains 1 = true ∧ (lst 15 1).setIfInBounds 1 true = lst 15 3 := ⟨by kernel_rfl, by kernel_rfl, by kernel_rfl⟩

theorem wyb_st2 : Region.free .any (regOf 7 Tryz.f163) (lst 15 3) 2 = true ∧ (Region.ready .any (regOf 7 Tryz.f163) (lst 15 3)).contains 2 = true ∧ (lst 15 3).setIfInBounds 2 true = lst 15 7 := ⟨by kernel_rfl, by kernel_rfl, by kernel_rfl⟩

theorem wyb_st3 : Region.free .any (regOf 7 Tryz.f163) (lst 15 7) 3 = true ∧ (Region.ready .any (regOf 7 Tryz.f163) (lst 15 7)).contains 3 = true ∧ (lst 15 7).setIfInBounds 3 true = lst 15 15 := ⟨by kernel_rfl, by kernel_rfl, by kernel_rfl⟩

theorem wyb_st4 : Region.free .any (regOf 7 Tryz.f163) (lst 15 15) 4 = true ∧ (Region.ready .any (regOf 7 Tryz.f163) (lst 15 15)).contains 4 = true ∧ (lst 15 15).setIfInBounds 4 true = lst 15 31 := ⟨by kernel_rfl, by kernel_rfl, by kernel_rfl⟩

theorem wyb_st5 : Region.free .any (regOf 7 Tryz.f163) (lst 15 31) 5 = true ∧ (Region.ready .any (regOf 7 Tryz.f163) (lst 15 31)).contains 5 = true ∧ (lst 15 31).setIfInBounds 5 true = lst 15 63 := ⟨by kernel_rfl, by kernel_rfl, by kernel_rfl⟩

theorem wyb_st6 : Region.free .any (regOf 7 Tryz.f163) (lst 15 63) 6 = true ∧ (Region.ready .any (regOf 7 Tryz.f163) (lst 15 63)).contains 6 = true ∧ (lst 15 63).setIfInBounds 6 true = lst 15 127 := ⟨by kernel_rfl, by kernel_rfl, by kernel_rfl⟩

theorem wyb_st7 : Region.free .any (regOf 7 Tryz.f163) (lst 15 127) 7 = true ∧ (Region.ready .any (regOf 7 Tryz.f163) (lst 15 127)).contains 7 = true ∧ (lst 15 127).setIfInBounds 7 true = lst 15 255 := ⟨by kernel_rfl, by kernel_rfl, by kernel_rfl⟩

theorem wyb_st8 : Region.free .any (regOf 7 Tryz.f163) (lst 15 255) 8 = true ∧ (Region.ready .any (regOf 7 Tryz.f163) (lst 15 255)).contains 8 = true ∧ (lst 15 255).setIfInBounds 8 true = lst 15 511 := ⟨by kernel_rfl, by kernel_rfl, by kernel_rfl⟩

theorem wyb_st9 : Region.free .any (regOf 7 Tryz.f163) (lst 15 511) 9 = true ∧ (Region.ready .any (regOf 7 Tryz.f163) (lst 15 511)).contains 9 = true ∧ (lst 15 511).setIfInBounds 9 true = lst 15 1023 := ⟨by kernel_rfl, by kernel_rfl, by kernel_rfl⟩

theorem wyb_st10 : Region.free .any (regOf 7 Tryz.f163) (lst 15 1023) 10 = true ∧ (Region.ready .any (regOf 7 Tryz.f163) (lst 15 1023)).contains 10 = true ∧ (lst 15 1023).setIfInBounds 10 true = lst 15 2047 := ⟨by kernel_rfl, by kernel_rfl, by kernel_rfl⟩

theorem wyb_st11 : Region.free .any (regOf 7 Tryz.f163) (lst 15 2047) 11 = true ∧ (Region.ready .any (regOf 7 Tryz.f163) (lst 15 2047)).contains 11 = true ∧ (lst 15 2047).setIfInBounds 11 true = lst 15 4095 := ⟨by kernel_rfl, by kernel_rfl, by kernel_rfl⟩

theorem wyb_st12 : Region.ready .any (regOf 7 Tryz.f163) (lst 15 4095) = [12] ∧ (lst 15 4095).setIfInBounds 12 true = lst 15 8191 := ⟨by kernel_rfl, by kernel_rfl⟩

theorem wyb_st13 : Region.ready .any (regOf 7 Tryz.f163) (lst 15 8191) = [13] ∧ (lst 15 8191).setIfInBounds 13 true = lst 15 16383 := ⟨by kernel_rfl, by kernel_rfl⟩

theorem wyb_st14 : Region.ready .any (regOf 7 Tryz.f163) (lst 15 16383) = [14] ∧ (lst 15 16383).setIfInBounds 14 true = lst 15 32767 := ⟨by kernel_rfl, by kernel_rfl⟩

def wyb_ord : List (Bool × Nat) := [(true, 0), (true, 1), (true, 2), (true, 3), (true, 4), (true, 5), (true, 6), (true, 7), (true, 8), (true, 9), (true, 10), (true, 11), (false, 12), (false, 13), (false, 14)]

theorem wyb_end : Region.ready .any (regOf 7 Tryz.f163) (lst 15 32767) = [] := by kernel_rfl

theorem wyb_way : Way .any (regOf 7 Tryz.f163) (Array.replicate (regOf 7 Tryz.f163).size false) wyb_ord := by
  have e : Array.replicate (regOf 7 Tryz.f163).size false = lst 15 0 := by kernel_rfl
  rw [e]
  unfold wyb_ord
  refine .take wyb_st0 ?_
  refine .take wyb_st1 ?_
  refine .take wyb_st2 ?_
  refine .take wyb_st3 ?_
  refine .take wyb_st4 ?_
  refine .take wyb_st5 ?_
  refine .take wyb_st6 ?_
  refine .take wyb_st7 ?_
  refine .take wyb_st8 ?_
  refine .take wyb_st9 ?_
  refine .take wyb_st10 ?_
  refine .take wyb_st11 ?_
  refine .meet wyb_st12 ?_
  refine .meet wyb_st13 ?_
  refine .meet wyb_st14 ?_
  exact .done wyb_end

end Go.Proofs.YtajlhdmnincehaaGreatDoor

/- A drawn region, walked step by step, with forks. -/
namespace Go.Proofs.YtajlhdmnincehaaGreatDoor
open Go.RowKit
set_option linter.unusedVariables false

section
variable {P : Program} {ops : Array Oper} {Q : Exit → Act → World → Prop} {S : World → Prop}

theorem any_take {L L' : Array Bool} {i n : Nat} {a : Act} {w : World} {oi : Oper} {v : Value} {t : Tmp} (st : Region.free .any ops L i = true ∧ (Region.ready .any ops L).contains i = true ∧ L.setIfInBounds i true = L') (hs : Region.noSelect ops = true) (hQ : ∀ c a t v w, Q (.panic c) (Act.put a (some t) v) w → Q (.panic c) a w) (hS : S w) (hi : (ops.toList.drop i).head? = some oi) (ht : oi.dst = some t) (hw : Region.wanted oi (yielded ops a.tmps) = true) (hy : ∀ w, S w → (execOp a.eval oi).run P w = .ok (.value v) w) (h : wpAnyH P .any ops Q S n L' (a.put (some t) v) w) : wpAnyH P .any ops Q S (n + 1) L a w :=
  wpAnyH_take (op_at hi) hs st.1 st.2.1 (by rw [ht]; exact fun c a w => hQ c a _ _ w) (.inl ⟨hw, hy⟩) hS (by rw [st.2.2, ht]; exact h)

theorem any_one {L L' : Array Bool} {i n : Nat} {a : Act} {w : World} (st : Region.ready .any ops L = [i] ∧ L.setIfInBounds i true = L') (h : wpOp P ops Q i (fun a' w' => S w' ∧ wpAnyH P .any ops Q S n L' a' w') a w) : wpAnyH P .any ops Q S (n + 1) L a w :=
  wpAnyH_all st.1 (by simp) (fun j hj => by
    rw [List.mem_singleton.1 hj, st.2]
    exact h)

theorem any_two {L Li Lj : Array Bool} {i j n : Nat} {a : Act} {w : World} (st : Region.ready .any ops L = [i, j] ∧ L.setIfInBounds i true = Li ∧ L.setIfInBounds j true = Lj) (hi : wpOp P ops Q i (fun a' w' => S w' ∧ wpAnyH P .any ops Q S n Li a' w') a w) (hj : wpOp P ops Q j (fun a' w' => S w' ∧ wpAnyH P .any ops Q S n Lj a' w') a w) : wpAnyH P .any ops Q S (n + 1) L a w :=
  wpAnyH_all st.1 (by simp) (fun x hx => by
    simp only [List.mem_cons, List.not_mem_nil, or_false] at hx
    rcases hx with rfl | rfl
    · rw [st.2.1]
      exact hi
    · rw [st.2.2]
      exact hj)

theorem any_three {L Li Lj Lk : Array Bool} {i j k n : Nat} {a : Act} {w : World} (st : Region.ready .any ops L = [i, j, k] ∧ L.setIfInBounds i true = Li ∧ L.setIfInBounds j true = Lj ∧ L.setIfInBounds k true = Lk) (hi : wpOp P ops Q i (fun a' w' => S w' ∧ wpAnyH P .any ops Q S n Li a' w') a w) (hj : wpOp P ops Q j (fun a' w' => S w' ∧ wpAnyH P .any ops Q S n Lj a' w') a w) (hk : wpOp P ops Q k (fun a' w' => S w' ∧ wpAnyH P .any ops Q S n Lk a' w') a w) : wpAnyH P .any ops Q S (n + 1) L a w :=
  wpAnyH_all st.1 (by simp) (fun x hx => by
    simp only [List.mem_cons, List.not_mem_nil, or_false] at hx
    rcases hx with rfl | rfl | rfl
    · rw [st.2.1]
      exact hi
    · rw [st.2.2.1]
      exact hj
    · rw [st.2.2.2]
      exact hk)

theorem any_done {L : Array Bool} {a : Act} {w : World} (h : Region.ready .any ops L = []) (k : Q .normal a w) : wpAnyH P .any ops Q S 0 L a w := ⟨h, k⟩

theorem any_op {L : Array Bool} {i n : Nat} {a : Act} {w : World} {o : Oper} (ho : (ops.toList.drop i).head? = some o) (hw : Region.wanted o (yielded ops a.tmps) = true) (h : ∀ K' : Act → World → Prop, Shut (∀ a w, S w → wpAnyH P .any ops Q S n L a w → K' a w) → Oper.wp P o a w K' Q) : wpOp P ops Q i (fun a' w' => S w' ∧ wpAnyH P .any ops Q S n L a' w') a w := by
  have hs := h (fun a' w' => S w' ∧ wpAnyH P .any ops Q S n L a' w') (fun a w h1 h2 => ⟨h1, h2⟩)
  unfold wpOp
  rw [op_at ho]
  simp only [hw, if_true]
  exact .inl hs


theorem region_any {id n : Nat} {a : Act} {w : World} (hm : P.follows .mixedOrders = true) (hn : ops.size = n) (h : wpAnyH P .any ops Q S n (Array.replicate n false) a w.drew) : (Code.region id ops true).wp P Q a w := by
  subst hn
  exact wp_region_held (S := S) hm h

end

end Go.Proofs.YtajlhdmnincehaaGreatDoor

/- The steps of a region of Apply's. -/
namespace Go.Proofs.YtajlhdmnincehaaGreatDoor
open Go.RowKit
set_option linter.unusedVariables false

theorem wza_new : Array.replicate 9 false = lst 9 0 := by kernel_rfl

theorem wza_size : (regOf 3 Tryz.f159).size = 9 := by kernel_rfl

theorem wza_t0_0 : Region.free .any (regOf 3 Tryz.f159) (lst 9 0) 0 = true ∧ (Region.ready .any (regOf 3 Tryz.f159) (lst 9 0)).contains 0 = true ∧ (lst 9 0).setIfInBounds 0 true = lst 9 1 := ⟨by kernel_rfl, by kernel_rfl, by kernel_rfl⟩

theorem wza_t1_2 : Region.free .any (regOf 3 Tryz.f159) (lst 9 1) 2 = true ∧ (Region.ready .any (regOf 3 Tryz.f159) (lst 9 1)).contains 2 = true ∧ (lst 9 1).setIfInBounds 2 true = lst 9 5 := ⟨by kernel_rfl, by kernel_rfl, by kernel_rfl⟩

theorem wza_t5_4 : Region.free .any (regOf 3 Tryz.f159) (lst 9 5) 4 = true ∧ (Region.ready .any (regOf 3 Tryz.f159) (lst 9 5)).contains 4 = true ∧ (lst 9 5).setIfInBounds 4 true = lst 9 21 := ⟨by kernel_rfl, by kernel_rfl, by kernel_rfl⟩

theorem wza_r21 : Region.ready .any (regOf 3 Tryz.f159) (lst 9 21) = [1, 5, 7] ∧ (lst 9 21).setIfInBounds 1 true = lst 9 23 ∧ (lst 9 21).setIfInBounds 5 true = lst 9 53 ∧ (lst 9 21).setIfInBounds 7 true = lst 9 149 := ⟨by kernel_rfl, by kernel_rfl, by kernel_rfl, by kernel_rfl⟩

theorem wza_r23 : Region.ready .any (regOf 3 Tryz.f159) (lst 9 23) = [3, 5, 7] ∧ (lst 9 23).setIfInBounds 3 true = lst 9 31 ∧ (lst 9 23).setIfInBounds 5 true = lst 9 55 ∧ (lst 9 23).setIfInBounds 7 true = lst 9 151 := ⟨by kernel_rfl, by kernel_rfl, by kernel_rfl, by kernel_rfl⟩

theorem wza_r31 : Region.ready .any (regOf 3 Tryz.f159) (lst 9 31) = [5, 7] ∧ (lst 9 31).setIfInBounds 5 true = lst 9 63 ∧ (lst 9 31).setIfInBounds 7 true = lst 9 159 := ⟨by kernel_rfl, by kernel_rfl, by kernel_rfl⟩

theorem wza_r63 : Region.ready .any (regOf 3 Tryz.f159) (lst 9 63) = [6, 7] ∧ (lst 9 63).setIfInBounds 6 true = lst 9 127 ∧ (lst 9 63).setIfInBounds 7 true = lst 9 191 := ⟨by kernel_rfl, by kernel_rfl, by kernel_rfl⟩

theorem wza_r127 : Region.ready .any (regOf 3 Tryz.f159) (lst 9 127) = [7] ∧ (lst 9 127).setIfInBounds 7 true = lst 9 255 := ⟨by kernel_rfl, by kernel_rfl⟩

theorem wza_r255 : Region.ready .any (regOf 3 Tryz.f159) (lst 9 255) = [8] ∧ (lst 9 255).setIfInBounds 8 true = lst 9 511 := ⟨by kernel_rfl, by kernel_rfl⟩

theorem wza_end : Region.ready .any (regOf 3 Tryz.f159) (lst 9 511) = [] := by kernel_rfl

theorem wza_r191 : Region.ready .any (regOf 3 Tryz.f159) (lst 9 191) = [6] ∧ (lst 9 191).setIfInBounds 6 true = lst 9 255 := ⟨by kernel_rfl, by kernel_rfl⟩

theorem wza_r159 : Region.ready .any (regOf 3 Tryz.f159) (lst 9 159) = [5] ∧ (lst 9 159).setIfInBounds 5 true = lst 9 191 := ⟨by kernel_rfl, by kernel_rfl⟩

theorem wza_r55 : Region.ready .any (regOf 3 Tryz.f159) (lst 9 55) = [3, 7] ∧ (lst 9 55).setIfInBounds 3 true = lst 9 63 ∧ (lst 9 55).setIfInBounds 7 true = lst 9 183 := ⟨by kernel_rfl, by kernel_rfl, by kernel_rfl⟩

theorem wza_r183 : Region.ready .any (regOf 3 Tryz.f159) (lst 9 183) = [3] ∧ (lst 9 183).setIfInBounds 3 true = lst 9 191 := ⟨by kernel_rfl, by kernel_rfl⟩

theorem wza_r151 : Region.ready .any (regOf 3 Tryz.f159) (lst 9 151) = [3, 5] ∧ (lst 9 151).setIfInBounds 3 true = lst 9 159 ∧ (lst 9 151).setIfInBounds 5 true = lst 9 183 := ⟨by kernel_rfl, by kernel_rfl, by kernel_rfl⟩

theorem wza_r53 : Region.ready .any (regOf 3 Tryz.f159) (lst 9 53) = [1, 7] ∧ (lst 9 53).setIfInBounds 1 true = lst 9 55 ∧ (lst 9 53).setIfInBounds 7 true = lst 9 181 := ⟨by kernel_rfl, by kernel_rfl, by kernel_rfl⟩

theorem wza_r181 : Region.ready .any (regOf 3 Tryz.f159) (lst 9 181) = [1] ∧ (lst 9 181).setIfInBounds 1 true = lst 9 183 := ⟨by kernel_rfl, by kernel_rfl⟩

theorem wza_r149 : Region.ready .any (regOf 3 Tryz.f159) (lst 9 149) = [1, 5] ∧ (lst 9 149).setIfInBounds 1 true = lst 9 151 ∧ (lst 9 149).setIfInBounds 5 true = lst 9 181 := ⟨by kernel_rfl, by kernel_rfl, by kernel_rfl⟩

end Go.Proofs.YtajlhdmnincehaaGreatDoor

/- The steps of a region of outline's. -/
namespace Go.Proofs.YtajlhdmnincehaaGreatDoor
open Go.RowKit
set_option linter.unusedVariables false

theorem wqa_new : Array.replicate 28 false = lst 28 0 := by kernel_rfl

theorem wqa_size : (regOf 1 Tryz.f76).size = 28 := by kernel_rfl

theorem wqa_t0_0 : Region.free .any (regOf 1 Tryz.f76) (lst 28 0) 0 = true ∧ (Region.ready .any (regOf 1 Tryz.f76) (lst 28 0)).contains 0 = true ∧ (lst 28 0).setIfInBounds 0 true = lst 28 1 := ⟨by kernel_rfl, by kernel_rfl, by kernel_rfl⟩

theorem wqa_t1_1 : Region.free .any (regOf 1 Tryz.f76) (lst 28 1) 1 = true ∧ (Region.ready .any (regOf 1 Tryz.f76) (lst 28 1)).contains 1 = true ∧ (lst 28 1).setIfInBounds 1 true = lst 28 3 := ⟨by kernel_rfl, by kernel_rfl, by kernel_rfl⟩

theorem wqa_t3_2 : Region.free .any (regOf 1 Tryz.f76) (lst 28 3) 2 = true ∧ (Region.ready .any (regOf 1 Tryz.f76) (lst 28 3)).contains 2 = true ∧ (lst 28 3).setIfInBounds 2 true = lst 28 7 := ⟨by kernel_rfl, by kernel_rfl, by kernel_rfl⟩

theorem wqa_t7_3 : Region.free .any (regOf 1 Tryz.f76) (lst 28 7) 3 = true ∧ (Region.ready .any (regOf 1 Tryz.f76) (lst 28 7)).contains 3 = true ∧ (lst 28 7).setIfInBounds 3 true = lst 28 15 := ⟨by kernel_rfl, by kernel_rfl, by kernel_rfl⟩

theorem wqa_t15_4 : Region.free .any (regOf 1 Tryz.f76) (lst 28 15) 4 = true ∧ (Region.ready .any (regOf 1 Tryz.f76) (lst 28 15)).contains 4 = true ∧ (lst 28 15).setIfInBounds 4 true = lst 28 31 := ⟨by kernel_rfl, by kernel_rfl, by kernel_rfl⟩

theorem wqa_t31_5 : Region.free .any (regOf 1 Tryz.f76) (lst 28 31) 5 = true ∧ (Region.ready .any (regOf 1 Tryz.f76) (lst 28 31)).contains 5 = true ∧ (lst 28 31).setIfInBounds 5 true = lst 28 63 := ⟨by kernel_rfl, by kernel_rfl, by kernel_rfl⟩

theorem wqa_t63_6 : Region.free .any (regOf 1 Tryz.f76) (lst 28 63) 6 = true ∧ (Region.ready .any (regOf 1 Tryz.f76) (lst 28 63)).contains 6 = true ∧ (lst 28 63).setIfInBounds 6 true = lst 28 127 := ⟨by kernel_rfl, by kernel_rfl, by kernel_rfl⟩

theorem wqa_t127_7 : Region.free .any (regOf 1 Tryz.f76) (lst 28 127) 7 = true ∧ (Region.ready .any (regOf 1 Tryz.f76) (lst 28 127)).contains 7 = true ∧ (lst 28 127).setIfInBounds 7 true = lst 28 255 := ⟨by kernel_rfl, by kernel_rfl, by kernel_rfl⟩

theorem wqa_t255_8 : Region.free .any (regOf 1 Tryz.f76) (lst 28 255) 8 = true ∧ (Region.ready .any (regOf 1 Tryz.f76) (lst 28 255)).contains 8 = true ∧ (lst 28 255).setIfInBounds 8 true = lst 28 511 := ⟨by kernel_rfl, by kernel_rfl, by kernel_rfl⟩

theorem wqa_t511_9 : Region.free .any (regOf 1 Tryz.f76) (lst 28 511) 9 = true ∧ (Region.ready .any (regOf 1 Tryz.f76) (lst 28 511)).contains 9 = true ∧ (lst 28 511).setIfInBounds 9 true = lst 28 1023 := ⟨by kernel_rfl, by kernel_rfl, by kernel_rfl⟩

theorem wqa_t1023_11 : Region.free .any (regOf 1 Tryz.f76) (lst 28 1023) 11 = true ∧ (Region.ready .any (regOf 1 Tryz.f76) (lst 28 1023)).contains 11 = true ∧ (lst 28 1023).setIfInBounds 11 true = lst 28 3071 := ⟨by kernel_rfl, by kernel_rfl, by kernel_rfl⟩

theorem wqa_t3071_12 : Region.free .any (regOf 1 Tryz.f76) (lst 28 3071) 12 = true ∧ (Region.ready .any (regOf 1 Tryz.f76) (lst 28 3071)).contains 12 = true ∧ (lst 28 3071).setIfInBounds 12 true = lst 28 7167 := ⟨by kernel_rfl, by kernel_rfl, by kernel_rfl⟩

theorem wqa_t7167_13 : Region.free .any (regOf 1 Tryz.f76) (lst 28 7167) 13 = true ∧ (Region.ready .any (regOf 1 Tryz.f76) (lst 28 7167)).contains 13 = true ∧ (lst 28 7167).setIfInBounds 13 true = lst 28 15359 := ⟨by kernel_rfl, by kernel_rfl, by kernel_rfl⟩

theorem wqa_t15359_14 : Region.free .any (regOf 1 Tryz.f76) (lst 28 15359) 14 = true ∧ (Region.ready .any (regOf 1 Tryz.f76) (lst 28 15359)).contains 14 = true ∧ (lst 28 15359).setIfInBounds 14 true = lst 28 31743 := ⟨by kernel_rfl, by kernel_rfl, by kernel_rfl⟩

theorem wqa_t31743_15 : Region.free .any (regOf 1 Tryz.f76) (lst 28 31743) 15 = true ∧ (Region.ready .any (regOf 1 Tryz.f76) (lst 28 31743)).contains 15 = true ∧ (lst 28 31743).setIfInBounds 15 true = lst 28 64511 := ⟨by kernel_rfl, by kernel_rfl, by kernel_rfl⟩

theorem wqa_t64511_16 : Region.free .any (regOf 1 Tryz.f76) (lst 28 64511) 16 = true ∧ (Region.ready .any (regOf 1 Tryz.f76) (lst 28 64511)).contains 16 = true ∧ (lst 28 64511).setIfInBounds 16 true = lst 28 130047 := ⟨by kernel_rfl, by kernel_rfl, by kernel_rfl⟩

theorem wqa_t130047_17 : Region.free .any (regOf 1 Tryz.f76) (lst 28 130047) 17 = true ∧ (Region.ready .any (regOf 1 Tryz.f76) (lst 28 130047)).contains 17 = true ∧ (lst 28 130047).setIfInBounds 17 true = lst 28 261119 := ⟨by kernel_rfl, by kernel_rfl, by kernel_rfl⟩

theorem wqa_t261119_18 : Region.free .any (regOf 1 Tryz.f76) (lst 28 261119) 18 = true ∧ (Region.ready .any (regOf 1 Tryz.f76) (lst 28 261119)).contains 18 = true ∧ (lst 28 261119).setIfInBounds 18 true = lst 28 523263 := ⟨by kernel_rfl, by kernel_rfl, by kernel_rfl⟩

theorem wqa_t523263_19 : Region.free .any (regOf 1 Tryz.f76) (lst 28 523263) 19 = true ∧ (Region.ready .any (regOf 1 Tryz.f76) (lst 28 523263)).contains 19 = true ∧ (lst 28 523263).setIfInBounds 19 true = lst 28 1047551 := ⟨by kernel_rfl, by kernel_rfl, by kernel_rfl⟩

theorem wqa_t1047551_20 : Region.free .any (regOf 1 Tryz.f76) (lst 28 1047551) 20 = true ∧ (Region.ready .any (regOf 1 Tryz.f76) (lst 28 1047551)).contains 20 = true ∧ (lst 28 1047551).setIfInBounds 20 true = lst 28 2096127 := ⟨by kernel_rfl, by kernel_rfl, by kernel_rfl⟩

theorem wqa_t2096127_22 : Region.free .any (regOf 1 Tryz.f76) (lst 28 2096127) 22 = true ∧ (Region.ready .any (regOf 1 Tryz.f76) (lst 28 2096127)).contains 22 = true ∧ (lst 28 2096127).setIfInBounds 22 true = lst 28 6290431 := ⟨by kernel_rfl, by kernel_rfl, by kernel_rfl⟩

theorem wqa_t6290431_23 : Region.free .any (regOf 1 Tryz.f76) (lst 28 6290431) 23 = true ∧ (Region.ready .any (regOf 1 Tryz.f76) (lst 28 6290431)).contains 23 = true ∧ (lst 28 6290431).setIfInBounds 23 true = lst 28 14679039 := ⟨by kernel_rfl, by kernel_rfl, by kernel_rfl⟩

theorem wqa_t14679039_24 : Region.free .any (regOf 1 Tryz.f76) (lst 28 14679039) 24 = true ∧ (Region.ready .any (regOf 1 Tryz.f76) (lst 28 14679039)).contains 24 = true ∧ (lst 28 14679039).setIfInBounds 24 true = lst 28 31456255 := ⟨by kernel_rfl, by kernel_rfl, by kernel_rfl⟩

theorem wqa_r31456255 : Region.ready .any (regOf 1 Tryz.f76) (lst 28 31456255) = [10, 25] ∧ (lst 28 31456255).setIfInBounds 10 true = lst 28 31457279 ∧ (lst 28 31456255).setIfInBounds 25 true = lst 28 65010687 := ⟨by kernel_rfl, by kernel_rfl, by kernel_rfl⟩

theorem wqa_r31457279 : Region.ready .any (regOf 1 Tryz.f76) (lst 28 31457279) = [21, 25] ∧ (lst 28 31457279).setIfInBounds 21 true = lst 28 33554431 ∧ (lst 28 31457279).setIfInBounds 25 true = lst 28 65011711 := ⟨by kernel_rfl, by kernel_rfl, by kernel_rfl⟩

theorem wqa_r33554431 : Region.ready .any (regOf 1 Tryz.f76) (lst 28 33554431) = [25] ∧ (lst 28 33554431).setIfInBounds 25 true = lst 28 67108863 := ⟨by kernel_rfl, by kernel_rfl⟩

theorem wqa_t67108863_26 : Region.free .any (regOf 1 Tryz.f76) (lst 28 67108863) 26 = true ∧ (Region.ready .any (regOf 1 Tryz.f76) (lst 28 67108863)).contains 26 = true ∧ (lst 28 67108863).setIfInBounds 26 true = lst 28 134217727 := ⟨by kernel_rfl, by kernel_rfl, by kernel_rfl⟩

theorem wqa_r134217727 : Region.ready .any (regOf 1 Tryz.f76) (lst 28 134217727) = [27] ∧ (lst 28 134217727).setIfInBounds 27 true = lst 28 268435455 := ⟨by kernel_rfl, by kernel_rfl⟩

theorem wqa_end : Region.ready .any (regOf 1 Tryz.f76) (lst 28 268435455) = [] := by kernel_rfl

theorem wqa_r65011711 : Region.ready .any (regOf 1 Tryz.f76) (lst 28 65011711) = [21] ∧ (lst 28 65011711).setIfInBounds 21 true = lst 28 67108863 := ⟨by kernel_rfl, by kernel_rfl⟩

theorem wqa_r65010687 : Region.ready .any (regOf 1 Tryz.f76) (lst 28 65010687) = [10] ∧ (lst 28 65010687).setIfInBounds 10 true = lst 28 65011711 := ⟨by kernel_rfl, by kernel_rfl⟩

end Go.Proofs.YtajlhdmnincehaaGreatDoor

/- The steps of a region of commit's. -/
namespace Go.Proofs.YtajlhdmnincehaaGreatDoor
open Go.RowKit
set_option linter.unusedVariables false

theorem wnc_new : Array.replicate 15 false = lst 15 0 := by kernel_rfl

theorem wnc_size : (regOf 4 Tryz.f23).size = 15 := by kernel_rfl

theorem wnc_t0_0 : Region.free .any (regOf 4 Tryz.f23) (lst 15 0) 0 = true ∧ (Region.ready .any (regOf 4 Tryz.f23) (lst 15 0)).contains 0 = true ∧ (lst 15 0).setIfInBounds 0 true = lst 15 1 := ⟨by kernel_rfl, by kernel_rfl, by kernel_rfl⟩

theorem wnc_t1_1 : Region.free .any (regOf 4 Tryz.f23) (lst 15 1) 1 = true ∧ (Region.ready .any (regOf 4 Tryz.f23) (lst 15 1)).contains 1 = true ∧ (lst 15 1).setIfInBounds 1 true = lst 15 3 := ⟨by kernel_rfl, by kernel_rfl, by kernel_rfl⟩

theorem wnc_t3_2 : Region.free .any (regOf 4 Tryz.f23) (lst 15 3) 2 = true ∧ (Region.ready .any (regOf 4 Tryz.f23) (lst 15 3)).contains 2 = true ∧ (lst 15 3).setIfInBounds 2 true = lst 15 7 := ⟨by kernel_rfl, by kernel_rfl, by kernel_rfl⟩

theorem wnc_t7_3 : Region.free .any (regOf 4 Tryz.f23) (lst 15 7) 3 = true ∧ (Region.ready .any (regOf 4 Tryz.f23) (lst 15 7)).contains 3 = true ∧ (lst 15 7).setIfInBounds 3 true = lst 15 15 := ⟨by kernel_rfl, by kernel_rfl, by kernel_rfl⟩

theorem wnc_t15_4 : Region.free .any (regOf 4 Tryz.f23) (lst 15 15) 4 = true ∧ (Region.ready .any (regOf 4 Tryz.f23) (lst 15 15)).contains 4 = true ∧ (lst 15 15).setIfInBounds 4 true = lst 15 31 := ⟨by kernel_rfl, by kernel_rfl, by kernel_rfl⟩

theorem wnc_t31_6 : Region.free .any (regOf 4 Tryz.f23) (lst 15 31) 6 = true ∧ (Region.ready .any (regOf 4 Tryz.f23) (lst 15 31)).contains 6 = true ∧ (lst 15 31).setIfInBounds 6 true = lst 15 95 := ⟨by kernel_rfl, by kernel_rfl, by kernel_rfl⟩

theorem wnc_t95_7 : Region.free .any (regOf 4 Tryz.f23) (lst 15 95) 7 = true ∧ (Region.ready .any (regOf 4 Tryz.f23) (lst 15 95)).contains 7 = true ∧ (lst 15 95).setIfInBounds 7 true = lst 15 223 := ⟨by kernel_rfl, by kernel_rfl, by kernel_rfl⟩

theorem wnc_t223_8 : Region.free .any (regOf 4 Tryz.f23) (lst 15 223) 8 = true ∧ (Region.ready .any (regOf 4 Tryz.f23) (lst 15 223)).contains 8 = true ∧ (lst 15 223).setIfInBounds 8 true = lst 15 479 := ⟨by kernel_rfl, by kernel_rfl, by kernel_rfl⟩

theorem wnc_t479_9 : Region.free .any (regOf 4 Tryz.f23) (lst 15 479) 9 = true ∧ (Region.ready .any (regOf 4 Tryz.f23) (lst 15 479)).contains 9 = true ∧ (lst 15 479).setIfInBounds 9 true = lst 15 991 := ⟨by kernel_rfl, by kernel_rfl, by kernel_rfl⟩

theorem wnc_t991_10 : Region.free .any (regOf 4 Tryz.f23) (lst 15 991) 10 = true ∧ (Region.ready .any (regOf 4 Tryz.f23) (lst 15 991)).contains 10 = true ∧ (lst 15 991).setIfInBounds 10 true = lst 15 2015 := ⟨by kernel_rfl, by kernel_rfl, by kernel_rfl⟩

theorem wnc_r2015 : Region.ready .any (regOf 4 Tryz.f23) (lst 15 2015) = [5, 12] ∧ (lst 15 2015).setIfInBounds 5 true = lst 15 2047 ∧ (lst 15 2015).setIfInBounds 12 true = lst 15 6111 := ⟨by kernel_rfl, by kernel_rfl, by kernel_rfl⟩

theorem wnc_r2047 : Region.ready .any (regOf 4 Tryz.f23) (lst 15 2047) = [11, 12] ∧ (lst 15 2047).setIfInBounds 11 true = lst 15 4095 ∧ (lst 15 2047).setIfInBounds 12 true = lst 15 6143 := ⟨by kernel_rfl, by kernel_rfl, by kernel_rfl⟩

theorem wnc_r4095 : Region.ready .any (regOf 4 Tryz.f23) (lst 15 4095) = [12] ∧ (lst 15 4095).setIfInBounds 12 true = lst 15 8191 := ⟨by kernel_rfl, by kernel_rfl⟩

theorem wnc_r8191 : Region.ready .any (regOf 4 Tryz.f23) (lst 15 8191) = [13] ∧ (lst 15 8191).setIfInBounds 13 true = lst 15 16383 := ⟨by kernel_rfl, by kernel_rfl⟩

theorem wnc_t16383_14 : Region.free .any (regOf 4 Tryz.f23) (lst 15 16383) 14 = true ∧ (Region.ready .any (regOf 4 Tryz.f23) (lst 15 16383)).contains 14 = true ∧ (lst 15 16383).setIfInBounds 14 true = lst 15 32767 := ⟨by kernel_rfl, by kernel_rfl, by kernel_rfl⟩

theorem wnc_end : Region.ready .any (regOf 4 Tryz.f23) (lst 15 32767) = [] := by kernel_rfl

theorem wnc_r6143 : Region.ready .any (regOf 4 Tryz.f23) (lst 15 6143) = [11] ∧ (lst 15 6143).setIfInBounds 11 true = lst 15 8191 := ⟨by kernel_rfl, by kernel_rfl⟩

theorem wnc_r6111 : Region.ready .any (regOf 4 Tryz.f23) (lst 15 6111) = [5] ∧ (lst 15 6111).setIfInBounds 5 true = lst 15 6143 := ⟨by kernel_rfl, by kernel_rfl⟩

end Go.Proofs.YtajlhdmnincehaaGreatDoor
