/- Texts of one layer, one behind the other. -/
import Derived.Test.YtofbnkeglhhnlaaG2
import Derived.Deep.RegionHeld
import Derived.KernelRfl
import Derived.OrdersIn
import Derived.Test.YtofbnkeglhhnlaaProg
/- A region that draws its order, walked in one order. -/
namespace Go.Proofs.Ytofbnkeglhhnlaa
open Go.RowKit
set_option linter.unusedVariables false

/-- A function's region of that number. -/
def regAt (k : Nat) : Code → Array Oper
  | .region id ops _ => if id = k then ops else #[]
  | .seq a b => if (regAt k a).size = 0 then regAt k b else regAt k a
  | .scope a => regAt k a
  | .block _ a => regAt k a
  | .loop a => regAt k a
  | .cond _ a b => if (regAt k a).size = 0 then regAt k b else regAt k a
  | .rangeFunc _ _ a b => if (regAt k a).size = 0 then regAt k b else regAt k a
  | _ => #[]
def regOf (k : Nat) (f : Func) : Array Oper := match f.body with
  | some c => regAt k c
  | none => #[]

/-- Which have come up: the bits of a number. -/
def lst (n m : Nat) : Array Bool := ((List.range n).map (fun j => m.testBit j)).toArray

section
variable {P : Program} {ops : Array Oper} {Q : Exit → Act → World → Prop} {S : World → Prop} {md : Region.Mode}

/-- In one order: what is taken first (true), what is met (false). -/
def seqW (P : Program) (ops : Array Oper) (Q : Exit → Act → World → Prop) (S : World → Prop) : List (Bool × Nat) → Act → World → Prop
  | [], a, w => Q .normal a w
  | (true, i) :: r, a, w => ∃ oi v t, ops[i]? = some oi ∧ oi.dst = some t ∧ YieldsIf P ops S oi v a ∧ seqW P ops Q S r (a.put (some t) v) w
  | (false, i) :: r, a, w => wpOp P ops Q i (fun a' w' => S w' ∧ seqW P ops Q S r a' w') a w

/-- The order may be walked: what is taken first may be; what is met is alone. -/
def Way (md : Region.Mode) (ops : Array Oper) : Array Bool → List (Bool × Nat) → Prop
  | L, [] => Region.ready md ops L = []
  | L, (true, i) :: r => ∃ L', (Region.free md ops L i = true ∧ (Region.ready md ops L).contains i = true ∧ L.setIfInBounds i true = L') ∧ Way md ops L' r
  | L, (false, i) :: r => ∃ L', (Region.ready md ops L = [i] ∧ L.setIfInBounds i true = L') ∧ Way md ops L' r

theorem Way.done {L : Array Bool} (h : Region.ready md ops L = []) : Way md ops L [] := h
theorem Way.take {L L' : Array Bool} {i : Nat} {r : List (Bool × Nat)} (h : Region.free md ops L i = true ∧ (Region.ready md ops L).contains i = true ∧ L.setIfInBounds i true = L') (k : Way md ops L' r) : Way md ops L ((true, i) :: r) := ⟨L', h, k⟩
theorem Way.meet {L L' : Array Bool} {i : Nat} {r : List (Bool × Nat)} (h : Region.ready md ops L = [i] ∧ L.setIfInBounds i true = L') (k : Way md ops L' r) : Way md ops L ((false, i) :: r) := ⟨L', h, k⟩

theorem way_held (hs : Region.noSelect ops = true) (hQ : ∀ c a t v w, Q (.panic c) (Act.put a (some t) v) w → Q (.panic c) a w) : ∀ (l : List (Bool × Nat)) (L : Array Bool) (a : Act) (w : World), Way md ops L l → S w → seqW P ops Q S l a w → wpAnyH P md ops Q S l.length L a w
  | [], L, a, w, hr, hS, h => ⟨hr, h⟩
  | (true, i) :: r, L, a, w, ⟨L', ⟨h1, h2, h3⟩, k⟩, hS, ⟨oi, v, t, e1, e0, e2, e3⟩ => wpAnyH_take e1 hs h1 h2 (by rw [e0]; exact fun c a w => hQ c a _ _ w) e2 hS (by rw [h3, e0]; exact way_held hs hQ r _ _ _ k hS e3)
  | (false, i) :: r, L, a, w, ⟨L', ⟨h1, h3⟩, k⟩, hS, h => wpAnyH_all h1 (by simp) (fun j hj => by
      rw [List.mem_singleton.1 hj]
      exact wpOp_mono (fun a' w' h' => ⟨h'.1, by rw [h3]; exact way_held hs hQ r _ a' w' k h'.1 h'.2⟩) h)

theorem region_way {id : Nat} {a : Act} {w : World} (hm : P.follows .mixedOrders = true) (hs : Region.noSelect ops = true) (hQ : ∀ c a t v w, Q (.panic c) (Act.put a (some t) v) w → Q (.panic c) a w) (l : List (Bool × Nat)) (hl : l.length = ops.size) (hw : Way .any ops (Array.replicate ops.size false) l) (hS : S w.drew) (h : seqW P ops Q S l a w.drew) : (Code.region id ops true).wp P Q a w := by
  refine wp_region_held_drew (S := S) hm hS fun _ => ?_
  rw [← hl]
  have := way_held hs hQ l _ a w.drew hw hS h
  rwa [← hl] at this

theorem op_at {i : Nat} {o : Oper} (h : (ops.toList.drop i).head? = some o) : ops[i]? = some o := by
  rw [List.head?_drop] at h
  simpa using h

theorem seq_take {i : Nat} {r : List (Bool × Nat)} {a : Act} {w : World} {oi : Oper} {v : Value} {t : Tmp} (hi : (ops.toList.drop i).head? = some oi) (ht : oi.dst = some t) (hw : Region.wanted oi (yielded ops a.tmps) = true) (hy : ∀ w, S w → (execOp a.eval oi).run P w = .ok (.value v) w) (h : seqW P ops Q S r (a.put (some t) v) w) : seqW P ops Q S ((true, i) :: r) a w := ⟨oi, v, t, op_at hi, ht, .inl ⟨hw, hy⟩, h⟩

theorem seq_skip {i : Nat} {r : List (Bool × Nat)} {a : Act} {w : World} {oi : Oper} {t : Tmp} (hi : (ops.toList.drop i).head? = some oi) (ht : oi.dst = some t) (hw : Region.wanted oi (yielded ops a.tmps) = false) (h : seqW P ops Q S r (a.put (some t) undef) w) : seqW P ops Q S ((true, i) :: r) a w := ⟨oi, undef, t, op_at hi, ht, .inr ⟨hw, rfl⟩, h⟩

theorem seq_meet {i : Nat} {r : List (Bool × Nat)} {a : Act} {w : World} {o : Oper} (ho : (ops.toList.drop i).head? = some o) (hw : Region.wanted o (yielded ops a.tmps) = true) (h : ∀ K' : Act → World → Prop, Shut (∀ a w, S w → seqW P ops Q S r a w → K' a w) → Oper.wp P o a w K' Q) : seqW P ops Q S ((false, i) :: r) a w :=
  wpOp_step (op_at ho) (fun K' hK => by
    rw [if_pos hw]
    exact h K' (fun a w hS hW => hK a w ⟨hS, hW⟩))

end

end Go.Proofs.Ytofbnkeglhhnlaa

/- A region that draws its order and makes no call, walked in one order, inside a round of a loop over a function. -/
namespace Go.Proofs.Ytofbnkeglhhnlaa
open Go.RowKit
set_option linter.unusedVariables false

/-- An operation that makes no call. -/
def pln (o : Oper) : Bool := match o.op with
  | .move _ => true
  | .assign _ => true
  | .load _ _ => true
  | .store _ _ _ => true
  | .fieldAddr _ _ _ => true
  | .indexAddr _ _ _ => true
  | _ => false

section
variable {F : Fence} {n : Nat} {P : Program} {ops : Array Oper} {Q : Exit → Act → World → Prop} {S : World → Prop} {md : Region.Mode}

theorem pln_about {o : Oper} (h : pln o = true) (w : World) (ρ : Operand → Value) : o.about P w ρ = none := by
  unfold Oper.about
  unfold pln at h
  cases ho : o.op <;> rw [ho] at h <;> first | rfl | cases h

theorem pln_wpIn {o : Oper} (h : pln o = true) {a : Act} {w : World} {K : Act → World → Prop} (hw : Oper.wp P o a w K Q) : Oper.wpIn F n P o a w K Q := by
  refine ⟨fun f hf => (by rw [pln_about h] at hf; cases hf), ?_⟩
  rw [Oper.semAt_eq _ _ _ (fun c hc => by unfold pln at h; rw [hc] at h; cases h)]
  unfold Oper.wp at hw
  unfold pln at h
  unfold execOp at hw ⊢
  cases ho : o.op <;> rw [ho] at h <;> try (cases h; done)
  all_goals
    simp only [ho, Sem.run_bind, Sem.run_pure] at hw ⊢
  · exact hw
  · exact hw
  all_goals
    generalize Sem.run P _ w = r at hw ⊢
    cases r with
    | ok x w' => exact hw
    | halt x w' => cases x <;> exact hw

theorem pln_wpOpIn (hL : ¬ LetsOut Q) (hp : ∀ (i : Nat) (o : Oper), ops[i]? = some o → pln o = true) {i : Nat} {K : Act → World → Prop} {a : Act} {w : World} (h : wpOp P ops Q i K a w) : wpOpIn F n P ops Q i K a w := by
  unfold wpOp at h
  unfold wpOpIn
  cases ho : ops[i]? with
  | none => rw [ho] at h; exact h
  | some o =>
    rw [ho] at h
    simp only at h ⊢
    split
    · rename_i hw
      rw [if_pos hw] at h
      rcases h with h | h
      · exact pln_wpIn (hp i o ho) h
      · exact absurd h.2 hL
    · rename_i hw
      rw [if_neg hw] at h
      exact ⟨fun f hf => (by rw [pln_about (hp i o ho)] at hf; cases hf), h⟩

theorem pln_anyIn (hL : ¬ LetsOut Q) (hp : ∀ (i : Nat) (o : Oper), ops[i]? = some o → pln o = true) : ∀ (fuel : Nat) (L : Array Bool) (a : Act) (w : World), wpAny P md ops Q fuel L a w → wpAnyIn F n P md ops Q fuel L a w
  | 0, _, _, _, h => h
  | fuel + 1, L, a, w, h => ⟨h.1, fun i hi => wpOpIn_mono (fun a' w' h' => pln_anyIn hL hp fuel _ a' w' h') (pln_wpOpIn hL hp (h.2 i hi))⟩

theorem pln_all (h : ops.toList.all pln = true) : ∀ (i : Nat) (o : Oper), ops[i]? = some o → pln o = true := fun i o ho => List.all_eq_true.1 h o (by
  rw [← Array.getElem?_toList] at ho
  exact List.mem_of_getElem? ho)

theorem regionIn_way {id : Nat} {a : Act} {w : World} (hm : P.follows .mixedOrders = true) (hs : Region.noSelect ops = true) (hp : ops.toList.all pln = true) (hL : ¬ LetsOut Q) (hQ : ∀ c a t v w, Q (.panic c) (Act.put a (some t) v) w → Q (.panic c) a w) (l : List (Bool × Nat)) (hl : l.length = ops.size) (hw : Way .any ops (Array.replicate ops.size false) l) (hS : S w.drew) (h : seqW P ops Q S l a w.drew) : (Code.region id ops true).wpIn F n P Q a w := by
  refine wpIn_region_any hm (pln_anyIn hL (pln_all hp) _ _ _ _ (wpAny_of_held (S := S) _ _ _ _ ?_))
  have := way_held hs hQ l _ a w.drew hw hS h
  rw [hl] at this
  exact this

end

end Go.Proofs.Ytofbnkeglhhnlaa

/- The order of a region's operations. -/
namespace Go.Proofs.Ytofbnkeglhhnlaa
open Go.RowKit
set_option linter.unusedVariables false

theorem wzd16_st0 : Region.free .any (regOf 6 Try.f13) (lst 7 0) 0 = true ∧ (Region.ready .any (regOf 6 Try.f13) (lst 7 0)).contains 0 = true ∧ (lst 7 0).setIfInBounds 0 true = lst 7 1 := ⟨by kernel_rfl, by kernel_rfl, by kernel_rfl⟩

theorem wzd16_st1 : Region.free .any (regOf 6 Try.f13) (lst 7 1) 1 = true ∧ (Region.ready .any (regOf 6 Try.f13) (lst 7 1)).contains 1 = true ∧ (lst 7 1).setIfInBounds 1 true = lst 7 3 := ⟨by kernel_rfl, by kernel_rfl, by kernel_rfl⟩

theorem wzd16_st2 : Region.free .any (regOf 6 Try.f13) (lst 7 3) 2 = true ∧ (Region.ready .any (regOf 6 Try.f13) (lst 7 3)).contains 2 = true ∧ (lst 7 3).setIfInBounds 2 true = lst 7 7 := ⟨by kernel_rfl, by kernel_rfl, by kernel_rfl⟩

theorem wzd16_st3 : Region.free .any (regOf 6 Try.f13) (lst 7 7) 3 = true ∧ (Region.ready .any (regOf 6 Try.f13) (lst 7 7)).contains 3 = true ∧ (lst 7 7).setIfInBounds 3 true = lst 7 15 := ⟨by kernel_rfl, by kernel_rfl, by kernel_rfl⟩

theorem wzd16_st4 : Region.ready .any (regOf 6 Try.f13) (lst 7 15) = [4] ∧ (lst 7 15).setIfInBounds 4 true = lst 7 31 := ⟨by kernel_rfl, by kernel_rfl⟩

theorem wzd16_st5 : Region.ready .any (regOf 6 Try.f13) (lst 7 31) = [5] ∧ (lst 7 31).setIfInBounds 5 true = lst 7 63 := ⟨by kernel_rfl, by kernel_rfl⟩

theorem wzd16_st6 : Region.ready .any (regOf 6 Try.f13) (lst 7 63) = [6] ∧ (lst 7 63).setIfInBounds 6 true = lst 7 127 := ⟨by kernel_rfl, by kernel_rfl⟩

def wzd16_ord : List (Bool × Nat) := [(true, 0), (true, 1), (true, 2), (true, 3), (false, 4), (false, 5), (false, 6)]

theorem wzd16_end : Region.ready .any (regOf 6 Try.f13) (lst 7 127) = [] := by kernel_rfl

theorem wzd16_way : Way .any (regOf 6 Try.f13) (Array.replicate (regOf 6 Try.f13).size false) wzd16_ord := by
  have e : Array.replicate (regOf 6 Try.f13).size false = lst 7 0 := by kernel_rfl
  rw [e]
  unfold wzd16_ord
  refine .take wzd16_st0 ?_
  refine .take wzd16_st1 ?_
  refine .take wzd16_st2 ?_
  refine .take wzd16_st3 ?_
  refine .meet wzd16_st4 ?_
  refine .meet wzd16_st5 ?_
  refine .meet wzd16_st6 ?_
  exact .done wzd16_end

end Go.Proofs.Ytofbnkeglhhnlaa
