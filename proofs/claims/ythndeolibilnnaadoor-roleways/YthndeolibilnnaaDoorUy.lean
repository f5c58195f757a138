/- A region that draws its order, walked in one order. -/
import Derived.Test.YthndeolibilnnaaDoorKit
import Derived.Deep.RegionHeld
import Derived.KernelRfl
namespace Go.Proofs.YthndeolibilnnaaDoor
open Go.RowKit
set_option linter.unusedVariables false

/-- A function's region of that number. -/
def regAt (k : Nat) : Code → Array Oper
  | .region id ops _ => if id = k then ops else #[]
  | .seq a b => if (regAt k a).size = 0 then regAt k b else regAt k a
  | .scope a => regAt k a
  | .block _ a => regAt k a
  | .loop a => regAt k a
  | .cond _ a b => if (regAt k a).size = 0 then regAt k b else regAt k a
  | .rangeFunc _ _ a b => if (regAt k a).size = 0 then regAt k b else regAt k a
  | _ => #[]
def regOf (k : Nat) (f : Func) : Array Oper := match f.body with
  | some c => regAt k c
  | none => #[]

/-- Which have come up: the bits of a number. -/
def lst (n m : Nat) : Array Bool := ((List.range n).map (fun j => m.testBit j)).toArray

section
variable {P : Program} {ops : Array Oper} {Q : Exit → Act → World → Prop} {S : World → Prop} {md : Region.Mode}

/-- In one order: what is taken first (true), what is met (false). -/
def seqW (P : Program) (ops : Array Oper) (Q : Exit → Act → World → Prop) (S : World → Prop) : List (Bool × Nat) → Act → World → Prop
  | [], a, w => Q .normal a w
  | (true, i) :: r, a, w => ∃ oi v t, ops[i]? = some oi ∧ oi.dst = some t ∧ YieldsIf P ops S oi v a ∧ seqW P ops Q S r (a.put (some t) v) w
  | (false, i) :: r, a, w => wpOp P ops Q i (fun a' w' => S w' ∧ seqW P ops Q S r a' w') a w

/-- The order may be walked: what is taken first may be; what is met is alone. -/
def Way (md : Region.Mode) (ops : Array Oper) : Array Bool → List (Bool × Nat) → Prop
  | L, [] => Region.ready md ops L = []
  | L, (true, i) :: r => ∃ L', (Region.free md ops L i = true ∧ (Region.ready md ops L).contains i = true ∧ L.setIfInBounds i true = L') ∧ Way md ops L' r
  | L, (false, i) :: r => ∃ L', (Region.ready md ops L = [i] ∧ L.setIfInBounds i true = L') ∧ Way md ops L' r

theorem Way.done {L : Array Bool} (h : Region.ready md ops L = []) : Way md ops L [] := h
theorem Way.take {L L' : Array Bool} {i : Nat} {r : List (Bool × Nat)} (h : Region.free md ops L i = true ∧ (Region.ready md ops L).contains i = true ∧ L.setIfInBounds i true = L') (k : Way md ops L' r) : Way md ops L ((true, i) :: r) := ⟨L', h, k⟩
theorem Way.meet {L L' : Array Bool} {i : Nat} {r : List (Bool × Nat)} (h : Region.ready md ops L = [i] ∧ L.setIfInBounds i true = L') (k : Way md ops L' r) : Way md ops L ((false, i) :: r) := ⟨L', h, k⟩

theorem way_held (hs : Region.noSelect ops = true) (hQ : ∀ c a t v w, Q (.panic c) (Act.put a (some t) v) w → Q (.panic c) a w) : ∀ (l : List (Bool × Nat)) (L : Array Bool) (a : Act) (w : World), Way md ops L l → S w → seqW P ops Q S l a w → wpAnyH P md ops Q S l.length L a w
  | [], L, a, w, hr, hS, h => ⟨hr, h⟩
  | (true, i) :: r, L, a, w, ⟨L', ⟨h1, h2, h3⟩, k⟩, hS, ⟨oi, v, t, e1, e0, e2, e3⟩ => wpAnyH_take e1 hs h1 h2 (by rw [e0]; exact fun c a w => hQ c a _ _ w) e2 hS (by rw [h3, e0]; exact way_held hs hQ r _ _ _ k hS e3)
  | (false, i) :: r, L, a, w, ⟨L', ⟨h1, h3⟩, k⟩, hS, h => wpAnyH_all h1 (by simp) (fun j hj => by
      rw [List.mem_singleton.1 hj]
      exact wpOp_mono (fun a' w' h' => ⟨h'.1, by rw [h3]; exact way_held hs hQ r _ a' w' k h'.1 h'.2⟩) h)

theorem region_way {id : Nat} {a : Act} {w : World} (hm : P.follows .mixedOrders = true) (hs : Region.noSelect ops = true) (hQ : ∀ c a t v w, Q (.panic c) (Act.put a (some t) v) w → Q (.panic c) a w) (l : List (Bool × Nat)) (hl : l.length = ops.size) (hw : Way .any ops (Array.replicate ops.size false) l) (hS : S w.drew) (h : seqW P ops Q S l a w.drew) : (Code.region id ops true).wp P Q a w := by
  refine wp_region_held_drew (S := S) hm hS fun _ => ?_
  rw [← hl]
  have := way_held hs hQ l _ a w.drew hw hS h
  rwa [← hl] at this

theorem op_at {i : Nat} {o : Oper} (h : (ops.toList.drop i).head? = some o) : ops[i]? = some o := by
  rw [List.head?_drop] at h
  simpa using h

theorem seq_take {i : Nat} {r : List (Bool × Nat)} {a : Act} {w : World} {oi : Oper} {v : Value} {t : Tmp} (hi : (ops.toList.drop i).head? = some oi) (ht : oi.dst = some t) (hw : Region.wanted oi (yielded ops a.tmps) = true) (hy : ∀ w, S w → (execOp a.eval oi).run P w = .ok (.value v) w) (h : seqW P ops Q S r (a.put (some t) v) w) : seqW P ops Q S ((true, i) :: r) a w := ⟨oi, v, t, op_at hi, ht, .inl ⟨hw, hy⟩, h⟩

theorem seq_skip {i : Nat} {r : List (Bool × Nat)} {a : Act} {w : World} {oi : Oper} {t : Tmp} (hi : (ops.toList.drop i).head? = some oi) (ht : oi.dst = some t) (hw : Region.wanted oi (yielded ops a.tmps) = false) (h : seqW P ops Q S r (a.put (some t) undef) w) : seqW P ops Q S ((true, i) :: r) a w := ⟨oi, undef, t, op_at hi, ht, .inr ⟨hw, rfl⟩, h⟩

theorem seq_meet {i : Nat} {r : List (Bool × Nat)} {a : Act} {w : World} {o : Oper} (ho : (ops.toList.drop i).head? = some o) (hw : Region.wanted o (yielded ops a.tmps) = true) (h : ∀ K' : Act → World → Prop, Shut (∀ a w, S w → seqW P ops Q S r a w → K' a w) → Oper.wp P o a w K' Q) : seqW P ops Q S ((false, i) :: r) a w :=
  wpOp_step (op_at ho) (fun K' hK => by
    rw [if_pos hw]
    exact h K' (fun a w hS hW => hK a w ⟨hS, hW⟩))

end

end Go.Proofs.YthndeolibilnnaaDoor
