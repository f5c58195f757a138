/- Texts of one layer, one behind the other. -/
import Derived.Test.YthchcnflflafeaaG19
import Derived.Test.YthchcnflflafeaaProg
import Derived.Test.YthchcnflflafeaaG21
import Derived.Test.YthchcnflflafeaaGC1
import Derived.Test.YthchcnflflafeaaGC2
import Derived.Test.YthchcnflflafeaaGC5
import Derived.Test.YthchcnflflafeaaGC4
import Derived.Test.YthchcnflflafeaaGC3
import Derived.Deep.RegionHeld3
import Derived.Test.YthchcnflflafeaaRows
import Derived.ProofKit
import Derived.OpenShut
import Derived.ShutString
import Derived.ChangeOld
import Derived.Below
import Derived.SizedLaws
import Derived.Test.YthchcnflflafeaaGFr
/- A region that draws its order, walked in one order up to a place where two operations may come up, and from there on in both orders. -/
namespace Go.Proofs.Ythchcnflflafeaa
open Go.RowKit
set_option linter.unusedVariables false

section
variable {P : Program} {ops : Array Oper} {Q : Exit → Act → World → Prop} {S : World → Prop} {md : Region.Mode}

/-- In one order, and then C. -/
def seqC (P : Program) (ops : Array Oper) (Q : Exit → Act → World → Prop) (S : World → Prop) (C : Act → World → Prop) : List (Bool × Nat) → Act → World → Prop
  | [], a, w => C a w
  | (true, i) :: r, a, w => ∃ oi v t, ops[i]? = some oi ∧ oi.dst = some t ∧ YieldsIf P ops S oi v a ∧ seqC P ops Q S C r (a.put (some t) v) w
  | (false, i) :: r, a, w => wpOp P ops Q i (fun a' w' => S w' ∧ seqC P ops Q S C r a' w') a w

/-- That order leads there. -/
def WayTo (md : Region.Mode) (ops : Array Oper) (L1 : Array Bool) : Array Bool → List (Bool × Nat) → Prop
  | L, [] => L = L1
  | L, (true, i) :: r => ∃ L', (Region.free md ops L i = true ∧ (Region.ready md ops L).contains i = true ∧ L.setIfInBounds i true = L') ∧ WayTo md ops L1 L' r
  | L, (false, i) :: r => ∃ L', (Region.ready md ops L = [i] ∧ L.setIfInBounds i true = L') ∧ WayTo md ops L1 L' r

theorem WayTo.done {L : Array Bool} : WayTo md ops L L [] := rfl
theorem WayTo.take {L L' L1 : Array Bool} {i : Nat} {r : List (Bool × Nat)} (h : Region.free md ops L i = true ∧ (Region.ready md ops L).contains i = true ∧ L.setIfInBounds i true = L') (k : WayTo md ops L1 L' r) : WayTo md ops L1 L ((true, i) :: r) := ⟨L', h, k⟩
theorem WayTo.meet {L L' L1 : Array Bool} {i : Nat} {r : List (Bool × Nat)} (h : Region.ready md ops L = [i] ∧ L.setIfInBounds i true = L') (k : WayTo md ops L1 L' r) : WayTo md ops L1 L ((false, i) :: r) := ⟨L', h, k⟩

theorem wayTo_held (hs : Region.noSelect ops = true) (hQ : ∀ c a t v w, Q (.panic c) (Act.put a (some t) v) w → Q (.panic c) a w) {L1 : Array Bool} {m : Nat} : ∀ (l : List (Bool × Nat)) (L : Array Bool) (a : Act) (w : World), WayTo md ops L1 L l → S w → seqC P ops Q S (fun a w => S w → wpAnyH P md ops Q S m L1 a w) l a w → wpAnyH P md ops Q S (l.length + m) L a w
  | [], L, a, w, hr, hS, h => by
    have e : L = L1 := hr
    subst e
    simpa using h hS
  | (true, i) :: r, L, a, w, ⟨L', ⟨h1, h2, h3⟩, k⟩, hS, ⟨oi, v, t, e1, e0, e2, e3⟩ => by
    rw [List.length_cons, show r.length + 1 + m = (r.length + m) + 1 by omega]
    exact wpAnyH_take e1 hs h1 h2 (by rw [e0]; exact fun c a w => hQ c a _ _ w) e2 hS (by rw [h3, e0]; exact wayTo_held hs hQ r _ _ _ k hS e3)
  | (false, i) :: r, L, a, w, ⟨L', ⟨h1, h3⟩, k⟩, hS, h => by
    rw [List.length_cons, show r.length + 1 + m = (r.length + m) + 1 by omega]
    exact wpAnyH_all h1 (by simp) (fun j hj => by
      rw [List.mem_singleton.1 hj]
      exact wpOp_mono (fun a' w' h' => ⟨h'.1, by rw [h3]; exact wayTo_held hs hQ r _ a' w' k h'.1 h'.2⟩) h)

/-- Two may come up: both orders. -/
theorem region_fork {id : Nat} {a : Act} {w : World} {L1 Li Lj : Array Bool} {i j : Nat} (hm : P.follows .mixedOrders = true) (hs : Region.noSelect ops = true) (hQ : ∀ c a t v w, Q (.panic c) (Act.put a (some t) v) w → Q (.panic c) a w) (l li lj : List (Bool × Nat)) (hlen : l.length + (li.length + 1) = ops.size) (hlij : lj.length = li.length) (hw : WayTo .any ops L1 (Array.replicate ops.size false) l) (hr : Region.ready .any ops L1 = [i, j] ∧ L1.setIfInBounds i true = Li ∧ L1.setIfInBounds j true = Lj) (wi : Way .any ops Li li) (wj : Way .any ops Lj lj) (hS : S w.drew)
    (h : seqC P ops Q S (fun a w => wpOp P ops Q i (fun a' w' => S w' ∧ seqW P ops Q S li a' w') a w ∧ wpOp P ops Q j (fun a' w' => S w' ∧ seqW P ops Q S lj a' w') a w) l a w.drew) : (Code.region id ops true).wp P Q a w := by
  refine wp_region_held (S := S) hm ?_
  have key : ∀ (l : List (Bool × Nat)) (a : Act) (w : World), seqC P ops Q S (fun a w => wpOp P ops Q i (fun a' w' => S w' ∧ seqW P ops Q S li a' w') a w ∧ wpOp P ops Q j (fun a' w' => S w' ∧ seqW P ops Q S lj a' w') a w) l a w → seqC P ops Q S (fun a w => S w → wpAnyH P .any ops Q S (li.length + 1) L1 a w) l a w := by
    intro l
    induction l with
    | nil =>
      intro a w h hS
      refine wpAnyH_all hr.1 (by simp) fun x hx => ?_
      simp only [List.mem_cons, List.not_mem_nil, or_false] at hx
      rcases hx with rfl | rfl
      · exact wpOp_mono (fun a' w' h' => ⟨h'.1, by rw [hr.2.1]; exact way_held hs hQ li _ a' w' wi h'.1 h'.2⟩) h.1
      · exact wpOp_mono (fun a' w' h' => ⟨h'.1, by rw [hr.2.2, ← hlij]; exact way_held hs hQ lj _ a' w' wj h'.1 h'.2⟩) h.2
    | cons x r ih =>
      intro a w h
      obtain ⟨b, k⟩ := x
      cases b with
      | true =>
        obtain ⟨oi, v, t, e1, e2, e3, e4⟩ := h
        exact ⟨oi, v, t, e1, e2, e3, ih _ _ e4⟩
      | false => exact wpOp_mono (fun a' w' h' => ⟨h'.1, ih _ _ h'.2⟩) h
  have := wayTo_held (S := S) hs hQ l _ a w.drew hw hS (key l a w.drew h)
  rw [hlen] at this
  exact this

theorem seqC_take {C : Act → World → Prop} {i : Nat} {r : List (Bool × Nat)} {a : Act} {w : World} {oi : Oper} {v : Value} {t : Tmp} (hi : (ops.toList.drop i).head? = some oi) (ht : oi.dst = some t) (hw : Region.wanted oi (yielded ops a.tmps) = true) (hy : ∀ w, S w → (execOp a.eval oi).run P w = .ok (.value v) w) (h : seqC P ops Q S C r (a.put (some t) v) w) : seqC P ops Q S C ((true, i) :: r) a w := ⟨oi, v, t, op_at hi, ht, .inl ⟨hw, hy⟩, h⟩

theorem seqC_meet {C : Act → World → Prop} {i : Nat} {r : List (Bool × Nat)} {a : Act} {w : World} {o : Oper} (ho : (ops.toList.drop i).head? = some o) (hw : Region.wanted o (yielded ops a.tmps) = true) (h : ∀ K' : Act → World → Prop, Shut (∀ a w, S w → seqC P ops Q S C r a w → K' a w) → Oper.wp P o a w K' Q) : seqC P ops Q S C ((false, i) :: r) a w := by
  have hs := h (fun a' w' => S w' ∧ seqC P ops Q S C r a' w') (fun a w h1 h2 => ⟨h1, h2⟩)
  show wpOp P ops Q i _ a w
  unfold wpOp
  rw [op_at ho]
  simp only [hw, if_true]
  exact .inl hs

/-- One of the two. -/
theorem fork_meet {i : Nat} {r : List (Bool × Nat)} {a : Act} {w : World} {o : Oper} (ho : (ops.toList.drop i).head? = some o) (hw : Region.wanted o (yielded ops a.tmps) = true) (h : ∀ K' : Act → World → Prop, Shut (∀ a w, S w → seqW P ops Q S r a w → K' a w) → Oper.wp P o a w K' Q) : wpOp P ops Q i (fun a' w' => S w' ∧ seqW P ops Q S r a' w') a w := by
  have hs := h (fun a' w' => S w' ∧ seqW P ops Q S r a' w') (fun a w h1 h2 => ⟨h1, h2⟩)
  unfold wpOp
  rw [op_at ho]
  simp only [hw, if_true]
  exact .inl hs

end

end Go.Proofs.Ythchcnflflafeaa

/- The order of a region's operations. -/
namespace Go.Proofs.Ythchcnflflafeaa
open Go.RowKit
set_option linter.unusedVariables false

theorem wyd_st0 : Region.free .any (regOf 6 Try.f4) (lst 12 0) 0 = true ∧ (Region.ready .any (regOf 6 Try.f4) (lst 12 0)).contains 0 = true ∧ (lst 12 0).setIfInBounds 0 true = lst 12 1 := ⟨by kernel_rfl, by kernel_rfl, by kernel_rfl⟩

theorem wyd_st1 : Region.free .any (regOf 6 Try.f4) (lst 12 1) 1 = true ∧ (Region.ready .any (regOf 6 Try.f4) (lst 12 1)).contains 1 = true ∧ (lst 12 1).setIfInBounds 1 true = lst 12 3 := ⟨by kernel_rfl, by kernel_rfl, by kernel_rfl⟩

theorem wyd_st2 : Region.free .any (regOf 6 Try.f4) (lst 12 3) 2 = true ∧ (Region.ready .any (regOf 6 Try.f4) (lst 12 3)).contains 2 = true ∧ (lst 12 3).setIfInBounds 2 true = lst 12 7 := ⟨by kernel_rfl, by kernel_rfl, by kernel_rfl⟩

theorem wyd_st3 : Region.free .any (regOf 6 Try.f4) (lst 12 7) 3 = true ∧ (Region.ready .any (regOf 6 Try.f4) (lst 12 7)).contains 3 = true ∧ (lst 12 7).setIfInBounds 3 true = lst 12 15 := ⟨by kernel_rfl, by kernel_rfl, by kernel_rfl⟩

theorem wyd_st4 : Region.free .any (regOf 6 Try.f4) (lst 12 15) 4 = true ∧ (Region.ready .any (regOf 6 Try.f4) (lst 12 15)).contains 4 = true ∧ (lst 12 15).setIfInBounds 4 true = lst 12 31 := ⟨by kernel_rfl, by kernel_rfl, by kernel_rfl⟩

theorem wyd_st5 : Region.free .any (regOf 6 Try.f4) (lst 12 31) 5 = true ∧ (Region.ready .any (regOf 6 Try.f4) (lst 12 31)).contains 5 = true ∧ (lst 12 31).setIfInBounds 5 true = lst 12 63 := ⟨by kernel_rfl, by kernel_rfl, by kernel_rfl⟩

theorem wyd_st6 : Region.free .any (regOf 6 Try.f4) (lst 12 63) 6 = true ∧ (Region.ready .any (regOf 6 Try.f4) (lst 12 63)).contains 6 = true ∧ (lst 12 63).setIfInBounds 6 true = lst 12 127 := ⟨by kernel_rfl, by kernel_rfl, by kernel_rfl⟩

theorem wyd_st7 : Region.free .any (regOf 6 Try.f4) (lst 12 127) 7 = true ∧ (Region.ready .any (regOf 6 Try.f4) (lst 12 127)).contains 7 = true ∧ (lst 12 127).setIfInBounds 7 true = lst 12 255 := ⟨by kernel_rfl, by kernel_rfl, by kernel_rfl⟩

theorem wyd_st8 : Region.free .any (regOf 6 Try.f4) (lst 12 255) 8 = true ∧ (Region.ready .any (regOf 6 Try.f4) (lst 12 255)).contains 8 = true ∧ (lst 12 255).setIfInBounds 8 true = lst 12 511 := ⟨by kernel_rfl, by kernel_rfl, by kernel_rfl⟩

theorem wyd_st9 : Region.free .any (regOf 6 Try.f4) (lst 12 511) 9 = true ∧ (Region.ready .any (regOf 6 Try.f4) (lst 12 511)).contains 9 = true ∧ (lst 12 511).setIfInBounds 9 true = lst 12 1023 := ⟨by kernel_rfl, by kernel_rfl, by kernel_rfl⟩

theorem wyd_st10 : Region.ready .any (regOf 6 Try.f4) (lst 12 1023) = [10] ∧ (lst 12 1023).setIfInBounds 10 true = lst 12 2047 := ⟨by kernel_rfl, by kernel_rfl⟩

theorem wyd_st11 : Region.ready .any (regOf 6 Try.f4) (lst 12 2047) = [11] ∧ (lst 12 2047).setIfInBounds 11 true = lst 12 4095 := ⟨by kernel_rfl, by kernel_rfl⟩

def wyd_ord : List (Bool × Nat) := [(true, 0), (true, 1), (true, 2), (true, 3), (true, 4), (true, 5), (true, 6), (true, 7), (true, 8), (true, 9), (false, 10), (false, 11)]

theorem wyd_end : Region.ready .any (regOf 6 Try.f4) (lst 12 4095) = [] := by kernel_rfl

theorem wyd_way : Way .any (regOf 6 Try.f4) (Array.replicate (regOf 6 Try.f4).size false) wyd_ord := by
  have e : Array.replicate (regOf 6 Try.f4).size false = lst 12 0 := by kernel_rfl
  rw [e]
  unfold wyd_ord
  refine .take wyd_st0 ?_
  refine .take wyd_st1 ?_
  refine .take wyd_st2 ?_
  refine .take wyd_st3 ?_
  refine .take wyd_st4 ?_
  refine .take wyd_st5 ?_
  refine .take wyd_st6 ?_
  refine .take wyd_st7 ?_
  refine .take wyd_st8 ?_
  refine .take wyd_st9 ?_
  refine .meet wyd_st10 ?_
  refine .meet wyd_st11 ?_
  exact .done wyd_end

end Go.Proofs.Ythchcnflflafeaa

/- The order of a region's operations, with a fork. -/
namespace Go.Proofs.Ythchcnflflafeaa
open Go.RowKit
set_option linter.unusedVariables false

theorem wyc_st0 : Region.free .any (regOf 13 Try.f4) (lst 29 0) 0 = true ∧ (Region.ready .any (regOf 13 Try.f4) (lst 29 0)).contains 0 = true ∧ (lst 29 0).setIfInBounds 0 true = lst 29 1 := ⟨by kernel_rfl, by kernel_rfl, by kernel_rfl⟩

theorem wyc_st1 : Region.free .any (regOf 13 Try.f4) (lst 29 1) 2 = true ∧ (Region.ready .any (regOf 13 Try.f4) (lst 29 1)).contains 2 = true ∧ (lst 29 1).setIfInBounds 2 true = lst 29 5 := ⟨by kernel_rfl, by kernel_rfl, by kernel_rfl⟩

theorem wyc_st2 : Region.ready .any (regOf 13 Try.f4) (lst 29 5) = [1] ∧ (lst 29 5).setIfInBounds 1 true = lst 29 7 := ⟨by kernel_rfl, by kernel_rfl⟩

theorem wyc_st3 : Region.ready .any (regOf 13 Try.f4) (lst 29 7) = [3] ∧ (lst 29 7).setIfInBounds 3 true = lst 29 15 := ⟨by kernel_rfl, by kernel_rfl⟩

theorem wyc_st4 : Region.free .any (regOf 13 Try.f4) (lst 29 15) 4 = true ∧ (Region.ready .any (regOf 13 Try.f4) (lst 29 15)).contains 4 = true ∧ (lst 29 15).setIfInBounds 4 true = lst 29 31 := ⟨by kernel_rfl, by kernel_rfl, by kernel_rfl⟩

theorem wyc_st5 : Region.free .any (regOf 13 Try.f4) (lst 29 31) 5 = true ∧ (Region.ready .any (regOf 13 Try.f4) (lst 29 31)).contains 5 = true ∧ (lst 29 31).setIfInBounds 5 true = lst 29 63 := ⟨by kernel_rfl, by kernel_rfl, by kernel_rfl⟩

theorem wyc_st6 : Region.free .any (regOf 13 Try.f4) (lst 29 63) 6 = true ∧ (Region.ready .any (regOf 13 Try.f4) (lst 29 63)).contains 6 = true ∧ (lst 29 63).setIfInBounds 6 true = lst 29 127 := ⟨by kernel_rfl, by kernel_rfl, by kernel_rfl⟩

theorem wyc_st7 : Region.free .any (regOf 13 Try.f4) (lst 29 127) 7 = true ∧ (Region.ready .any (regOf 13 Try.f4) (lst 29 127)).contains 7 = true ∧ (lst 29 127).setIfInBounds 7 true = lst 29 255 := ⟨by kernel_rfl, by kernel_rfl, by kernel_rfl⟩

theorem wyc_st8 : Region.free .any (regOf 13 Try.f4) (lst 29 255) 8 = true ∧ (Region.ready .any (regOf 13 Try.f4) (lst 29 255)).contains 8 = true ∧ (lst 29 255).setIfInBounds 8 true = lst 29 511 := ⟨by kernel_rfl, by kernel_rfl, by kernel_rfl⟩

theorem wyc_st9 : Region.free .any (regOf 13 Try.f4) (lst 29 511) 9 = true ∧ (Region.ready .any (regOf 13 Try.f4) (lst 29 511)).contains 9 = true ∧ (lst 29 511).setIfInBounds 9 true = lst 29 1023 := ⟨by kernel_rfl, by kernel_rfl, by kernel_rfl⟩

theorem wyc_st10 : Region.free .any (regOf 13 Try.f4) (lst 29 1023) 10 = true ∧ (Region.ready .any (regOf 13 Try.f4) (lst 29 1023)).contains 10 = true ∧ (lst 29 1023).setIfInBounds 10 true = lst 29 2047 := ⟨by kernel_rfl, by kernel_rfl, by kernel_rfl⟩

theorem wyc_st11 : Region.free .any (regOf 13 Try.f4) (lst 29 2047) 11 = true ∧ (Region.ready .any (regOf 13 Try.f4) (lst 29 2047)).contains 11 = true ∧ (lst 29 2047).setIfInBounds 11 true = lst 29 4095 := ⟨by kernel_rfl, by kernel_rfl, by kernel_rfl⟩

theorem wyc_st12 : Region.free .any (regOf 13 Try.f4) (lst 29 4095) 12 = true ∧ (Region.ready .any (regOf 13 Try.f4) (lst 29 4095)).contains 12 = true ∧ (lst 29 4095).setIfInBounds 12 true = lst 29 8191 := ⟨by kernel_rfl, by kernel_rfl, by kernel_rfl⟩

theorem wyc_st13 : Region.free .any (regOf 13 Try.f4) (lst 29 8191) 13 = true ∧ (Region.ready .any (regOf 13 Try.f4) (lst 29 8191)).contains 13 = true ∧ (lst 29 8191).setIfInBounds 13 true = lst 29 16383 := ⟨by kernel_rfl, by kernel_rfl, by kernel_rfl⟩

theorem wyc_st14 : Region.free .any (regOf 13 Try.f4) (lst 29 16383) 14 = true ∧ (Region.ready .any (regOf 13 Try.f4) (lst 29 16383)).contains 14 = true ∧ (lst 29 16383).setIfInBounds 14 true = lst 29 32767 := ⟨by kernel_rfl, by kernel_rfl, by kernel_rfl⟩

theorem wyc_st15 : Region.free .any (regOf 13 Try.f4) (lst 29 32767) 15 = true ∧ (Region.ready .any (regOf 13 Try.f4) (lst 29 32767)).contains 15 = true ∧ (lst 29 32767).setIfInBounds 15 true = lst 29 65535 := ⟨by kernel_rfl, by kernel_rfl, by kernel_rfl⟩

theorem wyc_st16 : Region.free .any (regOf 13 Try.f4) (lst 29 65535) 16 = true ∧ (Region.ready .any (regOf 13 Try.f4) (lst 29 65535)).contains 16 = true ∧ (lst 29 65535).setIfInBounds 16 true = lst 29 131071 := ⟨by kernel_rfl, by kernel_rfl, by kernel_rfl⟩

theorem wyc_st17 : Region.free .any (regOf 13 Try.f4) (lst 29 131071) 17 = true ∧ (Region.ready .any (regOf 13 Try.f4) (lst 29 131071)).contains 17 = true ∧ (lst 29 131071).setIfInBounds 17 true = lst 29 262143 := ⟨by kernel_rfl, by kernel_rfl, by kernel_rfl⟩

theorem wyc_st18 : Region.ready .any (regOf 13 Try.f4) (lst 29 262143) = [18] ∧ (lst 29 262143).setIfInBounds 18 true = lst 29 524287 := ⟨by kernel_rfl, by kernel_rfl⟩

theorem wyc_st19 : Region.free .any (regOf 13 Try.f4) (lst 29 524287) 19 = true ∧ (Region.ready .any (regOf 13 Try.f4) (lst 29 524287)).contains 19 = true ∧ (lst 29 524287).setIfInBounds 19 true = lst 29 1048575 := ⟨by kernel_rfl, by kernel_rfl, by kernel_rfl⟩

theorem wyc_st20 : Region.free .any (regOf 13 Try.f4) (lst 29 1048575) 20 = true ∧ (Region.ready .any (regOf 13 Try.f4) (lst 29 1048575)).contains 20 = true ∧ (lst 29 1048575).setIfInBounds 20 true = lst 29 2097151 := ⟨by kernel_rfl, by kernel_rfl, by kernel_rfl⟩

theorem wyc_st21 : Region.free .any (regOf 13 Try.f4) (lst 29 2097151) 21 = true ∧ (Region.ready .any (regOf 13 Try.f4) (lst 29 2097151)).contains 21 = true ∧ (lst 29 2097151).setIfInBounds 21 true = lst 29 4194303 := ⟨by kernel_rfl, by kernel_rfl, by kernel_rfl⟩

theorem wyc_st22 : Region.free .any (regOf 13 Try.f4) (lst 29 4194303) 22 = true ∧ (Region.ready .any (regOf 13 Try.f4) (lst 29 4194303)).contains 22 = true ∧ (lst 29 4194303).setIfInBounds 22 true = lst 29 8388607 := ⟨by kernel_rfl, by kernel_rfl, by kernel_rfl⟩

theorem wyc_st23 : Region.free .any (regOf 13 Try.f4) (lst 29 8388607) 24 = true ∧ (Region.ready .any (regOf 13 Try.f4) (lst 29 8388607)).contains 24 = true ∧ (lst 29 8388607).setIfInBounds 24 true = lst 29 25165823 := ⟨by kernel_rfl, by kernel_rfl, by kernel_rfl⟩

theorem wyc_fork : Region.ready .any (regOf 13 Try.f4) (lst 29 25165823) = [23, 25] ∧ (lst 29 25165823).setIfInBounds 23 true = lst 29 33554431 ∧ (lst 29 25165823).setIfInBounds 25 true = lst 29 58720255 := ⟨by kernel_rfl, by kernel_rfl, by kernel_rfl⟩

theorem wyc_ist0 : Region.ready .any (regOf 13 Try.f4) (lst 29 33554431) = [25] ∧ (lst 29 33554431).setIfInBounds 25 true = lst 29 67108863 := ⟨by kernel_rfl, by kernel_rfl⟩

theorem wyc_ist1 : Region.ready .any (regOf 13 Try.f4) (lst 29 67108863) = [26] ∧ (lst 29 67108863).setIfInBounds 26 true = lst 29 134217727 := ⟨by kernel_rfl, by kernel_rfl⟩

theorem wyc_ist2 : Region.free .any (regOf 13 Try.f4) (lst 29 134217727) 27 = true ∧ (Region.ready .any (regOf 13 Try.f4) (lst 29 134217727)).contains 27 = true ∧ (lst 29 134217727).setIfInBounds 27 true = lst 29 268435455 := ⟨by kernel_rfl, by kernel_rfl, by kernel_rfl⟩

theorem wyc_ist3 : Region.free .any (regOf 13 Try.f4) (lst 29 268435455) 28 = true ∧ (Region.ready .any (regOf 13 Try.f4) (lst 29 268435455)).contains 28 = true ∧ (lst 29 268435455).setIfInBounds 28 true = lst 29 536870911 := ⟨by kernel_rfl, by kernel_rfl, by kernel_rfl⟩

theorem wyc_iend : Region.ready .any (regOf 13 Try.f4) (lst 29 536870911) = [] := by kernel_rfl

def wyc_i : List (Bool × Nat) := [(false, 25), (false, 26), (true, 27), (true, 28)]

theorem wyc_iway : Way .any (regOf 13 Try.f4) (lst 29 33554431) wyc_i := by
  unfold wyc_i
  refine .meet wyc_ist0 ?_
  refine .meet wyc_ist1 ?_
  refine .take wyc_ist2 ?_
  refine .take wyc_ist3 ?_
  exact .done wyc_iend

theorem wyc_jst0 : Region.ready .any (regOf 13 Try.f4) (lst 29 58720255) = [23] ∧ (lst 29 58720255).setIfInBounds 23 true = lst 29 67108863 := ⟨by kernel_rfl, by kernel_rfl⟩

theorem wyc_jst1 : Region.ready .any (regOf 13 Try.f4) (lst 29 67108863) = [26] ∧ (lst 29 67108863).setIfInBounds 26 true = lst 29 134217727 := ⟨by kernel_rfl, by kernel_rfl⟩

theorem wyc_jst2 : Region.free .any (regOf 13 Try.f4) (lst 29 134217727) 27 = true ∧ (Region.ready .any (regOf 13 Try.f4) (lst 29 134217727)).contains 27 = true ∧ (lst 29 134217727).setIfInBounds 27 true = lst 29 268435455 := ⟨by kernel_rfl, by kernel_rfl, by kernel_rfl⟩

theorem wyc_jst3 : Region.free .any (regOf 13 Try.f4) (lst 29 268435455) 28 = true ∧ (Region.ready .any (regOf 13 Try.f4) (lst 29 268435455)).contains 28 = true ∧ (lst 29 268435455).setIfInBounds 28 true = lst 29 536870911 := ⟨by kernel_rfl, by kernel_rfl, by kernel_rfl⟩

theorem wyc_jend : Region.ready .any (regOf 13 Try.f4) (lst 29 536870911) = [] := by kernel_rfl

def wyc_j : List (Bool × Nat) := [(false, 23), (false, 26), (true, 27), (true, 28)]

theorem wyc_jway : Way .any (regOf 13 Try.f4) (lst 29 58720255) wyc_j := by
  unfold wyc_j
  refine .meet wyc_jst0 ?_
  refine .meet wyc_jst1 ?_
  refine .take wyc_jst2 ?_
  refine .take wyc_jst3 ?_
  exact .done wyc_jend

def wyc_ord : List (Bool × Nat) := [(true, 0), (true, 2), (false, 1), (false, 3), (true, 4), (true, 5), (true, 6), (true, 7), (true, 8), (true, 9), (true, 10), (true, 11), (true, 12), (true, 13), (true, 14), (true, 15), (true, 16), (true, 17), (false, 18), (true, 19), (true, 20), (true, 21), (true, 22), (true, 24)]

theorem wyc_to : WayTo .any (regOf 13 Try.f4) (lst 29 25165823) (Array.replicate (regOf 13 Try.f4).size false) wyc_ord := by
  have e : Array.replicate (regOf 13 Try.f4).size false = lst 29 0 := by kernel_rfl
  rw [e]
  unfold wyc_ord
  refine .take wyc_st0 ?_
  refine .take wyc_st1 ?_
  refine .meet wyc_st2 ?_
  refine .meet wyc_st3 ?_
  refine .take wyc_st4 ?_
  refine .take wyc_st5 ?_
  refine .take wyc_st6 ?_
  refine .take wyc_st7 ?_
  refine .take wyc_st8 ?_
  refine .take wyc_st9 ?_
  refine .take wyc_st10 ?_
  refine .take wyc_st11 ?_
  refine .take wyc_st12 ?_
  refine .take wyc_st13 ?_
  refine .take wyc_st14 ?_
  refine .take wyc_st15 ?_
  refine .take wyc_st16 ?_
  refine .take wyc_st17 ?_
  refine .meet wyc_st18 ?_
  refine .take wyc_st19 ?_
  refine .take wyc_st20 ?_
  refine .take wyc_st21 ?_
  refine .take wyc_st22 ?_
  refine .take wyc_st23 ?_
  exact .done

end Go.Proofs.Ythchcnflflafeaa

/- RunCalls. -/
namespace Go.Proofs.Ythchcnflflafeaa
open Go.RowKit
set_option linter.unusedVariables false

/-- What ApartBytes leaves: blocks of another type. -/
theorem keepT_of_lists {m bl base : Nat} {w w' : World} {vs : Nat → Value} {zs : Nat → List Int} (H : Lists m bl base w vs zs) (hk : ∀ g, g < w.heap.size → (∀ i, i < m → (vs i).ownBlock ≠ some g) → w'.heap[g]? = w.heap[g]?) : KeepT 5 w w' := by
  intro g cs t fr hg ht
  refine (hk g (blk_lt hg) fun i hi e => ?_).trans hg
  obtain ⟨cs', h'⟩ := (H.own i hi).block_type e
  rw [h'] at hg
  simp at hg
  exact ht hg.2.1.symm

theorem dc_fit {bs : List Int} {f u g : Int} {l : List Bm.Ov} (h : Rn.Dc bs f u l g) : FitO l ∧ l.length ≤ 1024 ∧ l.length * 40 ≤ 140737488351232 ∧ In64 f ∧ In64 u := by
  rcases h with ⟨_, h, _⟩ | ⟨_, rfl, rfl, rfl, _⟩
  · obtain ⟨h1, h2, h3, h4, h5⟩ := fit_run h
    exact ⟨h1, h5, h2, h3, h4⟩
  · exact ⟨fun o ho => by simp at ho, by simp, by simp, ⟨by omega, by omega⟩, ⟨by omega, by omega⟩⟩

theorem out_small (f u : Int) (l : List Bm.Ov) : (Rn.out f u l).length ≤ 52233 := by
  by_cases h : Rn.chk f u l = 0
  · rw [Rn.out_ok h]
    exact Rn.encR_small h
  · unfold Rn.out
    rw [if_neg h]
    simp

set_option maxRecDepth 20000 in
set_option maxHeartbeats 8000000 in
theorem runCalls_walk (f u : Int) (v : Value) (l : List Bm.Ov) (vb : Value) (bs : List Int) (w : World) (h1 : In64 f) (h2 : In64 u) (hv : IsO w v l) (hf : FitO l) (hl : l.length * 40 ≤ 140737488351232) (hb : Is .u8 w vb bs) (hlb : bs.length * 1 ≤ 140737488351232) :
    Calls Try.prog 4 #[cmv f u v, vb] w fun e w' => e = .returned (.bool true) ∧ Below w.heap.size w w' := by
  obtain ⟨w1, hw1, sz1, bel1, hB1⟩ := blk_step w #[.int .i64 f, .int .i64 u, v] 32
  obtain ⟨ao, ko, hv0, _, _⟩ := hv.shape
  obtain ⟨ab, kb, hvb, _, _⟩ := hb.shape
  subst hv0 hvb
  unfold cmv
  have hlo : l.length ≤ 140737488355328 := by omega
  have hlb' : bs.length ≤ 140737488351232 := by omega
  go_enter Try.func4, Try.ntmps4
  go_wp2_with fail
  refine (lives_any w1).mono ?_
  rintro E w2 ⟨rfl, bel2⟩
  have hB2 := (bel2.block w.heap.size (by omega)).trans hB1
  have b02 : Below w.heap.size w w2 := bel1.trans (bel2.mono bel1.size)
  have c2 : w2.cell? ⟨w.heap.size, 2, none⟩ = some (.slice ao l.length ko) := blk_cell hB2 2 rfl
  by_cases hg1 : 40 < l.length ∧ l.length ≤ 1024
  · have hg2 : (40 : Int) < l.length := by omega
    have hg3 : (l.length : Int) ≤ 1024 := by omega
    go_wp2
    go_ret
    exact ⟨rfl, b02⟩
  by_cases hgb : 4000 < bs.length
  · have hgb' : (4000 : Int) < bs.length := by omega
    by_cases hg2 : (40 : Int) < l.length
    · have hg3 : ¬ (l.length : Int) ≤ 1024 := by omega
      go_wp2
      go_ret
      exact ⟨rfl, b02⟩
    · go_wp2
      go_ret
      exact ⟨rfl, b02⟩
  have hgb' : ¬ (4000 : Int) < bs.length := by omega
  have HL := hide (lentO_any _ l w2 (hv.below b02) hl)
  have HB2 := hide hB2
  have B02 := hide b02
  clear hB1 hB2 bel1 bel2 b02
  by_cases hg2 : (40 : Int) < l.length
  case' pos =>
    have hg3 : ¬ (l.length : Int) ≤ 1024 := by omega
    go_wp2_with fail
  case' neg =>
    go_wp2_with fail
  all_goals
    refine HL.out.mono ?_
    rintro E w3 ⟨v3, rfl, own3, b3⟩
    have HLB := hide (lent_any _ bs w3 ((hb.below B02.out).below b3) hlb')
    have B23 := hide b3
    have O3 := hide own3
    clear own3 b3 c2 HL
    go_wp2_with fail
    refine HLB.out.mono ?_
    rintro E w4 ⟨v4, rfl, own4, b4⟩
    have O4 := hide own4
    have B24 := hide (B23.out.trans (b4.mono B23.out.size))
    have B34 := hide b4
    obtain ⟨a3, k3, hv3, _, _⟩ := O3.out.is.shape
    obtain ⟨a4, k4, hv4, _, _⟩ := O4.out.is.shape
    subst hv3 hv4
    clear own4 b4 HLB B23
    obtain ⟨vo, hso, iso⟩ := O3.out.is.slice_h Try.elemO Try.sizeO l.length (by simp)
    rw [List.take_left] at iso
    have hso' : ∀ wx, (Instr.slice 30 (.slice a3 (l.length + 3) k3) none (some (.int .i64 l.length)) none).run Try.prog wx = .ok vo wx := hso
    obtain ⟨vf, hsf, isf⟩ := O4.out.is.slice_h Try.elemP Try.sizeP bs.length (by simp)
    rw [List.take_left] at isf
    have HSF : Hid (∀ wx, (Instr.slice 38 (.slice a4 (bs.length + 3) k4) none (some (.int .i64 bs.length)) none).run Try.prog wx = .ok vf wx) := hide hsf
    obtain ⟨xa, xk, hvo, _, _⟩ := iso.shape
    obtain ⟨W4, hW4⟩ : ∃ x, w4.drew = x := ⟨_, rfl⟩
    have b44 : Below w4.heap.size w4 W4 := by rw [← hW4]; exact (Below.refl _ _).drew
    obtain ⟨V0, hV0, szV0, belV0, hBV0⟩ := blk_step W4 #[.int .i64 0, .int .i64 0, .slice none 0 0] 32
    obtain ⟨V, hV, bL, gV, ⟨p0, p1, p2⟩, ⟨f0, f1, f2⟩, ⟨l0, l1, l2⟩⟩ := res_step hBV0 (.int .i64 f) (.int .i64 u) (.slice xa l.length xk)
    have belV : Below W4.heap.size W4 V := below_put belV0 gV (Nat.le_refl _) belV0.size
    have hR4 := (b44.block w.heap.size (by have := B24.out.size; have := blk_lt HB2.out; omega)).trans ((B24.out.block w.heap.size (blk_lt HB2.out)).trans HB2.out)
    have hR0 := (belV0.block w.heap.size (blk_lt hR4)).trans hR4
    have hRV := (belV.block w.heap.size (blk_lt hR4)).trans hR4
    have F0 : (W4.cell? ⟨w.heap.size, 0, none⟩ = some (.int .i64 f) ∧ W4.cell? ⟨w.heap.size, 1, none⟩ = some (.int .i64 u) ∧ W4.cell? ⟨w.heap.size, 2, none⟩ = some (.slice ao l.length ko)) := ⟨blk_cell hR4 0 rfl, blk_cell hR4 1 rfl, blk_cell hR4 2 rfl⟩
    have F1 : (V0.cell? ⟨w.heap.size, 0, none⟩ = some (.int .i64 f) ∧ V0.cell? ⟨w.heap.size, 1, none⟩ = some (.int .i64 u) ∧ V0.cell? ⟨w.heap.size, 2, none⟩ = some (.slice ao l.length ko)) := ⟨blk_cell hR0 0 rfl, blk_cell hR0 1 rfl, blk_cell hR0 2 rfl⟩
    have F2 : (V.cell? ⟨w.heap.size, 0, none⟩ = some (.int .i64 f) ∧ V.cell? ⟨w.heap.size, 1, none⟩ = some (.int .i64 u) ∧ V.cell? ⟨w.heap.size, 2, none⟩ = some (.slice ao l.length ko)) := ⟨blk_cell hRV 0 rfl, blk_cell hRV 1 rfl, blk_cell hRV 2 rfl⟩
    subst hvo
    clear hso hsf hR0 hR4 hBV0 gV
    go_wp2_with fail
    rw [← hW4] at F0
    refine region_way (ops := (regOf 6 Try.f4)) (S := fun W => (W.cell? ⟨w.heap.size, 0, none⟩ = some (.int .i64 f) ∧ W.cell? ⟨w.heap.size, 1, none⟩ = some (.int .i64 u) ∧ W.cell? ⟨w.heap.size, 2, none⟩ = some (.slice ao l.length ko))) (by kernel_rfl) (by kernel_rfl) (fun _ _ _ _ _ h => h) wyd_ord (by kernel_rfl) wyd_way F0 ?_
    unfold wyd_ord
    refine seq_take (v := ?_) rfl rfl (by rfl) ?_ ?_
    rotate_left 1
    · intro w hS
      (try dsimp only at hS)
      go_simp
      all_goals with_reducible rfl
    simp only [Act.put, List.setIfInBounds_toArray, List.set_cons_zero, List.set_cons_succ]
    refine seq_take (v := ?_) rfl rfl (by rfl) ?_ ?_
    rotate_left 1
    · intro w hS
      (try dsimp only at hS)
      go_simp
      all_goals with_reducible rfl
    simp only [Act.put, List.setIfInBounds_toArray, List.set_cons_zero, List.set_cons_succ]
    refine seq_take (v := ?_) rfl rfl (by rfl) ?_ ?_
    rotate_left 1
    · intro w hS
      (try dsimp only at hS)
      go_simp
      all_goals with_reducible rfl
    simp only [Act.put, List.setIfInBounds_toArray, List.set_cons_zero, List.set_cons_succ]
    refine seq_take (v := ?_) rfl rfl (by rfl) ?_ ?_
    rotate_left 1
    · intro w hS
      (try dsimp only at hS)
      go_simp
      all_goals with_reducible rfl
    simp only [Act.put, List.setIfInBounds_toArray, List.set_cons_zero, List.set_cons_succ]
    refine seq_take (v := ?_) rfl rfl (by rfl) ?_ ?_
    rotate_left 1
    · intro w hS
      (try dsimp only at hS)
      go_simp
      all_goals with_reducible rfl
    simp only [Act.put, List.setIfInBounds_toArray, List.set_cons_zero, List.set_cons_succ]
    refine seq_take (v := ?_) rfl rfl (by rfl) ?_ ?_
    rotate_left 1
    · intro w hS
      (try dsimp only at hS)
      go_simp
      all_goals with_reducible rfl
    simp only [Act.put, List.setIfInBounds_toArray, List.set_cons_zero, List.set_cons_succ]
    refine seq_take (v := ?_) rfl rfl (by rfl) ?_ ?_
    rotate_left 1
    · intro w hS
      (try dsimp only at hS)
      go_simp
      all_goals with_reducible rfl
    simp only [Act.put, List.setIfInBounds_toArray, List.set_cons_zero, List.set_cons_succ]
    refine seq_take (v := ?_) rfl rfl (by rfl) ?_ ?_
    rotate_left 1
    · intro w hS
      (try dsimp only at hS)
      go_simp
      all_goals with_reducible rfl
    simp only [Act.put, List.setIfInBounds_toArray, List.set_cons_zero, List.set_cons_succ]
    refine seq_take (v := ?_) rfl rfl (by rfl) ?_ ?_
    rotate_left 1
    · intro w hS
      (try dsimp only at hS)
      go_simp
      all_goals with_reducible rfl
    simp only [Act.put, List.setIfInBounds_toArray, List.set_cons_zero, List.set_cons_succ]
    refine seq_take (v := ?_) rfl rfl (by rfl) ?_ ?_
    rotate_left 1
    · intro w hS
      (try dsimp only at hS)
      go_simp
      all_goals with_reducible rfl
    simp only [Act.put, List.setIfInBounds_toArray, List.set_cons_zero, List.set_cons_succ]
    refine seq_meet rfl (by rfl) (fun K hK => ?_)
    go_simp
    go_wp2_with fail
    refine hK.out _ _ F1 ?_
    clear hK K
    try simp only [Act.put, List.setIfInBounds_toArray, List.set_cons_zero, List.set_cons_succ]
    refine seq_meet rfl (by rfl) (fun K hK => ?_)
    go_simp
    go_wp2_with fail
    refine hK.out _ _ F2 ?_
    clear hK K
    try simp only [Act.put, List.setIfInBounds_toArray, List.set_cons_zero, List.set_cons_succ]
    unfold seqW
    have BV := hide (b44.trans (belV.mono b44.size))
    have WV := hide (show w.heap.size ≤ V.heap.size from by have := B24.out.size; have := BV.out.size; have := B02.out.size; omega)
    have B2V := hide (B24.out.trans (BV.out.mono B24.out.size))
    have KP : Hid (∀ W, Below V.heap.size V W → (W.cell? ⟨w.heap.size, 0, none⟩ = some (.int .i64 f) ∧ W.cell? ⟨w.heap.size, 1, none⟩ = some (.int .i64 u) ∧ W.cell? ⟨w.heap.size, 2, none⟩ = some (.slice ao l.length ko)) ∧ (W.cell? ⟨W4.heap.size, 0, none⟩ = some (.int .i64 f) ∧ W.cell? ⟨W4.heap.size, 1, none⟩ = some (.int .i64 u) ∧ W.cell? ⟨W4.heap.size, 2, none⟩ = some (.slice xa l.length xk)) ∧ IsO W (.slice xa l.length xk) l ∧ IsO W (.slice ao l.length ko) l ∧ Is .u8 W vf bs ∧ Is .u8 W (.slice ab bs.length kb) bs ∧ IsO W (.slice a3 (l.length + 3) k3) (l ++ [behind, behind, behind]) ∧ Is .u8 W (.slice a4 (bs.length + 3) k4) (bs ++ [201, 202, 203]) ∧ Below w.heap.size w W) := hide fun W hW => by
      have q1 := (hW.block w.heap.size (blk_lt hRV)).trans hRV
      have q2 := (hW.block W4.heap.size (blk_lt bL)).trans bL
      have bw := B02.out.trans ((B2V.out.trans (hW.mono B2V.out.size)).mono B02.out.size)
      exact ⟨⟨blk_cell q1 0 rfl, blk_cell q1 1 rfl, blk_cell q1 2 rfl⟩, ⟨blk_cell q2 0 rfl, blk_cell q2 1 rfl, blk_cell q2 2 rfl⟩, ((iso.below B34.out).below BV.out).below hW, hv.below bw, (isf.below BV.out).below hW, hb.below bw, (by have := ((O3.out.is.below B34.out).below BV.out).below hW; rw [List.length_append] at this; exact this), (by have := (O4.out.is.below BV.out).below hW; rw [List.length_append] at this; exact this), bw⟩
    obtain ⟨ch, hch⟩ : ∃ x, Rn.chk f u l = x := ⟨_, rfl⟩
    obtain ⟨ou, hou⟩ : ∃ x, Rn.out f u l = x := ⟨_, rfl⟩
    have hol : Hid (ou.length ≤ 52233) := hide (by rw [← hou]; exact out_small f u l)
    have E1 : Hid (∀ W, Below V.heap.size V W → Calls Try.prog 17 #[.agg #[.int .i64 f, .int .i64 u, .slice xa l.length xk]] W fun E w' => ∃ vb, E = .returned (.tuple #[vb, .int .i64 ch]) ∧ Own .u8 5 W.heap.size w' vb ou ∧ Below W.heap.size W w') := hide fun W hW => by
      have := henc_any f u _ l W (KP.out W hW).2.2.1 hf hlo
      rw [hch, hou] at this
      exact this
    have E2 : Hid (∀ W, Below V.heap.size V W → Calls Try.prog 18 #[.agg #[.int .i64 f, .int .i64 u, .slice ao l.length ko]] W fun E w' => ∃ vb, E = .returned (.tuple #[vb, .int .i64 ch]) ∧ Own .u8 5 W.heap.size w' vb ou ∧ Below W.heap.size W w') := hide fun W hW => by
      have := hencR_any f u _ l W (KP.out W hW).2.2.2.1 hf hlo
      rw [hch, hou] at this
      exact this
    have A1 : Hid (∀ W, Below V.heap.size V W → Calls Try.prog 14 #[.agg #[.int .i64 f, .int .i64 u, .slice xa l.length xk]] W fun E w' => E = .returned (.int .i64 ch) ∧ Below W.heap.size W w') := hide fun W hW => by
      have := hcheck_any f u _ l W (KP.out W hW).2.2.1 hf hlo
      rw [hch] at this
      exact this
    have A2 : Hid (∀ W, Below V.heap.size V W → Calls Try.prog 21 #[.agg #[.int .i64 f, .int .i64 u, .slice ao l.length ko]] W fun E w' => E = .returned (.int .i64 ch) ∧ Below W.heap.size W w') := hide fun W hW => by
      have := hcheckR_any f u _ l W (KP.out W hW).2.2.2.1 hf hlo
      rw [hch] at this
      exact this
    have HLO := hide hl
    clear hch hou hf hlo hv hb hl hlb iso isf hRV bL belV belV0 F0 F1 F2 l0 l1 l2 p0 p1 p2 f0 f1 f2 hV hV0 hw1 b44 HB2 B24 B34 szV0 BV B2V B02 O3 O4 h1 h2 hso' hg1
    obtain ⟨⟨x0, x1, x2⟩, ⟨y0, y1, y2⟩, _⟩ := KP.out V (Below.refl _ _)
    have X1 := hide (E1.out V (Below.refl _ _))
    go_wp2_with fail
    refine X1.out.mono ?_
    rintro E w5 ⟨vx, rfl, o5, b5⟩
    have O5 := hide o5
    have s5 := hide b5.size
    have B5 := hide b5
    obtain ⟨a5, k5, hv5, _, _⟩ := o5.is.shape
    subst hv5
    clear x0 x1 x2 y0 y1 y2 X1
    obtain ⟨⟨x0, x1, x2⟩, ⟨y0, y1, y2⟩, _⟩ := KP.out w5 b5
    have X2 := hide (E2.out w5 b5)
    clear o5 b5
    go_wp2_with fail
    refine X2.out.mono ?_
    rintro E w6 ⟨vy, rfl, o6, b6⟩
    have O6 := hide o6
    have s6 := hide b6.size
    have B6 := hide (B5.out.trans (b6.mono B5.out.size))
    have O56 := hide (O5.out.below b6)
    have OB5 := hide (O5.out.block)
    obtain ⟨a6, k6, hv6, _, _⟩ := o6.is.shape
    subst hv6
    clear x0 x1 x2 y0 y1 y2 X2 o6 b6 O5
    obtain ⟨⟨x0, x1, x2⟩, ⟨y0, y1, y2⟩, _⟩ := KP.out w6 B6.out
    have X3 := hide (E1.out w6 B6.out)
    go_wp2_with fail
    refine X3.out.mono ?_
    rintro E w7 ⟨vz, rfl, o7, b7⟩
    have O7 := hide o7
    have s7 := hide b7.size
    have B7 := hide (B6.out.trans (b7.mono B6.out.size))
    have O57 := hide (O56.out.below b7)
    have O67 := hide (O6.out.below b7)
    obtain ⟨a7, k7, hv7, _, _⟩ := o7.is.shape
    subst hv7
    clear x0 x1 x2 y0 y1 y2 X3 o7 b7 O56 O6
    have D1 : Hid (∀ W, Below V.heap.size V W → Calls Try.prog 19 #[vf] W fun E w' => ∃ (x y g : Int) (v : Value) (m : List Bm.Ov), E = .returned (.tuple #[cmv x y v, .int .i64 g]) ∧ OwnO 35 W.heap.size w' v m ∧ Hid (Rn.Dc bs x y m g) ∧ Below W.heap.size W w') := hide fun W hW => hdec_any vf bs W (KP.out W hW).2.2.2.2.1 (by omega)
    have D2 : Hid (∀ W, Below V.heap.size V W → Calls Try.prog 20 #[.slice ab bs.length kb] W fun E w' => ∃ (x y g : Int) (v : Value) (m : List Bm.Ov), E = .returned (.tuple #[cmv x y v, .int .i64 g]) ∧ OwnO 35 W.heap.size w' v m ∧ Hid (Rn.Dc bs x y m g) ∧ Below W.heap.size W w') := hide fun W hW => hdecR_any _ bs W (KP.out W hW).2.2.2.2.2.1 (by omega)
    have hsf' := HSF.out
    have X4 := hide (D1.out w7 B7.out)
    go_wp2_with fail
    refine X4.out.mono ?_
    rintro E w8 ⟨sf, su, sg, vs, sl, rfl, o8, DC, b8⟩
    have O8 := hide o8
    have OB8 := hide o8.block
    have s8 := hide b8.size
    have B8 := hide (B7.out.trans (b8.mono B7.out.size))
    have O58 := hide (O57.out.below b8)
    have O68 := hide (O67.out.below b8)
    have O78 := hide (O7.out.below b8)
    have OB7 := hide (O7.out.block)
    obtain ⟨a8, k8, hv8, _, _⟩ := o8.is.shape
    subst hv8
    clear X4 o8 b8 O57 O67 O7
    unfold cmv
    obtain ⟨V8, hV8, _, szV8, belV8, bS8, _⟩ := new_step w8 32 (.int .i64 0) (.int .i64 0) (.slice none 0 0) (.int .i64 sf) (.int .i64 su) (.slice a8 sl.length k8)
    have BV8 := hide (B8.out.trans (belV8.mono B8.out.size))
    have B88 := hide belV8
    have HS8 := hide bS8
    have X5 := hide (D2.out V8 BV8.out)
    clear belV8 bS8
    go_wp2_with fail
    refine X5.out.mono ?_
    rintro E w9 ⟨tf, tu, tg, vt, tl, rfl, o9, DC9, b9⟩
    obtain ⟨rfl, rfl, rfl, rfl⟩ := Rn.dc_one DC.out DC9.out
    have O9 := hide o9
    have s9 := hide b9.size
    have B9 := hide (BV8.out.trans (b9.mono BV8.out.size))
    have B89 := hide (B88.out.trans (b9.mono B88.out.size))
    have B9v := hide b9
    obtain ⟨a9, k9, hv9, _, _⟩ := o9.is.shape
    subst hv9
    clear X5 o9 b9 hV8 DC9
    unfold cmv
    obtain ⟨V9, hV9, _, szV9, belV9, bS9, _⟩ := new_step w9 32 (.int .i64 0) (.int .i64 0) (.slice none 0 0) (.int .i64 sf) (.int .i64 su) (.slice a9 sl.length k9)
    have BV9 := hide (B9.out.trans (belV9.mono B9.out.size))
    have B99 := hide belV9
    have HS9 := hide bS9
    have X6 := hide (D1.out V9 BV9.out)
    have hsf2 := HSF.out
    clear belV9 bS9
    go_wp2_with fail
    refine X6.out.mono ?_
    rintro E wa ⟨uf, uu, ug, vu, ul, rfl, oa, DCa, ba⟩
    obtain ⟨rfl, rfl, rfl, rfl⟩ := Rn.dc_one DC.out DCa.out
    have OA := hide oa
    have sa := hide ba.size
    have BA := hide (BV9.out.trans (ba.mono BV9.out.size))
    have B9a := hide (B99.out.trans (ba.mono B99.out.size))
    have Bva := hide ba
    obtain ⟨aa, ka, hva, _, _⟩ := oa.is.shape
    subst hva
    clear X6 oa ba hV9 DCa
    unfold cmv
    obtain ⟨Z, hZ, _, szZ, belZ, bSa, _⟩ := new_step wa 32 (.int .i64 0) (.int .i64 0) (.slice none 0 0) (.int .i64 sf) (.int .i64 su) (.slice aa sl.length ka)
    have BZ := hide (BA.out.trans (belZ.mono BA.out.size))
    have B9Z := hide (B9a.out.trans (belZ.mono B9a.out.size))
    have B8Z := hide (B89.out.trans (B9Z.out.mono B89.out.size))
    have FIT := hide (dc_fit DC.out)
    have OO := hide (show OwnO 35 w7.heap.size Z (.slice a8 sl.length k8) sl ∧ OwnO 35 V8.heap.size Z (.slice a9 sl.length k9) sl ∧ OwnO 35 V9.heap.size Z (.slice aa sl.length ka) sl from ⟨O8.out.below B8Z.out, O9.out.below B9Z.out, OA.out.below belZ⟩)
    have OX := hide (show Own .u8 5 V.heap.size Z (.slice a5 ou.length k5) ou ∧ Own .u8 5 w5.heap.size Z (.slice a6 ou.length k6) ou ∧ Own .u8 5 w6.heap.size Z (.slice a7 ou.length k7) ou from ⟨O58.out.below B8Z.out, O68.out.below B8Z.out, O78.out.below B8Z.out⟩)
    have BK := hide (show Z.heap[w8.heap.size]? = some (.cells #[.int .i64 sf, .int .i64 su, .slice a8 sl.length k8] 32 (0, 0)) ∧ Z.heap[w9.heap.size]? = some (.cells #[.int .i64 sf, .int .i64 su, .slice a9 sl.length k9] 32 (0, 0)) ∧ Z.heap[wa.heap.size]? = some (.cells #[.int .i64 sf, .int .i64 su, .slice aa sl.length ka] 32 (0, 0)) from ⟨((B9v.out.trans (B9Z.out.mono B9v.out.size)).block w8.heap.size (blk_lt HS8.out)).trans HS8.out, ((Bva.out.trans (belZ.mono Bva.out.size)).block w9.heap.size (blk_lt HS9.out)).trans HS9.out, bSa⟩)
    have LT := hide (show V.heap.size ≤ w5.heap.size ∧ w5.heap.size ≤ w6.heap.size ∧ w6.heap.size ≤ w7.heap.size ∧ w7.heap.size ≤ w8.heap.size ∧ w8.heap.size < V8.heap.size ∧ V8.heap.size ≤ w9.heap.size ∧ w9.heap.size < V9.heap.size ∧ V9.heap.size ≤ wa.heap.size ∧ wa.heap.size < Z.heap.size from by
      have q5 := s5.out; have q6 := s6.out; have q7 := s7.out; have q8 := s8.out; have q9 := s9.out; have qa := sa.out
      omega)
    clear belZ bSa O8 O9 OA O58 O68 O78 HS8 HS9 B88 B99 B89 B9a B9v Bva B5 B6 B7 B8 BV8 BV9 B9 BA
    have SS : Hid (∀ W, Below Z.heap.size Z W → (W.cell? ⟨w.heap.size, 0, none⟩ = some (.int .i64 f) ∧ W.cell? ⟨w.heap.size, 1, none⟩ = some (.int .i64 u) ∧ W.cell? ⟨w.heap.size, 2, none⟩ = some (.slice ao l.length ko)) ∧ (W.cell? ⟨W4.heap.size, 0, none⟩ = some (.int .i64 f) ∧ W.cell? ⟨W4.heap.size, 1, none⟩ = some (.int .i64 u) ∧ W.cell? ⟨W4.heap.size, 2, none⟩ = some (.slice xa l.length xk)) ∧ (W.cell? ⟨w8.heap.size, 0, none⟩ = some (.int .i64 sf) ∧ W.cell? ⟨w8.heap.size, 1, none⟩ = some (.int .i64 su) ∧ W.cell? ⟨w8.heap.size, 2, none⟩ = some (.slice a8 sl.length k8)) ∧ (W.cell? ⟨w9.heap.size, 0, none⟩ = some (.int .i64 sf) ∧ W.cell? ⟨w9.heap.size, 1, none⟩ = some (.int .i64 su) ∧ W.cell? ⟨w9.heap.size, 2, none⟩ = some (.slice a9 sl.length k9))) := hide fun W hW => by
      obtain ⟨c1, c2, _⟩ := KP.out W (BZ.out.trans (hW.mono BZ.out.size))
      have q1 := (hW.block w8.heap.size (blk_lt BK.out.1)).trans BK.out.1
      have q2 := (hW.block w9.heap.size (blk_lt BK.out.2.1)).trans BK.out.2.1
      exact ⟨c1, c2, ⟨blk_cell q1 0 rfl, blk_cell q1 1 rfl, blk_cell q1 2 rfl⟩, ⟨blk_cell q2 0 rfl, blk_cell q2 1 rfl, blk_cell q2 2 rfl⟩⟩
    have A3 : Hid (∀ W, Below Z.heap.size Z W → Calls Try.prog 22 #[.slice a5 ou.length k5, .slice a6 ou.length k6] W fun E w' => E = .returned (.bool true) ∧ Below W.heap.size W w') := hide fun W hW => same_yes _ _ _ _ _ (OX.out.1.below hW).is (OX.out.2.1.below hW).is (by have := hol.out; omega) rfl
    have A4 : Hid (∀ W, Below Z.heap.size Z W → ∀ v1 v2, OwnR 32 Z.heap.size W v1 [⟨sf, su, .slice a8 sl.length k8, sl⟩] → OwnR 32 Z.heap.size W v2 [⟨sf, su, .slice a9 sl.length k9, sl⟩] → Calls Try.prog 23 #[v1, v2] W fun E w' => E = .returned (.bool true) ∧ Below W.heap.size W w') := hide fun W hW v1 v2 r1 r2 => by
      obtain ⟨g1, g2, g3, g4, g5⟩ := FIT.out
      have := sameRs_any v1 v2 [⟨sf, su, .slice a8 sl.length k8, sl⟩] [⟨sf, su, .slice a9 sl.length k9, sl⟩] W ⟨r1.row, fun d hd => by rw [List.mem_singleton.1 hd]; exact ⟨(OO.out.1.below hW).is, g4, g5⟩⟩ ⟨r2.row, fun d hd => by rw [List.mem_singleton.1 hd]; exact ⟨(OO.out.2.1.below hW).is, g4, g5⟩⟩ (fun d hd => by rw [List.mem_singleton.1 hd]; exact ⟨g1, g3⟩) (fun d hd => by rw [List.mem_singleton.1 hd]; exact ⟨g1, g3⟩) (by simp) (by simp)
      rw [show cvs [⟨sf, su, .slice a8 sl.length k8, sl⟩] = cvs [⟨sf, su, .slice a9 sl.length k9, sl⟩] from rfl, sameV_self] at this
      exact this
    obtain ⟨Z0, hZ0⟩ : ∃ x, Z.drew = x := ⟨_, rfl⟩
    have bZ0 : Below Z.heap.size Z Z0 := by rw [← hZ0]; exact (Below.refl _ _).drew
    have F0 := SS.out Z0 bZ0
    have X7 := hide (A1.out Z0 (BZ.out.trans (bZ0.mono BZ.out.size)))
    clear D1 D2 E1 E2 s5 s6 s7 s8 s9 sa HSF hsf' hsf2 DC
    go_wp2_with fail
    rw [← hZ0] at F0
    refine region_fork (ops := (regOf 13 Try.f4)) (S := fun W => (W.cell? ⟨w.heap.size, 0, none⟩ = some (.int .i64 f) ∧ W.cell? ⟨w.heap.size, 1, none⟩ = some (.int .i64 u) ∧ W.cell? ⟨w.heap.size, 2, none⟩ = some (.slice ao l.length ko)) ∧ (W.cell? ⟨W4.heap.size, 0, none⟩ = some (.int .i64 f) ∧ W.cell? ⟨W4.heap.size, 1, none⟩ = some (.int .i64 u) ∧ W.cell? ⟨W4.heap.size, 2, none⟩ = some (.slice xa l.length xk)) ∧ (W.cell? ⟨w8.heap.size, 0, none⟩ = some (.int .i64 sf) ∧ W.cell? ⟨w8.heap.size, 1, none⟩ = some (.int .i64 su) ∧ W.cell? ⟨w8.heap.size, 2, none⟩ = some (.slice a8 sl.length k8)) ∧ (W.cell? ⟨w9.heap.size, 0, none⟩ = some (.int .i64 sf) ∧ W.cell? ⟨w9.heap.size, 1, none⟩ = some (.int .i64 su) ∧ W.cell? ⟨w9.heap.size, 2, none⟩ = some (.slice a9 sl.length k9))) (by kernel_rfl) (by kernel_rfl) (fun _ _ _ _ _ h => h) wyc_ord wyc_i wyc_j (by kernel_rfl) (by kernel_rfl) wyc_to wyc_fork wyc_iway wyc_jway F0 ?_
    unfold wyc_ord
    refine seqC_take (v := ?_) rfl rfl (by rfl) ?_ ?_
    rotate_left 1
    · intro w hS
      (try dsimp only at hS)
      go_simp
      all_goals with_reducible rfl
    simp only [Act.put, List.setIfInBounds_toArray, List.set_cons_zero, List.set_cons_succ]
    refine seqC_take (v := ?_) rfl rfl (by rfl) ?_ ?_
    rotate_left 1
    · intro w hS
      (try dsimp only at hS)
      go_simp
      all_goals with_reducible rfl
    simp only [Act.put, List.setIfInBounds_toArray, List.set_cons_zero, List.set_cons_succ]
    refine seqC_meet rfl (by rfl) (fun K hK => ?_)
    go_simp
    refine X7.out.mono ?_
    rintro E Za ⟨rfl, bza⟩
    have bZa : Below Z.heap.size Z Za := bZ0.trans (bza.mono bZ0.size)
    have Fa := SS.out Za bZa
    have X8 := hide (A2.out Za (BZ.out.trans (bZa.mono BZ.out.size)))
    clear X7 bza
    go_wp2_with fail
    refine hK.out _ _ Fa ?_
    clear hK K
    try simp only [Act.put, List.setIfInBounds_toArray, List.set_cons_zero, List.set_cons_succ]
    refine seqC_meet rfl (by rfl) (fun K hK => ?_)
    go_simp
    refine X8.out.mono ?_
    rintro E Zb ⟨rfl, bzb⟩
    have bZb : Below Z.heap.size Z Zb := bZa.trans (bzb.mono bZa.size)
    have Fb := SS.out Zb bZb
    have X9 := hide (A3.out Zb bZb)
    clear X8 bzb
    go_wp2_with fail
    refine hK.out _ _ Fb ?_
    clear hK K
    try simp only [Act.put, List.setIfInBounds_toArray, List.set_cons_zero, List.set_cons_succ]
    refine seqC_take (v := ?_) rfl rfl (by rfl) ?_ ?_
    rotate_left 1
    · intro w hS
      (try dsimp only at hS)
      go_simp
      all_goals with_reducible rfl
    simp only [Act.put, List.setIfInBounds_toArray, List.set_cons_zero, List.set_cons_succ]
    refine seqC_take (v := ?_) rfl rfl (by rfl) ?_ ?_
    rotate_left 1
    · intro w hS
      (try dsimp only at hS)
      go_simp
      all_goals with_reducible rfl
    simp only [Act.put, List.setIfInBounds_toArray, List.set_cons_zero, List.set_cons_succ]
    refine seqC_take (v := ?_) rfl rfl (by rfl) ?_ ?_
    rotate_left 1
    · intro w hS
      (try dsimp only at hS)
      go_simp
      all_goals with_reducible rfl
    simp only [Act.put, List.setIfInBounds_toArray, List.set_cons_zero, List.set_cons_succ]
    refine seqC_take (v := ?_) rfl rfl (by rfl) ?_ ?_
    rotate_left 1
    · intro w hS
      (try dsimp only at hS)
      go_simp
      all_goals with_reducible rfl
    simp only [Act.put, List.setIfInBounds_toArray, List.set_cons_zero, List.set_cons_succ]
    refine seqC_take (v := ?_) rfl rfl (by rfl) ?_ ?_
    rotate_left 1
    · intro w hS
      (try dsimp only at hS)
      go_simp
      all_goals with_reducible rfl
    simp only [Act.put, List.setIfInBounds_toArray, List.set_cons_zero, List.set_cons_succ]
    refine seqC_take (v := ?_) rfl rfl (by rfl) ?_ ?_
    rotate_left 1
    · intro w hS
      (try dsimp only at hS)
      go_simp
      all_goals with_reducible rfl
    simp only [Act.put, List.setIfInBounds_toArray, List.set_cons_zero, List.set_cons_succ]
    refine seqC_take (v := ?_) rfl rfl (by rfl) ?_ ?_
    rotate_left 1
    · intro w hS
      (try dsimp only at hS)
      go_simp
      all_goals with_reducible rfl
    simp only [Act.put, List.setIfInBounds_toArray, List.set_cons_zero, List.set_cons_succ]
    refine seqC_take (v := ?_) rfl rfl (by rfl) ?_ ?_
    rotate_left 1
    · intro w hS
      (try dsimp only at hS)
      go_simp
      all_goals with_reducible rfl
    simp only [Act.put, List.setIfInBounds_toArray, List.set_cons_zero, List.set_cons_succ]
    refine seqC_take (v := ?_) rfl rfl (by rfl) ?_ ?_
    rotate_left 1
    · intro w hS
      (try dsimp only at hS)
      go_simp
      all_goals with_reducible rfl
    simp only [Act.put, List.setIfInBounds_toArray, List.set_cons_zero, List.set_cons_succ]
    refine seqC_take (v := ?_) rfl rfl (by rfl) ?_ ?_
    rotate_left 1
    · intro w hS
      (try dsimp only at hS)
      go_simp
      all_goals with_reducible rfl
    simp only [Act.put, List.setIfInBounds_toArray, List.set_cons_zero, List.set_cons_succ]
    refine seqC_take (v := ?_) rfl rfl (by rfl) ?_ ?_
    rotate_left 1
    · intro w hS
      (try dsimp only at hS)
      go_simp
      all_goals with_reducible rfl
    simp only [Act.put, List.setIfInBounds_toArray, List.set_cons_zero, List.set_cons_succ]
    refine seqC_take (v := ?_) rfl rfl (by rfl) ?_ ?_
    rotate_left 1
    · intro w hS
      (try dsimp only at hS)
      go_simp
      all_goals with_reducible rfl
    simp only [Act.put, List.setIfInBounds_toArray, List.set_cons_zero, List.set_cons_succ]
    refine seqC_take (v := ?_) rfl rfl (by rfl) ?_ ?_
    rotate_left 1
    · intro w hS
      (try dsimp only at hS)
      go_simp
      all_goals with_reducible rfl
    simp only [Act.put, List.setIfInBounds_toArray, List.set_cons_zero, List.set_cons_succ]
    refine seqC_take (v := ?_) rfl rfl (by rfl) ?_ ?_
    rotate_left 1
    · intro w hS
      (try dsimp only at hS)
      go_simp
      all_goals with_reducible rfl
    simp only [Act.put, List.setIfInBounds_toArray, List.set_cons_zero, List.set_cons_succ]
    refine seqC_meet rfl (by rfl) (fun K hK => ?_)
    go_simp
    refine X9.out.mono ?_
    rintro E Zc ⟨rfl, bzc⟩
    have bZc : Below Z.heap.size Z Zc := bZb.trans (bzc.mono bZb.size)
    have Fc := SS.out Zc bZc
    clear X9 bzc
    go_wp2_with fail
    refine hK.out _ _ Fc ?_
    clear hK K
    try simp only [Act.put, List.setIfInBounds_toArray, List.set_cons_zero, List.set_cons_succ]
    refine seqC_take (v := ?_) rfl rfl (by rfl) ?_ ?_
    rotate_left 1
    · intro w hS
      (try dsimp only at hS)
      go_simp
      all_goals with_reducible rfl
    simp only [Act.put, List.setIfInBounds_toArray, List.set_cons_zero, List.set_cons_succ]
    refine seqC_take (v := ?_) rfl rfl (by rfl) ?_ ?_
    rotate_left 1
    · intro w hS
      (try dsimp only at hS)
      go_simp
      all_goals with_reducible rfl
    simp only [Act.put, List.setIfInBounds_toArray, List.set_cons_zero, List.set_cons_succ]
    refine seqC_take (v := ?_) rfl rfl (by rfl) ?_ ?_
    rotate_left 1
    · intro w hS
      (try dsimp only at hS)
      go_simp
      all_goals with_reducible rfl
    simp only [Act.put, List.setIfInBounds_toArray, List.set_cons_zero, List.set_cons_succ]
    refine seqC_take (v := ?_) rfl rfl (by rfl) ?_ ?_
    rotate_left 1
    · intro w hS
      (try dsimp only at hS)
      go_simp
      all_goals with_reducible rfl
    simp only [Act.put, List.setIfInBounds_toArray, List.set_cons_zero, List.set_cons_succ]
    refine seqC_take (v := ?_) rfl rfl (by rfl) ?_ ?_
    rotate_left 1
    · intro w hS
      (try dsimp only at hS)
      go_simp
      all_goals with_reducible rfl
    simp only [Act.put, List.setIfInBounds_toArray, List.set_cons_zero, List.set_cons_succ]
    unfold seqC
    have hcz := bZc.size
    refine ⟨?_, ?_⟩
    · obtain ⟨P1, hP1, zP1, bP1, rP1⟩ := coms_step 32 Zc #[.int .i64 sf, .int .i64 su, .slice a8 sl.length k8] 1 [⟨sf, su, .slice a8 sl.length k8, sl⟩] rfl rfl (by simp [maxLen])
      obtain ⟨P2, hP2, zP2, bP2, rP2⟩ := coms_step 32 P1 #[.int .i64 sf, .int .i64 su, .slice a9 sl.length k9] 1 [⟨sf, su, .slice a9 sl.length k9, sl⟩] rfl rfl (by simp [maxLen])
      have bZ1 : Below Z.heap.size Z P1 := bZc.trans (bP1.mono hcz)
      have bZ2 : Below Z.heap.size Z P2 := bZ1.trans (bP2.mono (by omega))
      have Fd := SS.out P1 bZ1
      have Fe := SS.out P2 bZ2
      have r1 := row_rebase (rP1.below bP2) hcz
      have r2 := row_rebase rP2 (show Z.heap.size ≤ P1.heap.size by omega)
      have XA := hide (A4.out P2 bZ2 _ _ r1 r2)
      rw [zP1] at XA
      clear r1 r2 rP1 rP2 bP1 bP2
      refine fork_meet rfl (by rfl) (fun K hK => ?_)
      go_simp
      go_wp2_with fail
      refine hK.out _ _ Fd ?_
      clear hK K
      try simp only [Act.put, List.setIfInBounds_toArray, List.set_cons_zero, List.set_cons_succ]
      unfold wyc_i
      refine seq_meet rfl (by rfl) (fun K hK => ?_)
      go_simp
      go_wp2_with fail
      refine hK.out _ _ Fe ?_
      clear hK K
      try simp only [Act.put, List.setIfInBounds_toArray, List.set_cons_zero, List.set_cons_succ]
      refine seq_meet rfl (by rfl) (fun K hK => ?_)
      go_simp
      refine XA.out.mono ?_
      rintro E P3 ⟨rfl, bp3⟩
      have bZ3 : Below Z.heap.size Z P3 := bZ2.trans (bp3.mono bZ2.size)
      have Ff := SS.out P3 bZ3
      have BP3 := hide bZ3
      clear XA bp3
      go_wp2_with fail
      refine hK.out _ _ Ff ?_
      clear hK K
      try simp only [Act.put, List.setIfInBounds_toArray, List.set_cons_zero, List.set_cons_succ]
      refine seq_take (v := ?_) rfl rfl (by rfl) ?_ ?_
      rotate_left 1
      · intro w hS
        (try dsimp only at hS)
        go_simp
        all_goals with_reducible rfl
      simp only [Act.put, List.setIfInBounds_toArray, List.set_cons_zero, List.set_cons_succ]
      refine seq_take (v := ?_) rfl rfl (by rfl) ?_ ?_
      rotate_left 1
      · intro w hS
        (try dsimp only at hS)
        go_simp
        all_goals with_reducible rfl
      simp only [Act.put, List.setIfInBounds_toArray, List.set_cons_zero, List.set_cons_succ]
      unfold seqW
      have KZ := KP.out P3 (BZ.out.trans (bZ3.mono BZ.out.size))
      have T1 := hide (keptO_yes _ _ l _ P3 KZ.2.2.2.2.2.2.1 KZ.2.2.2.1 HLO.out rfl)
      clear KZ Fa Fb Fc Fd Fe bZa bZb bZc bZ1 bZ2 hP1 hP2 zP1 zP2 hcz A1 A2 A3 A4
      go_wp2_with fail
      refine T1.out.mono ?_
      rintro E q1 ⟨rfl, c1⟩
      have BQ1 : Hid (Below Z.heap.size Z q1) := hide (bZ3.trans (c1.mono bZ3.size))
      have KZ1 := KP.out q1 (BZ.out.trans (BQ1.out.mono BZ.out.size))
      have T2 := hide (kept_yes _ _ bs _ q1 KZ1.2.2.2.2.2.2.2.1 KZ1.2.2.2.2.2.1 hlb' rfl)
      clear T1 c1 Ff bZ3 KZ1
      go_wp2_with fail
      refine T2.out.mono ?_
      rintro E q2 ⟨rfl, c2⟩
      have BQ2 : Hid (Below Z.heap.size Z q2) := hide (BQ1.out.trans (c2.mono BQ1.out.size))
      have LX := lists_two (s2 := w6.heap.size) (OX.out.1.below BQ2.out) (OX.out.2.2.below BQ2.out) (fun x hx => Nat.lt_of_lt_of_le (OB5.out x hx).2 LT.out.2.1) (by have := LT.out; omega) (by have := hol.out; omega) (by have := hol.out; omega)
      obtain ⟨q3, hq3, zq3, c3, _⟩ := blk_step q2 #[.slice a5 ou.length k5, .slice a7 ou.length k7] 38
      rw [hq3] at LX
      have LL := hide LX
      have BQ3 : Hid (Below Z.heap.size Z q3) := hide (BQ2.out.trans (c3.mono BQ2.out.size))
      clear T2 LX c2 c3
      go_wp2_with fail
      refine (apart_keeps 2 _ 2 V.heap.size _ _ _ (by omega) (by omega) (by have := LT.out; have := BQ3.out.size; omega) LL.out (by omega)).mono ?_
      rintro E q4 ⟨rfl, c4, hkp⟩
      have kpT := keepT_of_lists LL.out hkp
      have bS4 := kpT _ _ _ _ ((BQ3.out.block w8.heap.size (blk_lt BK.out.1)).trans BK.out.1) (by decide)
      have bU4 := kpT _ _ _ _ ((BQ3.out.block wa.heap.size (blk_lt BK.out.2.2)).trans BK.out.2.2) (by decide)
      have oS4 := (OO.out.1.below BQ3.out).keepT kpT (by decide)
      have oU4 := (OO.out.2.2.below BQ3.out).keepT kpT (by decide)
      have bw3 := (KP.out q3 (BZ.out.trans (BQ3.out.mono BZ.out.size))).2.2.2.2.2.2.2.2
      have hVZ := LT.out
      have hZ3 := BQ3.out.size
      have hwV := WV.out
      have B04 : Hid (Below w.heap.size w q4) := hide (bw3.trans (c4.mono hwV))
      have LO := hide (listsO_two (s1 := V9.heap.size) oU4 oS4 (fun b hb => by have := (OB8.out b hb).2; omega) (by omega) (by have := FIT.out.2.1; omega) (by have := FIT.out.2.1; omega) FIT.out.1 FIT.out.1)
      obtain ⟨q5, hq5, zq5, c5, _⟩ := blk_step q4 #[.slice a8 sl.length k8, .slice aa sl.length ka] 30
      rw [hq5] at LO
      have hs2 := blk_cell bS4 2 rfl
      have hu2 := blk_cell bU4 2 rfl
      simp only [List.getElem_toArray, List.getElem_cons_zero, List.getElem_cons_succ] at hs2 hu2
      have B05 : Hid (Below w.heap.size w q5) := hide (B04.out.trans (c5.mono B04.out.size))
      have hc4 := c4.size
      have HZ5 : Hid (w7.heap.size ≤ q5.heap.size ∧ w.heap.size ≤ w7.heap.size) := hide ⟨by have := B05.out.size; have := c5.size; have := hkp; omega, by omega⟩
      clear LL hkp kpT bS4 bU4 oS4 oU4 bw3 hVZ hZ3 hwV c4 c5 hc4
      go_wp2_with fail
      refine (apartO_yes 2 _ 2 w7.heap.size _ _ _ (by omega) (by omega) HZ5.out.1 LO.out (by omega)).mono ?_
      rintro E q6 ⟨rfl, c6⟩
      have B06 := hide (B05.out.trans (c6.mono HZ5.out.2))
      clear LO c6
      go_wp2
      go_ret
      exact ⟨rfl, B06.out⟩
    · obtain ⟨P1, hP1, zP1, bP1, rP1⟩ := coms_step 32 Zc #[.int .i64 sf, .int .i64 su, .slice a9 sl.length k9] 1 [⟨sf, su, .slice a9 sl.length k9, sl⟩] rfl rfl (by simp [maxLen])
      obtain ⟨P2, hP2, zP2, bP2, rP2⟩ := coms_step 32 P1 #[.int .i64 sf, .int .i64 su, .slice a8 sl.length k8] 1 [⟨sf, su, .slice a8 sl.length k8, sl⟩] rfl rfl (by simp [maxLen])
      have bZ1 : Below Z.heap.size Z P1 := bZc.trans (bP1.mono hcz)
      have bZ2 : Below Z.heap.size Z P2 := bZ1.trans (bP2.mono (by omega))
      have Fd := SS.out P1 bZ1
      have Fe := SS.out P2 bZ2
      have r1 := row_rebase (rP1.below bP2) hcz
      have r2 := row_rebase rP2 (show Z.heap.size ≤ P1.heap.size by omega)
      have XA := hide (A4.out P2 bZ2 _ _ r2 r1)
      rw [zP1] at XA
      clear r1 r2 rP1 rP2 bP1 bP2
      refine fork_meet rfl (by rfl) (fun K hK => ?_)
      go_simp
      go_wp2_with fail
      refine hK.out _ _ Fd ?_
      clear hK K
      try simp only [Act.put, List.setIfInBounds_toArray, List.set_cons_zero, List.set_cons_succ]
      unfold wyc_j
      refine seq_meet rfl (by rfl) (fun K hK => ?_)
      go_simp
      go_wp2_with fail
      refine hK.out _ _ Fe ?_
      clear hK K
      try simp only [Act.put, List.setIfInBounds_toArray, List.set_cons_zero, List.set_cons_succ]
      refine seq_meet rfl (by rfl) (fun K hK => ?_)
      go_simp
      refine XA.out.mono ?_
      rintro E P3 ⟨rfl, bp3⟩
      have bZ3 : Below Z.heap.size Z P3 := bZ2.trans (bp3.mono bZ2.size)
      have Ff := SS.out P3 bZ3
      have BP3 := hide bZ3
      clear XA bp3
      go_wp2_with fail
      refine hK.out _ _ Ff ?_
      clear hK K
      try simp only [Act.put, List.setIfInBounds_toArray, List.set_cons_zero, List.set_cons_succ]
      refine seq_take (v := ?_) rfl rfl (by rfl) ?_ ?_
      rotate_left 1
      · intro w hS
        (try dsimp only at hS)
        go_simp
        all_goals with_reducible rfl
      simp only [Act.put, List.setIfInBounds_toArray, List.set_cons_zero, List.set_cons_succ]
      refine seq_take (v := ?_) rfl rfl (by rfl) ?_ ?_
      rotate_left 1
      · intro w hS
        (try dsimp only at hS)
        go_simp
        all_goals with_reducible rfl
      simp only [Act.put, List.setIfInBounds_toArray, List.set_cons_zero, List.set_cons_succ]
      unfold seqW
      have KZ := KP.out P3 (BZ.out.trans (bZ3.mono BZ.out.size))
      have T1 := hide (keptO_yes _ _ l _ P3 KZ.2.2.2.2.2.2.1 KZ.2.2.2.1 HLO.out rfl)
      clear KZ Fa Fb Fc Fd Fe bZa bZb bZc bZ1 bZ2 hP1 hP2 zP1 zP2 hcz A1 A2 A3 A4
      go_wp2_with fail
      refine T1.out.mono ?_
      rintro E q1 ⟨rfl, c1⟩
      have BQ1 : Hid (Below Z.heap.size Z q1) := hide (bZ3.trans (c1.mono bZ3.size))
      have KZ1 := KP.out q1 (BZ.out.trans (BQ1.out.mono BZ.out.size))
      have T2 := hide (kept_yes _ _ bs _ q1 KZ1.2.2.2.2.2.2.2.1 KZ1.2.2.2.2.2.1 hlb' rfl)
      clear T1 c1 Ff bZ3 KZ1
      go_wp2_with fail
      refine T2.out.mono ?_
      rintro E q2 ⟨rfl, c2⟩
      have BQ2 : Hid (Below Z.heap.size Z q2) := hide (BQ1.out.trans (c2.mono BQ1.out.size))
      have LX := lists_two (s2 := w6.heap.size) (OX.out.1.below BQ2.out) (OX.out.2.2.below BQ2.out) (fun x hx => Nat.lt_of_lt_of_le (OB5.out x hx).2 LT.out.2.1) (by have := LT.out; omega) (by have := hol.out; omega) (by have := hol.out; omega)
      obtain ⟨q3, hq3, zq3, c3, _⟩ := blk_step q2 #[.slice a5 ou.length k5, .slice a7 ou.length k7] 38
      rw [hq3] at LX
      have LL := hide LX
      have BQ3 : Hid (Below Z.heap.size Z q3) := hide (BQ2.out.trans (c3.mono BQ2.out.size))
      clear T2 LX c2 c3
      go_wp2_with fail
      refine (apart_keeps 2 _ 2 V.heap.size _ _ _ (by omega) (by omega) (by have := LT.out; have := BQ3.out.size; omega) LL.out (by omega)).mono ?_
      rintro E q4 ⟨rfl, c4, hkp⟩
      have kpT := keepT_of_lists LL.out hkp
      have bS4 := kpT _ _ _ _ ((BQ3.out.block w8.heap.size (blk_lt BK.out.1)).trans BK.out.1) (by decide)
      have bU4 := kpT _ _ _ _ ((BQ3.out.block wa.heap.size (blk_lt BK.out.2.2)).trans BK.out.2.2) (by decide)
      have oS4 := (OO.out.1.below BQ3.out).keepT kpT (by decide)
      have oU4 := (OO.out.2.2.below BQ3.out).keepT kpT (by decide)
      have bw3 := (KP.out q3 (BZ.out.trans (BQ3.out.mono BZ.out.size))).2.2.2.2.2.2.2.2
      have hVZ := LT.out
      have hZ3 := BQ3.out.size
      have hwV := WV.out
      have B04 : Hid (Below w.heap.size w q4) := hide (bw3.trans (c4.mono hwV))
      have LO := hide (listsO_two (s1 := V9.heap.size) oU4 oS4 (fun b hb => by have := (OB8.out b hb).2; omega) (by omega) (by have := FIT.out.2.1; omega) (by have := FIT.out.2.1; omega) FIT.out.1 FIT.out.1)
      obtain ⟨q5, hq5, zq5, c5, _⟩ := blk_step q4 #[.slice a8 sl.length k8, .slice aa sl.length ka] 30
      rw [hq5] at LO
      have hs2 := blk_cell bS4 2 rfl
      have hu2 := blk_cell bU4 2 rfl
      simp only [List.getElem_toArray, List.getElem_cons_zero, List.getElem_cons_succ] at hs2 hu2
      have B05 : Hid (Below w.heap.size w q5) := hide (B04.out.trans (c5.mono B04.out.size))
      have hc4 := c4.size
      have HZ5 : Hid (w7.heap.size ≤ q5.heap.size ∧ w.heap.size ≤ w7.heap.size) := hide ⟨by have := B05.out.size; have := c5.size; have := hkp; omega, by omega⟩
      clear LL hkp kpT bS4 bU4 oS4 oU4 bw3 hVZ hZ3 hwV c4 c5 hc4
      go_wp2_with fail
      refine (apartO_yes 2 _ 2 w7.heap.size _ _ _ (by omega) (by omega) HZ5.out.1 LO.out (by omega)).mono ?_
      rintro E q6 ⟨rfl, c6⟩
      have B06 := hide (B05.out.trans (c6.mono HZ5.out.2))
      clear LO c6
      go_wp2
      go_ret
      exact ⟨rfl, B06.out⟩

end Go.Proofs.Ythchcnflflafeaa

/- Proved: RunCalls -/
namespace Go.Proofs.Ythchcnflflafeaa
open Go.ChangeShapes Go.WideShapes Go.ChangeAt Go.RowKit
open Go.ChangeMaps (open_string shut_string)
set_option linter.unusedVariables false

namespace runCallsFrame
theorem own : ownKnob Try.prog.godebug = none := by kernel_rfl
theorem laidOut : laidOutB Try.prog = true := by kernel_rfl
theorem bytes5 : Try.prog.bytesOf 5 = 1 := by kernel_rfl
theorem cells32 : Try.prog.cellsOf 32 = 3 := by kernel_rfl
theorem bytes32 : Try.prog.bytesOf 32 = 40 := by kernel_rfl
theorem cells35 : Try.prog.cellsOf 35 = 3 := by kernel_rfl
theorem bytes35 : Try.prog.bytesOf 35 = 40 := by kernel_rfl

set_option maxRecDepth 100000 in
theorem lifted (os : Os) (started : os.Started) (H : Type) (enc : TypeId × Value → H) :
    ReturnsInHanded {} Try.checked os 4 .any (Rows.runCallsSpec.pre6 enc Try.prog Try.f4 Rows.runCallsRow.domain false) (Rows.runCallsSpec.post enc Try.prog Try.f4 false true false false) := by
  refine returnsInHanded_of_change_sized (C := Try.checked) own started (by kernel_rfl) Try.func4
    (ChangeSpec.witness6 (enc := enc) (C := Try.checked) false ⟨#[], #[.agg #[.int .i64 0, .int .i64 0, .slice none 0 0], .slice none 0 0], []⟩ 8 (by kernel_rfl) (by kernel_rfl) (by kernel_rfl) (by kernel_rfl)) ?_
  intro W base args ds gs before hval0 hW hcnd hsz0 _
  have hsz : (DataW.weightsEach Try.prog (Try.f4.params.toList ++ Rows.runCallsSpec.plain.varTypes Try.prog) (ds ++ gs)).all (· ≤ reachBytes) = true := hsz0
  clear hsz0
  have hval : ∀ (j : Nat) t v, Try.f4.params[j]? = some t → args[j]? = some v → Value.okWide Try.prog W .any base t v := hval0
  have hW' := hW
  obtain ⟨p, q, hA0, hV, rfl, hfz, hnd⟩ := hW
  have hA : DataW.TrodAll enc Try.prog W 0 (fun _ => true) true Try.f4.params.toList args.toList ds p := hA0
  rw [Try.params4] at hA hval hsz
  obtain ⟨v0, vs0, d0, ds0, p0, q0, hargs, rfl, rfl, h0, r0⟩ := trodAll_cons hA
  obtain ⟨v1, vs1, d1, ds1, p1, q1, rfl, rfl, rfl, h1, r1⟩ := trodAll_cons r0
  obtain ⟨rfl, rfl, rfl⟩ := trodAll_nil r1
  obtain rfl : args = #[v0, v1] := by cases args; simp_all
  obtain ⟨rfl, rfl⟩ := trodVars_none hV
  have k0 := h0
  have lt0 : ∀ x ∈ p0, x.block < W.heap.size := by obtain ⟨m, hm⟩ := k0; exact DataW.trod_lt m _ _ _ hm
  obtain ⟨c00, c01, c02, y00, y01, y02, m0, rfl, hd0, _, hy00, hy01, hy02⟩ := Joins.open_agg3 Try.underlying32 (by kernel_rfl) cells32 (hval 0 32 v0 rfl rfl) h0
  obtain ⟨a00, e00, _, w00⟩ := DataW.trod_int Try.underlying3 hy00
  obtain ⟨a01, e01, _, w01⟩ := DataW.trod_int Try.underlying3 hy01
  obtain ⟨z0, w0, hq0⟩ := open_ops Try.underlying30 Try.underlying35 (by kernel_rfl) cells35 Try.underlying4 Try.underlying9 Try.underlying9 hy02
  simp only [List.cons.injEq, and_true] at e00 e01
  subst e00 e01
  obtain ⟨g0, b0⟩ : FitO z0 ∧ z0.length * 40 ≤ 140737488351232 := by
    rw [hd0] at hsz
    exact sized_com hsz (j := 0) (t := 32) (e := 35) rfl rfl Try.underlying32 hq0 Try.underlying30 Try.underlying35 bytes35
  obtain ⟨a1, len1, cap1, rfl⟩ := okWide_slice Try.underlying38 (hval 1 38 v1 rfl rfl)
  have k1 := h1
  have lt1 : ∀ x ∈ p1, x.block < W.heap.size := by obtain ⟨m, hm⟩ := k1; exact DataW.trod_lt m _ _ _ hm
  obtain ⟨z1, w1, b1⟩ : ∃ zs, Is .u8 W (.slice a1 len1 cap1) zs ∧ zs.length * 1 ≤ 140737488351232 := by
    obtain ⟨fuel, hf⟩ := h1
    rcases open_ints Try.underlying38 Try.underlying5 (by kernel_rfl) hf with ⟨hcs, _⟩ | ⟨x, l, c, zs, hcs, _, hl, hm, hz, hx, hcell, hwz⟩
    · simp [Value.cells] at hcs
      obtain ⟨rfl, rfl, rfl⟩ := hcs
      exact ⟨[], Is.nil _ _, by simp⟩
    · simp [Value.cells] at hcs
      obtain ⟨rfl, rfl, rfl⟩ := hcs
      have hd : d1 = _ := (Prod.mk.inj hx).1
      have hzl : zs.length = cap1 := by simpa using hz
      have hlen : (zs.take len1).length = len1 := by rw [List.length_take]; omega
      refine ⟨zs.take len1, ⟨fun z hz => hwz z (List.mem_of_mem_take hz), .inr ⟨x, cap1, by rw [hlen], by omega, hm, fun j hj => ?_⟩⟩, ?_⟩
      · rw [hlen] at hj
        rw [hcell j (by omega)]
        simp [List.getD, hj]
      · rw [hd] at hsz
        have := sized_slice hsz (j := 1) (t := 38) (e := 5) rfl rfl Try.underlying38
        rw [bytes5] at this
        simp only [lits, List.length_map, List.length_take, List.length_drop, reachBytes] at this
        rw [hlen]
        omega
  clear hA0 hval0
  refine (runCalls_walk a00 a01 _ z0 _ z1 W (in64 w00) (in64 w01) w0 g0 b0 w1 b1).mono fun e W' ⟨he, bel⟩ => ?_
  subst he
  exact ⟨_, rfl, _, _, _, [], _, [], hW', trodAll_mk1 (shut_bool Try.underlying4 _), (trodAll_cons_mk (Below.trod laidOut (by kernel_rfl) (of_decide_eq_true (by kernel_rfl)) k0 bel lt0) (trodAll_cons_mk (Below.trod laidOut (by kernel_rfl) (of_decide_eq_true (by kernel_rfl)) k1 bel lt1) trodAll_mk0)), rfl, bel.frame _, fun h => by cases h⟩

theorem over : Rows.runCallsRow.holds Try.pinned (OpenSpec.ofChange Rows.runCallsSpec) :=
  OpenClaim.holds_of_wide 4 Try.f4 rfl rfl rfl rfl rfl rfl rfl ⟨rfl, rfl, rfl, rfl, rfl⟩ rfl rfl rfl rfl rfl (by kernel_rfl) Try.func4 (by kernel_rfl)
    (of_decide_eq_true (by kernel_rfl)) (by unfold Func.isWrapper; first | (rw [if_pos (by decide +kernel)]; kernel_rfl) | (rw [if_neg (by decide +kernel)]; exact ⟨rfl, rfl⟩))
    (fun os started H enc _ => lifted os started H enc)
end runCallsFrame

/-- The statement. -/
theorem runCalls_holds : Rows.RunCallsSaid := runCallsFrame.over
#print axioms runCalls_holds
end Go.Proofs.Ythchcnflflafeaa
