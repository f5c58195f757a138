/- A range over a function whose iterator writes a variable of its own (block V) between two rounds: the caller's law, out of the library's law of one such loop. No program. -/
import Derived.Test.YtgcdibglkbfjdaaGreatDoorKit
import Derived.RangeFuncNested
import Derived.RangeFuncBound
import Derived.RangeFuncCalls
import Derived.RangeFuncLeaves
namespace Go.Proofs.YtgcdibglkbfjdaaGreatDoor
open Go.RowKit
set_option linter.unusedVariables false

/-- What abides growth, what the iterator writes, and the loop's own book-keeping. -/
def HoldV {β : Type} (V B : Nat) (I : β → World → Prop) : Prop :=
  ∀ s W W' row, I s W → W.grownBy W' row → (∀ r, row = some r → r = V ∨ (B ≤ r ∧ ∃ o : Obj, W.heap[r]? = some o ∧ o.isCells = false)) → I s W'
/-- What abides growth and what the iterator writes. -/
def FreeV {β : Type} (V : Nat) (J : β → World → Prop) : Prop := ∀ s W W' row, J s W → W.grownBy W' row → (∀ r, row = some r → r = V) → J s W'

/-- Function g hands the items of L to its yield, one by one. -/
def SeqV {α : Type} (n : Nat) (P : Program) (g : Nat) (lb : Array Value) (enc : α → Value) (V : Nat) (L : List α) (w : World) : Prop :=
  ∀ (l : Nat) (J Jx : List α → World → Prop) (W : World), Below w.heap.size w W → FreeV V J →
    (∀ pre x W1, pre ++ [x] <+: L → J pre W1 → YieldAt Fence.wide (n - 1) P l #[enc x] W1 fun e W' =>
      (e = .returned (.bool true) ∧ J (pre ++ [x]) W' ∧ W'.heap[V]? = W1.heap[V]?) ∨ (e = .returned (.bool false) ∧ Jx (pre ++ [x]) W')) →
    J [] W → CallsIn Fence.wide n P g (#[.func (.yield l) #[] #[]] ++ lb) W fun e W' => (∃ v, e = .returned v) ∧ (J L W' ∨ ∃ pre, Jx pre W')

/-- The record of such a loop. -/
def lpr (fn : FuncId) (a : Act) (ps : Array Tmp) (assign body : Code) (k : Nat) (st : LoopState) (pe : Option Code) : Loop := { state := st, pending := pe, fn, tmps := a.tmps, params := ps, assign, body, defers := k }

/-- How a round may be left. -/
def PostV {α : Type} (V B : Nat) (I : List α → World → Prop) (Ix : Code → List α → World → Prop) (xs : List α) (W : World) : Exit → Act → World → Prop
  | .normal, _, W' => KeepsFrom B W W' ∧ W'.heap[V]? = W.heap[V]? ∧ I xs W'
  | .ret, _, W' => KeepsFrom B W W' ∧ Ix .ret xs W'
  | .exit id, _, W' => KeepsFrom B W W' ∧ Ix (.exit id) xs W'
  | .goto t, _, W' => KeepsFrom B W W' ∧ Ix (.goto t) xs W'
  | .panic _, _, _ => False
  | .outgrown, _, _ => False

/-- The two blocks of the loop's book-keeping. -/
def Bkp (W : World) (k : Nat) (r : Loop) : Prop := W.heap[k + 1]? = some (.loop r) ∧ W.heap[k]? = some (.deferred (some []))

theorem Bkp.put {W : World} {k : Nat} {r : Loop} (h : Bkp W k r) (r' : Loop) : Bkp (W.putObj (k + 1) (.loop r')) k r' :=
  ⟨World.putObj_heap_same (Array.getElem?_eq_some_iff.1 h.1).1, (World.putObj_heap_other (by omega)).trans h.2⟩
theorem HoldV.put {β : Type} {V k : Nat} {I : β → World → Prop} (hI : HoldV V k I) {s : β} {W : World} {r : Loop} (hi : I s W) (h : Bkp W k r) (o : Obj) : I s (W.putObj (k + 1) o) :=
  hI s W _ _ hi (grownBy_putObj' W (k + 1) o) fun j e => by cases e; exact .inr ⟨by omega, _, h.1, rfl⟩

set_option maxHeartbeats 1000000 in
theorem range_v {α : Type} {P : Program} {g : Operand} {ps : Array Tmp} {assign body : Code} {Q : Exit → Act → World → Prop} {a : Act} {w : World} {n gf V : Nat} (h1 : 1 ≤ n) {lb : Array Value}
    (hg : a.eval g = .func (.func gf) #[] lb) (eg : ∀ args w, (callFunc gf args).run P w = .ok (.enter gf args) w) (hV : V < w.heap.size) (enc : α → Value) (L : List α) (hseq : SeqV (n - 1) P gf lb enc V L w) (hps : ps.size = 1)
    (I : List α → World → Prop) (Ix : Code → List α → World → Prop) (hI : HoldV V w.heap.size I) (hIx : ∀ c, HoldV V w.heap.size (Ix c)) (h0 : I [] w) (a₁ : α → Act)
    (hassign : ∀ (l : Nat) (x : α) (W : World) (K : Act → World → Prop), K (a₁ x) W → assign.wpIn (Fence.wide.inRound l) (n - 1 - 1) P (Exit.then K (fun _ _ _ => False)) { tmps := (ps.zip #[enc x]).foldl (fun t (p, v) => t.setIfInBounds p v) a.tmps, defers := [] } W)
    (hbody : ∀ (l : Nat) (pre : List α) (x : α) (W : World), pre ++ [x] <+: L → I pre W → body.wpIn (Fence.wide.inRound l) (n - 1 - 1) P (PostV V w.heap.size I Ix (pre ++ [x]) W) (a₁ x) W)
    (hdone : ∀ (D : Nat) (W : World), w.heap.size ≤ D → I L W → W.heap[D]? = some (.deferred (some [])) → Q .normal { a with defers := { target := .collected D, args := #[] } :: a.defers } W)
    (hstop : ∀ (D : Nat) (c : Code) (pre : List α) (W : World), w.heap.size ≤ D → Ix c pre W → W.heap[D]? = some (.deferred (some [])) → c.wpIn Fence.wide n P Q { a with defers := { target := .collected D, args := #[] } :: a.defers } W) :
    (Code.rangeFunc g ps assign body).wpIn Fence.wide n P Q a w := by
  refine wpIn_rangeFunc fun fn hfn => ?_
  have hro : Fence.wide.round = none := rfl
  rw [hro]
  obtain ⟨k, hk⟩ : ∃ k, w.heap.size = k := ⟨_, rfl⟩
  obtain ⟨W1, hW1⟩ : ∃ W1, (w.alloc (.deferred (some []))).alloc (.loop (lpr fn a ps assign body k .ready none)) = W1 := ⟨_, rfl⟩
  have hB : Bkp W1 k (lpr fn a ps assign body k .ready none) := by
    rw [← hW1, ← hk]
    refine ⟨?_, (Below.heap_alloc _ _ _ (by simp)).trans (World.alloc_heap_new w _)⟩
    have := World.alloc_heap_new (w.alloc (.deferred (some []))) (.loop (lpr fn a ps assign body w.heap.size .ready none))
    rwa [World.size_alloc] at this
  have hb1 : Below w.heap.size w W1 := by rw [← hW1]; exact ((Below.refl _ w).alloc (Nat.le_refl _) _).alloc (by simp) _
  have hI1 : I [] W1 := hI [] w W1 none h0 ⟨hb1.os, hb1.tape, hb1.output, hb1.size, fun i hi _ => hb1.block i hi⟩ fun r e => by cases e
  refine ⟨k + 1, [{ target := .collected k, args := #[] }], W1, { target := .fn (.func gf) lb, args := #[.func (.yield (k + 1)) #[] #[]] }, W1, gf, #[.func (.yield (k + 1)) #[] #[]] ++ lb, W1, ?_, ?_, ?_, ?_, fun _ => h1, ?_⟩
  · rw [← hW1, ← hk]
    exact run_enterLoop_outer _ _ _ _ _
  · simp only [resolve, hg]
    simp [go_sem]
  · intro f' hf'
    exact trivial
  · simp [invoke, go_sem, eg]
  rw [hk] at hI hIx hbody hdone hstop hV
  have free : ∀ {W W' : World} {row : Option Nat} {r : Loop}, Bkp W k r → W.grownBy W' row → (∀ j, row = some j → j = V) → Bkp W' k r := fun h hg' hr =>
    ⟨(hg'.block (k + 1) (Array.getElem?_eq_some_iff.1 h.1).1 fun e => by have := hr _ e.symm; omega).trans h.1, (hg'.block k (Array.getElem?_eq_some_iff.1 h.2).1 fun e => by have := hr _ e.symm; omega).trans h.2⟩
  refine (hseq (k + 1) (fun pre W => I pre W ∧ Bkp W k (lpr fn a ps assign body k .ready none)) (fun pre W => ∃ c, Ix c pre W ∧ Bkp W k (lpr fn a ps assign body k .done (some c))) W1 hb1
    (fun s A B row hs hg' hr => ⟨hI s A B row hs.1 hg' fun j e => .inl (hr j e), free hs.2 hg' hr⟩) ?_ ⟨hI1, hB⟩).mono ?_
  · rintro pre x W hpre ⟨hi, hb⟩
    have hy := run_yield (P := P) (args := #[enc x]) hb.1 (by show 1 = ps.size; rw [hps])
    refine ⟨fn, _, assign, body, hy, roundIn_of_wpIn hfn (hassign _ x W _ ?_)⟩
    refine ⟨_, run_beginRound hb.1 rfl, ?_⟩
    have hb2 := hb.put (lpr fn a ps assign body k .busy none)
    have hV2 : (W.putObj (k + 1) (.loop (lpr fn a ps assign body k .busy none))).heap[V]? = W.heap[V]? := World.putObj_heap_other (by omega)
    refine wpIn_mono (hbody (k + 1) pre x _ hpre (hI.put hi hb _)) ?_
    have fin : ∀ (W3 : World), KeepsFrom k (W.putObj (k + 1) (.loop (lpr fn a ps assign body k .busy none))) W3 → Bkp W3 k (lpr fn a ps assign body k .busy none) := fun W3 h3 => ⟨h3.same _ _ (by omega) hb2.1 rfl, h3.same _ _ (Nat.le_refl _) hb2.2 rfl⟩
    rintro e a3 W3 hp
    cases e with
    | normal =>
      obtain ⟨h3, hv3, hi3⟩ := hp
      have b3 := fin W3 h3
      exact ⟨_, _, run_endRound none b3.1, .inl ⟨rfl, ⟨hI.put hi3 b3 _, b3.put (lpr fn a ps assign body k .ready none)⟩, ((World.putObj_heap_other (by omega)).trans hv3).trans hV2⟩⟩
    | ret =>
      obtain ⟨h3, hi3⟩ := hp
      have b3 := fin W3 h3
      exact ⟨_, _, run_endRound (some .ret) b3.1, .inr ⟨rfl, .ret, (hIx _).put hi3 b3 _, b3.put (lpr fn a ps assign body k .done (some .ret))⟩⟩
    | exit id =>
      obtain ⟨h3, hi3⟩ := hp
      have b3 := fin W3 h3
      exact ⟨_, _, run_endRound (some (.exit id)) b3.1, .inr ⟨rfl, .exit id, (hIx _).put hi3 b3 _, b3.put (lpr fn a ps assign body k .done (some (.exit id)))⟩⟩
    | goto t =>
      obtain ⟨h3, hi3⟩ := hp
      have b3 := fin W3 h3
      exact ⟨_, _, run_endRound (some (.goto t)) b3.1, .inr ⟨rfl, .goto t, (hIx _).put hi3 b3 _, b3.put (lpr fn a ps assign body k .done (some (.goto t)))⟩⟩
    | panic ch => exact hp.elim
    | outgrown => exact hp.elim
  · rintro e W2 ⟨⟨v, rfl⟩, (⟨hi, hb⟩ | ⟨pre, c, hi, hb⟩)⟩
    · exact ⟨none, _, run_endLoop hb.1 (by simp [lpr]), hdone _ _ (Nat.le_refl _) (hI.put hi hb _) ((World.putObj_heap_other (by omega)).trans hb.2)⟩
    · exact ⟨some c, _, run_endLoop hb.1 (by simp [lpr]), hstop _ c pre _ (Nat.le_refl _) ((hIx c).put hi hb _) ((World.putObj_heap_other (by omega)).trans hb.2)⟩

end Go.Proofs.YtgcdibglkbfjdaaGreatDoor
