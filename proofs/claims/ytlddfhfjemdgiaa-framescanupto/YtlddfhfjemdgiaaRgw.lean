/- Range over a function that yields new memory: what is yielded is known at the yield alone. No program. -/
import Derived.Test.YtlddfhfjemdgiaaRg
namespace Go.Proofs.Ytlddfhfjemdgiaa
open Go.RowKit Go.Shelf
set_option linter.unusedVariables false

/-- An iterator, where G holds of what it yields, in the world in which it yields it. -/
def SeqG {α : Type} (n : Nat) (P : Program) (gf : Nat) (lb : Array Value) (encs : α → Array Value) (G : List α → α → World → Prop) (Kp : World → World → Prop) (S Sp : List α → Prop) (w : World) : Prop :=
  ∀ (l : Nat) (J Jx : List α → World → Prop) (W : World), Below w.heap.size w W → AbidesFrom W.heap.size J →
    (∀ pre x W1, J pre W1 → G pre x W1 → YieldAt Fence.wide (n - 1) P l (encs x) W1 fun e W' => (e = .returned (.bool true) ∧ J (pre ++ [x]) W' ∧ Kp W1 W') ∨ (e = .returned (.bool false) ∧ Jx (pre ++ [x]) W')) →
    J [] W → CallsIn Fence.wide n P gf (#[.func (.yield l) #[] #[]] ++ lb) W fun e W' => (∃ v, e = .returned v) ∧ ((∃ xs, S xs ∧ J xs W') ∨ (∃ pre, Sp pre ∧ Jx pre W'))

/-- The loop's record in its three states. -/
def lrec (fn : FuncId) (tm : Array Value) (ps : Array Tmp) (assign body : Code) (D : Nat) (st : LoopState) (pe : Option Code) : Loop := { state := st, pending := pe, fn := fn, tmps := tm, params := ps, assign := assign, body := body, defers := D }

theorem wpIn_rangeG {α : Type} {P : Program} {g : Operand} {ps : Array Tmp} {assign body : Code} {Q : Exit → Act → World → Prop} {a : Act} {w : World} {n : Nat} (h1 : 1 ≤ n) {gf : Nat} {lb : Array Value} (hg : a.eval g = .func (.func gf) #[] lb)
    (eg : ∀ args w, (callFunc gf args).run P w = .ok (.enter gf args) w) {encs : α → Array Value} {G : List α → α → World → Prop} {Kp : World → World → Prop} {S Sp : List α → Prop} {w0 : World} (hseq : SeqG (n - 1) P gf lb encs G Kp S Sp w0)
    (hKt : ∀ {A B C : World}, Kp A B → Kp B C → Kp A C) (hKb : ∀ (W : World) (l : Nat) (o o' : Obj), w.heap.size ≤ l → W.heap[l]? = some o → o.isCells = false → o.isWalk = false → Kp W (W.putObj l o')) (hb0 : Below w0.heap.size w0 w) (hps : ∀ x, (encs x).size = ps.size)
    (I : List α → World → Prop) (Ix : Code → List α → World → Prop) (hI : OwnFrom w.heap.size I) (hIx : ∀ c, OwnFrom w.heap.size (Ix c)) (hG : ∀ pre x, OwnFrom w.heap.size (fun (_ : Unit) W => G pre x W)) (h0 : I [] w) (A : α → Act)
    (hassign : ∀ (l : Nat) (x : α) (W : World) (K : Act → World → Prop), K (A x) W → assign.wpIn (Fence.wide.inRound l) (n - 1 - 1) P (Exit.then K (fun _ _ _ => False)) { tmps := (ps.zip (encs x)).foldl (fun t (p, v) => t.setIfInBounds p v) a.tmps, defers := [] } W)
    (hbody : ∀ (l : Nat) (pre : List α) (x : α) (W : World), w.heap.size ≤ l → I pre W → G pre x W → body.wpIn (Fence.wide.inRound l) (n - 1 - 1) P (ownPostG w.heap.size Kp I Ix (pre ++ [x]) W) (A x) W)
    (hdone : ∀ (D : Nat) (xs : List α) (W : World), w.heap.size ≤ D → S xs → I xs W → W.heap[D]? = some (.deferred (some [])) → Q .normal { a with defers := { target := .collected D, args := #[] } :: a.defers } W)
    (hstop : ∀ (D : Nat) (c : Code) (pre : List α) (W : World), w.heap.size ≤ D → Sp pre → Ix c pre W → W.heap[D]? = some (.deferred (some [])) → c.wpIn Fence.wide n P Q { a with defers := { target := .collected D, args := #[] } :: a.defers } W) :
    (Code.rangeFunc g ps assign body).wpIn Fence.wide n P Q a w := by
  refine wpIn_rangeFunc fun fn hfn => ?_
  generalize hlr : lrec fn a.tmps ps assign body w.heap.size = rc
  obtain ⟨V, hV⟩ : ∃ V, (w.alloc (.deferred (some []))).alloc (.loop (rc .ready none)) = V := ⟨_, rfl⟩
  have sV : V.heap.size = w.heap.size + 2 := by rw [← hV]; simp
  have vD : V.heap[w.heap.size]? = some (.deferred (some [])) := by
    rw [← hV]
    exact (Below.heap_alloc _ _ _ (by simp)).trans (World.alloc_heap_new w _)
  have vL : V.heap[w.heap.size + 1]? = some (.loop (rc .ready none)) := by
    have h2 := World.alloc_heap_new (w.alloc (.deferred (some []))) (.loop (rc .ready none))
    rw [World.size_alloc, hV] at h2
    exact h2
  have vI : I [] V := by rw [← hV]; exact hI.alloc _ (hI.alloc _ h0)
  have vB : Below w0.heap.size w0 V := by
    have h2 : Below w.heap.size w V := by rw [← hV]; exact ((Below.refl _ w).alloc (Nat.le_refl _) _).alloc (by simp) _
    exact hb0.trans (h2.mono hb0.size)
  refine ⟨w.heap.size + 1, [{ target := .collected w.heap.size, args := #[] }], V, { target := .fn (.func gf) lb, args := #[.func (.yield (w.heap.size + 1)) #[] #[]] }, V, gf, #[.func (.yield (w.heap.size + 1)) #[] #[]] ++ lb, V, ?_, ?_, ?_, ?_, fun _ => h1, ?_⟩
  · rw [← hV, ← hlr]
    exact run_enterLoop_outer _ _ _ _ _
  · simp only [resolve, hg]
    simp [go_sem]
  · intro f' hf'
    trivial
  · simp [invoke, go_sem, eg]
  -- the walk objects that an iterator turns are none of the loop's own
  have old : ∀ {X Y : World} {row : Option Nat}, (∀ r, row = some r → V.heap.size ≤ r ∧ ∃ o : Obj, X.heap[r]? = some o ∧ o.isWalk = true) → ∀ r, row = some r → w.heap.size ≤ r ∧ ∃ o : Obj, X.heap[r]? = some o ∧ o.isCells = false := fun hr r e => by
    obtain ⟨h2, o, h3, h4⟩ := hr r e
    exact ⟨by omega, o, h3, Obj.not_cells_of_walk h4⟩
  refine (hseq (w.heap.size + 1) (fun pre X => I pre X ∧ X.heap[w.heap.size + 1]? = some (.loop (rc .ready none)) ∧ X.heap[w.heap.size]? = some (.deferred (some [])))
    (fun pre X => ∃ c, Ix c pre X ∧ X.heap[w.heap.size + 1]? = some (.loop (rc .done (some c))) ∧ X.heap[w.heap.size]? = some (.deferred (some []))) V vB ?_ ?_ ⟨vI, vL, vD⟩).mono ?_
  · rintro s X Y row ⟨q1, q2, q3⟩ hgr hr
    exact ⟨hI s X Y row q1 hgr (old (Y := Y) hr), (grownBy_keeps hgr (fun r e => (hr r e).2) q2 rfl).trans q2, (grownBy_keeps hgr (fun r e => (hr r e).2) q3 rfl).trans q3⟩
  · -- a round
    rintro pre x X ⟨q1, q2, q3⟩ qG
    have lX : w.heap.size + 1 < X.heap.size := (Array.getElem?_eq_some_iff.1 q2).1
    have hy := run_yield (P := P) (args := encs x) q2 (by rw [← hlr]; exact hps x)
    rw [← hlr] at hy
    refine ⟨fn, _, assign, body, hy, roundIn_of_wpIn hfn (hassign _ x X _ ?_)⟩
    refine ⟨_, run_beginRound q2 (by rw [← hlr]; rfl), ?_⟩
    obtain ⟨Z, hZ⟩ : ∃ Z, X.putObj (w.heap.size + 1) (.loop { rc .ready none with state := .busy }) = Z := ⟨_, rfl⟩
    rw [hZ]
    have z2 : Z.heap[w.heap.size + 1]? = some (.loop { rc .ready none with state := .busy }) := by rw [← hZ]; exact World.putObj_heap_same lX
    have z3 : Z.heap[w.heap.size]? = some (.deferred (some [])) := by rw [← hZ]; exact (World.putObj_heap_other (by omega)).trans q3
    have zI : I pre Z := by rw [← hZ]; exact hI.putObj _ q1 (by omega) q2 rfl
    have zG : G pre x Z := by rw [← hZ]; exact (hG pre x).putObj (s := ()) _ qG (by omega) q2 rfl
    have zK : Kp X Z := by rw [← hZ]; exact hKb _ _ _ _ (by omega) q2 rfl rfl
    have last : ∀ (j : Option Code) (Y : World), KeepsFrom w.heap.size Z Y → ∃ Y', Y.putObj (w.heap.size + 1) (.loop (rc (if j.isNone then .ready else .done) j)) = Y' ∧ (Instr.endRound (w.heap.size + 1) j).run P Y = .ok (.bool j.isNone) Y' ∧
        Y.heap[w.heap.size + 1]? = some (.loop { rc .ready none with state := .busy }) ∧ Y'.heap[w.heap.size + 1]? = some (.loop (rc (if j.isNone then .ready else .done) j)) ∧ Y'.heap[w.heap.size]? = some (.deferred (some [])) := fun j Y hk => by
      have y2 := hk.same _ _ (by omega) z2 rfl
      have hr := run_endRound (P := P) j y2
      rw [← hlr] at hr ⊢
      exact ⟨_, rfl, hr, by rw [← hlr] at y2; exact y2, World.putObj_heap_same (Array.getElem?_eq_some_iff.1 y2).1, (World.putObj_heap_other (by omega)).trans (hk.same _ _ (Nat.le_refl _) z3 rfl)⟩
    refine wpIn_mono (hbody (w.heap.size + 1) pre x Z (by omega) zI zG) ?_
    intro e a3 Y hp
    cases e with
    | normal =>
      obtain ⟨k1, k2, k3⟩ := hp
      obtain ⟨Y', e1, e2, e3, e4, e5⟩ := last none Y k1
      refine ⟨_, _, e2, .inl ⟨rfl, ⟨?_, e4, e5⟩, hKt (hKt zK k2) ?_⟩⟩
      · rw [← e1]; exact hI.putObj _ k3 (by omega) e3 rfl
      · rw [← e1]; exact hKb _ _ _ _ (by omega) e3 rfl rfl
    | ret =>
      obtain ⟨k1, k2⟩ := hp
      obtain ⟨Y', e1, e2, e3, e4, e5⟩ := last (some .ret) Y k1
      exact ⟨_, _, e2, .inr ⟨rfl, .ret, by rw [← e1]; exact (hIx _).putObj _ k2 (by omega) e3 rfl, e4, e5⟩⟩
    | exit id =>
      obtain ⟨k1, k2⟩ := hp
      obtain ⟨Y', e1, e2, e3, e4, e5⟩ := last (some (.exit id)) Y k1
      exact ⟨_, _, e2, .inr ⟨rfl, .exit id, by rw [← e1]; exact (hIx _).putObj _ k2 (by omega) e3 rfl, e4, e5⟩⟩
    | goto t =>
      obtain ⟨k1, k2⟩ := hp
      obtain ⟨Y', e1, e2, e3, e4, e5⟩ := last (some (.goto t)) Y k1
      exact ⟨_, _, e2, .inr ⟨rfl, .goto t, by rw [← e1]; exact (hIx _).putObj _ k2 (by omega) e3 rfl, e4, e5⟩⟩
    | panic ch => exact hp.elim
    | outgrown => exact hp.elim
  · rintro e Y ⟨⟨v, rfl⟩, ⟨xs, hS, q1, q2, q3⟩ | ⟨pre, hSp, c, q1, q2, q3⟩⟩
    · refine ⟨none, _, by have hr := run_endLoop (P := P) q2 (by rw [← hlr]; simp [lrec]); rw [← hlr] at hr; exact hr, ?_⟩
      exact hdone _ xs _ (Nat.le_refl _) hS (hI.putObj _ q1 (by omega) q2 rfl) ((World.putObj_heap_other (by omega)).trans q3)
    · refine ⟨some c, _, by have hr := run_endLoop (P := P) q2 (by rw [← hlr]; simp [lrec]); rw [← hlr] at hr; exact hr, ?_⟩
      exact hstop _ c pre _ (Nat.le_refl _) hSp ((hIx c).putObj _ q1 (by omega) q2 rfl) ((World.putObj_heap_other (by omega)).trans q3)

end Go.Proofs.Ytlddfhfjemdgiaa
