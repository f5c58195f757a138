/- Texts of one layer, one behind the other. -/
import Derived.Test.YtdlogcdpapknaaaGreatDoorZC
import Derived.RangeFuncNested
import Derived.RangeFuncBound
import Derived.RangeFuncCalls
import Derived.RangeFuncLeaves
import Derived.Test.YtdlogcdpapknaaaGreatDoorSxk
import Derived.Test.YtdlogcdpapknaaaGreatDoorShelf
import Derived.Test.YtdlogcdpapknaaaGreatDoorZE
import Derived.Lib.IndexLaws
import Derived.Shelf.Abstract
import Derived.Shelf.RegionOpen
import Derived.WalkKit
import Derived.OwnWalkIn
import Derived.TacticsInMore
import Derived.LoopNIn
import Derived.LoopIn
/- A range over a function whose iterator writes a variable of its own (block V) between two rounds: the caller's law, out of the library's law of one such loop. No program. -/
namespace Go.Proofs.YtdlogcdpapknaaaGreatDoor
open Go.RowKit
set_option linter.unusedVariables false

/-- What abides growth, what the iterator writes, and the loop's own book-keeping. -/
def HoldV {β : Type} (V B : Nat) (I : β → World → Prop) : Prop :=
  ∀ s W W' row, I s W → W.grownBy W' row → (∀ r, row = some r → r = V ∨ (B ≤ r ∧ ∃ o : Obj, W.heap[r]? = some o ∧ o.isCells = false)) → I s W'
/-- What abides growth and what the iterator writes. -/
def FreeV {β : Type} (V : Nat) (J : β → World → Prop) : Prop := ∀ s W W' row, J s W → W.grownBy W' row → (∀ r, row = some r → r = V) → J s W'

/-- Function g hands the items of L to its yield, one by one. -/
def SeqV {α : Type} (n : Nat) (P : Program) (g : Nat) (lb : Array Value) (enc : α → Value) (V : Nat) (L : List α) (w : World) : Prop :=
  ∀ (l : Nat) (J Jx : List α → World → Prop) (W : World), Below w.heap.size w W → FreeV V J →
    (∀ pre x W1, pre ++ [x] <+: L → J pre W1 → YieldAt Fence.wide (n - 1) P l #[enc x] W1 fun e W' =>
      (e = .returned (.bool true) ∧ J (pre ++ [x]) W' ∧ W'.heap[V]? = W1.heap[V]?) ∨ (e = .returned (.bool false) ∧ Jx (pre ++ [x]) W')) →
    J [] W → CallsIn Fence.wide n P g (#[.func (.yield l) #[] #[]] ++ lb) W fun e W' => (∃ v, e = .returned v) ∧ (J L W' ∨ ∃ pre, Jx pre W')

/-- The record of such a loop. -/
def lpr (fn : FuncId) (a : Act) (ps : Array Tmp) (assign body : Code) (k : Nat) (st : LoopState) (pe : Option Code) : Loop := { state := st, pending := pe, fn, tmps := a.tmps, params := ps, assign, body, defers := k }

/-- How a round may be left. -/
def PostV {α : Type} (V B : Nat) (I : List α → World → Prop) (Ix : Code → List α → World → Prop) (xs : List α) (W : World) : Exit → Act → World → Prop
  | .normal, _, W' => KeepsFrom B W W' ∧ W'.heap[V]? = W.heap[V]? ∧ I xs W'
  | .ret, _, W' => KeepsFrom B W W' ∧ Ix .ret xs W'
  | .exit id, _, W' => KeepsFrom B W W' ∧ Ix (.exit id) xs W'
  | .goto t, _, W' => KeepsFrom B W W' ∧ Ix (.goto t) xs W'
  | .panic _, _, _ => False
  | .outgrown, _, _ => False

/-- The two blocks of the loop's book-keeping. -/
def Bkp (W : World) (k : Nat) (r : Loop) : Prop := W.heap[k + 1]? = some (.loop r) ∧ W.heap[k]? = some (.deferred (some []))

theorem Bkp.put {W : World} {k : Nat} {r : Loop} (h : Bkp W k r) (r' : Loop) : Bkp (W.putObj (k + 1) (.loop r')) k r' :=
  ⟨World.putObj_heap_same (Array.getElem?_eq_some_iff.1 h.1).1, (World.putObj_heap_other (by omega)).trans h.2⟩
theorem HoldV.put {β : Type} {V k : Nat} {I : β → World → Prop} (hI : HoldV V k I) {s : β} {W : World} {r : Loop} (hi : I s W) (h : Bkp W k r) (o : Obj) : I s (W.putObj (k + 1) o) :=
  hI s W _ _ hi (grownBy_putObj' W (k + 1) o) fun j e => by cases e; exact .inr ⟨by omega, _, h.1, rfl⟩

set_option maxHeartbeats 1000000 in
theorem range_v {α : Type} {P : Program} {g : Operand} {ps : Array Tmp} {assign body : Code} {Q : Exit → Act → World → Prop} {a : Act} {w : World} {n gf V : Nat} (h1 : 1 ≤ n) {lb : Array Value}
    (hg : a.eval g = .func (.func gf) #[] lb) (eg : ∀ args w, (callFunc gf args).run P w = .ok (.enter gf args) w) (hV : V < w.heap.size) (enc : α → Value) (L : List α) (hseq : SeqV (n - 1) P gf lb enc V L w) (hps : ps.size = 1)
    (I : List α → World → Prop) (Ix : Code → List α → World → Prop) (hI : HoldV V w.heap.size I) (hIx : ∀ c, HoldV V w.heap.size (Ix c)) (h0 : I [] w) (a₁ : α → Act)
    (hassign : ∀ (l : Nat) (x : α) (W : World) (K : Act → World → Prop), K (a₁ x) W → assign.wpIn (Fence.wide.inRound l) (n - 1 - 1) P (Exit.then K (fun _ _ _ => False)) { tmps := (ps.zip #[enc x]).foldl (fun t (p, v) => t.setIfInBounds p v) a.tmps, defers := [] } W)
    (hbody : ∀ (l : Nat) (pre : List α) (x : α) (W : World), pre ++ [x] <+: L → I pre W → body.wpIn (Fence.wide.inRound l) (n - 1 - 1) P (PostV V w.heap.size I Ix (pre ++ [x]) W) (a₁ x) W)
    (hdone : ∀ (D : Nat) (W : World), w.heap.size ≤ D → I L W → W.heap[D]? = some (.deferred (some [])) → Q .normal { a with defers := { target := .collected D, args := #[] } :: a.defers } W)
    (hstop : ∀ (D : Nat) (c : Code) (pre : List α) (W : World), w.heap.size ≤ D → Ix c pre W → W.heap[D]? = some (.deferred (some [])) → c.wpIn Fence.wide n P Q { a with defers := { target := .collected D, args := #[] } :: a.defers } W) :
    (Code.rangeFunc g ps assign body).wpIn Fence.wide n P Q a w := by
  refine wpIn_rangeFunc fun fn hfn => ?_
  have hro : Fence.wide.round = none := rfl
  rw [hro]
  obtain ⟨k, hk⟩ : ∃ k, w.heap.size = k := ⟨_, rfl⟩
  obtain ⟨W1, hW1⟩ : ∃ W1, (w.alloc (.deferred (some []))).alloc (.loop (lpr fn a ps assign body k .ready none)) = W1 := ⟨_, rfl⟩
  have hB : Bkp W1 k (lpr fn a ps assign body k .ready none) := by
    rw [← hW1, ← hk]
    refine ⟨?_, (Below.heap_alloc _ _ _ (by simp)).trans (World.alloc_heap_new w _)⟩
    have := World.alloc_heap_new (w.alloc (.deferred (some []))) (.loop (lpr fn a ps assign body w.heap.size .ready none))
    rwa [World.size_alloc] at this
  have hb1 : Below w.heap.size w W1 := by rw [← hW1]; exact ((Below.refl _ w).alloc (Nat.le_refl _) _).alloc (by simp) _
  have hI1 : I [] W1 := hI [] w W1 none h0 ⟨hb1.os, hb1.tape, hb1.output, hb1.size, fun i hi _ => hb1.block i hi⟩ fun r e => by cases e
  refine ⟨k + 1, [{ target := .collected k, args := #[] }], W1, { target := .fn (.func gf) lb, args := #[.func (.yield (k + 1)) #[] #[]] }, W1, gf, #[.func (.yield (k + 1)) #[] #[]] ++ lb, W1, ?_, ?_, ?_, ?_, fun _ => h1, ?_⟩
  · rw [← hW1, ← hk]
    exact run_enterLoop_outer _ _ _ _ _
  · simp only [resolve, hg]
    simp [go_sem]
  · intro f' hf'
    exact trivial
  · simp [invoke, go_sem, eg]
  rw [hk] at hI hIx hbody hdone hstop hV
  have free : ∀ {W W' : World} {row : Option Nat} {r : Loop}, Bkp W k r → W.grownBy W' row → (∀ j, row = some j → j = V) → Bkp W' k r := fun h hg' hr =>
    ⟨(hg'.block (k + 1) (Array.getElem?_eq_some_iff.1 h.1).1 fun e => by have := hr _ e.symm; omega).trans h.1, (hg'.block k (Array.getElem?_eq_some_iff.1 h.2).1 fun e => by have := hr _ e.symm; omega).trans h.2⟩
  refine (hseq (k + 1) (fun pre W => I pre W ∧ Bkp W k (lpr fn a ps assign body k .ready none)) (fun pre W => ∃ c, Ix c pre W ∧ Bkp W k (lpr fn a ps assign body k .done (some c))) W1 hb1
    (fun s A B row hs hg' hr => ⟨hI s A B row hs.1 hg' fun j e => .inl (hr j e), free hs.2 hg' hr⟩) ?_ ⟨hI1, hB⟩).mono ?_
  · rintro pre x W hpre ⟨hi, hb⟩
    have hy := run_yield (P := P) (args := #[enc x]) hb.1 (by show 1 = ps.size; rw [hps])
    refine ⟨fn, _, assign, body, hy, roundIn_of_wpIn hfn (hassign _ x W _ ?_)⟩
    refine ⟨_, run_beginRound hb.1 rfl, ?_⟩
    have hb2 := hb.put (lpr fn a ps assign body k .busy none)
    have hV2 : (W.putObj (k + 1) (.loop (lpr fn a ps assign body k .busy none))).heap[V]? = W.heap[V]? := World.putObj_heap_other (by omega)
    refine wpIn_mono (hbody (k + 1) pre x _ hpre (hI.put hi hb _)) ?_
    have fin : ∀ (W3 : World), KeepsFrom k (W.putObj (k + 1) (.loop (lpr fn a ps assign body k .busy none))) W3 → Bkp W3 k (lpr fn a ps assign body k .busy none) := fun W3 h3 => ⟨h3.same _ _ (by omega) hb2.1 rfl, h3.same _ _ (Nat.le_refl _) hb2.2 rfl⟩
    rintro e a3 W3 hp
    cases e with
    | normal =>
      obtain ⟨h3, hv3, hi3⟩ := hp
      have b3 := fin W3 h3
      exact ⟨_, _, run_endRound none b3.1, .inl ⟨rfl, ⟨hI.put hi3 b3 _, b3.put (lpr fn a ps assign body k .ready none)⟩, ((World.putObj_heap_other (by omega)).trans hv3).trans hV2⟩⟩
    | ret =>
      obtain ⟨h3, hi3⟩ := hp
      have b3 := fin W3 h3
      exact ⟨_, _, run_endRound (some .ret) b3.1, .inr ⟨rfl, .ret, (hIx _).put hi3 b3 _, b3.put (lpr fn a ps assign body k .done (some .ret))⟩⟩
    | exit id =>
      obtain ⟨h3, hi3⟩ := hp
      have b3 := fin W3 h3
      exact ⟨_, _, run_endRound (some (.exit id)) b3.1, .inr ⟨rfl, .exit id, (hIx _).put hi3 b3 _, b3.put (lpr fn a ps assign body k .done (some (.exit id)))⟩⟩
    | goto t =>
      obtain ⟨h3, hi3⟩ := hp
      have b3 := fin W3 h3
      exact ⟨_, _, run_endRound (some (.goto t)) b3.1, .inr ⟨rfl, .goto t, (hIx _).put hi3 b3 _, b3.put (lpr fn a ps assign body k .done (some (.goto t)))⟩⟩
    | panic ch => exact hp.elim
    | outgrown => exact hp.elim
  · rintro e W2 ⟨⟨v, rfl⟩, (⟨hi, hb⟩ | ⟨pre, c, hi, hb⟩)⟩
    · exact ⟨none, _, run_endLoop hb.1 (by simp [lpr]), hdone _ _ (Nat.le_refl _) (hI.put hi hb _) ((World.putObj_heap_other (by omega)).trans hb.2)⟩
    · exact ⟨some c, _, run_endLoop hb.1 (by simp [lpr]), hstop _ c pre _ (Nat.le_refl _) ((hIx c).put hi hb _) ((World.putObj_heap_other (by omega)).trans hb.2)⟩

end Go.Proofs.YtdlogcdpapknaaaGreatDoor

/- The library's strings.Lines: what its iterator yields. -/
namespace Go.Proofs.YtdlogcdpapknaaaGreatDoor
open Go.RowKit Go.Shelf
set_option linter.unusedVariables false
set_option maxRecDepth 100000
attribute [local go_sem] Oper.semAt_some

/-- A text's lines, each with its end. -/
def lnB : Nat → ByteArray → List ByteArray
  | 0, _ => []
  | f + 1, s => if s.size = 0 then [] else if 0 ≤ Lib.indexByte s.data.toList 10 then s.extract 0 ((Lib.indexByte s.data.toList 10).toNat + 1) :: lnB f (s.extract ((Lib.indexByte s.data.toList 10).toNat + 1) s.size) else [s]

/-- What the iterator's variable holds. -/
def vStr (w : World) (V : Nat) : Nat := match w.cell? ⟨V, 0, none⟩ with | some (.string s) => s.size | _ => 0

theorem ext_size (s : ByteArray) (a b : Nat) : (s.extract a b).size = min b s.size - a := by simp

theorem idx_lt {s : ByteArray} {i : Nat} (h : Lib.indexByte s.data.toList 10 = i) : i < s.size := by
  have h1 := (Go.Lib.indexByte_some h).1
  have := (List.getElem?_eq_some_iff.1 h1).1
  rw [Lib.size_eq]
  exact this

theorem lnB_fuel : ∀ (f f' : Nat) (s : ByteArray), s.size ≤ f → s.size ≤ f' → lnB f s = lnB f' s
  | 0, 0, s, _, _ => rfl
  | 0, f' + 1, s, h, _ => by rw [lnB, lnB, if_pos (by omega)]
  | f + 1, 0, s, _, h => by rw [lnB, lnB, if_pos (by omega)]
  | f + 1, f' + 1, s, h, h' => by
    rw [lnB, lnB]
    split
    · rfl
    · split
      · rw [lnB_fuel f f' _ (by rw [ext_size]; omega) (by rw [ext_size]; omega)]
      · rfl

theorem lnB_end {s : ByteArray} (h : s.size = 0) (f : Nat) : lnB f s = [] := by
  cases f with
  | zero => rfl
  | succ f => rw [lnB, if_pos h]
theorem lnB_cut {s : ByteArray} {i : Nat} (h : Lib.indexByte s.data.toList 10 = i) : lnB s.size s = s.extract 0 (i + 1) :: lnB (s.extract (i + 1) s.size).size (s.extract (i + 1) s.size) := by
  have hl := idx_lt h
  obtain ⟨f, hf⟩ : ∃ f, s.size = f + 1 := ⟨s.size - 1, by omega⟩
  rw [hf, lnB, if_neg (by omega), h, if_pos (by omega), Int.toNat_natCast, ← hf]
  exact congrArg _ (lnB_fuel _ _ _ (by rw [ext_size]; omega) (Nat.le_refl _))
theorem lnB_last {s : ByteArray} (h : Lib.indexByte s.data.toList 10 < 0) (h0 : 0 < s.size) : lnB s.size s = [s] := by
  obtain ⟨f, hf⟩ : ∃ f, s.size = f + 1 := ⟨s.size - 1, by omega⟩
  rw [hf, lnB, if_neg (by omega), if_neg (by omega)]

set_option maxHeartbeats 4000000 in
theorem lines_seq (n : Nat) (hn : 2 ≤ n) (V : Nat) (s : ByteArray) (hs : s.size ≤ 140737488355328) (w : World) (hV : w.heap[V]? = some (.cells #[.string s] 9 (0, 0))) :
    SeqV n Tryz.prog 62 #[.pointer (some ⟨V, 0, none⟩)] Value.string V (lnB s.size s) w := fun l J Jx W hW hJ hY h0 => by
  have hro : Fence.wide.round = none := rfl
  have blk0 := (hW.block V (blk_lt hV)).trans hV
  clear hV hW
  refine callsIn_of_wp Tryz.func62 rfl trivial ?_ hro
  simp only [Tryz.ntmps62, List.size_toArray, List.length_cons, List.length_nil, Nat.reduceAdd, Nat.reduceSub, Array.replicate_succ, Array.replicate_zero, List.push_toArray, List.append_toArray, List.nil_append, List.cons_append]
  gi_wp2
  have HJ0 := hide hJ
  have HY := hide hY
  clear hJ hY
  gi_loopw [3] (fun lv wr => ∃ (pre : List ByteArray) (r : ByteArray), Hid (lnB s.size s = pre ++ lnB r.size r) ∧ wr.heap[V]? = some (.cells #[.string r] 9 (0, 0)) ∧ Hid (J pre wr) ∧ r.size ≤ s.size) (fun _ wr => vStr wr V)
  case atStart => exact ⟨[], s, hide rfl, blk0, h0, Nat.le_refl _⟩
  case round =>
    obtain ⟨pre, r, HL, blk, HJ, hr⟩ := hrel
    have c0 := blk_cell blk 0 rfl
    have f0 := blk_froz blk 0
    have vr : vStr wr V = r.size := by unfold vStr; rw [blk_cell blk 0 rfl]; rfl
    by_cases h0r : 0 < r.size
    · have hpos : (0 : Int) < r.size := by omega
      have IX : Hid (Calls Tryz.prog 63 #[.string r, .int .u8 10] wr fun E w' => E = .returned (.int .i64 (Lib.indexByte r.data.toList 10)) ∧ wr = w') := hide ((Tryz.strings_IndexByte r 10 wr).mono fun E w' h => ⟨h.1, h.2.symm⟩)
      have hge := Go.Lib.indexByte_ge r.data.toList 10
      obtain ⟨q, hq⟩ : ∃ q, Lib.indexByte r.data.toList 10 = q := ⟨_, rfl⟩
      rw [hq] at IX hge
      have BLK := hide blk
      clear blk
      gi_wp2_with fail
      refine ⟨trivial, fun _ => by omega, (callsIn_wide.2 IX.out).mono ?_⟩
      rintro E w1 ⟨rfl, rfl⟩
      clear IX
      by_cases hq0 : 0 ≤ q
      · obtain ⟨i, rfl⟩ : ∃ i : Nat, q = i := ⟨q.toNat, by omega⟩
        have hi := idx_lt hq
        have CUT := hide (lnB_cut hq)
        clear hq
        have hi1 : (i : Int) + 1 ≤ 140737488355328 := by omega
        gi_wp2
        gi_region
        obtain ⟨W2, hW2⟩ : ∃ W2, (wr.setCell { block := V, off := 0 } (Value.string (r.extract (i + 1) r.size))).drew = W2 := ⟨_, rfl⟩
        have blk2 : W2.heap[V]? = some (.cells #[.string (r.extract (i + 1) r.size)] 9 (0, 0)) := by rw [← hW2]; exact set_cells BLK.out 0 (.string (r.extract (i + 1) r.size))
        have g2 : wr.grownBy W2 (some V) := by
          have h := grown_setCell wr ⟨V, 0, none⟩ (.string (r.extract (i + 1) r.size))
          rw [← hW2]
          exact ⟨h.os, h.tape, h.output, h.size, h.block⟩
        have hJ2 := HJ0.out _ _ _ _ HJ.out g2 (fun k e => by cases e; rfl)
        obtain ⟨fn, tmps, assign, body, hy, hR⟩ := HY.out pre (r.extract 0 (i + 1)) W2 ⟨lnB (r.extract (i + 1) r.size).size (r.extract (i + 1) r.size), by rw [HL.out, CUT.out]; simp⟩ hJ2
        have HR := hide hR
        have BLK2 := hide blk2
        have GO := hide (show lnB s.size s = (pre ++ [r.extract 0 (i + 1)]) ++ lnB (r.extract (i + 1) r.size).size (r.extract (i + 1) r.size) by rw [HL.out, CUT.out]; simp)
        rw [hW2]
        clear hR blk2 g2 hJ2 hW2 c0 f0 blk0
        gi_wp2
        refine ⟨fun _ => by omega, HR.out.mono ?_⟩
        rintro e W3 (⟨rfl, hJ3, hk3⟩ | ⟨rfl, hJx3⟩)
        · have hJ4 := hide hJ3
          have blk3 := hide (hk3.trans BLK2.out)
          clear hJ3 hk3 HR
          gi_wp2
          go_roundw
          case rel => exact ⟨_, _, GO, blk3.out, hJ4, by rw [ext_size]; omega⟩
          case measure =>
            have v3 : vStr W3 V = ((r.extract (i + 1) r.size) : ByteArray).size := by unfold vStr; rw [blk_cell blk3.out 0 rfl]; rfl
            rw [v3, vr]
            rw [ext_size]; omega
        · have hJ4 := hide hJx3
          clear hJx3 HR
          gi_wp2
          refine bodyPost_ret (results_none rfl _ _ _) rfl ?_
          exact ⟨⟨_, rfl⟩, .inr ⟨_, hJ4.out⟩⟩
      · have hqn : q < 0 := by omega
        have LAST := hide (lnB_last (by rw [hq]; exact hqn) h0r)
        clear hq
        obtain ⟨W2, hW2⟩ : ∃ W2, wr.setCell { block := V, off := 0 } (Value.string { data := #[] }) = W2 := ⟨_, rfl⟩
        have blk2 : W2.heap[V]? = some (.cells #[.string ⟨#[]⟩] 9 (0, 0)) := by rw [← hW2]; exact set_cells BLK.out 0 (.string ⟨#[]⟩)
        have g2 : wr.grownBy W2 (some V) := by
          have h := grown_setCell wr ⟨V, 0, none⟩ (.string ⟨#[]⟩)
          rw [← hW2]
          exact ⟨h.os, h.tape, h.output, h.size, h.block⟩
        have hJ2 := HJ0.out _ _ _ _ HJ.out g2 (fun k e => by cases e; rfl)
        obtain ⟨fn, tmps, assign, body, hy, hR⟩ := HY.out pre r W2 ⟨[], by rw [HL.out, LAST.out]; simp⟩ hJ2
        have HR := hide hR
        have BLK2 := hide blk2
        have GO := hide (show lnB s.size s = (pre ++ [r]) ++ lnB (ByteArray.mk #[]).size ⟨#[]⟩ by rw [HL.out, LAST.out, lnB_end rfl]; simp)
        clear hR blk2 g2 hJ2 blk0
        gi_wp2
        refine ⟨fun _ => by omega, HR.out.mono ?_⟩
        rintro e W3 (⟨rfl, hJ3, hk3⟩ | ⟨rfl, hJx3⟩)
        · have hJ4 := hide hJ3
          have blk3 := hide (hk3.trans BLK2.out)
          clear hJ3 hk3 HR
          gi_wp2
          go_roundw
          case rel => exact ⟨_, _, GO, blk3.out, hJ4, Nat.zero_le _⟩
          case measure =>
            have v3 : vStr W3 V = (⟨#[]⟩ : ByteArray).size := by unfold vStr; rw [blk_cell blk3.out 0 rfl]; rfl
            rw [v3, vr]
            show (ByteArray.mk #[]).size < r.size; exact h0r
        · have hJ4 := hide hJx3
          clear hJx3 HR
          gi_wp2
          refine bodyPost_ret (results_none rfl _ _ _) rfl ?_
          exact ⟨⟨_, rfl⟩, .inr ⟨_, hJ4.out⟩⟩
    · have hz : r.size = 0 := by omega
      have D := hide (show J (lnB s.size s) wr by
        rw [HL.out, lnB_end hz, List.append_nil]
        exact HJ.out)
      gi_wp2
      go_end0
      exact ⟨⟨_, rfl⟩, .inl D.out⟩

end Go.Proofs.YtdlogcdpapknaaaGreatDoor
