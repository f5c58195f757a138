/- Texts of one layer, one behind the other. -/
import Derived.Test.YtofbnkeglhhnlaaG3
import Derived.RangeFuncNested
import Derived.RangeFuncBound
import Derived.RangeFuncCalls
import Derived.RangeFuncLeaves
import Derived.Shelf.RegionOpen
import Derived.WalkKit
import Derived.OwnWalkIn
import Derived.TacticsInMore
import Derived.LoopNIn
import Derived.LoopIn
import Derived.Lib.Walk
import Derived.Test.YtofbnkeglhhnlaaG8
/- Range over a function: places, what a round keeps; a body that never panics, round by round. -/
namespace Go.Proofs.Ytofbnkeglhhnlaa
open Go.RowKit Go.Shelf
set_option linter.unusedVariables false

/-- A number's place. -/
abbrev Nx (L : Nat) := { i : Nat // i < L }

/-- The first k of them. -/
def upn (L : Nat) : Nat → List (Nx L)
  | 0 => []
  | k + 1 => upn L k ++ (if h : k < L then [⟨k, h⟩] else [])

theorem upn_next (L k : Nat) (h : k < L) : upn L (k + 1) = upn L k ++ [⟨k, h⟩] := by rw [upn, dif_pos h]

theorem upn_len (L : Nat) : ∀ k, k ≤ L → (upn L k).length = k
  | 0, _ => rfl
  | k + 1, h => by
    rw [upn_next L k (by omega), List.length_append, upn_len L k (by omega)]
    rfl

/-- What a round keeps. -/
def Kn (S : Nat → Prop) (W W' : World) : Prop := ∀ g, S g → W'.heap[g]? = W.heap[g]?

theorem Kn.trans {S : Nat → Prop} {A B C : World} (h : Kn S A B) (k : Kn S B C) : Kn S A C := fun g hg => (k g hg).trans (h g hg)

theorem kn_b {S : Nat → Prop} {w : World} (h : ∀ g, S g → g < w.heap.size) (W : World) (l : Nat) (o o' : Obj) (hl : w.heap.size ≤ l) (_ : W.heap[l]? = some o) (_ : o.isCells = false) (_ : o.isWalk = false) : Kn S W (W.putObj l o') :=
  fun g hg => World.putObj_heap_other (by have := h g hg; omega)

theorem cell_of_blk {W W' : World} {B : Nat} (h : W'.heap[B]? = W.heap[B]?) (j : Nat) : W'.cell? ⟨B, j, none⟩ = W.cell? ⟨B, j, none⟩ := World.cell?_of_block (show W'.heap[(⟨B, j, none⟩ : Addr).block]? = W.heap[(⟨B, j, none⟩ : Addr).block]? from h)

/-- What a function's body must come to, where it never panics. -/
def calmQ (Q : Exit → Act → World → Prop) : Exit → Act → World → Prop
  | .panic _, _, _ => False
  | e, a, w => Q e a w

theorem calm_wp {P : Program} {c : Code} {Q : Exit → Act → World → Prop} {a : Act} {w : World} (h : c.wp P (calmQ Q) a w) : c.wp P Q a w :=
  Go.wp_mono h fun e a w hq => by
    cases e <;> first | exact hq | exact hq.elim

/-- One round, the others hidden. -/
theorem rounds_cut {P : Program} {c : Code} {Q : Exit → Act → World → Prop} {n : Nat} {a : Act} {w : World} (h : ∀ R : Act → World → Prop, (∀ a w, Hid (Code.rounds P c Q n a w) → R a w) → c.wp P (Exit.then R Q) a w) : Code.rounds P c Q (n + 1) a w := by
  rw [rounds_succ]
  exact h _ fun a w h => h.out

end Go.Proofs.Ytofbnkeglhhnlaa

/- slices.Backward of ops: what its iterator yields. -/
namespace Go.Proofs.Ytofbnkeglhhnlaa
open Go.RowKit Go.Shelf
open Bm (Ov)
set_option linter.unusedVariables false
attribute [local go_sem] Oper.semAt_some

/-- The first k places from the end on. -/
def dw (L : Nat) : Nat → List (Nx L)
  | 0 => []
  | k + 1 => dw L k ++ (if h : k < L then [⟨L - 1 - k, by omega⟩] else [])

theorem dw_next (L k : Nat) (h : k < L) : dw L (k + 1) = dw L k ++ [⟨L - 1 - k, by omega⟩] := by rw [dw, dif_pos h]

theorem dw_len (L : Nat) : ∀ k, k ≤ L → (dw L k).length = k
  | 0, _ => rfl
  | k + 1, h => by
    rw [dw_next L k (by omega), List.length_append, dw_len L k (by omega)]
    rfl

/-- An op of the row, as a value. -/
def pto (rs : List Ov) (x : Nx rs.length) : Ov := rs[x.1]'x.2
def ovo (c : Ov) : Value := .agg #[.bool c.p, .string c.k, .string c.v]

set_option maxRecDepth 100000 in
set_option maxHeartbeats 4000000 in
theorem zback_one (n : Nat) (hn : 1 ≤ n) (l B : Nat) (rs : List Ov) (sv : Value) (S : Nat → Prop) (hSB : S B) (hSv : ∀ b, sv.ownBlock = some b → S b) (hLm : rs.length ≤ 1048576) (J Jx : List (Nx rs.length) → World → Prop) (W : World) (hSW : ∀ g, S g → g < W.heap.size) (hJ : AbidesFrom W.heap.size J)
    (hY : ∀ pre x W1, J pre W1 → pre.length < rs.length → YieldAt Fence.wide (n - 1) Try.prog l #[.int .i64 x.1, ovo (pto rs x)] W1 fun e W' => (e = .returned (.bool true) ∧ J (pre ++ [x]) W' ∧ Kn S W1 W') ∨ (e = .returned (.bool false) ∧ Jx (pre ++ [x]) W'))
    (hB : W.cell? ⟨B, 0, none⟩ = some sv) (his : IsO W sv rs) (h0 : J [] W) :
    CallsIn Fence.wide n Try.prog 39 #[.func (.yield l) #[] #[], .pointer (some ⟨B, 0, none⟩)] W fun e W' => (∃ v, e = .returned v) ∧ ((∃ xs, xs = dw rs.length rs.length ∧ J xs W') ∨ (∃ pre, (∃ k, k ≤ rs.length ∧ pre = dw rs.length k) ∧ Jx pre W')) := by
  have hro : Fence.wide.round = none := rfl
  obtain ⟨ao, cap, hsv, hcap, hcm⟩ := his.shape
  have HFULL := hide fun (h0 : 0 < rs.length) => his.full h0
  subst hsv
  have HSW := hide hSW
  have HJ0 := hide hJ
  have HY := hide hY
  have hw0 : IntKind.i64.wrap ((rs.length : Int) - 1) = (rs.length : Int) - 1 := wrap_i64_small _ (by omega) (by omega)
  clear his hSW hJ hY
  refine callsIn_of_wp Try.func39 rfl trivial ?_ hro
  simp only [Try.ntmps39, List.size_toArray, List.length_cons, List.length_nil, Nat.reduceAdd, Nat.reduceSub, Array.replicate_succ, Array.replicate_zero, List.push_toArray, List.append_toArray, List.nil_append, List.cons_append]
  gi_wp2
  gi_loopw [3] (fun iv wr => ∃ (k : Nat) (z : Int), k ≤ rs.length ∧ iv = .int .i64 z ∧ z = (rs.length : Int) - 1 - k ∧ Hid (J (dw rs.length k) wr) ∧ Kn S W wr) (fun iv _ => (intOf iv + 1).toNat)
  case atStart => exact ⟨0, (rs.length : Int) - 1, Nat.zero_le _, rfl, by omega, h0, fun _ _ => rfl⟩
  case round =>
    obtain ⟨k, z, hk, rfl, hz, HJ, hK⟩ := hrel
    have hbx := (cell_of_blk (hK B hSB) 0).trans hB
    by_cases hlt : k < rs.length
    · obtain ⟨i, hi⟩ : ∃ i, rs.length - 1 - k = i := ⟨_, rfl⟩
      have hil : i < rs.length := by omega
      obtain rfl : z = (i : Int) := by omega
      obtain ⟨b, off, cq, hvx, _, _, hb, hcell⟩ := HFULL.out (by omega)
      simp only [Value.slice.injEq, true_and] at hvx
      obtain ⟨rfl, rfl⟩ := hvx
      obtain ⟨c, hc⟩ : ∃ c, pto rs ⟨i, hil⟩ = c := ⟨_, rfl⟩
      have hc' : rs[i]? = some c := by rw [List.getElem?_eq_getElem hil, ← hc]; rfl
      obtain ⟨c0, c1, c2⟩ := hcell i c hc'
      have hkb := hK b (hSv b rfl)
      have d0 := (cell_of_blk hkb (off + i * 3)).trans c0
      have d1 := (cell_of_blk hkb (off + i * 3 + 1)).trans c1
      have d2 := (cell_of_blk hkb (off + i * 3 + 2)).trans c2
      have HJN : Hid (∀ W3, J (dw rs.length k ++ [⟨i, hil⟩]) W3 → J (dw rs.length (k + 1)) W3) := hide fun W3 h => by
        rw [dw_next _ k hlt]
        subst hi
        exact h
      have HJX : Hid (∀ W3, Jx (dw rs.length k ++ [⟨i, hil⟩]) W3 → Jx (dw rs.length (k + 1)) W3) := hide fun W3 h => by
        rw [dw_next _ k hlt]
        subst hi
        exact h
      obtain ⟨fn, tmps, assign, body, hy, hR⟩ := HY.out _ ⟨i, hil⟩ wr HJ.out (by rw [dw_len _ k hk]; omega)
      rw [hc] at hy
      unfold ovo at hy
      have hlt' : (i : Int) < rs.length := by omega
      have hi0 : (0 : Int) ≤ (i : Int) := by omega
      have hw1 : IntKind.i64.wrap ((i : Int) - 1) = (i : Int) - 1 := wrap_i64_small _ (by omega) (by omega)
      have HR := hide hR
      have HK := hide hK
      have HI := hide hi
      clear hR hcell hSv hK c0 c1 c2 hkb hc hc' hz hi
      gi_wp2
      refine HR.out.mono ?_
      rintro e W3 (⟨rfl, hJ3, hk3⟩ | ⟨rfl, hJx3⟩)
      · have hJ4 : Hid (J (dw rs.length (k + 1)) W3) := hide (HJN.out W3 hJ3)
        have hK4 := HK.out.trans hk3
        clear hJ3
        gi_wp2
        go_roundw
        case rel => exact ⟨k + 1, (i : Int) - 1, by omega, by go_num, by have := HI.out; omega, hJ4, hK4⟩
        case measure => simp [intOf]
      · have hJ4 : Hid (Jx (dw rs.length (k + 1)) W3) := hide (HJX.out W3 hJx3)
        clear hJx3
        gi_wp2
        refine bodyPost_ret (results_none rfl _ _ _) rfl ?_
        exact ⟨⟨_, rfl⟩, .inr ⟨_, ⟨k + 1, by omega, rfl⟩, hJ4.out⟩⟩
    · obtain rfl : k = rs.length := by omega
      have hz' : ¬ (0 : Int) ≤ z := by omega
      clear hz
      gi_wp2
      go_end0
      exact ⟨⟨_, rfl⟩, .inl HJ.out⟩

theorem zback_any (v : Value) (hv : ∃ a n c, v = .slice a n c) (w : World) : Calls Try.prog 27 #[v] w fun e w' => e = .returned (.func (.func 39) #[] #[.pointer (some ⟨w.heap.size, 0, none⟩)]) ∧ w' = w.alloc (.cells #[v] 31) := by
  obtain ⟨a, n, c, rfl⟩ := hv
  go_enter Try.func27, Try.ntmps27
  go_wp2
  go_ret
  exact ⟨rfl, rfl⟩

/-- The blocks that the iterator reads. -/
def SeqBO (B : Nat) (sv : Value) (g : Nat) : Prop := g = B ∨ sv.ownBlock = some g

theorem zback_seq (n : Nat) (hn : 1 ≤ n) (B : Nat) (rs : List Ov) (sv : Value) (w : World) (hB : w.cell? ⟨B, 0, none⟩ = some sv) (hlt : ∀ g, SeqBO B sv g → g < w.heap.size) (his : IsO w sv rs) (hLm : rs.length ≤ 1048576) :
    SeqStopsK Fence.wide n Try.prog 39 #[.pointer (some ⟨B, 0, none⟩)] (fun x : Nx rs.length => #[.int .i64 x.1, ovo (pto rs x)]) (Kn (SeqBO B sv)) (fun xs => xs = dw rs.length rs.length) (fun pre => ∃ k, k ≤ rs.length ∧ pre = dw rs.length k) rs.length w := fun l J Jx W hW hJ hJx hY h0 =>
  zback_one n hn l B rs sv (SeqBO B sv) (.inl rfl) (fun b hb => .inr hb) hLm J Jx W (fun g hg => Nat.lt_of_lt_of_le (hlt g hg) hW.size) hJ hY ((hW.cell (p := ⟨B, 0, none⟩) (hlt B (.inl rfl))).trans hB) (his.below hW) h0

end Go.Proofs.Ytofbnkeglhhnlaa
