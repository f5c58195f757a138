/- What the iterator of All yields. -/
import Derived.Test.YtadfbmglbaebiaaLi
namespace Go.Proofs.Ytadfbmglbaebiaa
open Go.RowKit Go.Shelf
set_option linter.unusedVariables false
attribute [local go_sem] Oper.semAt_some

theorem equalIn_fnil (w : World) (d : Nat) (f : Fn) (c l : Array Value) : (Op.equalIn (d + 1) 56 (.func f c l) .nilFunc).run Try.prog w = .ok false w := by
  have h := Try.underlying56
  simp [Op.equalIn, run_underlying h]

theorem Try.eqnilF (w : World) (f : Fn) (c l : Array Value) : (binOp .eql 56 (.func f c l) .nilFunc).run Try.prog w = .ok (.bool false) w := by
  simp only [binOp]
  simp [Op.equal, Op.maxDepth, equalIn_fnil w 9999 f c l]

/-- A number's place. -/
abbrev Nx (L : Nat) := { i : Nat // i < L }

/-- The first k of them. -/
def upn (L : Nat) : Nat → List (Nx L)
  | 0 => []
  | k + 1 => upn L k ++ (if h : k < L then [⟨k, h⟩] else [])

theorem upn_next (L k : Nat) (h : k < L) : upn L (k + 1) = upn L k ++ [⟨k, h⟩] := by rw [upn, dif_pos h]

theorem upn_len (L : Nat) : ∀ k, k ≤ L → (upn L k).length = k
  | 0, _ => rfl
  | k + 1, h => by
    rw [upn_next L k (by omega), List.length_append, upn_len L k (by omega)]
    rfl

/-- What a round keeps. -/
def Kn (S : Nat → Prop) (W W' : World) : Prop := ∀ g, S g → W'.heap[g]? = W.heap[g]?

theorem Kn.trans {S : Nat → Prop} {A B C : World} (h : Kn S A B) (k : Kn S B C) : Kn S A C := fun g hg => (k g hg).trans (h g hg)

theorem kn_b {S : Nat → Prop} {w : World} (h : ∀ g, S g → g < w.heap.size) (W : World) (l : Nat) (o o' : Obj) (hl : w.heap.size ≤ l) (_ : W.heap[l]? = some o) (_ : o.isCells = false) (_ : o.isWalk = false) : Kn S W (W.putObj l o') :=
  fun g hg => World.putObj_heap_other (by have := h g hg; omega)

theorem cell_of_blk {W W' : World} {B : Nat} (h : W'.heap[B]? = W.heap[B]?) (j : Nat) : W'.cell? ⟨B, j, none⟩ = W.cell? ⟨B, j, none⟩ := World.cell?_of_block (show W'.heap[(⟨B, j, none⟩ : Addr).block]? = W.heap[(⟨B, j, none⟩ : Addr).block]? from h)

/-- A number's value. -/
def nxv (zs : List Int) (i : Nat) : Value := .int .i64 (zs[i]?.getD 0)

set_option maxRecDepth 100000 in
set_option maxHeartbeats 4000000 in
theorem all1_one (n : Nat) (hn : 1 ≤ n) (l B : Nat) (zs : List Int) (sv : Value) (S : Nat → Prop) (hSB : S B) (hSv : ∀ b, sv.ownBlock = some b → S b) (hLm : zs.length ≤ 140737488355328) (J Jx : List (Nx zs.length) → World → Prop) (W : World) (hJ : AbidesFrom W.heap.size J)
    (hY : ∀ pre x W1, J pre W1 → pre.length < zs.length → YieldAt Fence.wide (n - 1) Try.prog l #[nxv zs x.1] W1 fun e W' => (e = .returned (.bool true) ∧ J (pre ++ [x]) W' ∧ Kn S W1 W') ∨ (e = .returned (.bool false) ∧ Jx (pre ++ [x]) W'))
    (hB : W.cell? ⟨B, 0, none⟩ = some sv) (his : Is .i64 W sv zs) (h0 : J [] W) :
    CallsIn Fence.wide n Try.prog 43 #[.func (.yield l) #[] #[], .pointer (some ⟨B, 0, none⟩)] W fun e W' => (∃ v, e = .returned v) ∧ ((∃ xs, xs = upn zs.length zs.length ∧ J xs W') ∨ (∃ pre, (∃ k, k ≤ zs.length ∧ pre = upn zs.length k) ∧ Jx pre W')) := by
  have hro : Fence.wide.round = none := rfl
  obtain ⟨ao, cap, hsv, hcap, hcm⟩ := his.shape
  have HFULL := hide fun (h0 : 0 < zs.length) => his.full h0
  subst hsv
  clear his
  refine callsIn_of_wp Try.func43 rfl trivial ?_ hro
  simp only [Try.ntmps43, List.size_toArray, List.length_cons, List.length_nil, Nat.reduceAdd, Nat.reduceSub, Array.replicate_succ, Array.replicate_zero, List.push_toArray, List.append_toArray, List.nil_append, List.cons_append]
  gi_wp2
  gi_loopw [7] (fun iv wr => ∃ k : Nat, k ≤ zs.length ∧ iv = .int .i64 k ∧ Hid (J (upn zs.length k) wr) ∧ Kn S W wr) (fun iv _ => zs.length - (intOf iv).toNat)
  case atStart => exact ⟨0, Nat.zero_le _, rfl, h0, fun _ _ => rfl⟩
  case round =>
    obtain ⟨k, hk, rfl, HJ, hK⟩ := hrel
    by_cases hlt : k < zs.length
    · obtain ⟨b, off, cq, hvx, _, _, hb, hcell⟩ := HFULL.out (by omega)
      simp only [Value.slice.injEq, true_and] at hvx
      obtain ⟨rfl, rfl⟩ := hvx
      have e0 : wr.cell? ⟨b, off + k, none⟩ = some (.int .i64 (zs[k]?.getD 0)) := (cell_of_blk (hK b (hSv b rfl)) _).trans (by simpa [List.getD_eq_getElem?_getD] using hcell k hlt)
      obtain ⟨fn, tmps, assign, body, hy, hR⟩ := hY _ ⟨k, hlt⟩ wr HJ.out (by rw [upn_len _ k hk]; omega)
      dsimp only [nxv] at hy
      obtain ⟨z, hz⟩ : ∃ z, zs[k]?.getD 0 = z := ⟨_, rfl⟩
      rw [hz] at e0 hy
      clear hz
      have hlt' : (k : Int) < zs.length := by omega
      have hk0 : (0 : Int) ≤ (k : Int) := by omega
      have HR := hide hR
      have HK := hide hK
      clear hR hcell hY hJ h0 hSv
      gi_wp2
      refine HR.out.mono ?_
      rintro e W3 (⟨rfl, hJ3, hk3⟩ | ⟨rfl, hJx3⟩)
      · have hJ4 : Hid (J (upn zs.length (k + 1)) W3) := hide (by rw [upn_next _ k hlt]; exact hJ3)
        have hK4 := HK.out.trans hk3
        clear hJ3
        gi_wp2
        go_roundw
        case rel => exact ⟨k + 1, by omega, by go_num, hJ4, hK4⟩
        case measure => simp [intOf]; omega
      · have hJ4 : Hid (Jx (upn zs.length (k + 1)) W3) := hide (by rw [upn_next _ k hlt]; exact hJx3)
        clear hJx3
        gi_wp2
        refine bodyPost_ret (results_none rfl _ _ _) rfl ?_
        exact ⟨⟨_, rfl⟩, .inr ⟨_, ⟨k + 1, by omega, rfl⟩, hJ4.out⟩⟩
    · have hlt' : ¬ (k : Int) < zs.length := by omega
      obtain rfl : k = zs.length := by omega
      gi_wp2
      go_end0
      exact ⟨⟨_, rfl⟩, .inl HJ.out⟩

theorem all_seq (n : Nat) (hn : 1 ≤ n) (B base : Nat) (zs : List Int) (w : World) (h : Seq B base w zs) (hLm : zs.length ≤ 140737488355328) :
    SeqStopsK Fence.wide n Try.prog 43 #[.pointer (some ⟨B, 0, none⟩)] (fun x : Nx zs.length => #[nxv zs x.1]) (Kn (SeqB B w)) (fun xs => xs = upn zs.length zs.length) (fun pre => ∃ k, k ≤ zs.length ∧ pre = upn zs.length k) zs.length w := fun l J Jx W hW hJ hJx hY h0 => by
  obtain ⟨hb, v, h1, h2⟩ := h
  have c0 := blk_cell h1 0 rfl
  refine all1_one n hn l B zs v (SeqB B w) (.inl rfl) (fun b hb => .inr ⟨v, c0, hb⟩) hLm J Jx W hJ hY ((hW.cell (p := ⟨B, 0, none⟩) (blk_lt h1)).trans c0) (h2.is.below hW) h0

theorem Seq.lt {B base : Nat} {w : World} {zs : List Int} (h : Seq B base w zs) : ∀ g, SeqB B w g → base ≤ g ∧ g < w.heap.size := by
  obtain ⟨hb, v, h1, h2⟩ := h
  rintro g (rfl | ⟨u, hu, hg⟩)
  · exact ⟨hb, blk_lt h1⟩
  · have c0 : w.cell? ⟨B, 0, none⟩ = some v := blk_cell h1 0 rfl
    rw [c0] at hu
    cases hu
    exact h2.block g hg

end Go.Proofs.Ytadfbmglbaebiaa
