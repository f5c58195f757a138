/- Texts of one layer, one behind the other. -/
import Derived.Test.YtkpnkknolobioaaGreatG19
import Derived.RangeFuncNested
import Derived.RangeFuncBound
import Derived.RangeFuncCalls
import Derived.RangeFuncLeaves
import Derived.Shelf.Abstract
import Derived.Shelf.RegionOpen
import Derived.WalkKit
import Derived.OwnWalkIn
import Derived.TacticsInMore
import Derived.LoopNIn
import Derived.LoopIn
/- The program's disk: Sync, Cut, Read, Durable, Start. -/
namespace Go.Proofs.YtkpnkknolobioaaGreat
open Go.RowKit Go.Shelf
set_option linter.unusedVariables false

theorem flush_eq (st : Dm.Ds) (n : Nat) (hn : n = st.wait.length) : ({ st with sure := Dm.dof st.sure (st.wait.take n), wait := st.wait.drop n } : Dm.Ds) = Dm.flush st := by
  subst hn
  simp [Dm.flush]

set_option maxRecDepth 20000 in
set_option maxHeartbeats 8000000 in
theorem dosync_any (p : Nat) (F : Nat → Prop) (w : World) (st : Dm.Ds) (h : Pk p F w st) (hsz : ∀ f, (st.sure f).length + Dm.bulk st.wait ≤ 140737488355000) (hlen : st.wait.length ≤ 1000000) (hl : st.left ≤ 9223372036854775807) (hc : st.count < 9223372036854775807) :
    Calls Tryz.prog 36 #[.pointer (some ⟨p, 0, none⟩), .agg #[.int .i64 2, .int .i64 0, .slice none 0 0, .int .i64 0]] w fun E w' => E = .returned (.int .i64 (if Dm.off st then 6 else 0)) ∧ PStep p F w w' (if Dm.off st then Dm.dark st else Dm.flush (Dm.burn st)) := by
  obtain ⟨s, wv, rs, h, rfl⟩ := h
  obtain ⟨w1, hw1, sz1, bel1, hB⟩ := blk_step w #[.int .i64 2, .int .i64 0, .slice none 0 0, .int .i64 0] 70
  have h1 := h.below bel1
  have c1 := h1.c1
  have c2 := h1.c2
  have c8 := h1.c8
  have f1 := h1.froz 1
  have f2 := h1.froz 2
  have f8 := h1.froz 8
  have hpw : p < w.heap.size := blk_lt h.blk
  have hlr := h.con.len
  obtain ⟨ao, cap, hv, _, _⟩ := h.con.row.row.shape
  by_cases hoff : Dm.off st = true
  · rw [hoff, if_pos rfl, if_pos rfl]
    have hz : pfuse st = 0 := by
      simp [Dm.off] at hoff
      simp [pfuse, hoff.1, hoff.2]
    obtain ⟨R1, R2⟩ := h1.set (st' := Dm.dark st) 1 (.bool false) rfl rfl rfl
    have HR : Hid (PStep p (FB p s wv rs) w (w1.setCell ⟨p, 1, none⟩ (.bool false)) (Dm.dark st)) := hide (PStep.pre bel1 (PStep.of_set R1 R2))
    rw [hz] at c2
    clear h h1 R1 R2 hB hlr hz hoff hv
    go_enter Tryz.func36, Tryz.ntmps36
    go_wp2
    go_ret
    exact ⟨rfl, HR.out⟩
  · have hoff' : Dm.off st = false := by simpa using hoff
    rw [hoff', if_neg (by simp), if_neg (by simp)]
    have tail : ∀ W, PkV p W (Dm.burn st) s wv rs → Out (FB p s wv rs) w1 W → Hid (Calls Tryz.prog 51 #[.pointer (some ⟨p, 0, none⟩), .int .i64 rs.length] W fun E w' => (∃ v, E = .returned v) ∧ PStep p (FB p s wv rs) w w' (Dm.flush (Dm.burn st))) := fun W hP hO => hide (by
      refine (settle_any p _ W (Dm.burn st) rs.length ⟨s, wv, rs, hP, rfl⟩ (by have : (Dm.burn st).wait = st.wait := rfl; rw [this]; omega) hsz hlen).mono ?_
      rintro E w' ⟨hE, hS⟩
      rw [flush_eq _ _ (by have : (Dm.burn st).wait = st.wait := rfl; rw [this]; omega)] at hS
      exact ⟨hE, (hS.trans hO fun g hg => .inl hg).pre bel1⟩)
    have hcw : IntKind.i64.wrap ((st.count : Int) + 1) = (st.count : Int) + 1 := wrap64s _ (by omega) (by omega)
    cases hh : st.has
    · have hz : pfuse st = -1 := by simp [pfuse, hh]
      obtain ⟨W, hW, hPW, hOW, szW, keW⟩ := count_tail h1 hh
      have hBW := (keW w.heap.size (by omega)).trans hB
      have x0 : W.cell? ⟨w.heap.size, 0, none⟩ = some (.int .i64 2) := blk_cell hBW 0 rfl
      have w7 : W.cell? ⟨p, 7, none⟩ = some wv := hPW.c7
      have T := tail W hPW hOW
      rw [hv] at w7
      rw [hz] at c2
      clear h h1 hB hlr hz hoff hoff' hv hPW hOW keW hBW hh tail
      go_enter Tryz.func36, Tryz.ntmps36
      go_wp2_with fail
      refine T.out.mono ?_
      rintro E w5 ⟨⟨v5, rfl⟩, J⟩
      have J := hide J
      go_wp2
      go_ret
      exact ⟨rfl, J.out⟩
    · have hl1 : 1 ≤ st.left := by
        simp [Dm.off, hh] at hoff
        omega
      have hz : pfuse st = st.left := by simp [pfuse, hh]
      obtain ⟨U, W, hU, hW, u8, fu8, hPW, hOW, szW, keW⟩ := burn_tail h1 hh hl1
      have hBW := (keW w.heap.size (by omega)).trans hB
      have x0 : W.cell? ⟨w.heap.size, 0, none⟩ = some (.int .i64 2) := blk_cell hBW 0 rfl
      have w7 : W.cell? ⟨p, 7, none⟩ = some wv := hPW.c7
      have T := tail W hPW hOW
      rw [hv] at w7
      rw [hz] at c2
      have hlw : IntKind.i64.wrap ((st.left : Int) - 1) = (st.left : Int) - 1 := wrap64s _ (by omega) (by omega)
      have hl0 : ((st.left : Int) == 0) = false := beq_eq_false_iff_ne.2 (by omega)
      have hlm : ((st.left : Int) == -1) = false := beq_eq_false_iff_ne.2 (by omega)
      clear h h1 hB hlr hz hoff hoff' hv hPW hOW keW hBW hh tail
      go_enter Tryz.func36, Tryz.ntmps36
      go_wp2_with fail
      refine T.out.mono ?_
      rintro E w5 ⟨⟨v5, rfl⟩, J⟩
      have J := hide J
      go_wp2
      go_ret
      exact ⟨rfl, J.out⟩

theorem pair_if {α β : Type} (b : Bool) (x y : α) (u v : β) : (if b = true then (x, u) else (y, v)) = ((if b = true then x else y), if b = true then u else v) := by cases b <;> rfl

set_option maxRecDepth 20000 in
set_option maxHeartbeats 2000000 in
theorem sync_any (p : Nat) (F : Nat → Prop) (w : World) (st : Dm.Ds) (h : Pk p F w st) (hsz : ∀ f, (st.sure f).length + Dm.bulk st.wait ≤ 140737488355000) (hlen : st.wait.length ≤ 1000000) (hl : st.left ≤ 9223372036854775807) (hc : st.count < 9223372036854775807) :
    Calls Tryz.prog 10 #[.pointer (some ⟨p, 0, none⟩)] w fun E w' => E = .returned (.int .i64 (Dm.sync st).1) ∧ PStep p F w w' (Dm.sync st).2 := by
  have HA := hide (refuses_any p F w st h)
  have HD := hide (dosync_any p F w st h hsz hlen hl hc)
  have HK := hide h
  clear h
  unfold Dm.sync
  cases hon : st.on
  · rw [if_pos rfl]
    have hk := ask_off hon
    clear hon
    go_enter Tryz.func10, Tryz.ntmps10
    go_wp2_with fail
    refine HA.out.mono ?_
    rintro E w1 ⟨rfl, rfl⟩
    rw [hk]
    go_wp2
    go_ret
    exact ⟨rfl, PStep.same HK.out (Below.refl _ _)⟩
  · rw [if_neg (by simp), pair_if]
    have hk := ask_on hon
    generalize (if Dm.off st = true then (6 : Int) else 0) = e at HD ⊢
    generalize (if Dm.off st = true then Dm.dark st else Dm.flush (Dm.burn st)) = st' at HD ⊢
    clear hon
    go_enter Tryz.func10, Tryz.ntmps10
    go_wp2_with fail
    refine HA.out.mono ?_
    rintro E w1 ⟨rfl, rfl⟩
    rw [hk]
    go_wp2_with fail
    refine HD.out.mono ?_
    rintro E w2 ⟨rfl, J⟩
    have J := hide J
    go_wp2
    go_ret
    exact ⟨rfl, J.out⟩

/-- What Read tells. -/
def rdE (st : Dm.Ds) (file : Int) : Int := if st.on = false then 6 else if Dm.inF file = false then 2 else 0
def rdB (st : Dm.Ds) (file : Int) : List Int := if st.on = false then [] else if Dm.inF file = false then [] else Dm.hold file.toNat (st.sure file.toNat) st.wait
def duB (st : Dm.Ds) (file : Int) : List Int := if Dm.inF file = false then [] else st.sure file.toNat

theorem inF_nat {file : Int} (h : Dm.inF file = true) : ∃ f : Nat, f < 4 ∧ file = f := by
  simp [Dm.inF] at h
  exact ⟨file.toNat, by omega, by omega⟩

set_option maxRecDepth 20000 in
set_option maxHeartbeats 2000000 in
theorem dread_any (p : Nat) (F : Nat → Prop) (w : World) (st : Dm.Ds) (file : Int) (h : Pk p F w st) (hsz : ∀ f, (st.sure f).length + Dm.bulk st.wait ≤ 140737488355000) (hlen : st.wait.length ≤ 1000000) :
    Calls Tryz.prog 42 #[.pointer (some ⟨p, 0, none⟩), .int .i64 file] w fun E w' => ∃ v, E = .returned (.tuple #[v, .int .i64 (rdE st file)]) ∧ Own .u8 5 w.heap.size w' v (rdB st file) ∧ Below w.heap.size w w' := by
  have HA := hide (refuses_any p F w st h)
  have HF := hide (isfile_any file w)
  cases hon : st.on
  · have e1 : rdE st file = 6 := by simp [rdE, hon]
    have e2 : rdB st file = [] := by simp [rdB, hon]
    rw [e1, e2]
    have hk := ask_off hon
    clear hon h e1 e2
    go_enter Tryz.func42, Tryz.ntmps42
    go_wp2_with fail
    refine HA.out.mono ?_
    rintro E w1 ⟨rfl, rfl⟩
    rw [hk]
    go_wp2
    refine bodyPost_ret (results_tmp2 rfl _ _ _) rfl ?_
    exact ⟨_, rfl, Own.nil _ _ _ _, Below.refl _ _⟩
  · have hk := ask_on hon
    cases hin : Dm.inF file
    · have e1 : rdE st file = 2 := by simp [rdE, hon, hin]
      have e2 : rdB st file = [] := by simp [rdB, hon, hin]
      rw [e1, e2]
      rw [hin] at HF
      clear hon h e1 e2 hin
      go_enter Tryz.func42, Tryz.ntmps42
      go_wp2_with fail
      refine HA.out.mono ?_
      rintro E w1 ⟨rfl, rfl⟩
      rw [hk]
      go_wp2_with fail
      refine HF.out.mono ?_
      rintro E w1 ⟨rfl, rfl⟩
      go_wp2
      refine bodyPost_ret (results_tmp2 rfl _ _ _) rfl ?_
      exact ⟨_, rfl, Own.nil _ _ _ _, Below.refl _ _⟩
    · obtain ⟨f, hf, rfl⟩ := inF_nat hin
      have e1 : rdE st f = 0 := by simp [rdE, hon, hin]
      have e2 : rdB st f = Dm.hold f (st.sure f) st.wait := by simp [rdB, hon, hin]
      rw [e1, e2]
      rw [hin] at HF
      have HH := hide (held_any p F w st f h hf (hsz f) hlen)
      clear hon h e1 e2 hin
      go_enter Tryz.func42, Tryz.ntmps42
      go_wp2_with fail
      refine HA.out.mono ?_
      rintro E w1 ⟨rfl, rfl⟩
      rw [hk]
      go_wp2_with fail
      refine HF.out.mono ?_
      rintro E w1 ⟨rfl, rfl⟩
      go_wp2_with fail
      refine HH.out.mono ?_
      rintro E w2 ⟨v2, rfl, own2, bel2⟩
      go_wp2
      refine bodyPost_ret (results_tmp2 rfl _ _ _) rfl ?_
      exact ⟨_, rfl, own2, bel2⟩

set_option maxRecDepth 20000 in
set_option maxHeartbeats 2000000 in
theorem durable_any (p : Nat) (F : Nat → Prop) (w : World) (st : Dm.Ds) (file : Int) (h : Pk p F w st) (hsz : ∀ f, (st.sure f).length + Dm.bulk st.wait ≤ 140737488355000) :
    Calls Tryz.prog 27 #[.pointer (some ⟨p, 0, none⟩), .int .i64 file] w fun E w' => ∃ v, E = .returned v ∧ Own .u8 5 w.heap.size w' v (duB st file) ∧ Below w.heap.size w w' := by
  have HA := hide (made_any p F w st h)
  have HF := hide (isfile_any file w)
  cases hin : Dm.inF file
  · have e2 : duB st file = [] := by simp [duB, hin]
    rw [e2]
    rw [hin] at HF
    clear h e2 hin
    go_enter Tryz.func27, Tryz.ntmps27
    go_wp2_with fail
    refine HA.out.mono ?_
    rintro E w1 ⟨rfl, rfl⟩
    go_wp2_with fail
    refine HF.out.mono ?_
    rintro E w1 ⟨rfl, rfl⟩
    go_wp2
    go_ret
    exact ⟨_, rfl, Own.nil _ _ _ _, Below.refl _ _⟩
  · obtain ⟨f, hf, rfl⟩ := inF_nat hin
    have e2 : duB st f = st.sure f := by simp [duB, hin]
    rw [e2]
    rw [hin] at HF
    obtain ⟨s, wv, rs, h, rfl⟩ := h
    have cf := h.cf f hf
    have hl := hsz f
    have HC := hide (bclone_any (s f) (st.sure f) w (h.con.file f hf).is (by omega))
    have hf0 : (0 : Int) ≤ (f : Int) := by omega
    have hf4 : (f : Int) < 4 := by omega
    clear h e2 hin
    go_enter Tryz.func27, Tryz.ntmps27
    go_wp2_with fail
    refine HA.out.mono ?_
    rintro E w1 ⟨rfl, rfl⟩
    go_wp2_with fail
    refine HF.out.mono ?_
    rintro E w1 ⟨rfl, rfl⟩
    go_wp2_with fail
    refine HC.out.mono ?_
    rintro E w2 ⟨v2, rfl, own2, bel2⟩
    go_wp2
    go_ret
    exact ⟨_, rfl, own2, bel2⟩

theorem PStep.of_do {p : Nat} {F : Nat → Prop} {w w' : World} {st' : Dm.Ds} {v : Value} (h : PDo p F w st' v w') (hv : v.ownBlock = none) : PStep p F w w' st' := by
  obtain ⟨F', h1, h2, h3⟩ := h
  refine ⟨F', h1, h2, fun g hg => ?_⟩
  rcases h3 g hg with h | h | h
  · exact .inl h
  · exact .inr h
  · rw [hv] at h; cases h

end Go.Proofs.YtkpnkknolobioaaGreat

/- slices.Chunk of bytes: what its iterator yields. -/
namespace Go.Proofs.YtkpnkknolobioaaGreat
open Go.RowKit Go.Shelf
set_option linter.unusedVariables false
attribute [local go_sem] Oper.semAt_some

/-- A chunk's place. -/
abbrev Cx (L : Nat) := { i : Nat // i * 64 < L }

/-- How many chunks. -/
def cnt (L : Nat) : Nat := (L + 63) / 64

/-- The first k of them. -/
def up (L : Nat) : Nat → List (Cx L)
  | 0 => []
  | k + 1 => up L k ++ (if h : k * 64 < L then [⟨k, h⟩] else [])

theorem up_next (L k : Nat) (h : k * 64 < L) : up L (k + 1) = up L k ++ [⟨k, h⟩] := by rw [up, dif_pos h]

theorem up_len (L : Nat) : ∀ k, k ≤ cnt L → (up L k).length = k
  | 0, _ => rfl
  | k + 1, h => by
    have h1 : k * 64 < L := by unfold cnt at h; omega
    rw [up_next L k h1, List.length_append, up_len L k (by omega)]
    rfl

/-- A chunk's value. -/
def chv (b off L i : Nat) : Value := .slice (some ⟨b, off + i * 64, none⟩) (min 64 (L - i * 64)) (min 64 (L - i * 64))

/-- What a round keeps: the two boxes. -/
def Kc (Bs Bn : Nat) (W W' : World) : Prop := W'.heap[Bs]? = W.heap[Bs]? ∧ W'.heap[Bn]? = W.heap[Bn]?

theorem Kc.trans {Bs Bn : Nat} {A B C : World} (h : Kc Bs Bn A B) (k : Kc Bs Bn B C) : Kc Bs Bn A C := ⟨k.1.trans h.1, k.2.trans h.2⟩

theorem cell_of_heap {W W' : World} {B : Nat} (h : W'.heap[B]? = W.heap[B]?) (j : Nat) : W'.cell? ⟨B, j, none⟩ = W.cell? ⟨B, j, none⟩ := World.cell?_of_block (show W'.heap[(⟨B, j, none⟩ : Addr).block]? = W.heap[(⟨B, j, none⟩ : Addr).block]? from h)

/-- The facts of a round's slice expressions. -/
theorem chunk_facts (b off L cap q m : Nat) (hL : L = q + m) (hm : 0 < m) (hcap : L ≤ cap) (hcm : cap ≤ maxLen) (e : Nat) (he : 0 < e) (hem : e ≤ m) :
    (∀ ty wx, (Builtin.len_ #[22] ty #[.slice (some ⟨b, off, none⟩) L cap]).run Tryz.prog wx = .ok (.int .i64 L) wx) ∧
    (∀ wx, (Instr.slice 22 (.slice (some ⟨b, off, none⟩) L cap) (some (.int .i64 q)) none none).run Tryz.prog wx = .ok (.slice (some ⟨b, off + q, none⟩) m (cap - q)) wx) ∧
    ∀ wx, (Instr.slice 22 (.slice (some ⟨b, off, none⟩) L cap) (some (.int .i64 q)) (some (.int .i64 ((q : Int) + e))) (some (.int .i64 ((q : Int) + e)))).run Tryz.prog wx = .ok (.slice (some ⟨b, off + q, none⟩) e e) wx := by
  have hu := Tryz.underlying22
  refine ⟨fun ty wx => by simp [Builtin.len_, run_underlying hu, goInt], fun wx => ?_, fun wx => ?_⟩
  · rw [run_slice_l wx 22 (some ⟨b, off, none⟩) L cap Tryz.elemP .i64 _ (by omega) (by omega), Tryz.sizeP]
    have h1 : ¬ cap = q := by omega
    have h2 : L - q = m := by omega
    simp [Result.andThen, sliced, h1, h2, add_at]
  · rw [run_slice_lhm wx 22 (some ⟨b, off, none⟩) L cap Tryz.elemP .i64 .i64 .i64 _ _ _ (by omega) (by omega) (by omega) (by omega), Tryz.sizeP]
    have h1 : ¬ ((q : Int) + e).toNat = q := by omega
    have h2 : ((q : Int) + e).toNat - q = e := by omega
    simp [Result.andThen, sliced, h1, h2, add_at]

set_option maxRecDepth 100000 in
set_option maxHeartbeats 4000000 in
theorem chunk_one (n : Nat) (hn : 1 ≤ n) (l Bs Bn b off L cap : Nat) (sv : Value) (hsv : sv = .slice (some ⟨b, off, none⟩) L cap ∨ (L = 0 ∧ ∃ ao c, sv = .slice ao 0 c)) (hcap : L ≤ cap) (hcm : cap ≤ maxLen) (hLm : L ≤ 140737488355328) (J Jx : List (Cx L) → World → Prop) (W : World) (hJ : AbidesFrom W.heap.size J)
    (hY : ∀ pre x W1, J pre W1 → pre.length < cnt L → YieldAt Fence.wide (n - 1) Tryz.prog l #[chv b off L x.1] W1 fun e W' => (e = .returned (.bool true) ∧ J (pre ++ [x]) W' ∧ Kc Bs Bn W1 W') ∨ (e = .returned (.bool false) ∧ Jx (pre ++ [x]) W'))
    (hBs : W.cell? ⟨Bs, 0, none⟩ = some sv) (hBn : W.cell? ⟨Bn, 0, none⟩ = some (.int .i64 64)) (h0 : J [] W) :
    CallsIn Fence.wide n Tryz.prog 62 #[.func (.yield l) #[] #[], .pointer (some ⟨Bs, 0, none⟩), .pointer (some ⟨Bn, 0, none⟩)] W fun e W' => (∃ v, e = .returned v) ∧ ((∃ xs, xs = up L (cnt L) ∧ J xs W') ∨ (∃ pre, (∃ k, k ≤ cnt L ∧ pre = up L k) ∧ Jx pre W')) := by
  have hro : Fence.wide.round = none := rfl
  have hlen0 : ∀ ty wx, (Builtin.len_ #[22] ty #[sv]).run Tryz.prog wx = .ok (.int .i64 L) wx := by
    rcases hsv with rfl | ⟨rfl, ao, c, rfl⟩
    · intro ty wx; simp [Builtin.len_, run_underlying Tryz.underlying22, goInt]
    · intro ty wx; simp [Builtin.len_, run_underlying Tryz.underlying22, goInt]
  refine callsIn_of_wp Tryz.func62 rfl trivial ?_ hro
  simp only [Tryz.ntmps62, List.size_toArray, List.length_cons, List.length_nil, Nat.reduceAdd, Nat.reduceSub, Array.replicate_succ, Array.replicate_zero, List.push_toArray, List.append_toArray, List.nil_append, List.cons_append]
  gi_wp2
  gi_loopw [4] (fun iv wr => ∃ k : Nat, k ≤ cnt L ∧ iv = .int .i64 (k * 64 : Nat) ∧ Hid (J (up L k) wr) ∧ Kc Bs Bn W wr) (fun iv _ => (L + 64) - (intOf iv).toNat)
  case atStart => exact ⟨0, Nat.zero_le _, rfl, h0, ⟨rfl, rfl⟩⟩
  case round =>
    obtain ⟨k, hk, rfl, HJ, hK⟩ := hrel
    have cs : wr.cell? ⟨Bs, 0, none⟩ = some sv := (cell_of_heap hK.1 0).trans hBs
    have cn : wr.cell? ⟨Bn, 0, none⟩ = some (.int .i64 64) := (cell_of_heap hK.2 0).trans hBn
    obtain ⟨q, hq⟩ : ∃ q, q = k * 64 := ⟨_, rfl⟩
    rw [← hq]
    by_cases hlt : q < L
    · obtain ⟨m, hm⟩ : ∃ m, L = q + m := ⟨L - q, by omega⟩
      have hk64 : k * 64 < L := by omega
      have hsv' : sv = .slice (some ⟨b, off, none⟩) L cap := by
        rcases hsv with h | ⟨h, _⟩
        · exact h
        · omega
      have JD : J (up L k) wr.drew := hJ _ wr wr.drew none HJ.out ⟨rfl, rfl, rfl, Nat.le_refl _, fun _ _ _ => rfl⟩ (fun r e => by cases e)
      have hlt' : (q : Int) < L := by omega
      by_cases hsm : m < 64
      · have ev : chv b off L k = .slice (some ⟨b, off + q, none⟩) m m := by
          have h1 : min 64 (L - k * 64) = m := by omega
          unfold chv
          rw [h1, ← hq]
        obtain ⟨f1, f2, f3⟩ := chunk_facts b off L cap q m hm (by omega) hcap hcm m (by omega) (by omega)
        rw [← hsv'] at f2 f3
        obtain ⟨fn, tmps, assign, body, hy, hR⟩ := hY _ ⟨k, hk64⟩ wr.drew JD (by rw [up_len L k hk]; unfold cnt; omega)
        dsimp only at hy
        rw [ev] at hy
        have hmi : (m : Int) < 64 := by omega
        have hw1 : IntKind.i64.wrap ((q : Int) + (m : Nat)) = (q : Int) + (m : Nat) := wrap64s _ (by omega) (by omega)
        have hw2 : IntKind.i64.wrap ((q : Int) + 64) = (q : Int) + 64 := wrap64s _ (by omega) (by omega)
        have HR := hide hR
        have HQ := hide hq
        have HM := hide hm
        clear f1 hR ev hsv hsv' hq hm JD hY hBs hBn hJ h0
        gi_wp2
        gi_region
        all_goals
          gi_wp2
          refine HR.out.mono ?_
          rintro e W3 (⟨rfl, hJ3, hk3⟩ | ⟨rfl, hJx3⟩)
          · have cs3 : W3.cell? ⟨Bs, 0, none⟩ = some sv := (cell_of_heap hk3.1 0).trans cs
            have cn3 : W3.cell? ⟨Bn, 0, none⟩ = some (.int .i64 64) := (cell_of_heap hk3.2 0).trans cn
            have hJ4 : Hid (J (up L (k + 1)) W3) := hide (by rw [up_next L k hk64]; exact hJ3)
            have hK4 : Kc Bs Bn W W3 := hK.trans hk3
            clear hJ3
            gi_wp2
            go_roundw
            case rel => exact ⟨k + 1, by unfold cnt; omega, by have := HQ.out; congr 1; omega, hJ4, hK4⟩
            case measure => simp [intOf]; have := HQ.out; omega
          · have hJ4 : Hid (Jx (up L (k + 1)) W3) := hide (by rw [up_next L k hk64]; exact hJx3)
            clear hJx3
            gi_wp2
            refine bodyPost_ret (results_none rfl _ _ _) rfl ?_
            exact ⟨⟨_, rfl⟩, .inr ⟨_, ⟨k + 1, by unfold cnt; omega, rfl⟩, hJ4.out⟩⟩
      · have ev : chv b off L k = .slice (some ⟨b, off + q, none⟩) 64 64 := by
          have h1 : min 64 (L - k * 64) = 64 := by omega
          unfold chv
          rw [h1, ← hq]
        obtain ⟨f1, f2, f3⟩ := chunk_facts b off L cap q m hm (by omega) hcap hcm 64 (by omega) (by omega)
        rw [← hsv'] at f2 f3
        have f4 : ∀ wx, (Instr.slice 22 sv (some (.int .i64 q)) (some (.int .i64 ((q : Int) + 64))) (some (.int .i64 ((q : Int) + 64)))).run Tryz.prog wx = .ok (.slice (some ⟨b, off + q, none⟩) 64 64) wx := f3
        clear f3
        obtain ⟨fn, tmps, assign, body, hy, hR⟩ := hY _ ⟨k, hk64⟩ wr.drew JD (by rw [up_len L k hk]; unfold cnt; omega)
        dsimp only at hy
        rw [ev] at hy
        have hmi : ¬ (m : Int) < 64 := by omega
        have hw2 : IntKind.i64.wrap ((q : Int) + 64) = (q : Int) + 64 := wrap64s _ (by omega) (by omega)
        have HR := hide hR
        have HQ := hide hq
        have HM := hide hm
        clear f1 hR ev hsv hsv' hq hm JD hY hBs hBn hJ h0
        gi_wp2
        gi_region
        all_goals
          gi_wp2
          refine HR.out.mono ?_
          rintro e W3 (⟨rfl, hJ3, hk3⟩ | ⟨rfl, hJx3⟩)
          · have cs3 : W3.cell? ⟨Bs, 0, none⟩ = some sv := (cell_of_heap hk3.1 0).trans cs
            have cn3 : W3.cell? ⟨Bn, 0, none⟩ = some (.int .i64 64) := (cell_of_heap hk3.2 0).trans cn
            have hJ4 : Hid (J (up L (k + 1)) W3) := hide (by rw [up_next L k hk64]; exact hJ3)
            have hK4 : Kc Bs Bn W W3 := hK.trans hk3
            clear hJ3
            gi_wp2
            go_roundw
            case rel => exact ⟨k + 1, by unfold cnt; omega, by have := HQ.out; congr 1; omega, hJ4, hK4⟩
            case measure => simp [intOf]; have := HQ.out; omega
          · have hJ4 : Hid (Jx (up L (k + 1)) W3) := hide (by rw [up_next L k hk64]; exact hJx3)
            clear hJx3
            gi_wp2
            refine bodyPost_ret (results_none rfl _ _ _) rfl ?_
            exact ⟨⟨_, rfl⟩, .inr ⟨_, ⟨k + 1, by unfold cnt; omega, rfl⟩, hJ4.out⟩⟩
    · have hlt' : ¬ (q : Int) < L := by omega
      obtain rfl : k = cnt L := by unfold cnt at hk ⊢; omega
      clear hq
      gi_wp2
      go_end0
      exact ⟨⟨_, rfl⟩, .inl HJ.out⟩

theorem chunk_any (v : Value) (hv : ∃ a n c, v = .slice a n c) (w : World) : Calls Tryz.prog 35 #[v, .int .i64 64] w fun e w' => e = .returned (.func (.func 62) #[] #[.pointer (some ⟨w.heap.size, 0, none⟩), .pointer (some ⟨w.heap.size + 1, 0, none⟩)]) ∧ w' = (w.alloc (.cells #[v] 22)).alloc (.cells #[.int .i64 64] 3) := by
  obtain ⟨a, n, c, rfl⟩ := hv
  go_enter Tryz.func35, Tryz.ntmps35
  go_wp2
  go_ret
  exact ⟨rfl, rfl⟩

end Go.Proofs.YtkpnkknolobioaaGreat
