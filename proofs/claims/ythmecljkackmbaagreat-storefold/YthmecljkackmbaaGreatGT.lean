/- Texts of one layer, one behind the other. -/
import Derived.Test.YthmecljkackmbaaGreatG17
import Derived.Test.YthmecljkackmbaaGreatIter
import Derived.Test.YthmecljkackmbaaGreatG7
import Derived.RangeFuncNested
import Derived.RangeFuncBound
import Derived.RangeFuncCalls
import Derived.RangeFuncLeaves
import Derived.Shelf.RegionOpen
import Derived.WalkKit
import Derived.OwnWalkIn
import Derived.TacticsInMore
import Derived.LoopNIn
import Derived.LoopIn
import Derived.Lib.Walk
/- The program's table: what is there as ops, by rising key (ops), All and Live. -/
namespace Go.Proofs.YthmecljkackmbaaGreat
open Go.RowKit Go.Maps Go.Shelf
open Bm (Ov)
set_option linter.unusedVariables false
attribute [local go_sem] Oper.semAt_some

theorem enc_key (o : Ov) : encStr o.kl = .string o.k := by
  unfold encStr Bm.Ov.kl
  rw [Array.toArray_toList]

theorem gv_mem {t : List Ov} {o : Ov} (h : Tm.Up t) (ho : o ∈ t) : gv t o.k = o.v ∧ gp t o.k = o.p := by
  unfold gv gp
  rw [Tm.get_mem h ho]
  exact ⟨rfl, rfl⟩

set_option maxHeartbeats 1000000 in
theorem tops_any (p b : Nat) (w : World) (t : List Ov) (h : Tb p b w t) (hf : FitO t) (hn : t.length ≤ 1000000) :
    Calls Tryz.prog 88 #[.pointer (some ⟨p, 0, none⟩)] w fun E w' => ∃ v, E = .returned v ∧ OwnO 81 w.heap.size w' v t ∧ Below w.heap.size w w' := by
  have HM := hide (tmade_any p b w h.cell)
  have hc := h.cell
  obtain ⟨W1, hW1, sz1, b1, B1⟩ := blk_step w #[.map (some b)] 137
  have HK : Hid (Calls Tryz.prog 149 #[.map (some b)] w fun E w' => E = .returned (.func (.func 187) #[] #[.pointer (some ⟨w.heap.size, 0, none⟩)]) ∧ W1 = w') := hide (by
    refine (callsIn_wide.1 (Tryz.maps_Keys_149 (some b) w)).mono ?_
    rintro E w' ⟨rfl, rfl⟩
    exact ⟨rfl, hW1.symm⟩)
  have HS : Hid (Calls Tryz.prog 148 #[.func (.func 187) #[] #[.pointer (some ⟨w.heap.size, 0, none⟩)]] W1 fun E w' => ∃ v, E = .returned v ∧ w'.ownsRow (w.heap.size + 1) 9 1 v t.length (t.map fun o => .string o.k) ∧ Below (w.heap.size + 1) W1 w') := hide (by
    have := callsIn_wide.1 (Tryz.slices_Sorted_keys_148_149 b t.length (Tm.dat t) Ren w h.own (by rw [Tm.dat_size]; unfold maxLen; omega) (by rw [Tm.dat_size]; omega))
    rw [hW1, sz1] at this
    refine this.mono ?_
    rintro E w' ⟨v, ss, rfl, hp, hr, _, hb⟩
    have e1 := Tm.dat_sorted h.up hp
    have e2 : ss.length = t.length := by
      have := hp.length_eq
      rw [Tm.dat_keys, List.length_map] at this
      exact this
    rw [e1, e2, List.map_map] at hr
    refine ⟨v, rfl, ?_, hb⟩
    have e3 : (t.map fun o => Value.string o.k) = t.map (encStr ∘ Bm.Ov.kl) := List.map_congr_left fun o _ => (enc_key o).symm
    rw [e3]
    exact hr)
  have HT0 := hide h
  have HF := hide hf
  have Hb1 := hide b1
  clear hf h B1 b1
  go_enter Tryz.func88, Tryz.ntmps88
  go_wp2_with fail
  refine HM.out.mono ?_
  rintro E w' ⟨rfl, rfl⟩
  go_wp2_with fail
  refine HK.out.mono ?_
  rintro E w' ⟨rfl, rfl⟩
  go_wp2_with fail
  refine HS.out.mono ?_
  rintro E W2 ⟨v, rfl, hrow, b2⟩
  have b02 : Below w.heap.size w W2 := Hb1.out.trans (b2.mono (by omega))
  have HT2 := hide (HT0.out.below b02)
  have sz2 : w.heap.size + 1 ≤ W2.heap.size := by have := b2.size; omega
  obtain ⟨n, hnn⟩ : ∃ n, t.length = n := ⟨_, rfl⟩
  have HROW : Hid (∀ (k : Nat) (o : Ov), t[k]? = some o → ∃ g cap, v = .slice (some ⟨g, 0, none⟩) n cap ∧ g < W2.heap.size ∧ W2.cell? ⟨g, k, none⟩ = some (.string o.k)) := hide (by
    intro k o ho
    have hk : k < t.length := (List.getElem?_eq_some_iff.1 ho).1
    rcases hrow.2 with ⟨hv, h0⟩ | ⟨g, cap, cur, hv, h1, hh, _⟩
    · omega
    · have hb : v.ownBlock = some g := by rw [hv]; rfl
      have := hrow.cells hb k (.string o.k) (by rw [List.getElem?_map, ho]; rfl)
      refine ⟨g, cap, by rw [hv, hnn], blk_lt hh, ?_⟩
      rw [add_at, Nat.zero_add] at this
      exact this)
  obtain ⟨ao, cap, hv⟩ : ∃ ao cap, v = .slice ao n cap := by
    rcases hrow.2 with ⟨hv, h0⟩ | ⟨g, cap, cur, hv, h1, hh, _⟩
    · exact ⟨none, 0, by rw [hv, ← hnn, h0]⟩
    · exact ⟨_, cap, by rw [hv, hnn]⟩
  subst hv
  have HN := hide hnn
  rw [hnn] at hn
  have Hb02 := hide b02
  clear hrow b2 hc hnn b02
  go_wp2
  go_loopw [17, 3] (fun i ov wr => ∃ (k : Nat), k ≤ n ∧ i = .int .i64 k ∧ Hid (OwnO 81 W2.heap.size wr ov (t.take k)) ∧ Below W2.heap.size W2 wr) (fun i _ _ => n - (intOf i).toNat)
  case atStart => exact ⟨0, by omega, rfl, hide (OwnO.nil _ _ _), Below.refl _ _⟩
  case round =>
    obtain ⟨k, hk, rfl, HOW, bel⟩ := hrel
    have sz := bel.size
    by_cases hlt : k < n
    · obtain ⟨o, ho⟩ : ∃ o, t[k]? = some o := ⟨t[k]'(by have := HN.out; omega), by rw [List.getElem?_eq_getElem]⟩
      have hlt' : (k : Int) < n := by omega
      obtain ⟨g, cq, hvx, hg, hcell⟩ := HROW.out k o ho
      simp only [Value.slice.injEq, true_and] at hvx
      obtain ⟨rfl, rfl⟩ := hvx
      have d0 := (bel.cell (p := ⟨g, k, none⟩) hg).trans hcell
      have Tr := HT2.out.below bel
      have hm := List.mem_of_getElem? ho
      obtain ⟨f1, f2⟩ := HF.out o hm
      obtain ⟨e1, e2⟩ := gv_mem Tr.up hm
      have hlk := look_tb Tr o.k (by unfold maxLen; omega) false
      rw [e1, e2] at hlk
      unfold env at hlk
      have pc := Tr.cell
      obtain ⟨W3, hW3, sz3, b3, B3⟩ := blk_step wr #[.string o.v, .bool o.p] 142
      have x0 := blk_cell B3 0 rfl
      have x1 := blk_cell B3 1 rfl
      obtain ⟨W4, hW4, sz4, b4, own4⟩ := ops_step 81 W3 #[.bool o.p, .string o.k, .string o.v] 1 [o] rfl rfl (by simp [maxLen])
      have b34 : Below wr.heap.size wr W4 := b3.trans (b4.mono (by omega))
      have b24 : Below W2.heap.size W2 W4 := bel.trans (b34.mono sz)
      have ownW := HOW.out.below b34
      have is4 := own4.is
      have hlen : ((t.take k).length + [o].length) * 40 ≤ 140737488355328 := by rw [List.length_take]; simp; omega
      have hz4 : W2.heap.size ≤ W4.heap.size := b24.size
      have HO := hide ho
      have HB24 := hide b24
      clear Tr e1 e2 ho hm B3 b3 b4 own4 b34 b24 hcell bel HOW
      simp only [if_false, Bool.false_eq_true] at hlk
      rw [sz3] at is4
      go_wp2_with (at_builtin; refine wpList_append_ops rfl (.tmp 27) (.tmp 34) 53 rfl 81 W2.heap.size Tryz.underlying53 Tryz.info81 _ (t.take k) rfl ownW _ [o] rfl is4 hlen hz4 ?_)
      rintro v' w' ho' hb' _
      have HO2 : Hid (OwnO 81 W2.heap.size w' v' (t.take (k + 1))) := hide (by
        obtain ⟨hk', hk2⟩ := List.getElem?_eq_some_iff.1 HO.out
        rw [List.take_succ_eq_append_getElem hk', hk2]
        exact ho')
      have HB2 := hide (HB24.out.trans hb')
      clear ho' hb' ownW is4 d0 hlk pc hW3 hW4
      go_wp2
      go_roundw
      case rel => exact ⟨k + 1, by omega, by go_num, HO2, HB2.out⟩
      case measure => simp [intOf]; omega
    · have hlt' : ¬ (k : Int) < n := by omega
      have HE : Hid (OwnO 81 W2.heap.size wr _ t) := hide (by
        have h1 := HOW.out
        rw [List.take_of_length_le (by have := HN.out; omega)] at h1
        exact h1)
      go_wp2
      go_ret
      exact ⟨_, rfl, HE.out.rebase (by omega), Hb02.out.trans (bel.mono (by omega))⟩

set_option maxHeartbeats 400000 in
theorem tops_no (v : Value) (w : World) (hm : Calls Tryz.prog 86 #[v] w fun E w' => E = .returned (.bool false) ∧ w = w') :
    Calls Tryz.prog 88 #[v] w fun E w' => E = .returned (.slice none 0 0) ∧ w = w' := by
  have HM := hide hm
  clear hm
  go_enter Tryz.func88, Tryz.ntmps88
  go_wp2_with fail
  refine HM.out.mono ?_
  rintro E w' ⟨rfl, rfl⟩
  go_wp2
  go_ret
  exact ⟨rfl, rfl⟩

/-- An iterator's block: the list that it goes over. -/
def SeqT (B base : Nat) (w : World) (t : List Ov) : Prop := base ≤ B ∧ ∃ v, w.heap[B]? = some (.cells #[v] 53 (0, 0)) ∧ OwnO 81 base w v t

theorem SeqT.below {B base : Nat} {w w' : World} {t : List Ov} (h : SeqT B base w t) (hb : Below w.heap.size w w') : SeqT B base w' t := by
  obtain ⟨h1, v, h2, h3⟩ := h
  exact ⟨h1, v, (hb.block B (blk_lt h2)).trans h2, h3.below hb⟩

theorem seqt_of {w W1 W2 : World} {v : Value} {t : List Ov} (ho : OwnO 81 w.heap.size W1 v t) (b1 : Below w.heap.size w W1) (hB : W2.heap[W1.heap.size]? = some (.cells #[v] 53 (0, 0))) (b2 : Below W1.heap.size W1 W2) : SeqT W1.heap.size w.heap.size W2 t ∧ Below w.heap.size w W2 :=
  ⟨⟨b1.size, v, hB, ho.below b2⟩, b1.trans (b2.mono b1.size)⟩

theorem tall_of (tv : Value) (w : World) (t : List Ov) (hm : Calls Tryz.prog 88 #[tv] w fun E w' => ∃ v, E = .returned v ∧ OwnO 81 w.heap.size w' v t ∧ Below w.heap.size w w') :
    Calls Tryz.prog 53 #[tv] w fun E w' => ∃ B, E = .returned (.func (.func 166) #[] #[.pointer (some ⟨B, 0, none⟩)]) ∧ SeqT B w.heap.size w' t ∧ Below w.heap.size w w' := by
  have HM := hide hm
  clear hm
  go_enter Tryz.func53, Tryz.ntmps53
  go_wp2_with fail
  refine HM.out.mono ?_
  rintro E W1 ⟨v, rfl, ho, b1⟩
  obtain ⟨W2, hW2, sz2, b2, B2⟩ := blk_step W1 #[v] 53
  have HE := hide (seqt_of ho b1 B2 b2)
  have HV : Hid (Calls Tryz.prog 116 #[v] W1 fun E w' => E = .returned (.func (.func 166) #[] #[.pointer (some ⟨W1.heap.size, 0, none⟩)]) ∧ W2 = w') := hide (by
    obtain ⟨ao, cap, hv, _, _⟩ := ho.is.shape
    subst hv
    clear HM HE ho b1 b2 B2
    go_enter Tryz.func116, Tryz.ntmps116
    go_wp2
    go_ret
    exact ⟨rfl, rfl⟩)
  clear ho b1 b2 B2 hW2
  go_wp2_with fail
  refine HV.out.mono ?_
  rintro E w' ⟨rfl, rfl⟩
  go_wp2
  go_ret
  exact ⟨_, rfl, HE.out⟩

theorem tlive_of (tv : Value) (w : World) (t : List Ov) (hm : Calls Tryz.prog 88 #[tv] w fun E w' => ∃ v, E = .returned v ∧ OwnO 81 w.heap.size w' v t ∧ Below w.heap.size w w') :
    Calls Tryz.prog 38 #[tv] w fun E w' => ∃ B, E = .returned (.func (.func 89) #[] #[.pointer (some ⟨B, 0, none⟩)]) ∧ SeqT B w.heap.size w' t ∧ Below w.heap.size w w' := by
  have HM := hide hm
  clear hm
  go_enter Tryz.func38, Tryz.ntmps38
  go_wp2_with fail
  refine HM.out.mono ?_
  rintro E W1 ⟨v, rfl, ho, b1⟩
  obtain ⟨ao, cap, hv, _, _⟩ := ho.is.shape
  subst hv
  obtain ⟨W2, hW2, sz2, b2, B2⟩ := blk_step W1 #[.slice ao t.length cap] 53
  have HE := hide (seqt_of ho b1 B2 b2)
  clear ho b1 b2 B2
  go_wp2
  go_ret
  exact ⟨_, rfl, HE.out⟩

end Go.Proofs.YthmecljkackmbaaGreat

/- Range over a function: places, what a round keeps; a body that never panics, round by round. -/
namespace Go.Proofs.YthmecljkackmbaaGreat
open Go.RowKit Go.Shelf
set_option linter.unusedVariables false

/-- A number's place. -/
abbrev Nx (L : Nat) := { i : Nat // i < L }

/-- The first k of them. -/
def upn (L : Nat) : Nat → List (Nx L)
  | 0 => []
  | k + 1 => upn L k ++ (if h : k < L then [⟨k, h⟩] else [])

theorem upn_next (L k : Nat) (h : k < L) : upn L (k + 1) = upn L k ++ [⟨k, h⟩] := by rw [upn, dif_pos h]

theorem upn_len (L : Nat) : ∀ k, k ≤ L → (upn L k).length = k
  | 0, _ => rfl
  | k + 1, h => by
    rw [upn_next L k (by omega), List.length_append, upn_len L k (by omega)]
    rfl

/-- What a round keeps. -/
def Kn (S : Nat → Prop) (W W' : World) : Prop := ∀ g, S g → W'.heap[g]? = W.heap[g]?

theorem Kn.trans {S : Nat → Prop} {A B C : World} (h : Kn S A B) (k : Kn S B C) : Kn S A C := fun g hg => (k g hg).trans (h g hg)

theorem kn_b {S : Nat → Prop} {w : World} (h : ∀ g, S g → g < w.heap.size) (W : World) (l : Nat) (o o' : Obj) (hl : w.heap.size ≤ l) (_ : W.heap[l]? = some o) (_ : o.isCells = false) (_ : o.isWalk = false) : Kn S W (W.putObj l o') :=
  fun g hg => World.putObj_heap_other (by have := h g hg; omega)

theorem cell_of_blk {W W' : World} {B : Nat} (h : W'.heap[B]? = W.heap[B]?) (j : Nat) : W'.cell? ⟨B, j, none⟩ = W.cell? ⟨B, j, none⟩ := World.cell?_of_block (show W'.heap[(⟨B, j, none⟩ : Addr).block]? = W.heap[(⟨B, j, none⟩ : Addr).block]? from h)

/-- What a function's body must come to, where it never panics. -/
def calmQ (Q : Exit → Act → World → Prop) : Exit → Act → World → Prop
  | .panic _, _, _ => False
  | e, a, w => Q e a w

theorem calm_wp {P : Program} {c : Code} {Q : Exit → Act → World → Prop} {a : Act} {w : World} (h : c.wp P (calmQ Q) a w) : c.wp P Q a w :=
  Go.wp_mono h fun e a w hq => by
    cases e <;> first | exact hq | exact hq.elim

/-- One round, the others hidden. -/
theorem rounds_cut {P : Program} {c : Code} {Q : Exit → Act → World → Prop} {n : Nat} {a : Act} {w : World} (h : ∀ R : Act → World → Prop, (∀ a w, Hid (Code.rounds P c Q n a w) → R a w) → c.wp P (Exit.then R Q) a w) : Code.rounds P c Q (n + 1) a w := by
  rw [rounds_succ]
  exact h _ fun a w h => h.out

end Go.Proofs.YthmecljkackmbaaGreat

/- What the iterators of All and Live yield. -/
namespace Go.Proofs.YthmecljkackmbaaGreat
open Go.RowKit Go.Maps Go.Shelf
open Bm (Ov)
set_option linter.unusedVariables false
attribute [local go_sem] Oper.semAt_some

/-- The op at a place. -/
def pt (t : List Ov) (x : Nx t.length) : Ov := t[x.1]'x.2
def pts (t : List Ov) (xs : List (Nx t.length)) : List Ov := xs.map (pt t)

theorem pts_len (t : List Ov) (xs : List (Nx t.length)) : (pts t xs).length = xs.length := by simp [pts]
theorem pts_snoc (t : List Ov) (xs : List (Nx t.length)) (x : Nx t.length) : pts t (xs ++ [x]) = pts t xs ++ [pt t x] := by simp [pts]

theorem pts_up (t : List Ov) : ∀ k, k ≤ t.length → pts t (upn t.length k) = t.take k
  | 0, _ => by simp [upn, pts]
  | k + 1, h => by
    rw [upn_next _ k (by omega), pts_snoc, pts_up t k (by omega), List.take_succ_eq_append_getElem (by omega)]
    rfl

theorem pts_all (t : List Ov) : pts t (upn t.length t.length) = t := by rw [pts_up t _ (Nat.le_refl _), List.take_length]

theorem kn_alloc {S : Nat → Prop} {w W : World} (hS : ∀ g, S g → g < w.heap.size) (h : Kn S w W) (o : Obj) : Kn S w (W.alloc o) := fun g hg => by
  have h1 := h g hg
  have h2 : g < W.heap.size := by
    have h3 := hS g hg
    rw [Array.getElem?_eq_getElem h3] at h1
    exact (Array.getElem?_eq_some_iff.1 h1).1
  exact (Below.heap_alloc W o g h2).trans h1

set_option maxRecDepth 100000 in
set_option maxHeartbeats 4000000 in
theorem vals_one (n : Nat) (hn : 1 ≤ n) (l B : Nat) (t : List Ov) (sv : Value) (S : Nat → Prop) (hSB : S B) (hSv : ∀ b, sv.ownBlock = some b → S b) (hLm : t.length ≤ 1000000) (J Jx : List (Nx t.length) → World → Prop) (W : World) (hSW : ∀ g, S g → g < W.heap.size) (hJ : AbidesFrom W.heap.size J)
    (hY : ∀ pre x W1, J pre W1 → pre.length < t.length → YieldAt Fence.wide (n - 1) Tryz.prog l #[ovv (pt t x)] W1 fun e W' => (e = .returned (.bool true) ∧ J (pre ++ [x]) W' ∧ Kn S W1 W') ∨ (e = .returned (.bool false) ∧ Jx (pre ++ [x]) W'))
    (hB : W.cell? ⟨B, 0, none⟩ = some sv) (his : IsO W sv t) (h0 : J [] W) :
    CallsIn Fence.wide n Tryz.prog 166 #[.func (.yield l) #[] #[], .pointer (some ⟨B, 0, none⟩)] W fun e W' => (∃ v, e = .returned v) ∧ ((∃ xs, xs = upn t.length t.length ∧ J xs W') ∨ (∃ pre, (∃ k, k ≤ t.length ∧ pre = upn t.length k) ∧ Jx pre W')) := by
  have hro : Fence.wide.round = none := rfl
  obtain ⟨ao, cap, hsv, hcap, hcm⟩ := his.shape
  have HFULL := hide fun (h0 : 0 < t.length) => his.full h0
  subst hsv
  have HSW := hide hSW
  have HJ0 := hide hJ
  have HY := hide hY
  clear his hSW hJ hY
  refine callsIn_of_wp Tryz.func166 rfl trivial ?_ hro
  simp only [Tryz.ntmps166, List.size_toArray, List.length_cons, List.length_nil, Nat.reduceAdd, Nat.reduceSub, Array.replicate_succ, Array.replicate_zero, List.push_toArray, List.append_toArray, List.nil_append, List.cons_append]
  gi_wp2
  gi_loopw [7] (fun iv wr => ∃ k : Nat, k ≤ t.length ∧ iv = .int .i64 k ∧ Hid (J (upn t.length k) wr) ∧ Kn S W wr) (fun iv _ => t.length - (intOf iv).toNat)
  case atStart => exact ⟨0, Nat.zero_le _, rfl, h0, fun _ _ => rfl⟩
  case round =>
    obtain ⟨k, hk, rfl, HJ, hK⟩ := hrel
    by_cases hlt : k < t.length
    · obtain ⟨b, off, cq, hvx, _, _, hb, hcell⟩ := HFULL.out (by omega)
      simp only [Value.slice.injEq, true_and] at hvx
      obtain ⟨rfl, rfl⟩ := hvx
      obtain ⟨o, ho⟩ : ∃ o, pt t ⟨k, hlt⟩ = o := ⟨_, rfl⟩
      have ho' : t[k]? = some o := by rw [List.getElem?_eq_getElem hlt, ← ho]; rfl
      obtain ⟨c0, c1, c2⟩ := hcell k o ho'
      have hkb := hK b (hSv b rfl)
      have d0 := (cell_of_blk hkb (off + k * 3)).trans c0
      have d1 := (cell_of_blk hkb (off + k * 3 + 1)).trans c1
      have d2 := (cell_of_blk hkb (off + k * 3 + 2)).trans c2
      obtain ⟨W1, hW1, sz1, bW1, B1⟩ := blk_step wr #[.bool o.p, .string o.k, .string o.v] 81
      have e0 : W1.cell? ⟨wr.heap.size, 0, none⟩ = some (.bool o.p) := blk_cell B1 0 rfl
      have e1 : W1.cell? ⟨wr.heap.size, 1, none⟩ = some (.string o.k) := blk_cell B1 1 rfl
      have e2 : W1.cell? ⟨wr.heap.size, 2, none⟩ = some (.string o.v) := blk_cell B1 2 rfl
      have HJ1 : J (upn t.length k) W1 := by
        rw [← hW1]
        exact HJ0.out _ _ _ none HJ.out (World.grownBy_alloc _ _ _) (fun r e => by cases e)
      have hK1 : Kn S W W1 := by rw [← hW1]; exact kn_alloc HSW.out hK _
      obtain ⟨fn, tmps, assign, body, hy, hR⟩ := HY.out _ ⟨k, hlt⟩ W1 HJ1 (by rw [upn_len _ k hk]; omega)
      rw [ho] at hy
      unfold ovv at hy
      have hlt' : (k : Int) < t.length := by omega
      have hk0 : (0 : Int) ≤ (k : Int) := by omega
      have HR := hide hR
      have HK := hide hK1
      clear hR hcell hSv B1 bW1 HJ1 hK hK1 c0 c1 c2 hkb ho ho'
      gi_wp2
      refine HR.out.mono ?_
      rintro e W3 (⟨rfl, hJ3, hk3⟩ | ⟨rfl, hJx3⟩)
      · have hJ4 : Hid (J (upn t.length (k + 1)) W3) := hide (by rw [upn_next _ k hlt]; exact hJ3)
        have hK4 := HK.out.trans hk3
        clear hJ3
        gi_wp2
        go_roundw
        case rel => exact ⟨k + 1, by omega, by go_num, hJ4, hK4⟩
        case measure => simp [intOf]; omega
      · have hJ4 : Hid (Jx (upn t.length (k + 1)) W3) := hide (by rw [upn_next _ k hlt]; exact hJx3)
        clear hJx3
        gi_wp2
        refine bodyPost_ret (results_none rfl _ _ _) rfl ?_
        exact ⟨⟨_, rfl⟩, .inr ⟨_, ⟨k + 1, by omega, rfl⟩, hJ4.out⟩⟩
    · have hlt' : ¬ (k : Int) < t.length := by omega
      obtain rfl : k = t.length := by omega
      gi_wp2
      go_end0
      exact ⟨⟨_, rfl⟩, .inl HJ.out⟩

/-- The blocks of an iterator. -/
def SeqTB (B : Nat) (w : World) (g : Nat) : Prop := g = B ∨ ∃ u, w.cell? ⟨B, 0, none⟩ = some u ∧ u.ownBlock = some g

theorem SeqT.lt {B base : Nat} {w : World} {t : List Ov} (h : SeqT B base w t) : ∀ g, SeqTB B w g → base ≤ g ∧ g < w.heap.size := by
  obtain ⟨hb, v, h1, h2⟩ := h
  rintro g (rfl | ⟨u, hu, hg⟩)
  · exact ⟨hb, blk_lt h1⟩
  · have c0 : w.cell? ⟨B, 0, none⟩ = some v := blk_cell h1 0 rfl
    rw [c0] at hu
    cases hu
    exact h2.block g hg

theorem vals_seq (n : Nat) (hn : 1 ≤ n) (B base : Nat) (t : List Ov) (w : World) (h : SeqT B base w t) (hLm : t.length ≤ 1000000) :
    SeqStopsK Fence.wide n Tryz.prog 166 #[.pointer (some ⟨B, 0, none⟩)] (fun x : Nx t.length => #[ovv (pt t x)]) (Kn (SeqTB B w)) (fun xs => xs = upn t.length t.length) (fun pre => ∃ k, k ≤ t.length ∧ pre = upn t.length k) t.length w := fun l J Jx W hW hJ hJx hY h0 => by
  have hlt := h.lt
  obtain ⟨hb, v, h1, h2⟩ := h
  have c0 := blk_cell h1 0 rfl
  refine vals_one n hn l B t v (SeqTB B w) (.inl rfl) (fun b hb => .inr ⟨v, c0, hb⟩) hLm J Jx W (fun g hg => Nat.lt_of_lt_of_le (hlt g hg).2 hW.size) hJ hY ((hW.cell (p := ⟨B, 0, none⟩) (blk_lt h1)).trans c0) (h2.is.below hW) h0

/-- How many of the first ones have a value. -/
def lvn (t : List Ov) (k : Nat) : Nat := (Tm.live (t.take k)).length

theorem live_app (a b : List Ov) : Tm.live (a ++ b) = Tm.live a ++ Tm.live b := by simp [Tm.live]

theorem lvn_all (t : List Ov) (k : Nat) (h : t.length ≤ k) : lvn t k = (Tm.live t).length := by unfold lvn; rw [List.take_of_length_le h]

theorem lvn_no {t : List Ov} {k : Nat} {o : Ov} (h : t[k]? = some o) (hp : o.p = false) : lvn t (k + 1) = lvn t k := by
  obtain ⟨h1, rfl⟩ := List.getElem?_eq_some_iff.1 h
  unfold lvn
  rw [List.take_succ_eq_append_getElem h1, live_app]
  simp [Tm.live, hp]

theorem lvn_yes {t : List Ov} {k : Nat} {o : Ov} (h : t[k]? = some o) (hp : o.p = true) : lvn t (k + 1) = lvn t k + 1 ∧ (Tm.live t)[lvn t k]? = some o := by
  obtain ⟨h1, rfl⟩ := List.getElem?_eq_some_iff.1 h
  have e1 : Tm.live [t[k]] = [t[k]] := by simp [Tm.live, hp]
  constructor
  · unfold lvn
    rw [List.take_succ_eq_append_getElem h1, live_app, List.length_append, e1]
    rfl
  · have e2 : Tm.live t = Tm.live (t.take k) ++ ([t[k]] ++ Tm.live (t.drop (k + 1))) := by
      rw [← e1, ← live_app, ← live_app]
      congr 1
      rw [List.singleton_append, ← List.drop_eq_getElem_cons h1, List.take_append_drop]
    unfold lvn
    rw [e2, List.getElem?_append_right (Nat.le_refl _), Nat.sub_self]
    rfl

theorem live_p (t : List Ov) (x : Nx (Tm.live t).length) : (pt (Tm.live t) x).p = true := by
  have : pt (Tm.live t) x ∈ Tm.live t := List.getElem_mem _
  exact (List.mem_filter.1 this).2

set_option maxRecDepth 100000 in
set_option maxHeartbeats 4000000 in
theorem lvs_one (n : Nat) (hn : 1 ≤ n) (l B : Nat) (t : List Ov) (L : Nat) (f : Nx L → Ov) (hf : ∀ (i : Nat) (h : i < L), (Tm.live t)[i]? = some (f ⟨i, h⟩)) (hL : (Tm.live t).length = L) (sv : Value) (S : Nat → Prop) (hSB : S B) (hSv : ∀ b, sv.ownBlock = some b → S b) (hLm : t.length ≤ 1000000) (J Jx : List (Nx L) → World → Prop) (W : World) (hSW : ∀ g, S g → g < W.heap.size) (hJ : AbidesFrom W.heap.size J)
    (hY : ∀ pre x W1, J pre W1 → pre.length < L → YieldAt Fence.wide (n - 1) Tryz.prog l #[.string (f x).k, .string (f x).v] W1 fun e W' => (e = .returned (.bool true) ∧ J (pre ++ [x]) W' ∧ Kn S W1 W') ∨ (e = .returned (.bool false) ∧ Jx (pre ++ [x]) W'))
    (hB : W.cell? ⟨B, 0, none⟩ = some sv) (his : IsO W sv t) (h0 : J [] W) :
    CallsIn Fence.wide n Tryz.prog 89 #[.func (.yield l) #[] #[], .pointer (some ⟨B, 0, none⟩)] W fun e W' => (∃ v, e = .returned v) ∧ ((∃ xs, xs = upn L L ∧ J xs W') ∨ (∃ pre, (∃ k, k ≤ L ∧ pre = upn L k) ∧ Jx pre W')) := by
  have hro : Fence.wide.round = none := rfl
  obtain ⟨ao, cap, hsv, hcap, hcm⟩ := his.shape
  have HFULL := hide fun (h0 : 0 < t.length) => his.full h0
  subst hsv
  have HSW := hide hSW
  have HJ0 := hide hJ
  have HY := hide hY
  have HFF := hide hf
  have HL := hide hL
  have hle : Hid (∀ k, lvn t k ≤ L) := hide fun k => by
    unfold lvn
    rw [← hL]
    exact (List.Sublist.filter Bm.Ov.p (List.take_sublist k t)).length_le
  clear his hSW hJ hY hf hL
  refine callsIn_of_wp Tryz.func89 rfl trivial ?_ hro
  simp only [Tryz.ntmps89, List.size_toArray, List.length_cons, List.length_nil, Nat.reduceAdd, Nat.reduceSub, Array.replicate_succ, Array.replicate_zero, List.push_toArray, List.append_toArray, List.nil_append, List.cons_append]
  gi_wp2
  gi_loopw [7] (fun iv wr => ∃ k : Nat, k ≤ t.length ∧ iv = .int .i64 k ∧ Hid (J (upn L (lvn t k)) wr) ∧ Kn S W wr) (fun iv _ => t.length - (intOf iv).toNat)
  case atStart => exact ⟨0, Nat.zero_le _, rfl, h0, fun _ _ => rfl⟩
  case round =>
    obtain ⟨k, hk, rfl, HJ, hK⟩ := hrel
    by_cases hlt : k < t.length
    · obtain ⟨b, off, cq, hvx, _, _, hb, hcell⟩ := HFULL.out (by omega)
      simp only [Value.slice.injEq, true_and] at hvx
      obtain ⟨rfl, rfl⟩ := hvx
      obtain ⟨o, ho⟩ : ∃ o, t[k]? = some o := ⟨t[k], List.getElem?_eq_getElem hlt⟩
      obtain ⟨c0, c1, c2⟩ := hcell k o ho
      have hkb := hK b (hSv b rfl)
      have d0 := (cell_of_blk hkb (off + k * 3)).trans c0
      have d1 := (cell_of_blk hkb (off + k * 3 + 1)).trans c1
      have d2 := (cell_of_blk hkb (off + k * 3 + 2)).trans c2
      obtain ⟨W1, hW1, sz1, bW1, B1⟩ := blk_step wr #[.bool o.p, .string o.k, .string o.v] 81
      have e0 : W1.cell? ⟨wr.heap.size, 0, none⟩ = some (.bool o.p) := blk_cell B1 0 rfl
      have e1 : W1.cell? ⟨wr.heap.size, 1, none⟩ = some (.string o.k) := blk_cell B1 1 rfl
      have e2 : W1.cell? ⟨wr.heap.size, 2, none⟩ = some (.string o.v) := blk_cell B1 2 rfl
      have HJ1 : J (upn L (lvn t k)) W1 := by
        rw [← hW1]
        exact HJ0.out _ _ _ none HJ.out (World.grownBy_alloc _ _ _) (fun r e => by cases e)
      have hK1 : Kn S W W1 := by rw [← hW1]; exact kn_alloc HSW.out hK _
      have hlt' : (k : Int) < t.length := by omega
      have hk0 : (0 : Int) ≤ (k : Int) := by omega
      have HK := hide hK1
      cases hp : o.p with
      | false =>
        have HJ2 : Hid (J (upn L (lvn t (k + 1))) W1) := hide (by rw [lvn_no ho hp]; exact HJ1)
        rw [hp] at d0 e0 hW1
        clear hcell hSv B1 bW1 HJ1 hK hK1 c0 c1 c2 hkb ho hp
        gi_wp2
        refine ⟨(fun _ e => by cases e), ?_⟩
        gi_wp2
        go_roundw
        case rel => exact ⟨k + 1, by omega, by go_num, HJ2, HK.out⟩
        case measure => simp [intOf]; omega
      | true =>
        obtain ⟨y1, y2⟩ := lvn_yes ho hp
        have hj : lvn t k < L := by
          have := hle.out (k + 1)
          omega
        have hy3 : f ⟨lvn t k, hj⟩ = o := by
          have := HFF.out _ hj
          rw [y2] at this
          exact (Option.some.inj this).symm
        obtain ⟨fn, tmps, assign, body, hy, hR⟩ := HY.out _ ⟨lvn t k, hj⟩ W1 HJ1 (by rw [upn_len _ _ (Nat.le_of_lt hj)]; exact hj)
        rw [hy3] at hy
        rw [hp] at d0 e0 hW1
        have HR := hide hR
        have HY1 := hide y1
        have HJL := hide hj
        clear hcell hSv B1 bW1 HJ1 hK hK1 c0 c1 c2 hkb ho hp hR hy3 y1 y2
        gi_wp2
        refine HR.out.mono ?_
        rintro e W3 (⟨rfl, hJ3, hk3⟩ | ⟨rfl, hJx3⟩)
        · have hJ4 : Hid (J (upn L (lvn t (k + 1))) W3) := hide (by rw [HY1.out, upn_next _ _ HJL.out]; exact hJ3)
          have hK4 := HK.out.trans hk3
          clear hJ3
          gi_wp2
          go_roundw
          case rel => exact ⟨k + 1, by omega, by go_num, hJ4, hK4⟩
          case measure => simp [intOf]; omega
        · have hJ4 : Hid (Jx (upn L (lvn t (k + 1))) W3) := hide (by rw [HY1.out, upn_next _ _ HJL.out]; exact hJx3)
          clear hJx3
          gi_wp2
          refine bodyPost_ret (results_none rfl _ _ _) rfl ?_
          exact ⟨⟨_, rfl⟩, .inr ⟨_, ⟨lvn t (k + 1), hle.out _, rfl⟩, hJ4.out⟩⟩
    · have hlt' : ¬ (k : Int) < t.length := by omega
      obtain rfl : k = t.length := by omega
      have HJ2 : Hid (J (upn L L) wr) := hide (by
        have := HJ.out
        rw [lvn_all t _ (Nat.le_refl _), HL.out] at this
        exact this)
      clear HJ
      gi_wp2
      go_end0
      exact ⟨⟨_, rfl⟩, .inl HJ2.out⟩

theorem lvs_seq (n : Nat) (hn : 1 ≤ n) (B base : Nat) (t : List Ov) (w : World) (h : SeqT B base w t) (hLm : t.length ≤ 1000000) :
    SeqStopsK Fence.wide n Tryz.prog 89 #[.pointer (some ⟨B, 0, none⟩)] (fun x : Nx (Tm.live t).length => #[.string (pt (Tm.live t) x).k, .string (pt (Tm.live t) x).v]) (Kn (SeqTB B w)) (fun xs => xs = upn (Tm.live t).length (Tm.live t).length) (fun pre => ∃ k, k ≤ (Tm.live t).length ∧ pre = upn (Tm.live t).length k) (Tm.live t).length w := fun l J Jx W hW hJ hJx hY h0 => by
  have hlt := h.lt
  obtain ⟨hb, v, h1, h2⟩ := h
  have c0 := blk_cell h1 0 rfl
  refine lvs_one n hn l B t (Tm.live t).length (pt (Tm.live t)) (fun i h => List.getElem?_eq_getElem h) rfl v (SeqTB B w) (.inl rfl) (fun b hb => .inr ⟨v, c0, hb⟩) hLm J Jx W (fun g hg => Nat.lt_of_lt_of_le (hlt g hg).2 hW.size) hJ hY ((hW.cell (p := ⟨B, 0, none⟩) (blk_lt h1)).trans c0) (h2.is.below hW) h0

end Go.Proofs.YthmecljkackmbaaGreat

/- The statement's own: what a table goes over, as a list (all). -/
namespace Go.Proofs.YthmecljkackmbaaGreat
open Go.RowKit Go.Maps Go.Shelf
open Bm (Ov)
set_option linter.unusedVariables false
attribute [local go_sem] Oper.semAt_some

/-- 'append(out, o)' of ops inside a round: out nil or the call's own. -/
theorem wpListIn_append_ops {F : Fence} {nf : Nat} {P : Program} {w : World} {ops : Array Oper} {rest : List Oper} {o : Oper} {a : Act} {Q : Exit → Act → World → Prop} (hgd : o.guard = none) (s x : Operand) (t : TypeId)
    (ho : o.op = .call { callee := .builtin .append, args := #[s, x], argTypes := #[t, t] })
    (e : TypeId) (base : Nat) (ht : P.underlying t = some (.slice e)) (hinfo : (P.info? e).map (fun i => (i.zero, i.size, i.bytes)) = some (some (.agg #[.bool false, .string ⟨#[]⟩, .string ⟨#[]⟩]), 3, 40))
    (v : Value) (l : List Ov) (hs : a.eval s = v) (hown : OwnO e base w v l) (ad : Addr) (m : List Ov) (c : Nat) (hx : a.eval x = .slice (some ad) m.length c) (hc : ∀ j u, (ocells m)[j]? = some u → w.cell? (ad.add j) = some u)
    (hlen : (l.length + m.length) * 40 ≤ 140737488355328) (hbase : base ≤ w.heap.size)
    (h : ∀ v' w', OwnO e base w' v' (l ++ m) → Below base w w' → w.grownBy w' v.ownBlock → wpListIn F nf P ops Q rest (a.put o.dst v') w') : wpListIn F nf P ops Q (o :: rest) a w := by
  obtain ⟨i, hi, hz, hsize, hb⟩ := info_parts hinfo
  have hn : l.length + m.length ≤ 140737488355328 := by omega
  refine wpListIn_append_own w hgd s x t ho base e i _ 3 40 ht hi hz hsize hb rfl (by decide) v l.length _ hs hown ad m.length c (ocells m) hx (ocells_len m) hc (ocells_cell m) (by unfold maxLen; omega) hlen hbase ?_
  intro v' w' ho' hg _
  refine h v' w' (by unfold OwnO; rw [ocells_app, List.length_append]; exact ho') ((Below.refl _ _).grown hg hbase fun k' hk => ?_) hg
  exact (World.ownsRow.lt hown k' hk).1

theorem OwnO.cel {e base : Nat} {w : World} {v : Value} {l : List Ov} (h : OwnO e base w v l) {g : Nat} (hg : v.ownBlock = some g) : ∃ cs fr, w.heap[g]? = some (.cells cs e fr) := by
  rcases h.2 with ⟨hv, _⟩ | ⟨g', cap, cur, hv, h1, hh, _⟩
  · rw [hv] at hg; cases hg
  · rw [hv] at hg
    cases hg
    exact ⟨_, _, hh⟩

/-- Between two rounds: the list's variable, its list, what else stays. -/
def RI (ob : Nat) (W3 : World) (l : List Ov) (W : World) : Prop := ∃ v, W.heap[ob]? = some (.cells #[v] 53 (0, 0)) ∧ OwnO 81 W3.heap.size W v l ∧ Out (fun g => g = ob) W3 W

theorem RI.grown {ob : Nat} {W3 W W' : World} {l : List Ov} {row : Option Nat} (hob : ob < W3.heap.size) (h : RI ob W3 l W) (hg : W.grownBy W' row) (hr : ∀ r, row = some r → W3.heap.size ≤ r ∧ ∃ o : Obj, W.heap[r]? = some o ∧ o.isCells = false) : RI ob W3 l W' := by
  obtain ⟨v, h1, h2, h3⟩ := h
  refine ⟨v, (hg.block ob (blk_lt h1) fun e => by have := (hr _ e.symm).1; omega).trans h1, h2.kept hg ?_, h3.trans (Out.of_grown (F := fun g => row = some g) hg fun g h => h) fun g h => .inr (hr g h).1⟩
  cases hv : v.ownBlock with
  | none => exact .inl rfl
  | some g =>
    refine .inr fun e => ?_
    obtain ⟨cs, fr, h4⟩ := h2.cel hv
    obtain ⟨_, o, h5, h6⟩ := hr g e.symm
    rw [h4] at h5
    cases h5
    simp [Obj.isCells] at h6

/-- A round that gathers one. -/
theorem RI.app {ob : Nat} {W3 W W1 W2 : World} {l' : List Ov} {v v' : Value} (hob : ob < W3.heap.size) (hW3 : W3.heap.size ≤ W.heap.size) (h1 : W.heap[ob]? = some (.cells #[v] 53 (0, 0))) (h3 : Out (fun g => g = ob) W3 W) (b1 : Below W.heap.size W W1) (ho : OwnO 81 W3.heap.size W2 v' l') (b2 : Below W3.heap.size W1 W2) :
    RI ob W3 l' (W2.setCell ⟨ob, 0, none⟩ v') ∧ W2.heap[ob]? = some (.cells #[v] 53 (0, 0)) := by
  have h4 := (b2.block ob hob).trans ((b1.block ob (by omega)).trans h1)
  refine ⟨⟨v', by rw [set_cells h4]; simp, ?_, ?_⟩, h4⟩
  · refine ho.kept (grown_setCell W2 ⟨ob, 0, none⟩ v') ?_
    cases hv : v'.ownBlock with
    | none => exact .inl rfl
    | some g =>
      refine .inr fun e => ?_
      have := (ho.block g hv).1
      simp at e
      omega
  · have q1 : Out (fun g => g = ob) W3 W1 := h3.trans (Out.of_below (F := fun g => g = ob) b1) fun g hg => .inl hg
    have q2 : Out (fun g => g = ob) W3 W2 := ⟨b2.os.trans q1.os, b2.tape.trans q1.tape, b2.output.trans q1.output, Nat.le_trans q1.size b2.size, fun g hg hn => (b2.block g hg).trans (q1.block g hg hn)⟩
    exact q2.trans (Out.of_grown (F := fun g => g = ob) (grown_setCell W2 ⟨ob, 0, none⟩ v') fun g hg => by simpa using hg.symm) fun g hg => .inl hg

theorem below_ko {base : Nat} {W W' : World} (h : Below base W W') (hs : ∀ g, base ≤ g → g < W.heap.size → ∃ cs t fr, W.heap[g]? = some (.cells cs t fr)) : KeepsOthers W W' := ⟨h.size, fun k o hk ho => by
  by_cases hb : k < base
  · exact (h.block k hb).trans hk
  · obtain ⟨cs, t, fr, h1⟩ := hs k (by omega) (blk_lt hk)
    rw [hk] at h1
    cases h1
    simp [Obj.isCells] at ho⟩

theorem grown_ko {W W' : World} {row : Option Nat} (h : W.grownBy W' row) (hr : ∀ g, row = some g → ∃ cs t fr, W.heap[g]? = some (.cells cs t fr)) : KeepsOthers W W' := ⟨h.size, fun k o hk ho => (h.block k (blk_lt hk) fun e => by
  obtain ⟨cs, t, fr, h1⟩ := hr k e.symm
  rw [hk] at h1
  cases h1
  simp [Obj.isCells] at ho).trans hk⟩

/-- The rounds' deferred calls are taken. -/
theorem fin_put {w W : World} {D : Nat} {v : Value} {l : List Ov} (h : OwnO 81 w.heap.size W v l ∧ Below w.heap.size w W) (hD : w.heap.size ≤ D) (hK : W.heap[D]? = some (.deferred (some []))) : OwnO 81 w.heap.size (W.putObj D (.deferred none)) v l ∧ Below w.heap.size w (W.putObj D (.deferred none)) := by
  refine ⟨h.1.kept (grownBy_putObj' W D (.deferred none)) ?_, h.2.grown (grownBy_putObj' W D (.deferred none)) h.2.size fun k hk => by cases hk; exact hD⟩
  cases hv : v.ownBlock with
  | none => exact .inl rfl
  | some g =>
    refine .inr fun e => ?_
    cases e
    obtain ⟨cs, fr, h4⟩ := h.1.cel hv
    rw [hK] at h4
    cases h4

end Go.Proofs.YthmecljkackmbaaGreat
