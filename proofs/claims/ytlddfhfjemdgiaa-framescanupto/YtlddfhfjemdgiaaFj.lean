/- frame.Each: the iterator, and what it yields. -/
import Derived.Test.YtlddfhfjemdgiaaFg
import Derived.Test.YtlddfhfjemdgiaaRgw
namespace Go.Proofs.Ytlddfhfjemdgiaa
open Go.RowKit Go.Shelf
set_option linter.unusedVariables false
attribute [local go_sem] Oper.semAt_some

/-- The iterator's block: it holds the records. -/
def SeqE (B base : Nat) (w : World) (r : List Bw) : Prop := base ≤ B ∧ ∃ v, w.heap[B]? = some (.cells #[v] 26 (0, 0)) ∧ OwnB base w v r

theorem SeqE.below {B base : Nat} {w w' : World} {r : List Bw} (h : SeqE B base w r) (hb : Below w.heap.size w w') : SeqE B base w' r := by
  obtain ⟨h1, v, h2, h3⟩ := h
  exact ⟨h1, v, (hb.block B (blk_lt h2)).trans h2, h3.below hb⟩

/-- Its blocks. -/
def SeqEB (B : Nat) (w : World) (r : List Bw) (g : Nat) : Prop := g = B ∨ (∃ u, w.cell? ⟨B, 0, none⟩ = some u ∧ u.ownBlock = some g) ∨ ∃ a ∈ r, a.v.ownBlock = some g

theorem SeqE.lt {B base : Nat} {w : World} {r : List Bw} (h : SeqE B base w r) : ∀ g, SeqEB B w r g → base ≤ g ∧ g < w.heap.size := by
  obtain ⟨hb, v, h1, h2⟩ := h
  rintro g (rfl | ⟨u, hu, hg⟩ | ⟨a, ha, hg⟩)
  · exact ⟨hb, blk_lt h1⟩
  · have c0 : w.cell? ⟨B, 0, none⟩ = some v := blk_cell h1 0 rfl
    rw [c0] at hu
    cases hu
    exact h2.row.lt g hg
  · exact (h2.own a ha).block g hg

theorem kn_below {S : Nat → Prop} {w W W2 : World} (hS : ∀ g, S g → g < w.heap.size) (h : Kn S w W) (b : Below W.heap.size W W2) : Kn S w W2 := fun g hg => by
  have h1 := h g hg
  have h2 : g < W.heap.size := by
    have h3 := hS g hg
    rw [Array.getElem?_eq_getElem h3] at h1
    exact (Array.getElem?_eq_some_iff.1 h1).1
  exact (b.block g h2).trans h1

set_option maxHeartbeats 1000000 in
theorem each_any (vb : Value) (bs : List Int) (w : World) (hb : Is .u8 w vb bs) (hl : bs.length ≤ 5000000000000) :
    Calls Try.prog 22 #[vb] w fun E w' => ∃ (B : Nat) (r : List Bw), E = .returned (.func (.func 32) #[] #[.pointer (some ⟨B, 0, none⟩)]) ∧ SeqE B w.heap.size w' r ∧ Below w.heap.size w w' ∧ Hid (Fm.Sc bs (lsts r)) := by
  have C1 := hide (scan_any vb bs w hb hl)
  clear hb
  go_enter Try.func22, Try.ntmps22
  go_wp2_with fail
  refine C1.out.mono ?_
  rintro E w1 ⟨v1, r, rfl, ob1, bel1, SC⟩
  obtain ⟨o1, c1, hv1, _, _⟩ := ob1.is.1.shape
  obtain ⟨W, hW, szW, belW, BW⟩ := blk_step w1 #[.slice none 0 0] 26
  have k0 : W.cell? ⟨w1.heap.size, 0, none⟩ = some (.slice none 0 0) := blk_cell BW 0 rfl
  have k1 := blk_froz BW 0
  have e1 := set_cells BW 0 v1
  have s1 := bel1.size
  have OB : Hid (SeqE w1.heap.size w.heap.size (W.setCell ⟨w1.heap.size, 0, none⟩ v1) r ∧ Below w.heap.size w (W.setCell ⟨w1.heap.size, 0, none⟩ v1)) := hide (by
    have b2 : Below w1.heap.size w1 (W.setCell ⟨w1.heap.size, 0, none⟩ v1) := belW.setCell (p := ⟨w1.heap.size, 0, none⟩) (Nat.le_refl _) _
    exact ⟨⟨s1, v1, by rw [e1]; rfl, ob1.below b2⟩, bel1.trans (b2.mono s1)⟩)
  rw [hv1] at OB
  subst hv1
  clear C1 ob1 bel1 belW BW e1
  go_wp2
  go_ret
  exact ⟨_, r, rfl, OB.out.1, OB.out.2, SC⟩

/-- What is yielded: which one, its value. -/
abbrev Yd := Nat × Value

/-- The place of the k-th frame. -/
def plk (r : List Bw) (k : Nat) : Nat := (Fm.cat ((lsts r).take k)).length

def ydc (r : List Bw) (x : Yd) : Array Value := #[.int .i64 (plk r x.1 : Nat), x.2]

def YdG (r : List Bw) (pre : List Yd) (x : Yd) (W : World) : Prop := x.1 = pre.length ∧ ∃ a, r[x.1]? = some a ∧ Is .u8 W x.2 a.l

theorem plk_next {r : List Bw} {k : Nat} {a : Bw} (h : r[k]? = some a) : plk r (k + 1) = plk r k + (Vm.sz a.l.length + a.l.length) := by
  have h1 : (lsts r)[k]? = some a.l := by unfold lsts; rw [List.getElem?_map, h]; rfl
  obtain ⟨h2, h3⟩ := List.getElem?_eq_some_iff.1 h1
  unfold plk
  rw [List.take_succ_eq_append_getElem h2, Fm.cat_app, Fm.cat_one, List.length_append, h3, Fm.frm_len]

theorem plk_le (r : List Bw) (k : Nat) : plk r k ≤ (Fm.cat (lsts r)).length := Fm.cat_take_le _ _

set_option maxRecDepth 100000 in
set_option maxHeartbeats 4000000 in
theorem each_one (n : Nat) (hn : 3 ≤ n) (l B : Nat) (r : List Bw) (sv : Value) (base : Nat) (S : Nat → Prop) (hSB : S B) (hSv : ∀ b, sv.ownBlock = some b → S b) (hSr : ∀ a ∈ r, ∀ b, a.v.ownBlock = some b → S b) (hLm : (Fm.cat (lsts r)).length ≤ 5000000000000) (hLr : ∀ a ∈ r, a.l.length ≤ 131072)
    (J Jx : List Yd → World → Prop) (W : World) (hSW : ∀ g, S g → g < W.heap.size) (hJ : AbidesFrom W.heap.size J)
    (hY : ∀ pre x W1, J pre W1 → YdG r pre x W1 → YieldAt Fence.wide (n - 1) Try.prog l (ydc r x) W1 fun e W' => (e = .returned (.bool true) ∧ J (pre ++ [x]) W' ∧ Kn S W1 W') ∨ (e = .returned (.bool false) ∧ Jx (pre ++ [x]) W'))
    (hB : W.cell? ⟨B, 0, none⟩ = some sv) (his : OwnB base W sv r) (h0 : J [] W) :
    CallsIn Fence.wide n Try.prog 32 #[.func (.yield l) #[] #[], .pointer (some ⟨B, 0, none⟩)] W fun e W' => (∃ v, e = .returned v) ∧ ((∃ xs : List Yd, xs.length = r.length ∧ J xs W') ∨ (∃ pre, True ∧ Jx pre W')) := by
  have hro : Fence.wide.round = none := rfl
  obtain ⟨ao, cap, hsv, hcap, hcm⟩ := his.is.1.shape
  have HFULL := hide fun (h0 : 0 < r.length) => his.is.full h0
  have hrl : r.length ≤ 5000000000000 := by
    have := Fm.cat_len (lsts r)
    rw [lsts_len] at this
    omega
  subst hsv
  have HSW := hide hSW
  have HJ0 := hide hJ
  have HY := hide hY
  have HIS := hide his
  have HSR := hide hSr
  clear his hSW hJ hY hSr
  refine callsIn_of_wp Try.func32 rfl trivial ?_ hro
  simp only [Try.ntmps32, List.size_toArray, List.length_cons, List.length_nil, Nat.reduceAdd, Nat.reduceSub, Array.replicate_succ, Array.replicate_zero, List.push_toArray, List.append_toArray, List.nil_append, List.cons_append]
  gi_wp2
  gi_loopw [3, 8] (fun av iv wr => ∃ k : Nat, k ≤ r.length ∧ iv = .int .i64 k ∧ av = .int .i64 (plk r k : Nat) ∧ Hid (∃ pre : List Yd, pre.length = k ∧ J pre wr) ∧ Hid (Kn S W wr)) (fun _ iv _ => r.length - (intOf iv).toNat)
  case atStart => exact ⟨0, Nat.zero_le _, rfl, rfl, hide ⟨[], rfl, h0⟩, hide fun _ _ => rfl⟩
  case round =>
    obtain ⟨k, hk, rfl, rfl, HJ, hK⟩ := hrel
    by_cases hlt : k < r.length
    · obtain ⟨b, off, cq, hvx, _, _, hb, hcell⟩ := HFULL.out (by omega)
      simp only [Value.slice.injEq, true_and] at hvx
      obtain ⟨rfl, rfl⟩ := hvx
      obtain ⟨a, ha⟩ : ∃ a, r[k]? = some a := ⟨r[k], List.getElem?_eq_getElem hlt⟩
      have c0 := hcell k a ha
      have hkb := hK.out b (hSv b rfl)
      have d0 := (cell_of_blk hkb (off + k)).trans c0
      have ham := List.mem_of_getElem? ha
      have owna : ∀ V, Kn S W V → Is .u8 V a.v a.l := fun V hV => ((HIS.out.own a ham).agree fun b hb => hV b (HSR.out a ham b hb)).is
      have OA := hide owna
      have la := hLr a ham
      have PN := hide (plk_next ha)
      have PL := plk_le r (k + 1)
      have C1 := hide (bclone_any a.v a.l wr (owna wr hK.out) (by omega))
      have HA := hide ha
      have hlt' : (k : Int) < r.length := by omega
      have hk0 : (0 : Int) ≤ (k : Int) := by omega
      clear hcell c0 hkb owna ha ham
      gi_wp2_with fail
      refine ⟨trivial, fun _ => by omega, (callsIn_wide.2 C1.out).mono ?_⟩
      rintro E W2 ⟨v2, rfl, own2, bel2⟩
      obtain ⟨pre, hpl, hJp⟩ := HJ.out
      have hJ2 := HJ0.out _ _ _ none hJp (grown_of_below bel2 none) (fun r e => by cases e)
      have hK2 := hide (kn_below HSW.out hK.out bel2)
      obtain ⟨fn, tmps, assign, body, hy, hR⟩ := HY.out pre (k, v2) W2 hJ2 ⟨hpl.symm, a, HA.out, own2.is⟩
      unfold ydc at hy
      have HR := hide hR
      have HPL := hide hpl
      clear hR C1 own2 bel2 hJp hJ2 hpl d0
      gi_wp2
      refine ⟨fun _ => by omega, HR.out.mono ?_⟩
      rintro e W3 (⟨rfl, hJ3, hk3⟩ | ⟨rfl, hJx3⟩)
      · have hK3 := hide (hK2.out.trans hk3)
        have hJ4 : Hid (∃ pre : List Yd, pre.length = k + 1 ∧ J pre W3) := hide ⟨_, by rw [List.length_append, HPL.out]; rfl, hJ3⟩
        have C3 := hide (fsize_any a.v a.l W3 (OA.out W3 hK3.out) (by omega))
        have sm : IntKind.i64.wrap ((plk r k : Int) + ((Vm.sz a.l.length + a.l.length : Nat) : Int)) = (plk r k : Int) + ((Vm.sz a.l.length + a.l.length : Nat) : Int) := wrap_i64_small _ (by omega) (by have := PN.out; omega)
        have pn : ((plk r (k + 1) : Nat) : Int) = (plk r k : Int) + ((Vm.sz a.l.length + a.l.length : Nat) : Int) := by have := PN.out; omega
        generalize Vm.sz a.l.length + a.l.length = fz at *
        clear hJ3 hk3 HR
        gi_wp2_with fail
        refine ⟨trivial, fun _ => by omega, (callsIn_wide.2 C3.out).mono ?_⟩
        rintro E W4 ⟨rfl, rfl⟩
        clear C3
        gi_wp2
        go_roundw
        case rel => exact ⟨k + 1, by omega, by go_num, by rw [pn], hJ4, hK3⟩
        case measure => simp [intOf]; omega
      · have hJ4 : Hid (Jx (pre ++ [(k, v2)]) W3) := hide hJx3
        clear hJx3 HR
        gi_wp2
        refine bodyPost_ret (results_none rfl _ _ _) rfl ?_
        exact ⟨⟨_, rfl⟩, .inr ⟨_, trivial, hJ4.out⟩⟩
    · have hlt' : ¬ (k : Int) < r.length := by omega
      obtain rfl : k = r.length := by omega
      gi_wp2
      go_end0
      exact ⟨⟨_, rfl⟩, .inl HJ.out⟩

theorem each_seq (n : Nat) (hn : 3 ≤ n) (B base : Nat) (r : List Bw) (w : World) (h : SeqE B base w r) (hLm : (Fm.cat (lsts r)).length ≤ 5000000000000) (hLr : ∀ a ∈ r, a.l.length ≤ 131072) :
    SeqG n Try.prog 32 #[.pointer (some ⟨B, 0, none⟩)] (ydc r) (YdG r) (Kn (SeqEB B w r)) (fun xs => xs.length = r.length) (fun _ => True) w := fun l J Jx W hW hJ hY h0 => by
  have hlt := h.lt
  obtain ⟨hb, v, h1, h2⟩ := h
  have c0 := blk_cell h1 0 rfl
  exact each_one n hn l B r v base (SeqEB B w r) (.inl rfl) (fun b hb => .inr (.inl ⟨v, c0, hb⟩)) (fun a ha b hb => .inr (.inr ⟨a, ha, hb⟩)) hLm hLr J Jx W (fun g hg => Nat.lt_of_lt_of_le (hlt g hg).2 hW.size) hJ hY ((hW.cell (p := ⟨B, 0, none⟩) (blk_lt h1)).trans c0) (h2.below hW) h0

end Go.Proofs.Ytlddfhfjemdgiaa
