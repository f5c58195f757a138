/- Texts of one layer, one behind the other. -/
import Derived.Test.YtmmfakpphjjjfaaGreatG11
import Derived.Lib.Bytealg
import Derived.Test.YtmmfakpphjjjfaaGreatRg
import Derived.Test.YtmmfakpphjjjfaaGreatG18
import Derived.OrdersIn
import Derived.Test.YtmmfakpphjjjfaaGreatProg
/- strings.Compare, the comparison of a key, and slices.BinarySearchFunc of ops. -/
namespace Go.Proofs.YtmmfakpphjjjfaaGreat
open Go.RowKit
open Bm (Ov)
set_option linter.unusedVariables false

theorem cmp_neg : ∀ (a b : List UInt8), (Lib.compareBytes a b < 0) = (Op.bytesLess a b = true) ∧ (Lib.compareBytes a b = 0 ↔ a = b)
 | [], [] => by simp [Lib.compareBytes, Op.bytesLess]
 | [], y :: b => by simp [Lib.compareBytes, Op.bytesLess]
 | x :: a, [] => by simp [Lib.compareBytes, Op.bytesLess]
 | x :: a, y :: b => by
  obtain ⟨h1, h2⟩ := cmp_neg a b
  unfold Lib.compareBytes Op.bytesLess
  by_cases h : x < y
  ·rw [if_pos h]
   have hne : x ≠ y := fun e => by subst e; exact absurd h (UInt8.lt_irrefl x)
   simp [h, hne]
  ·rw [if_neg h]
   by_cases h' : y < x
   ·rw [if_pos h']
    have hne : x ≠ y := fun e => by subst e; exact absurd h' (UInt8.lt_irrefl x)
    simp [h, hne]
   ·rw [if_neg h']
    have he : x = y := by
     rcases UInt8.lt_or_lt_of_ne (a := x) (b := y) |> fun f => Classical.em (x = y) with e | e
     ·exact e
     ·rcases UInt8.lt_or_lt_of_ne e with e | e
      ·exact absurd e h
      ·exact absurd e h'
    subst he
    rw [h1]
    simp [h2]

def kcm (a b : ByteArray) : Int := Lib.compareBytes a.data.toList b.data.toList

theorem kcm_neg (a b : ByteArray) : kcm a b < 0 ↔ Tm.lt a b = true := by
 unfold kcm Tm.lt
 rw [(cmp_neg _ _).1, Tm.less_before]

theorem kcm_zero (a b : ByteArray) : kcm a b = 0 ↔ a = b := by
 unfold kcm
 rw [(cmp_neg _ _).2]
 exact ⟨Bm.ba_eq, fun e => by rw [e]⟩

set_option maxHeartbeats 1000000 in
set_option maxRecDepth 100000 in
theorem cmpB_any (a b : ByteArray) (w : World) : Calls Tryz.prog 177 #[.string a, .string b] w fun E w' => E = .returned (.int .i64 (kcm a b)) ∧ w = w' := by
 unfold kcm
 go_enter Tryz.func177, Tryz.ntmps177
 go_wp2
 rw [run_callFunc_extern Tryz.func186 (by kernel_rfl) (by kernel_rfl) (by kernel_rfl) (e := Extern.BytealgCompare.compare) (by kernel_rfl), Lib.run_compareString]
 simp only [Result.andThen]
 rw [Oper.upon_value]
 go_wp2
 go_ret
 exact ⟨rfl, rfl⟩

theorem cmpS_any (a b : ByteArray) (w : World) : Calls Tryz.prog 165 #[.string a, .string b] w fun E w' => E = .returned (.int .i64 (kcm a b)) ∧ w = w' := by
 go_enter Tryz.func165, Tryz.ntmps165
 go_wp2_with fail
 refine (cmpB_any a b w).mono ?_
 rintro E w' ⟨rfl, rfl⟩
 go_wp2
 go_ret
 exact ⟨rfl, rfl⟩

theorem against_any (p : Bool) (k v key : ByteArray) (w : World) : Calls Tryz.prog 146 #[.agg #[.bool p, .string k, .string v], .string key] w fun E w' => E = .returned (.int .i64 (kcm k key)) ∧ Below w.heap.size w w' := by
 obtain ⟨w1, hw1, sz1, bel1, hB⟩ := blk_step w #[.bool p, .string k, .string v] 65
 have c1 := blk_cell hB 1 rfl
 clear hB
 go_enter Tryz.func146, Tryz.ntmps146
 go_wp2_with fail
 refine (cmpS_any k key _).mono ?_
 rintro E w' ⟨rfl, rfl⟩
 go_wp2
 go_ret
 exact ⟨rfl, bel1⟩

theorem Tryz.enters146 : ∀ args w, (callFunc 146 args).run Tryz.prog w = .ok (.enter 146 args) w := enters_of Tryz.func146 (by kernel_rfl) rfl

def Bin (l : List Ov) (key : ByteArray) (i j : Nat) : Prop := (∀ t o, t < i → l[t]? = some o → kcm o.k key < 0) ∧ ∀ t o, j ≤ t → l[t]? = some o → 0 ≤ kcm o.k key

theorem up_at {l : List Ov} (hu : Tm.Up l) {s t : Nat} {o q : Ov} (hs : l[s]? = some o) (ht : l[t]? = some q) (h : s < t) : Tm.lt o.k q.k = true := by
 obtain ⟨h1, rfl⟩ := List.getElem?_eq_some_iff.1 hs
 obtain ⟨h2, rfl⟩ := List.getElem?_eq_some_iff.1 ht
 exact List.pairwise_iff_getElem.1 hu s t h1 h2 h

theorem Bin.left {l : List Ov} {key : ByteArray} {i j m : Nat} {o : Ov} (h : Bin l key i j) (hu : Tm.Up l) (hm : l[m]? = some o) (hc : kcm o.k key < 0) : Bin l key (m + 1) j := by
 refine ⟨fun t q ht hq => ?_, h.2⟩
 by_cases e : t = m
 ·subst e
  rw [hm] at hq
  cases hq
  exact hc
 ·exact (kcm_neg _ _).2 (Tm.lt_trans (up_at hu hq hm (by omega)) ((kcm_neg _ _).1 hc))

theorem Bin.right {l : List Ov} {key : ByteArray} {i j m : Nat} {o : Ov} (h : Bin l key i j) (hu : Tm.Up l) (hm : l[m]? = some o) (hc : ¬ kcm o.k key < 0) : Bin l key i m := by
 refine ⟨h.1, fun t q ht hq => ?_⟩
 by_cases e : t = m
 ·subst e
  rw [hm] at hq
  cases hq
  omega
 ·refine Int.not_lt.1 fun hn => hc ((kcm_neg _ _).2 (Tm.lt_trans (up_at hu hm hq (by omega)) ((kcm_neg _ _).1 hn)))

theorem Bin.found {l : List Ov} {key : ByteArray} {i : Nat} {o : Ov} (hu : Tm.Up l) (ho : l[i]? = some o) (hc : kcm o.k key = 0) : Tm.get l key = some o := by
 rw [← (kcm_zero _ _).1 hc]
 exact Tm.get_mem hu (List.mem_of_getElem? ho)

theorem Bin.lost {l : List Ov} {key : ByteArray} {i : Nat} (h : Bin l key i i) (hu : Tm.Up l) (hc : ∀ o, l[i]? = some o → ¬ kcm o.k key = 0) : Tm.get l key = none := by
 refine List.find?_eq_none.2 fun x hx => ?_
 obtain ⟨t, ht⟩ := List.getElem?_of_mem hx
 simp only [decide_eq_true_eq]
 intro e
 have hz := (kcm_zero _ _).2 e
 by_cases h1 : t < i
 ·have := h.1 t x h1 ht
  omega
 ·by_cases h2 : t = i
  ·subst h2
   exact hc x ht hz
  ·have hlt : i < t := by omega
   obtain ⟨q, hq⟩ : ∃ q, l[i]? = some q := by
    have := (List.getElem?_eq_some_iff.1 ht).1
    exact ⟨l[i]'(by omega), by rw [List.getElem?_eq_getElem]⟩
   have h3 := h.2 i q (Nat.le_refl _) hq
   have h4 := up_at hu hq ht hlt
   rw [e] at h4
   have := (kcm_neg _ _).2 h4
   omega

set_option maxRecDepth 20000 in
set_option maxHeartbeats 4000000 in
theorem bsearch_any (v : Value) (l : List Ov) (key : ByteArray) (w : World) (h : IsO w v l) (hu : Tm.Up l) (hl : l.length ≤ 1024) :
  Calls Tryz.prog 145 #[v, .string key, .func (.func 146) #[] #[]] w fun E w' => ∃ (i : Nat) (f : Bool), E = .returned (.tuple #[.int .i64 i, .bool f]) ∧ Below w.heap.size w w' ∧ Hid ((f = true ∧ ∃ o, l[i]? = some o ∧ Tm.get l key = some o) ∨ (f = false ∧ Tm.get l key = none)) := by
 obtain ⟨ao, cap, hsv, hcap, _⟩ := h.shape
 have HFULL := hide fun (h0 : 0 < l.length) => h.full h0
 subst hsv
 obtain ⟨n, hnn⟩ : ∃ n, l.length = n := ⟨_, rfl⟩
 rw [hnn] at HFULL hcap hl ⊢
 have HN := hide hnn
 have HU := hide hu
 have hent := Tryz.enters146
 clear h hnn hu
 go_enter Tryz.func145, Tryz.ntmps145
 go_wp2
 go_loopw [9, 10] (fun iv jv wr => ∃ (i j : Nat), i ≤ j ∧ j ≤ n ∧ iv = .int .i64 i ∧ jv = .int .i64 j ∧ Hid (Bin l key i j) ∧ Below w.heap.size w wr) (fun iv jv _ => (intOf jv).toNat - (intOf iv).toNat)
 case atStart => exact ⟨0, n, by omega, by omega, rfl, rfl, hide ⟨fun t o ht => by omega, fun t o ht ho => by have := (List.getElem?_eq_some_iff.1 ho).1; have := HN.out; omega⟩, Below.refl _ _⟩
 case round =>
  obtain ⟨i, j, hij, hjn, rfl, rfl, HB, bel⟩ := hrel
  have sz := bel.size
  by_cases hlt : i < j
  ·obtain ⟨m, hm⟩ : ∃ m, m = (i + j) / 2 := ⟨_, rfl⟩
   obtain ⟨o, ho⟩ : ∃ o, l[m]? = some o := ⟨l[m]'(by have := HN.out; omega), by rw [List.getElem?_eq_getElem]⟩
   obtain ⟨b1, o1, cq, hvx, _, _, hB, hcell⟩ := HFULL.out (by omega)
   simp only [Value.slice.injEq, true_and] at hvx
   obtain ⟨rfl, rfl⟩ := hvx
   obtain ⟨c0, c1, c2⟩ := hcell m o ho
   have d0 := (bel.cell (p := ⟨b1, o1 + m * 3, none⟩) hB).trans c0
   have d1 := (bel.cell (p := ⟨b1, o1 + m * 3 + 1, none⟩) hB).trans c1
   have d2 := (bel.cell (p := ⟨b1, o1 + m * 3 + 2, none⟩) hB).trans c2
   rw [hm] at d0 d1 d2
   have HO := hide ho
   have hlt' : (i : Int) < j := by omega
   have hmn : ((i : Int) + j) / 2 < n := by omega
   have HM := hide hm
   have HC := hide (fun W => against_any o.p o.k o.v key W)
   obtain ⟨cc, hcc⟩ : ∃ c, kcm o.k key = c := ⟨_, rfl⟩
   rw [hcc] at HC
   have HCC := hide hcc
   clear c0 c1 c2 ho hcell hm hcc
   by_cases hneg : cc < 0
   ·have HB2 := hide (HB.out.left HU.out HO.out (by rw [HCC.out]; exact hneg))
    go_wp2_with (go_at_fn 146; refine (HC.out _).mono ?_; rintro E w1 ⟨rfl, bel1⟩)
    have bel2 := bel.trans (bel1.mono sz)
    clear bel1
    go_wp2
    go_roundw
    case rel => exact ⟨m + 1, j, by have := HM.out; omega, hjn, by have := HM.out; congr 1; omega, rfl, HB2, bel2⟩
    case measure => simp [intOf]; have := HM.out; omega
   ·have HB2 := hide (HB.out.right HU.out HO.out (by rw [HCC.out]; exact hneg))
    go_wp2_with (go_at_fn 146; refine (HC.out _).mono ?_; rintro E w1 ⟨rfl, bel1⟩)
    have bel2 := bel.trans (bel1.mono sz)
    clear bel1
    go_wp2
    go_roundw
    case rel => exact ⟨i, m, by have := HM.out; omega, by have := HM.out; omega, rfl, by have := HM.out; congr 1; omega, HB2, bel2⟩
    case measure => simp [intOf]; have := HM.out; omega
  ·obtain rfl : j = i := by omega
   by_cases hin : j < n
   ·obtain ⟨o, ho⟩ : ∃ o, l[j]? = some o := ⟨l[j]'(by have := HN.out; omega), by rw [List.getElem?_eq_getElem]⟩
    obtain ⟨b1, o1, cq, hvx, _, _, hB, hcell⟩ := HFULL.out (by omega)
    simp only [Value.slice.injEq, true_and] at hvx
    obtain ⟨rfl, rfl⟩ := hvx
    obtain ⟨c0, c1, c2⟩ := hcell j o ho
    have d0 := (bel.cell (p := ⟨b1, o1 + j * 3, none⟩) hB).trans c0
    have d1 := (bel.cell (p := ⟨b1, o1 + j * 3 + 1, none⟩) hB).trans c1
    have d2 := (bel.cell (p := ⟨b1, o1 + j * 3 + 2, none⟩) hB).trans c2
    have HO := hide ho
    have hin' : (j : Int) < n := by omega
    have HC := hide (fun W => against_any o.p o.k o.v key W)
    obtain ⟨cc, hcc⟩ : ∃ c, kcm o.k key = c := ⟨_, rfl⟩
    rw [hcc] at HC
    have HCC := hide hcc
    clear c0 c1 c2 ho hcell hcc
    obtain ⟨f, hf⟩ : ∃ f, (cc == 0) = f := ⟨_, rfl⟩
    have FIN : Hid ((f = true ∧ ∃ o, l[j]? = some o ∧ Tm.get l key = some o) ∨ (f = false ∧ Tm.get l key = none)) := hide (by
     by_cases hz : cc = 0
     ·exact .inl ⟨by rw [← hf]; simp [hz], o, HO.out, Bin.found HU.out HO.out (by rw [HCC.out]; exact hz)⟩
     ·refine .inr ⟨by rw [← hf]; simp [hz], HB.out.lost HU.out fun q hq => ?_⟩
      rw [HO.out] at hq
      cases hq
      rw [HCC.out]
      exact hz)
    go_wp2_with (go_at_fn 146; refine (HC.out _).mono ?_; rintro E w1 ⟨rfl, bel1⟩)
    have bel2 := bel.trans (bel1.mono sz)
    clear bel1
    go_wp2
    go_ret2
    exact ⟨j, f, rfl, bel2, FIN⟩
   ·have hin' : ¬ (j : Int) < n := by omega
    have FIN : Hid (((false : Bool) = true ∧ ∃ o, l[j]? = some o ∧ Tm.get l key = some o) ∨ ((false : Bool) = false ∧ Tm.get l key = none)) := hide (.inr ⟨rfl, HB.out.lost HU.out fun q hq => by have := (List.getElem?_eq_some_iff.1 hq).1; have := HN.out; omega⟩)
    go_wp2
    go_ret2
    have NN : Hid (Tm.get l key = none) := hide (by rcases FIN.out with ⟨h, _⟩ | ⟨_, h⟩; cases h; exact h)
    first | exact ⟨j, false, rfl, bel, FIN⟩ | exact ⟨j, .inl ⟨rfl, bel, NN⟩⟩

end Go.Proofs.YtmmfakpphjjjfaaGreat

/- slices.Backward of runs: what its iterator yields. -/
namespace Go.Proofs.YtmmfakpphjjjfaaGreat
open Go.RowKit Go.Shelf
set_option linter.unusedVariables false
attribute [local go_sem] Oper.semAt_some

def dn (L : Nat) : Nat → List (Nx L)
 | 0 => []
 | k + 1 => dn L k ++ (if h : k < L then [⟨L - 1 - k, by omega⟩] else [])

theorem dn_next (L k : Nat) (h : k < L) : dn L (k + 1) = dn L k ++ [⟨L - 1 - k, by omega⟩] := by rw [dn, dif_pos h]

theorem dn_len (L : Nat) : ∀ k, k ≤ L → (dn L k).length = k
 | 0, _ => rfl
 | k + 1, h => by
  rw [dn_next L k (by omega), List.length_append, dn_len L k (by omega)]
  rfl

def ptc (rs : List Cw) (x : Nx rs.length) : Cw := rs[x.1]'x.2
def cvv (c : Cw) : Value := .agg #[.int .i64 c.e, .int .i64 c.n, c.v]

set_option maxRecDepth 100000 in
set_option maxHeartbeats 4000000 in
theorem back_one (n : Nat) (hn : 1 ≤ n) (l B : Nat) (rs : List Cw) (sv : Value) (S : Nat → Prop) (hSB : S B) (hSv : ∀ b, sv.ownBlock = some b → S b) (hLm : rs.length ≤ 1048576) (J Jx : List (Nx rs.length) → World → Prop) (W : World) (hSW : ∀ g, S g → g < W.heap.size) (hJ : AbidesFrom W.heap.size J)
  (hY : ∀ pre x W1, J pre W1 → pre.length < rs.length → YieldAt Fence.wide (n - 1) Tryz.prog l #[.int .i64 x.1, cvv (ptc rs x)] W1 fun e W' => (e = .returned (.bool true) ∧ J (pre ++ [x]) W' ∧ Kn S W1 W') ∨ (e = .returned (.bool false) ∧ Jx (pre ++ [x]) W'))
  (hB : W.cell? ⟨B, 0, none⟩ = some sv) (his : RowC W sv rs) (h0 : J [] W) :
  CallsIn Fence.wide n Tryz.prog 164 #[.func (.yield l) #[] #[], .pointer (some ⟨B, 0, none⟩)] W fun e W' => (∃ v, e = .returned v) ∧ ((∃ xs, xs = dn rs.length rs.length ∧ J xs W') ∨ (∃ pre, (∃ k, k ≤ rs.length ∧ pre = dn rs.length k) ∧ Jx pre W')) := by
 have hro : Fence.wide.round = none := rfl
 obtain ⟨ao, cap, hsv, hcap, hcm⟩ := his.shape
 have HFULL := hide fun (h0 : 0 < rs.length) => his.full h0
 subst hsv
 have HSW := hide hSW
 have HJ0 := hide hJ
 have HY := hide hY
 have hw0 : IntKind.i64.wrap ((rs.length : Int) - 1) = (rs.length : Int) - 1 := wrap_i64_small _ (by omega) (by omega)
 clear his hSW hJ hY
 refine callsIn_of_wp Tryz.func164 rfl trivial ?_ hro
 simp only [Tryz.ntmps164, List.size_toArray, List.length_cons, List.length_nil, Nat.reduceAdd, Nat.reduceSub, Array.replicate_succ, Array.replicate_zero, List.push_toArray, List.append_toArray, List.nil_append, List.cons_append]
 gi_wp2
 gi_loopw [3] (fun iv wr => ∃ (k : Nat) (z : Int), k ≤ rs.length ∧ iv = .int .i64 z ∧ z = (rs.length : Int) - 1 - k ∧ Hid (J (dn rs.length k) wr) ∧ Kn S W wr) (fun iv _ => (intOf iv + 1).toNat)
 case atStart => exact ⟨0, (rs.length : Int) - 1, Nat.zero_le _, rfl, by omega, h0, fun _ _ => rfl⟩
 case round =>
  obtain ⟨k, z, hk, rfl, hz, HJ, hK⟩ := hrel
  have hbx := (cell_of_blk (hK B hSB) 0).trans hB
  by_cases hlt : k < rs.length
  ·obtain ⟨i, hi⟩ : ∃ i, rs.length - 1 - k = i := ⟨_, rfl⟩
   have hil : i < rs.length := by omega
   obtain rfl : z = (i : Int) := by omega
   obtain ⟨b, off, cq, hvx, _, _, hb, hcell⟩ := HFULL.out (by omega)
   simp only [Value.slice.injEq, true_and] at hvx
   obtain ⟨rfl, rfl⟩ := hvx
   obtain ⟨c, hc⟩ : ∃ c, ptc rs ⟨i, hil⟩ = c := ⟨_, rfl⟩
   have hc' : rs[i]? = some c := by rw [List.getElem?_eq_getElem hil, ← hc]; rfl
   obtain ⟨c0, c1, c2⟩ := hcell i c hc'
   have hkb := hK b (hSv b rfl)
   have d0 := (cell_of_blk hkb (off + i * 3)).trans c0
   have d1 := (cell_of_blk hkb (off + i * 3 + 1)).trans c1
   have d2 := (cell_of_blk hkb (off + i * 3 + 2)).trans c2
   have HJN : Hid (∀ W3, J (dn rs.length k ++ [⟨i, hil⟩]) W3 → J (dn rs.length (k + 1)) W3) := hide fun W3 h => by
    rw [dn_next _ k hlt]
    subst hi
    exact h
   have HJX : Hid (∀ W3, Jx (dn rs.length k ++ [⟨i, hil⟩]) W3 → Jx (dn rs.length (k + 1)) W3) := hide fun W3 h => by
    rw [dn_next _ k hlt]
    subst hi
    exact h
   obtain ⟨fn, tmps, assign, body, hy, hR⟩ := HY.out _ ⟨i, hil⟩ wr HJ.out (by rw [dn_len _ k hk]; omega)
   rw [hc] at hy
   unfold cvv at hy
   have hlt' : (i : Int) < rs.length := by omega
   have hi0 : (0 : Int) ≤ (i : Int) := by omega
   have hw1 : IntKind.i64.wrap ((i : Int) - 1) = (i : Int) - 1 := wrap_i64_small _ (by omega) (by omega)
   have HR := hide hR
   have HK := hide hK
   have HI := hide hi
   clear hR hcell hSv hK c0 c1 c2 hkb hc hc' hz hi
   gi_wp2
   refine HR.out.mono ?_
   rintro e W3 (⟨rfl, hJ3, hk3⟩ | ⟨rfl, hJx3⟩)
   ·have hJ4 : Hid (J (dn rs.length (k + 1)) W3) := hide (HJN.out W3 hJ3)
    have hK4 := HK.out.trans hk3
    clear hJ3
    gi_wp2
    go_roundw
    case rel => exact ⟨k + 1, (i : Int) - 1, by omega, by go_num, by have := HI.out; omega, hJ4, hK4⟩
    case measure => simp [intOf]
   ·have hJ4 : Hid (Jx (dn rs.length (k + 1)) W3) := hide (HJX.out W3 hJx3)
    clear hJx3
    gi_wp2
    refine bodyPost_ret (results_none rfl _ _ _) rfl ?_
    exact ⟨⟨_, rfl⟩, .inr ⟨_, ⟨k + 1, by omega, rfl⟩, hJ4.out⟩⟩
  ·obtain rfl : k = rs.length := by omega
   have hz' : ¬ (0 : Int) ≤ z := by omega
   clear hz
   gi_wp2
   go_end0
   exact ⟨⟨_, rfl⟩, .inl HJ.out⟩

theorem back_any (v : Value) (hv : ∃ a n c, v = .slice a n c) (w : World) : Calls Tryz.prog 144 #[v] w fun e w' => e = .returned (.func (.func 164) #[] #[.pointer (some ⟨w.heap.size, 0, none⟩)]) ∧ w' = w.alloc (.cells #[v] 76) := by
 obtain ⟨a, n, c, rfl⟩ := hv
 go_enter Tryz.func144, Tryz.ntmps144
 go_wp2
 go_ret
 exact ⟨rfl, rfl⟩

def SeqBB (B : Nat) (sv : Value) (g : Nat) : Prop := g = B ∨ sv.ownBlock = some g

theorem back_seq (n : Nat) (hn : 1 ≤ n) (B : Nat) (rs : List Cw) (sv : Value) (w : World) (hB : w.cell? ⟨B, 0, none⟩ = some sv) (hlt : ∀ g, SeqBB B sv g → g < w.heap.size) (his : RowC w sv rs) (hLm : rs.length ≤ 1048576) :
  SeqStopsK Fence.wide n Tryz.prog 164 #[.pointer (some ⟨B, 0, none⟩)] (fun x : Nx rs.length => #[.int .i64 x.1, cvv (ptc rs x)]) (Kn (SeqBB B sv)) (fun xs => xs = dn rs.length rs.length) (fun pre => ∃ k, k ≤ rs.length ∧ pre = dn rs.length k) rs.length w := fun l J Jx W hW hJ hJx hY h0 =>
 back_one n hn l B rs sv (SeqBB B sv) (.inl rfl) (fun b hb => .inr hb) hLm J Jx W (fun g hg => Nat.lt_of_lt_of_le (hlt g hg) hW.size) hJ hY ((hW.cell (p := ⟨B, 0, none⟩) (hlt B (.inl rfl))).trans hB) (his.below hW) h0

end Go.Proofs.YtmmfakpphjjjfaaGreat

/- A region that draws its order and makes no call, walked in one order, inside a round of a loop over a function. -/
namespace Go.Proofs.YtmmfakpphjjjfaaGreat
open Go.RowKit
set_option linter.unusedVariables false

def pln (o : Oper) : Bool := match o.op with
 | .move _ => true
 | .assign _ => true
 | .load _ _ => true
 | .store _ _ _ => true
 | .fieldAddr _ _ _ => true
 | .indexAddr _ _ _ => true
 | _ => false

section
variable {F : Fence} {n : Nat} {P : Program} {ops : Array Oper} {Q : Exit → Act → World → Prop} {S : World → Prop} {md : Region.Mode}

theorem pln_about {o : Oper} (h : pln o = true) (w : World) (ρ : Operand → Value) : o.about P w ρ = none := by
 unfold Oper.about
 unfold pln at h
 cases ho : o.op <;> rw [ho] at h <;> first | rfl | cases h

theorem pln_wpIn {o : Oper} (h : pln o = true) {a : Act} {w : World} {K : Act → World → Prop} (hw : Oper.wp P o a w K Q) : Oper.wpIn F n P o a w K Q := by
 refine ⟨fun f hf => (by rw [pln_about h] at hf; cases hf), ?_⟩
 rw [Oper.semAt_eq _ _ _ (fun c hc => by unfold pln at h; rw [hc] at h; cases h)]
 unfold Oper.wp at hw
 unfold pln at h
 unfold execOp at hw ⊢
 cases ho : o.op <;> rw [ho] at h <;> try (cases h; done)
 all_goals
  simp only [ho, Sem.run_bind, Sem.run_pure] at hw ⊢
 ·exact hw
 ·exact hw
 all_goals
  generalize Sem.run P _ w = r at hw ⊢
  cases r with
  | ok x w' => exact hw
  | halt x w' => cases x <;> exact hw

theorem pln_wpOpIn (hL : ¬ LetsOut Q) (hp : ∀ (i : Nat) (o : Oper), ops[i]? = some o → pln o = true) {i : Nat} {K : Act → World → Prop} {a : Act} {w : World} (h : wpOp P ops Q i K a w) : wpOpIn F n P ops Q i K a w := by
 unfold wpOp at h
 unfold wpOpIn
 cases ho : ops[i]? with
 | none => rw [ho] at h; exact h
 | some o =>
  rw [ho] at h
  simp only at h ⊢
  split
  ·rename_i hw
   rw [if_pos hw] at h
   rcases h with h | h
   ·exact pln_wpIn (hp i o ho) h
   ·exact absurd h.2 hL
  ·rename_i hw
   rw [if_neg hw] at h
   exact ⟨fun f hf => (by rw [pln_about (hp i o ho)] at hf; cases hf), h⟩

theorem pln_anyIn (hL : ¬ LetsOut Q) (hp : ∀ (i : Nat) (o : Oper), ops[i]? = some o → pln o = true) : ∀ (fuel : Nat) (L : Array Bool) (a : Act) (w : World), wpAny P md ops Q fuel L a w → wpAnyIn F n P md ops Q fuel L a w
 | 0, _, _, _, h => h
 | fuel + 1, L, a, w, h => ⟨h.1, fun i hi => wpOpIn_mono (fun a' w' h' => pln_anyIn hL hp fuel _ a' w' h') (pln_wpOpIn hL hp (h.2 i hi))⟩

theorem pln_all (h : ops.toList.all pln = true) : ∀ (i : Nat) (o : Oper), ops[i]? = some o → pln o = true := fun i o ho => List.all_eq_true.1 h o (by
 rw [← Array.getElem?_toList] at ho
 exact List.mem_of_getElem? ho)

theorem regionIn_way {id : Nat} {a : Act} {w : World} (hm : P.follows .mixedOrders = true) (hs : Region.noSelect ops = true) (hp : ops.toList.all pln = true) (hL : ¬ LetsOut Q) (hQ : ∀ c a t v w, Q (.panic c) (Act.put a (some t) v) w → Q (.panic c) a w) (l : List (Bool × Nat)) (hl : l.length = ops.size) (hw : Way .any ops (Array.replicate ops.size false) l) (hS : S w.drew) (h : seqW P ops Q S l a w.drew) : (Code.region id ops true).wpIn F n P Q a w := by
 refine wpIn_region_any hm (pln_anyIn hL (pln_all hp) _ _ _ _ (wpAny_of_held (S := S) _ _ _ _ ?_))
 have := way_held hs hQ l _ a w.drew hw hS h
 rw [hl] at this
 exact this

end

theorem wyb_st0 : Region.free .any (regOf 7 Tryz.f106) (lst 15 0) 0 = true ∧ (Region.ready .any (regOf 7 Tryz.f106) (lst 15 0)).contains 0 = true ∧ (lst 15 0).setIfInBounds 0 true = lst 15 1 := ⟨by kernel_rfl, by kernel_rfl, by kernel_rfl⟩

theorem wyb_st1 : Region.free .any (regOf 7 Tryz.f106) (lst 15 1) 1 = true ∧ (Region.ready .any (regOf 7 Tryz.f106) (lst 15 1)).contains 1 = true ∧ (lst 15 1).setIfInBounds 1 true = lst 15 3 := ⟨by kernel_rfl, by kernel_rfl, by kernel_rfl⟩

theorem wyb_st2 : Region.free .any (regOf 7 Tryz.f106) (lst 15 3) 2 = true ∧ (Region.ready .any (regOf 7 Tryz.f106) (lst 15 3)).contains 2 = true ∧ (lst 15 3).setIfInBounds 2 true = lst 15 7 := ⟨by kernel_rfl, by kernel_rfl, by kernel_rfl⟩

theorem wyb_st3 : Region.free .any (regOf 7 Tryz.f106) (lst 15 7) 3 = true ∧ (Region.ready .any (regOf 7 Tryz.f106) (lst 15 7)).contains 3 = true ∧ (lst 15 7).setIfInBounds 3 true = lst 15 15 := ⟨by kernel_rfl, by kernel_rfl, by kernel_rfl⟩

theorem wyb_st4 : Region.free .any (regOf 7 Tryz.f106) (lst 15 15) 4 = true ∧ (Region.ready .any (regOf 7 Tryz.f106) (lst 15 15)).contains 4 = true ∧ (lst 15 15).setIfInBounds 4 true = lst 15 31 := ⟨by kernel_rfl, by kernel_rfl, by kernel_rfl⟩

theorem wyb_st5 : Region.free .any (regOf 7 Tryz.f106) (lst 15 31) 5 = true ∧ (Region.ready .any (regOf 7 Tryz.f106) (lst 15 31)).contains 5 = true ∧ (lst 15 31).setIfInBounds 5 true = lst 15 63 := ⟨by kernel_rfl, by kernel_rfl, by kernel_rfl⟩

theorem wyb_st6 : Region.free .any (regOf 7 Tryz.f106) (lst 15 63) 6 = true ∧ (Region.ready .any (regOf 7 Tryz.f106) (lst 15 63)).contains 6 = true ∧ (lst 15 63).setIfInBounds 6 true = lst 15 127 := ⟨by kernel_rfl, by kernel_rfl, by kernel_rfl⟩

theorem wyb_st7 : Region.free .any (regOf 7 Tryz.f106) (lst 15 127) 7 = true ∧ (Region.ready .any (regOf 7 Tryz.f106) (lst 15 127)).contains 7 = true ∧ (lst 15 127).setIfInBounds 7 true = lst 15 255 := ⟨by kernel_rfl, by kernel_rfl, by kernel_rfl⟩

theorem wyb_st8 : Region.free .any (regOf 7 Tryz.f106) (lst 15 255) 8 = true ∧ (Region.ready .any (regOf 7 Tryz.f106) (lst 15 255)).contains 8 = true ∧ (lst 15 255).setIfInBounds 8 true = lst 15 511 := ⟨by kernel_rfl, by kernel_rfl, by kernel_rfl⟩

theorem wyb_st9 : Region.free .any (regOf 7 Tryz.f106) (lst 15 511) 9 = true ∧ (Region.ready .any (regOf 7 Tryz.f106) (lst 15 511)).contains 9 = true ∧ (lst 15 511).setIfInBounds 9 true = lst 15 1023 := ⟨by kernel_rfl, by kernel_rfl, by kernel_rfl⟩

theorem wyb_st10 : Region.free .any (regOf 7 Tryz.f106) (lst 15 1023) 10 = true ∧ (Region.ready .any (regOf 7 Tryz.f106) (lst 15 1023)).contains 10 = true ∧ (lst 15 1023).setIfInBounds 10 true = lst 15 2047 := ⟨by kernel_rfl, by kernel_rfl, by kernel_rfl⟩

theorem wyb_st11 : Region.free .any (regOf 7 Tryz.f106) (lst 15 2047) 11 = true ∧ (Region.ready .any (regOf 7 Tryz.f106) (lst 15 2047)).contains 11 = true ∧ (lst 15 2047).setIfInBounds 11 true = lst 15 4095 := ⟨by kernel_rfl, by kernel_rfl, by kernel_rfl⟩

theorem wyb_st12 : Region.ready .any (regOf 7 Tryz.f106) (lst 15 4095) = [12] ∧ (lst 15 4095).setIfInBounds 12 true = lst 15 8191 := ⟨by kernel_rfl, by kernel_rfl⟩

theorem wyb_st13 : Region.ready .any (regOf 7 Tryz.f106) (lst 15 8191) = [13] ∧ (lst 15 8191).setIfInBounds 13 true = lst 15 16383 := ⟨by kernel_rfl, by kernel_rfl⟩

theorem wyb_st14 : Region.ready .any (regOf 7 Tryz.f106) (lst 15 16383) = [14] ∧ (lst 15 16383).setIfInBounds 14 true = lst 15 32767 := ⟨by kernel_rfl, by kernel_rfl⟩

def wyb_ord : List (Bool × Nat) := [(true, 0), (true, 1), (true, 2), (true, 3), (true, 4), (true, 5), (true, 6), (true, 7), (true, 8), (true, 9), (true, 10), (true, 11), (false, 12), (false, 13), (false, 14)]

theorem wyb_end : Region.ready .any (regOf 7 Tryz.f106) (lst 15 32767) = [] := by kernel_rfl

theorem wyb_way : Way .any (regOf 7 Tryz.f106) (Array.replicate (regOf 7 Tryz.f106).size false) wyb_ord := by
 have e : Array.replicate (regOf 7 Tryz.f106).size false = lst 15 0 := by kernel_rfl
 rw [e]
 unfold wyb_ord
 refine .take wyb_st0 ?_
 refine .take wyb_st1 ?_
 refine .take wyb_st2 ?_
 refine .take wyb_st3 ?_
 refine .take wyb_st4 ?_
 refine .take wyb_st5 ?_
 refine .take wyb_st6 ?_
 refine .take wyb_st7 ?_
 refine .take wyb_st8 ?_
 refine .take wyb_st9 ?_
 refine .take wyb_st10 ?_
 refine .take wyb_st11 ?_
 refine .meet wyb_st12 ?_
 refine .meet wyb_st13 ?_
 refine .meet wyb_st14 ?_
 exact .done wyb_end

end Go.Proofs.YtmmfakpphjjjfaaGreat
