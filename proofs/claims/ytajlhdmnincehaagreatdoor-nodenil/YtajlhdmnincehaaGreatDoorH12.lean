/- Texts of one layer, one behind the other. -/
import Derived.Test.YtajlhdmnincehaaGreatDoorH6
import Derived.Lib.Bytealg
import Derived.Test.YtajlhdmnincehaaGreatDoorZRg
import Derived.Test.YtajlhdmnincehaaGreatDoorH18
import Derived.Test.YtajlhdmnincehaaGreatDoorH1
import Derived.Defers
import Derived.Test.YtajlhdmnincehaaGreatDoorH21
import Derived.Test.YtajlhdmnincehaaGreatDoorRows
import Derived.MakeChecks
/- strings.Compare, the comparison of a key, and slices.BinarySearchFunc of ops. -/
namespace Go.Proofs.YtajlhdmnincehaaGreatDoor
open Go.RowKit
open Bm (Ov)
set_option linter.unusedVariables false

theorem cmp_neg : ∀ (a b : List UInt8), (Lib.compareBytes a b < 0) = (Op.bytesLess a b = true) ∧ (Lib.compareBytes a b = 0 ↔ a = b)
  | [], [] => by simp [Lib.compareBytes, Op.bytesLess]
  | [], y :: b => by simp [Lib.compareBytes, Op.bytesLess]
  | x :: a, [] => by simp [Lib.compareBytes, Op.bytesLess]
  | x :: a, y :: b => by
    obtain ⟨h1, h2⟩ := cmp_neg a b
    unfold Lib.compareBytes Op.bytesLess
    by_cases h : x < y
    · rw [if_pos h]
      have hne : x ≠ y := fun e => by subst e; exact absurd h (UInt8.lt_irrefl x)
      simp [h, hne]
    · rw [if_neg h]
      by_cases h' : y < x
      · rw [if_pos h']
        have hne : x ≠ y := fun e => by subst e; exact absurd h' (UInt8.lt_irrefl x)
        simp [h, hne]
      · rw [if_neg h']
        have he : x = y := by
          rcases UInt8.lt_or_lt_of_ne (a := x) (b := y) |> fun f => Classical.em (x = y) with e | e
          · exact e
          · rcases UInt8.lt_or_lt_of_ne e with e | e
            · exact absurd e h
            · exact absurd e h'
        subst he
        rw [h1]
        simp [h2]

/-- A key against another. -/
def kcm (a b : ByteArray) : Int := Lib.compareBytes a.data.toList b.data.toList

theorem kcm_neg (a b : ByteArray) : kcm a b < 0 ↔ Tm.lt a b = true := by
  unfold kcm Tm.lt
  rw [(cmp_neg _ _).1, Tm.less_before]

theorem kcm_zero (a b : ByteArray) : kcm a b = 0 ↔ a = b := by
  unfold kcm
  rw [(cmp_neg _ _).2]
  exact ⟨Bm.ba_eq, fun e => by rw [e]⟩

set_option maxHeartbeats 1000000 in
set_option maxRecDepth 100000 in
theorem cmpB_any (a b : ByteArray) (w : World) : Calls Tryz.prog 304 #[.string a, .string b] w fun E w' => E = .returned (.int .i64 (kcm a b)) ∧ w = w' := by
  unfold kcm
  go_enter Tryz.func304, Tryz.ntmps304
  go_wp2
  rw [run_callFunc_extern Tryz.func321 (by kernel_rfl) (by kernel_rfl) (by kernel_rfl) (e := Extern.BytealgCompare.compare) (by kernel_rfl), Lib.run_compareString]
  simp only [Result.andThen]
  rw [Oper.upon_value]
  go_wp2
  go_ret
  exact ⟨rfl, rfl⟩

theorem cmpS_any (a b : ByteArray) (w : World) : Calls Tryz.prog 273 #[.string a, .string b] w fun E w' => E = .returned (.int .i64 (kcm a b)) ∧ w = w' := by
  go_enter Tryz.func273, Tryz.ntmps273
  go_wp2_with fail
  refine (cmpB_any a b w).mono ?_
  rintro E w' ⟨rfl, rfl⟩
  go_wp2
  go_ret
  exact ⟨rfl, rfl⟩

theorem against_any (p : Bool) (k v key : ByteArray) (w : World) : Calls Tryz.prog 229 #[.agg #[.bool p, .string k, .string v], .string key] w fun E w' => E = .returned (.int .i64 (kcm k key)) ∧ Below w.heap.size w w' := by
  obtain ⟨w1, hw1, sz1, bel1, hB⟩ := blk_step w #[.bool p, .string k, .string v] 88
  have c1 := blk_cell hB 1 rfl
  clear hB
  go_enter Tryz.func229, Tryz.ntmps229
  go_wp2_with fail
  refine (cmpS_any k key _).mono ?_
  rintro E w' ⟨rfl, rfl⟩
  go_wp2
  go_ret
  exact ⟨rfl, bel1⟩

theorem Tryz.enters229 : ∀ args w, (callFunc 229 args).run Tryz.prog w = .ok (.enter 229 args) w := enters_of Tryz.func229 (by kernel_rfl) rfl

/-- Between the two ends. -/
def Bin (l : List Ov) (key : ByteArray) (i j : Nat) : Prop := (∀ t o, t < i → l[t]? = some o → kcm o.k key < 0) ∧ ∀ t o, j ≤ t → l[t]? = some o → 0 ≤ kcm o.k key

theorem up_at {l : List Ov} (hu : Tm.Up l) {s t : Nat} {o q : Ov} (hs : l[s]? = some o) (ht : l[t]? = some q) (h : s < t) : Tm.lt o.k q.k = true := by
  obtain ⟨h1, rfl⟩ := List.getElem?_eq_some_iff.1 hs
  obtain ⟨h2, rfl⟩ := List.getElem?_eq_some_iff.1 ht
  exact List.pairwise_iff_getElem.1 hu s t h1 h2 h

theorem Bin.left {l : List Ov} {key : ByteArray} {i j m : Nat} {o : Ov} (h : Bin l key i j) (hu : Tm.Up l) (hm : l[m]? = some o) (hc : kcm o.k key < 0) : Bin l key (m + 1) j := by
  refine ⟨fun t q ht hq => ?_, h.2⟩
  by_cases e : t = m
  · subst e
    rw [hm] at hq
    cases hq
    exact hc
  · exact (kcm_neg _ _).2 (Tm.lt_trans (up_at hu hq hm (by omega)) ((kcm_neg _ _).1 hc))

theorem Bin.right {l : List Ov} {key : ByteArray} {i j m : Nat} {o : Ov} (h : Bin l key i j) (hu : Tm.Up l) (hm : l[m]? = some o) (hc : ¬ kcm o.k key < 0) : Bin l key i m := by
  refine ⟨h.1, fun t q ht hq => ?_⟩
  by_cases e : t = m
  · subst e
    rw [hm] at hq
    cases hq
    omega
  · refine Int.not_lt.1 fun hn => hc ((kcm_neg _ _).2 (Tm.lt_trans (up_at hu hm hq (by omega)) ((kcm_neg _ _).1 hn)))

theorem Bin.found {l : List Ov} {key : ByteArray} {i : Nat} {o : Ov} (hu : Tm.Up l) (ho : l[i]? = some o) (hc : kcm o.k key = 0) : Tm.get l key = some o := by
  rw [← (kcm_zero _ _).1 hc]
  exact Tm.get_mem hu (List.mem_of_getElem? ho)

theorem Bin.lost {l : List Ov} {key : ByteArray} {i : Nat} (h : Bin l key i i) (hu : Tm.Up l) (hc : ∀ o, l[i]? = some o → ¬ kcm o.k key = 0) : Tm.get l key = none := by
  refine List.find?_eq_none.2 fun x hx => ?_
  obtain ⟨t, ht⟩ := List.getElem?_of_mem hx
  simp only [decide_eq_true_eq]
  intro e
  have hz := (kcm_zero _ _).2 e
  by_cases h1 : t < i
  · have := h.1 t x h1 ht
    omega
  · by_cases h2 : t = i
    · subst h2
      exact hc x ht hz
    · have hlt : i < t := by omega
      obtain ⟨q, hq⟩ : ∃ q, l[i]? = some q := by
        have := (List.getElem?_eq_some_iff.1 ht).1
        exact ⟨l[i]'(by omega), by rw [List.getElem?_eq_getElem]⟩
      have h3 := h.2 i q (Nat.le_refl _) hq
      have h4 := up_at hu hq ht hlt
      rw [e] at h4
      have := (kcm_neg _ _).2 h4
      omega

set_option maxRecDepth 20000 in
set_option maxHeartbeats 4000000 in
theorem bsearch_any (v : Value) (l : List Ov) (key : ByteArray) (w : World) (h : IsO w v l) (hu : Tm.Up l) (hl : l.length ≤ 1024) :
    Calls Tryz.prog 228 #[v, .string key, .func (.func 229) #[] #[]] w fun E w' => ∃ (i : Nat) (f : Bool), E = .returned (.tuple #[.int .i64 i, .bool f]) ∧ Below w.heap.size w w' ∧ Hid ((f = true ∧ ∃ o, l[i]? = some o ∧ Tm.get l key = some o) ∨ (f = false ∧ Tm.get l key = none)) := by
  obtain ⟨ao, cap, hsv, hcap, _⟩ := h.shape
  have HFULL := hide fun (h0 : 0 < l.length) => h.full h0
  subst hsv
  obtain ⟨n, hnn⟩ : ∃ n, l.length = n := ⟨_, rfl⟩
  rw [hnn] at HFULL hcap hl ⊢
  have HN := hide hnn
  have HU := hide hu
  have hent := Tryz.enters229
  clear h hnn hu
  go_enter Tryz.func228, Tryz.ntmps228
  go_wp2
  go_loopw [9, 10] (fun iv jv wr => ∃ (i j : Nat), i ≤ j ∧ j ≤ n ∧ iv = .int .i64 i ∧ jv = .int .i64 j ∧ Hid (Bin l key i j) ∧ Below w.heap.size w wr) (fun iv jv _ => (intOf jv).toNat - (intOf iv).toNat)
  case atStart => exact ⟨0, n, by omega, by omega, rfl, rfl, hide ⟨fun t o ht => by omega, fun t o ht ho => by have := (List.getElem?_eq_some_iff.1 ho).1; have := HN.out; omega⟩, Below.refl _ _⟩
  case round =>
    obtain ⟨i, j, hij, hjn, rfl, rfl, HB, bel⟩ := hrel
    have sz := bel.size
    by_cases hlt : i < j
    · obtain ⟨m, hm⟩ : ∃ m, m = (i + j) / 2 := ⟨_, rfl⟩
      obtain ⟨o, ho⟩ : ∃ o, l[m]? = some o := ⟨l[m]'(by have := HN.out; omega), by rw [List.getElem?_eq_getElem]⟩
      obtain ⟨b1, o1, cq, hvx, _, _, hB, hcell⟩ := HFULL.out (by omega)
      simp only [Value.slice.injEq, true_and] at hvx
      obtain ⟨rfl, rfl⟩ := hvx
      obtain ⟨c0, c1, c2⟩ := hcell m o ho
      have d0 := (bel.cell (p := ⟨b1, o1 + m * 3, none⟩) hB).trans c0
      have d1 := (bel.cell (p := ⟨b1, o1 + m * 3 + 1, none⟩) hB).trans c1
      have d2 := (bel.cell (p := ⟨b1, o1 + m * 3 + 2, none⟩) hB).trans c2
      rw [hm] at d0 d1 d2
      have HO := hide ho
      have hlt' : (i : Int) < j := by omega
      have hmn : ((i : Int) + j) / 2 < n := by omega
      have HM := hide hm
      have HC := hide (fun W => against_any o.p o.k o.v key W)
      obtain ⟨cc, hcc⟩ : ∃ c, kcm o.k key = c := ⟨_, rfl⟩
      rw [hcc] at HC
      have HCC := hide hcc
      clear c0 c1 c2 ho hcell hm hcc
      by_cases hneg : cc < 0
      · have HB2 := hide (HB.out.left HU.out HO.out (by rw [HCC.out]; exact hneg))
        go_wp2_with (go_at_fn 229; refine (HC.out _).mono ?_; rintro E w1 ⟨rfl, bel1⟩)
        have bel2 := bel.trans (bel1.mono sz)
        clear bel1
        go_wp2
        go_roundw
        case rel => exact ⟨m + 1, j, by have := HM.out; omega, hjn, by have := HM.out; congr 1; omega, rfl, HB2, bel2⟩
        case measure => simp [intOf]; have := HM.out; omega
      · have HB2 := hide (HB.out.right HU.out HO.out (by rw [HCC.out]; exact hneg))
        go_wp2_with (go_at_fn 229; refine (HC.out _).mono ?_; rintro E w1 ⟨rfl, bel1⟩)
        have bel2 := bel.trans (bel1.mono sz)
        clear bel1
        go_wp2
        go_roundw
        case rel => exact ⟨i, m, by have := HM.out; omega, by have := HM.out; omega, rfl, by have := HM.out; congr 1; omega, HB2, bel2⟩
        case measure => simp [intOf]; have := HM.out; omega
    · obtain rfl : j = i := by omega
      by_cases hin : j < n
      · obtain ⟨o, ho⟩ : ∃ o, l[j]? = some o := ⟨l[j]'(by have := HN.out; omega), by rw [List.getElem?_eq_getElem]⟩
        obtain ⟨b1, o1, cq, hvx, _, _, hB, hcell⟩ := HFULL.out (by omega)
        simp only [Value.slice.injEq, true_and] at hvx
        obtain ⟨rfl, rfl⟩ := hvx
        obtain ⟨c0, c1, c2⟩ := hcell j o ho
        have d0 := (bel.cell (p := ⟨b1, o1 + j * 3, none⟩) hB).trans c0
        have d1 := (bel.cell (p := ⟨b1, o1 + j * 3 + 1, none⟩) hB).trans c1
        have d2 := (bel.cell (p := ⟨b1, o1 + j * 3 + 2, none⟩) hB).trans c2
        have HO := hide ho
        have hin' : (j : Int) < n := by omega
        have HC := hide (fun W => against_any o.p o.k o.v key W)
        obtain ⟨cc, hcc⟩ : ∃ c, kcm o.k key = c := ⟨_, rfl⟩
        rw [hcc] at HC
        have HCC := hide hcc
        clear c0 c1 c2 ho hcell hcc
        obtain ⟨f, hf⟩ : ∃ f, (cc == 0) = f := ⟨_, rfl⟩
        have FIN : Hid ((f = true ∧ ∃ o, l[j]? = some o ∧ Tm.get l key = some o) ∨ (f = false ∧ Tm.get l key = none)) := hide (by
          by_cases hz : cc = 0
          · exact .inl ⟨by rw [← hf]; simp [hz], o, HO.out, Bin.found HU.out HO.out (by rw [HCC.out]; exact hz)⟩
          · refine .inr ⟨by rw [← hf]; simp [hz], HB.out.lost HU.out fun q hq => ?_⟩
            rw [HO.out] at hq
            cases hq
            rw [HCC.out]
            exact hz)
        go_wp2_with (go_at_fn 229; refine (HC.out _).mono ?_; rintro E w1 ⟨rfl, bel1⟩)
        have bel2 := bel.trans (bel1.mono sz)
        clear bel1
        go_wp2
        go_ret2
        exact ⟨j, f, rfl, bel2, FIN⟩
      · have hin' : ¬ (j : Int) < n := by omega
        have FIN : Hid (((false : Bool) = true ∧ ∃ o, l[j]? = some o ∧ Tm.get l key = some o) ∨ ((false : Bool) = false ∧ Tm.get l key = none)) := hide (.inr ⟨rfl, HB.out.lost HU.out fun q hq => by have := (List.getElem?_eq_some_iff.1 hq).1; have := HN.out; omega⟩)
        go_wp2
        go_ret2
        have NN : Hid (Tm.get l key = none) := hide (by rcases FIN.out with ⟨h, _⟩ | ⟨_, h⟩; cases h; exact h)
        first | exact ⟨j, false, rfl, bel, FIN⟩ | exact ⟨j, .inl ⟨rfl, bel, NN⟩⟩

end Go.Proofs.YtajlhdmnincehaaGreatDoor

/- slices.Backward of runs: what its iterator yields. -/
namespace Go.Proofs.YtajlhdmnincehaaGreatDoor
open Go.RowKit Go.Shelf
set_option linter.unusedVariables false
attribute [local go_sem] Oper.semAt_some

/-- The first k places from the end on. -/
def dn (L : Nat) : Nat → List (Nx L)
  | 0 => []
  | k + 1 => dn L k ++ (if h : k < L then [⟨L - 1 - k, by omega⟩] else [])

theorem dn_next (L k : Nat) (h : k < L) : dn L (k + 1) = dn L k ++ [⟨L - 1 - k, by omega⟩] := by rw [dn, dif_pos h]

theorem dn_len (L : Nat) : ∀ k, k ≤ L → (dn L k).length = k
  | 0, _ => rfl
  | k + 1, h => by
    rw [dn_next L k (by omega), List.length_append, dn_len L k (by omega)]
    rfl

/-- A run of the row, as a value. -/
def ptc (rs : List Cw) (x : Nx rs.length) : Cw := rs[x.1]'x.2
def cvv (c : Cw) : Value := .agg #[.int .i64 c.e, .int .i64 c.n, c.v]

set_option maxRecDepth 100000 in
set_option maxHeartbeats 4000000 in
theorem back_one (n : Nat) (hn : 1 ≤ n) (l B : Nat) (rs : List Cw) (sv : Value) (S : Nat → Prop) (hSB : S B) (hSv : ∀ b, sv.ownBlock = some b → S b) (hLm : rs.length ≤ 1048576) (J Jx : List (Nx rs.length) → World → Prop) (W : World) (hSW : ∀ g, S g → g < W.heap.size) (hJ : AbidesFrom W.heap.size J)
    (hY : ∀ pre x W1, J pre W1 → pre.length < rs.length → YieldAt Fence.wide (n - 1) Tryz.prog l #[.int .i64 x.1, cvv (ptc rs x)] W1 fun e W' => (e = .returned (.bool true) ∧ J (pre ++ [x]) W' ∧ Kn S W1 W') ∨ (e = .returned (.bool false) ∧ Jx (pre ++ [x]) W'))
    (hB : W.cell? ⟨B, 0, none⟩ = some sv) (his : RowC W sv rs) (h0 : J [] W) :
    CallsIn Fence.wide n Tryz.prog 272 #[.func (.yield l) #[] #[], .pointer (some ⟨B, 0, none⟩)] W fun e W' => (∃ v, e = .returned v) ∧ ((∃ xs, xs = dn rs.length rs.length ∧ J xs W') ∨ (∃ pre, (∃ k, k ≤ rs.length ∧ pre = dn rs.length k) ∧ Jx pre W')) := by
  have hro : Fence.wide.round = none := rfl
  obtain ⟨ao, cap, hsv, hcap, hcm⟩ := his.shape
  have HFULL := hide fun (h0 : 0 < rs.length) => his.full h0
  subst hsv
  have HSW := hide hSW
  have HJ0 := hide hJ
  have HY := hide hY
  have hw0 : IntKind.i64.wrap ((rs.length : Int) - 1) = (rs.length : Int) - 1 := wrap_i64_small _ (by omega) (by omega)
  clear his hSW hJ hY
  refine callsIn_of_wp Tryz.func272 rfl trivial ?_ hro
  simp only [Tryz.ntmps272, List.size_toArray, List.length_cons, List.length_nil, Nat.reduceAdd, Nat.reduceSub, Array.replicate_succ, Array.replicate_zero, List.push_toArray, List.append_toArray, List.nil_append, List.cons_append]
  gi_wp2
  gi_loopw [3] (fun iv wr => ∃ (k : Nat) (z : Int), k ≤ rs.length ∧ iv = .int .i64 z ∧ z = (rs.length : Int) - 1 - k ∧ Hid (J (dn rs.length k) wr) ∧ Kn S W wr) (fun iv _ => (intOf iv + 1).toNat)
  case atStart => exact ⟨0, (rs.length : Int) - 1, Nat.zero_le _, rfl, by omega, h0, fun _ _ => rfl⟩
  case round =>
    obtain ⟨k, z, hk, rfl, hz, HJ, hK⟩ := hrel
    have hbx := (cell_of_blk (hK B hSB) 0).trans hB
    by_cases hlt : k < rs.length
    · obtain ⟨i, hi⟩ : ∃ i, rs.length - 1 - k = i := ⟨_, rfl⟩
      have hil : i < rs.length := by omega
      obtain rfl : z = (i : Int) := by omega
      obtain ⟨b, off, cq, hvx, _, _, hb, hcell⟩ := HFULL.out (by omega)
      simp only [Value.slice.injEq, true_and] at hvx
      obtain ⟨rfl, rfl⟩ := hvx
      obtain ⟨c, hc⟩ : ∃ c, ptc rs ⟨i, hil⟩ = c := ⟨_, rfl⟩
      have hc' : rs[i]? = some c := by rw [List.getElem?_eq_getElem hil, ← hc]; rfl
      obtain ⟨c0, c1, c2⟩ := hcell i c hc'
      have hkb := hK b (hSv b rfl)
      have d0 := (cell_of_blk hkb (off + i * 3)).trans c0
      have d1 := (cell_of_blk hkb (off + i * 3 + 1)).trans c1
      have d2 := (cell_of_blk hkb (off + i * 3 + 2)).trans c2
      have HJN : Hid (∀ W3, J (dn rs.length k ++ [⟨i, hil⟩]) W3 → J (dn rs.length (k + 1)) W3) := hide fun W3 h => by
        rw [dn_next _ k hlt]
        subst hi
        exact h
      have HJX : Hid (∀ W3, Jx (dn rs.length k ++ [⟨i, hil⟩]) W3 → Jx (dn rs.length (k + 1)) W3) := hide fun W3 h => by
        rw [dn_next _ k hlt]
        subst hi
        exact h
      obtain ⟨fn, tmps, assign, body, hy, hR⟩ := HY.out _ ⟨i, hil⟩ wr HJ.out (by rw [dn_len _ k hk]; omega)
      rw [hc] at hy
      unfold cvv at hy
      have hlt' : (i : Int) < rs.length := by omega
      have hi0 : (0 : Int) ≤ (i : Int) := by omega
      have hw1 : IntKind.i64.wrap ((i : Int) - 1) = (i : Int) - 1 := wrap_i64_small _ (by omega) (by omega)
      have HR := hide hR
      have HK := hide hK
      have HI := hide hi
      clear hR hcell hSv hK c0 c1 c2 hkb hc hc' hz hi
      gi_wp2
      refine HR.out.mono ?_
      rintro e W3 (⟨rfl, hJ3, hk3⟩ | ⟨rfl, hJx3⟩)
      · have hJ4 : Hid (J (dn rs.length (k + 1)) W3) := hide (HJN.out W3 hJ3)
        have hK4 := HK.out.trans hk3
        clear hJ3
        gi_wp2
        go_roundw
        case rel => exact ⟨k + 1, (i : Int) - 1, by omega, by go_num, by have := HI.out; omega, hJ4, hK4⟩
        case measure => simp [intOf]
      · have hJ4 : Hid (Jx (dn rs.length (k + 1)) W3) := hide (HJX.out W3 hJx3)
        clear hJx3
        gi_wp2
        refine bodyPost_ret (results_none rfl _ _ _) rfl ?_
        exact ⟨⟨_, rfl⟩, .inr ⟨_, ⟨k + 1, by omega, rfl⟩, hJ4.out⟩⟩
    · obtain rfl : k = rs.length := by omega
      have hz' : ¬ (0 : Int) ≤ z := by omega
      clear hz
      gi_wp2
      go_end0
      exact ⟨⟨_, rfl⟩, .inl HJ.out⟩

theorem back_any (v : Value) (hv : ∃ a n c, v = .slice a n c) (w : World) : Calls Tryz.prog 227 #[v] w fun e w' => e = .returned (.func (.func 272) #[] #[.pointer (some ⟨w.heap.size, 0, none⟩)]) ∧ w' = w.alloc (.cells #[v] 55) := by
  obtain ⟨a, n, c, rfl⟩ := hv
  go_enter Tryz.func227, Tryz.ntmps227
  go_wp2
  go_ret
  exact ⟨rfl, rfl⟩

/-- The blocks that the iterator reads. -/
def SeqBB (B : Nat) (sv : Value) (g : Nat) : Prop := g = B ∨ sv.ownBlock = some g

theorem back_seq (n : Nat) (hn : 1 ≤ n) (B : Nat) (rs : List Cw) (sv : Value) (w : World) (hB : w.cell? ⟨B, 0, none⟩ = some sv) (hlt : ∀ g, SeqBB B sv g → g < w.heap.size) (his : RowC w sv rs) (hLm : rs.length ≤ 1048576) :
    SeqStopsK Fence.wide n Tryz.prog 272 #[.pointer (some ⟨B, 0, none⟩)] (fun x : Nx rs.length => #[.int .i64 x.1, cvv (ptc rs x)]) (Kn (SeqBB B sv)) (fun xs => xs = dn rs.length rs.length) (fun pre => ∃ k, k ≤ rs.length ∧ pre = dn rs.length k) rs.length w := fun l J Jx W hW hJ hJx hY h0 =>
  back_one n hn l B rs sv (SeqBB B sv) (.inl rfl) (fun b hb => .inr hb) hLm J Jx W (fun g hg => Nat.lt_of_lt_of_le (hlt g hg) hW.size) hJ hY ((hW.cell (p := ⟨B, 0, none⟩) (hlt B (.inl rfl))).trans hB) (his.below hW) h0

end Go.Proofs.YtajlhdmnincehaaGreatDoor

/- The program's node (layer 23): each call of one that is not there, or that nobody made. -/
namespace Go.Proofs.YtajlhdmnincehaaGreatDoor
open Go.RowKit
set_option linter.unusedVariables false

/-- No node, or one that nobody made. -/
def NoN (w : World) (o : Option Addr) : Prop := o = none ∨ ∃ b, o = some ⟨b, 0, none⟩ ∧ w.cell? ⟨b, 2, none⟩ = some (.pointer none)

theorem NoN.below {w w' : World} {o : Option Addr} (h : NoN w o) (hb : Below w.heap.size w w') : NoN w' o := by
  rcases h with h | ⟨b, h, hc⟩
  · exact .inl h
  · refine .inr ⟨b, h, (hb.cell (p := ⟨b, 2, none⟩) ?_).trans hc⟩
    rcases Nat.lt_or_ge b w.heap.size with k | k
    · exact k
    · rw [World.cell?, Array.getElem?_eq_none k] at hc; cases hc

theorem zref_no (o : Option Addr) (w : World) (h : NoN w o) : Calls Tryz.prog 37 #[.pointer o] w fun E w' => E = .returned (.int .i64 1) ∧ w = w' := by
  rcases h with rfl | ⟨b, rfl, hc⟩
  all_goals
    go_enter Tryz.func37, Tryz.ntmps37
    go_wp2
    go_ret
    exact ⟨rfl, rfl⟩

set_option maxHeartbeats 1000000 in
theorem zcall_no (o : Option Addr) (f : Fn) (first cap : Array Value) (w : World) (h : NoN w o) : Calls Tryz.prog 21 #[.pointer o, .func f first cap] w fun E w' => E = .returned (.int .i64 1) ∧ Below w.heap.size w w' := by
  obtain ⟨w1, hw1, s1, b1, P1⟩ := blk_step w #[.pointer o] 31
  obtain ⟨w2, hw2, s2, b2, P2⟩ := blk_step w1 #[.int .i64 0] 39
  have b12 : Below w.heap.size w w2 := b1.trans (b2.mono (by omega))
  rw [s1] at P2
  have k0 : w2.cell? ⟨w.heap.size, 0, none⟩ = some (.pointer o) := blk_cell ((b2.block w.heap.size (by omega)).trans P1) 0 rfl
  have RF := hide (zref_no o w2 (h.below b12))
  obtain ⟨V, hV, bV, gV, fV⟩ := put_c P2 0 (.int .i64 1)
  have e4 : w2.cell? ⟨w.heap.size + 1, 0, none⟩ = some (.int .i64 0) := blk_cell P2 0 rfl
  have eV : V.cell? ⟨w.heap.size + 1, 0, none⟩ = some (.int .i64 1) := blk_cell bV 0 rfl
  have BV := hide (below_put b12 gV (by omega) (by omega))
  clear h P1 P2 b1 b2 b12 bV gV s2
  go_enter_defers Tryz.func21, Tryz.ntmps21
  go_wp2_with fail
  refine RF.out.mono ?_
  rintro E w3 ⟨rfl, rfl⟩
  clear RF
  go_wp2
  exact ⟨_, by simp [results, Tryz.results21, go_sem, eV], rfl, BV.out⟩

theorem zup_no (o : Option Addr) (w : World) (h : NoN w o) : Calls Tryz.prog 13 #[.pointer o] w fun E w' => E = .returned (.bool false) ∧ w = w' := by
  have R := hide (zref_no o w h)
  clear h
  go_enter Tryz.func13, Tryz.ntmps13
  go_wp2_with fail
  refine R.out.mono ?_
  rintro E w1 ⟨rfl, rfl⟩
  go_wp2
  go_ret
  exact ⟨rfl, rfl⟩

theorem zopen_no (o : Option Addr) (w : World) (h : NoN w o) : Calls Tryz.prog 10 #[.pointer o] w fun E w' => E = .returned (.int .i64 1) ∧ w = w' := by
  have R := hide (zref_no o w h)
  clear h
  go_enter Tryz.func10, Tryz.ntmps10
  go_wp2_with fail
  refine R.out.mono ?_
  rintro E w1 ⟨rfl, rfl⟩
  go_wp2
  go_ret
  exact ⟨rfl, rfl⟩

theorem zdown_no (o : Option Addr) (w : World) (h : NoN w o) : Calls Tryz.prog 11 #[.pointer o] w fun E w' => E = .returned (.int .i64 1) ∧ w = w' := by
  have R := hide (zref_no o w h)
  clear h
  go_enter Tryz.func11, Tryz.ntmps11
  go_wp2_with fail
  refine R.out.mono ?_
  rintro E w1 ⟨rfl, rfl⟩
  go_wp2
  go_ret
  exact ⟨rfl, rfl⟩

theorem zlog_no (o : Option Addr) (w : World) (h : NoN w o) : Calls Tryz.prog 15 #[.pointer o] w fun E w' => E = .returned (.slice none 0 0) ∧ w = w' := by
  have R := hide (zup_no o w h)
  clear h
  go_enter Tryz.func15, Tryz.ntmps15
  go_wp2_with fail
  refine R.out.mono ?_
  rintro E w1 ⟨rfl, rfl⟩
  go_wp2
  go_ret
  exact ⟨rfl, rfl⟩

theorem zruns_no (o : Option Addr) (w : World) (h : NoN w o) : Calls Tryz.prog 16 #[.pointer o] w fun E w' => E = .returned (.slice none 0 0) ∧ w = w' := by
  have R := hide (zup_no o w h)
  clear h
  go_enter Tryz.func16, Tryz.ntmps16
  go_wp2_with fail
  refine R.out.mono ?_
  rintro E w1 ⟨rfl, rfl⟩
  go_wp2
  go_ret
  exact ⟨rfl, rfl⟩

theorem zknown_no (o : Option Addr) (w : World) (h : NoN w o) : Calls Tryz.prog 9 #[.pointer o] w fun E w' => E = .returned (.tuple #[.int .i64 0, .bool false]) ∧ w = w' := by
  have R := hide (zup_no o w h)
  clear h
  go_enter Tryz.func9, Tryz.ntmps9
  go_wp2_with fail
  refine R.out.mono ?_
  rintro E w1 ⟨rfl, rfl⟩
  go_wp2
  go_ret2
  exact ⟨rfl, rfl⟩

theorem zpage_no (o : Option Addr) (w : World) (h : NoN w o) : Calls Tryz.prog 18 #[.pointer o] w fun E w' => E = .returned (vp Pm.no) ∧ Below w.heap.size w w' := by
  obtain ⟨w1, hw1, s1, b1, P1⟩ := blk_step w #[.int .i64 0, .int .u8 0, .int .i64 0, .int .u8 0, .int .i64 0, .int .i64 0] 60
  obtain ⟨z0, z1, z2, z3, z4, z5⟩ := six_of P1
  have R := hide (zup_no o w1 (h.below b1))
  have f0 := blk_froz P1 0; have f1 := blk_froz P1 1; have f2 := blk_froz P1 2; have f3 := blk_froz P1 3; have f4 := blk_froz P1 4; have f5 := blk_froz P1 5
  have u0 : w1.setCell ⟨w.heap.size, 0, none⟩ (.int .i64 0) = w1 := set_same P1 (j := 0) rfl
  have u1 : w1.setCell ⟨w.heap.size, 1, none⟩ (.int .u8 0) = w1 := set_same P1 (j := 1) rfl
  have u2 : w1.setCell ⟨w.heap.size, 2, none⟩ (.int .i64 0) = w1 := set_same P1 (j := 2) rfl
  have u3 : w1.setCell ⟨w.heap.size, 3, none⟩ (.int .u8 0) = w1 := set_same P1 (j := 3) rfl
  have u4 : w1.setCell ⟨w.heap.size, 4, none⟩ (.int .i64 0) = w1 := set_same P1 (j := 4) rfl
  have u5 : w1.setCell ⟨w.heap.size, 5, none⟩ (.int .i64 0) = w1 := set_same P1 (j := 5) rfl
  have B := hide b1
  clear h P1 b1 s1
  go_enter Tryz.func18, Tryz.ntmps18
  go_wp2_with fail
  refine R.out.mono ?_
  rintro E w2 ⟨rfl, rfl⟩
  go_wp2
  refine bodyPost_ret (v := vp Pm.no) (by simp [results, Tryz.results18, go_sem, z0, z1, z2, z3, z4, z5, vp, Pm.no]) rfl ?_
  exact ⟨rfl, B.out⟩

theorem zout_no (o : Option Addr) (w : World) (h : NoN w o) : Calls Tryz.prog 14 #[.pointer o] w fun E w' => E = .returned (.int .i64 0) ∧ Below w.heap.size w w' := by
  have hfd := fun (a b c d e f : Int) (w : World) => show (Instr.field 60 (.agg #[.int .i64 a, .int .u8 b, .int .i64 c, .int .u8 d, .int .i64 e, .int .i64 f]) 1).run Tryz.prog w = .ok (.int .u8 b) w by kernel_rfl
  have R := hide (zpage_no o w h)
  rw [show vp Pm.no = .agg #[.int .i64 0, .int .u8 0, .int .i64 0, .int .u8 0, .int .i64 0, .int .i64 0] from rfl] at R
  clear h
  go_enter Tryz.func14, Tryz.ntmps14
  go_wp2_with fail
  refine R.out.mono ?_
  rintro E w1 ⟨rfl, b1⟩
  have B := hide b1
  clear R b1
  go_wp2
  go_ret
  exact ⟨rfl, B.out⟩

theorem zflush_no (o : Option Addr) (w : World) (h : NoN w o) : Calls Tryz.prog 12 #[.pointer o] w fun E w' => E = .returned (.int .i64 1) ∧ Below w.heap.size w w' := by
  have hmf : ∀ (fn : Fn) (first cap : Array Value) (w : World), (Instr.makeFunc fn first cap).run Tryz.prog w = .ok (.func fn first cap) w := fun _ _ _ _ => rfl
  have R := hide (fun f a b => zcall_no o f a b w h)
  clear h
  go_enter Tryz.func12, Tryz.ntmps12
  go_wp2_with fail
  refine (R.out _ _ _).mono ?_
  rintro E w1 ⟨rfl, b1⟩
  have B := hide b1
  clear R b1
  go_wp2
  go_ret
  exact ⟨rfl, B.out⟩

set_option maxHeartbeats 1000000 in
theorem zcommit_no (o : Option Addr) (a : Option Addr) (n k : Nat) (w : World) (h : NoN w o) : Calls Tryz.prog 4 #[.pointer o, .slice a n k] w fun E w' => E = .returned (.tuple #[.int .i64 0, .int .i64 1]) ∧ Below w.heap.size w w' := by
  have hmf : ∀ (fn : Fn) (first cap : Array Value) (w : World), (Instr.makeFunc fn first cap).run Tryz.prog w = .ok (.func fn first cap) w := fun _ _ _ _ => rfl
  obtain ⟨w1, hw1, s1, b1, P1⟩ := blk_step w #[.pointer o] 31
  obtain ⟨w2, hw2, s2, b2, P2⟩ := blk_step w1 #[.slice a n k] 22
  obtain ⟨w3, hw3, s3, b3, P3⟩ := blk_step w2 #[.int .i64 0] 3
  rw [s1] at P2
  rw [s2, s1] at P3
  have bk : Below w.heap.size w w3 := ((b1.trans (b2.mono (by omega))).trans (b3.mono (by omega)))
  have d1 : w3.cell? ⟨w.heap.size, 0, none⟩ = some (.pointer o) := blk_cell ((b3.block _ (by omega)).trans ((b2.block _ (by omega)).trans P1)) 0 rfl
  have Q0 := hide P3
  have R := hide (fun f a b => zcall_no o f a b w3 (h.below bk))
  have BK := hide bk
  have SZ : Hid (w3.heap.size = w.heap.size + 1 + 1 + 1) := hide (by omega)
  clear h bk b1 P1 b2 P2 b3 P3 s3
  go_enter Tryz.func4, Tryz.ntmps4
  go_wp2_with fail
  refine (R.out _ _ _).mono ?_
  rintro E W ⟨rfl, bW⟩
  have sz := SZ.out
  have q0 := (bW.block (w.heap.size + 1 + 1) (by omega)).trans Q0.out
  have e0 : W.cell? ⟨w.heap.size + 1 + 1, 0, none⟩ = some (.int .i64 0) := blk_cell q0 0 rfl
  have f0 := blk_froz q0 0
  have u0 : W.setCell ⟨w.heap.size + 1 + 1, 0, none⟩ (.int .i64 0) = W := set_same q0 (j := 0) rfl
  have RR := hide (BK.out.trans (bW.mono (by omega)))
  clear R BK SZ sz bW q0 Q0
  all_goals
    go_wp2
    refine bodyPost_ret (v := .tuple #[.int .i64 0, .int .i64 1]) (by simp [results, Tryz.results4, go_sem, e0]) rfl ?_
    exact ⟨rfl, by first | exact RR.out | exact RR.out.drew⟩

set_option maxHeartbeats 1000000 in
theorem zread_no (o : Option Addr) (k : ByteArray) (w : World) (h : NoN w o) : Calls Tryz.prog 5 #[.pointer o, .string k] w fun E w' => E = .returned (.tuple #[.string ⟨#[]⟩, .bool false, .int .i64 1]) ∧ Below w.heap.size w w' := by
  have hmf : ∀ (fn : Fn) (first cap : Array Value) (w : World), (Instr.makeFunc fn first cap).run Tryz.prog w = .ok (.func fn first cap) w := fun _ _ _ _ => rfl
  obtain ⟨w1, hw1, s1, b1, P1⟩ := blk_step w #[.pointer o] 31
  obtain ⟨w2, hw2, s2, b2, P2⟩ := blk_step w1 #[.string k] 9
  obtain ⟨w3, hw3, s3, b3, P3⟩ := blk_step w2 #[.string ⟨#[]⟩] 9
  obtain ⟨w4, hw4, s4, b4, P4⟩ := blk_step w3 #[.bool false] 4
  rw [s1] at P2
  rw [s2, s1] at P3
  rw [s3, s2, s1] at P4
  have bk : Below w.heap.size w w4 := (((b1.trans (b2.mono (by omega))).trans (b3.mono (by omega))).trans (b4.mono (by omega)))
  have d1 : w4.cell? ⟨w.heap.size, 0, none⟩ = some (.pointer o) := blk_cell ((b4.block _ (by omega)).trans ((b3.block _ (by omega)).trans ((b2.block _ (by omega)).trans P1))) 0 rfl
  have Q0 := hide ((b4.block _ (by omega)).trans P3)
  have Q1 := hide P4
  have R := hide (fun f a b => zcall_no o f a b w4 (h.below bk))
  have BK := hide bk
  have SZ : Hid (w4.heap.size = w.heap.size + 1 + 1 + 1 + 1) := hide (by omega)
  clear h bk b1 P1 b2 P2 b3 P3 b4 P4 s4
  go_enter Tryz.func5, Tryz.ntmps5
  go_wp2_with fail
  refine (R.out _ _ _).mono ?_
  rintro E W ⟨rfl, bW⟩
  have sz := SZ.out
  have q0 := (bW.block (w.heap.size + 1 + 1) (by omega)).trans Q0.out
  have e0 : W.cell? ⟨w.heap.size + 1 + 1, 0, none⟩ = some (.string ⟨#[]⟩) := blk_cell q0 0 rfl
  have f0 := blk_froz q0 0
  have u0 : W.setCell ⟨w.heap.size + 1 + 1, 0, none⟩ (.string ⟨#[]⟩) = W := set_same q0 (j := 0) rfl
  have q1 := (bW.block (w.heap.size + 1 + 1 + 1) (by omega)).trans Q1.out
  have e1 : W.cell? ⟨w.heap.size + 1 + 1 + 1, 0, none⟩ = some (.bool false) := blk_cell q1 0 rfl
  have f1 := blk_froz q1 0
  have u1 : W.setCell ⟨w.heap.size + 1 + 1 + 1, 0, none⟩ (.bool false) = W := set_same q1 (j := 0) rfl
  have RR := hide (BK.out.trans (bW.mono (by omega)))
  clear R BK SZ sz bW q0 Q0 q1 Q1
  go_wp2_with fail
  go_region
  all_goals
    go_wp2
    refine bodyPost_ret (v := .tuple #[.string ⟨#[]⟩, .bool false, .int .i64 1]) (by simp [results, Tryz.results5, go_sem, e0, e1]) rfl ?_
    exact ⟨rfl, by first | exact RR.out | exact RR.out.drew⟩

set_option maxHeartbeats 1000000 in
theorem ztick_no (o : Option Addr) (w : World) (h : NoN w o) : Calls Tryz.prog 6 #[.pointer o] w fun E w' => E = .returned (.tuple #[.slice none 0 0, .int .i64 1]) ∧ Below w.heap.size w w' := by
  have hmf : ∀ (fn : Fn) (first cap : Array Value) (w : World), (Instr.makeFunc fn first cap).run Tryz.prog w = .ok (.func fn first cap) w := fun _ _ _ _ => rfl
  obtain ⟨w1, hw1, s1, b1, P1⟩ := blk_step w #[.pointer o] 31
  obtain ⟨w2, hw2, s2, b2, P2⟩ := blk_step w1 #[.slice none 0 0] 44
  rw [s1] at P2
  have bk : Below w.heap.size w w2 := (b1.trans (b2.mono (by omega)))
  have d1 : w2.cell? ⟨w.heap.size, 0, none⟩ = some (.pointer o) := blk_cell ((b2.block _ (by omega)).trans P1) 0 rfl
  have Q0 := hide P2
  have R := hide (fun f a b => zcall_no o f a b w2 (h.below bk))
  have BK := hide bk
  have SZ : Hid (w2.heap.size = w.heap.size + 1 + 1) := hide (by omega)
  clear h bk b1 P1 b2 P2 s2
  go_enter Tryz.func6, Tryz.ntmps6
  go_wp2_with fail
  refine (R.out _ _ _).mono ?_
  rintro E W ⟨rfl, bW⟩
  have sz := SZ.out
  have q0 := (bW.block (w.heap.size + 1) (by omega)).trans Q0.out
  have e0 : W.cell? ⟨w.heap.size + 1, 0, none⟩ = some (.slice none 0 0) := blk_cell q0 0 rfl
  have f0 := blk_froz q0 0
  have u0 : W.setCell ⟨w.heap.size + 1, 0, none⟩ (.slice none 0 0) = W := set_same q0 (j := 0) rfl
  have RR := hide (BK.out.trans (bW.mono (by omega)))
  clear R BK SZ sz bW q0 Q0
  all_goals
    go_wp2
    refine bodyPost_ret (v := .tuple #[.slice none 0 0, .int .i64 1]) (by simp [results, Tryz.results6, go_sem, e0]) rfl ?_
    exact ⟨rfl, by first | exact RR.out | exact RR.out.drew⟩

set_option maxHeartbeats 1000000 in
theorem zreceive_no (o : Option Addr) (a : Option Addr) (n k : Nat) (w : World) (h : NoN w o) : Calls Tryz.prog 7 #[.pointer o, .slice a n k] w fun E w' => E = .returned (.tuple #[.slice none 0 0, .int .i64 1]) ∧ Below w.heap.size w w' := by
  have hmf : ∀ (fn : Fn) (first cap : Array Value) (w : World), (Instr.makeFunc fn first cap).run Tryz.prog w = .ok (.func fn first cap) w := fun _ _ _ _ => rfl
  obtain ⟨w1, hw1, s1, b1, P1⟩ := blk_step w #[.pointer o] 31
  obtain ⟨w2, hw2, s2, b2, P2⟩ := blk_step w1 #[.slice a n k] 28
  obtain ⟨w3, hw3, s3, b3, P3⟩ := blk_step w2 #[.slice none 0 0] 44
  rw [s1] at P2
  rw [s2, s1] at P3
  have bk : Below w.heap.size w w3 := ((b1.trans (b2.mono (by omega))).trans (b3.mono (by omega)))
  have d1 : w3.cell? ⟨w.heap.size, 0, none⟩ = some (.pointer o) := blk_cell ((b3.block _ (by omega)).trans ((b2.block _ (by omega)).trans P1)) 0 rfl
  have Q0 := hide P3
  have R := hide (fun f a b => zcall_no o f a b w3 (h.below bk))
  have BK := hide bk
  have SZ : Hid (w3.heap.size = w.heap.size + 1 + 1 + 1) := hide (by omega)
  clear h bk b1 P1 b2 P2 b3 P3 s3
  go_enter Tryz.func7, Tryz.ntmps7
  go_wp2_with fail
  refine (R.out _ _ _).mono ?_
  rintro E W ⟨rfl, bW⟩
  have sz := SZ.out
  have q0 := (bW.block (w.heap.size + 1 + 1) (by omega)).trans Q0.out
  have e0 : W.cell? ⟨w.heap.size + 1 + 1, 0, none⟩ = some (.slice none 0 0) := blk_cell q0 0 rfl
  have f0 := blk_froz q0 0
  have u0 : W.setCell ⟨w.heap.size + 1 + 1, 0, none⟩ (.slice none 0 0) = W := set_same q0 (j := 0) rfl
  have RR := hide (BK.out.trans (bW.mono (by omega)))
  clear R BK SZ sz bW q0 Q0
  all_goals
    go_wp2
    refine bodyPost_ret (v := .tuple #[.slice none 0 0, .int .i64 1]) (by simp [results, Tryz.results7, go_sem, e0]) rfl ?_
    exact ⟨rfl, by first | exact RR.out | exact RR.out.drew⟩

set_option maxHeartbeats 1000000 in
theorem zpromote_no (o : Option Addr) (w : World) (h : NoN w o) : Calls Tryz.prog 8 #[.pointer o] w fun E w' => E = .returned (.tuple #[.int .i64 0, .int .i64 1]) ∧ Below w.heap.size w w' := by
  have hmf : ∀ (fn : Fn) (first cap : Array Value) (w : World), (Instr.makeFunc fn first cap).run Tryz.prog w = .ok (.func fn first cap) w := fun _ _ _ _ => rfl
  obtain ⟨w1, hw1, s1, b1, P1⟩ := blk_step w #[.pointer o] 31
  obtain ⟨w2, hw2, s2, b2, P2⟩ := blk_step w1 #[.int .i64 0] 3
  rw [s1] at P2
  have bk : Below w.heap.size w w2 := (b1.trans (b2.mono (by omega)))
  have d1 : w2.cell? ⟨w.heap.size, 0, none⟩ = some (.pointer o) := blk_cell ((b2.block _ (by omega)).trans P1) 0 rfl
  have Q0 := hide P2
  have R := hide (fun f a b => zcall_no o f a b w2 (h.below bk))
  have BK := hide bk
  have SZ : Hid (w2.heap.size = w.heap.size + 1 + 1) := hide (by omega)
  clear h bk b1 P1 b2 P2 s2
  go_enter Tryz.func8, Tryz.ntmps8
  go_wp2_with fail
  refine (R.out _ _ _).mono ?_
  rintro E W ⟨rfl, bW⟩
  have sz := SZ.out
  have q0 := (bW.block (w.heap.size + 1) (by omega)).trans Q0.out
  have e0 : W.cell? ⟨w.heap.size + 1, 0, none⟩ = some (.int .i64 0) := blk_cell q0 0 rfl
  have f0 := blk_froz q0 0
  have u0 : W.setCell ⟨w.heap.size + 1, 0, none⟩ (.int .i64 0) = W := set_same q0 (j := 0) rfl
  have RR := hide (BK.out.trans (bW.mono (by omega)))
  clear R BK SZ sz bW q0 Q0
  all_goals
    go_wp2
    refine bodyPost_ret (v := .tuple #[.int .i64 0, .int .i64 1]) (by simp [results, Tryz.results8, go_sem, e0]) rfl ?_
    exact ⟨rfl, by first | exact RR.out | exact RR.out.drew⟩

end Go.Proofs.YtajlhdmnincehaaGreatDoor

/- What an argument that is a page, or a slice of pages, comes in as; what the variable 'most' holds. -/
namespace Go.Proofs.YtajlhdmnincehaaGreatDoor
open Go.RowKit Go.ChangeShapes Go.WideShapes Go.Deep
set_option linter.unusedVariables false





section
variable {H : Type} {enc : TypeId × Value → H} {P : Program} {w : World} {base : Nat} {spare : Nat → Bool} {held : Bool}




end

set_option maxRecDepth 100000 in
/-- What the card ties: the variable 'most' holds its six numbers. -/
theorem mst_of {W : World} (h : laidMetH Tryz.prog [("lagleash/page.most", Rows.laid_lagleash_page_most)] W) : Mst W := by
  rw [MakeChecks.laidMetH_plain _ _ _ (by kernel_rfl)] at h
  obtain ⟨ps, ⟨g, t, cs, fuel, p, q, hg, ht, hv, hd, _, _⟩, _, _⟩ := h
  obtain rfl := Option.some.inj ((show Tryz.prog.globalNamed "lagleash/page.most" = some 0 by kernel_rfl).symm.trans hg)
  obtain rfl := Option.some.inj ((show (Tryz.prog.globals[0]?).map (·.type) = some 144 by kernel_rfl).symm.trans ht)
  have c3 : Tryz.prog.cellsOf 3 = 1 := by kernel_rfl
  have c49 : Tryz.prog.cellsOf 144 = 6 := by kernel_rfl
  obtain ⟨xs, m, _, ex, hlen, hl, hel⟩ := DataW.trod_array Tryz.underlying144 hd
  rw [c49] at hlen
  have hcell := fun r => World.var?_cell hg hv r
  obtain ⟨l⟩ := cs
  match l, hlen with
  | [a0, a1, a2, a3, a4, a5], _ =>
    match xs, hl with
    | [x0, x1, x2, x3, x4, x5], _ =>
      have e3 := (DataW.agg.inj (Prod.mk.inj ex).1)
      simp only [List.map_cons, List.map_nil, List.cons.injEq, and_true] at e3
      obtain ⟨t0, t1, t2, t3, t4, t5⟩ := e3
      have k0 := hel 0 (by omega); have k1 := hel 1 (by omega); have k2 := hel 2 (by omega); have k3 := hel 3 (by omega); have k4 := hel 4 (by omega); have k5 := hel 5 (by omega)
      rw [c3] at k0 k1 k2 k3 k4 k5
      obtain ⟨z0, b0, d0, _⟩ := DataW.trod_int Tryz.underlying3 k0
      obtain ⟨z1, b1, d1, _⟩ := DataW.trod_int Tryz.underlying3 k1
      obtain ⟨z2, b2, d2, _⟩ := DataW.trod_int Tryz.underlying3 k2
      obtain ⟨z3, b3, d3, _⟩ := DataW.trod_int Tryz.underlying3 k3
      obtain ⟨z4, b4, d4, _⟩ := DataW.trod_int Tryz.underlying3 k4
      obtain ⟨z5, b5, d5, _⟩ := DataW.trod_int Tryz.underlying3 k5
      simp at b0 b1 b2 b3 b4 b5 d0 d1 d2 d3 d4 d5
      subst b0 b1 b2 b3 b4 b5 d0 d1 d2 d3 d4 d5
      simp at t0 t1 t2 t3 t4 t5
      subst t0 t1 t2 t3 t4 t5
      exact ⟨hcell 0, hcell 1, hcell 2, hcell 3, hcell 4, hcell 5⟩

end Go.Proofs.YtajlhdmnincehaaGreatDoor
