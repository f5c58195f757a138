/- Texts of one layer, one behind the other. -/
import Derived.SizedLaws
import Derived.Lib.SmallJoins
import Derived.Deep.Slices
import Derived.Test.YtmmfakpphjjjfaaGreatG9
import Derived.Test.YtmmfakpphjjjfaaGreatG41
import Derived.Test.YtmmfakpphjjjfaaGreatG44
import Derived.Test.YtmmfakpphjjjfaaGreatG42
import Derived.Test.YtmmfakpphjjjfaaGreatG37
/- What a number, bytes, a row of an argument come in as. No program. -/
namespace Go.Proofs.YtmmfakpphjjjfaaGreat
open Go.RowKit Go.ChangeShapes Go.WideShapes Go.Deep
set_option linter.unusedVariables false

section
variable {H : Type} {enc : TypeId × Value → H} {P : Program} {w : World} {base : Nat} {spare : Nat → Bool} {held : Bool}

theorem gcells_inv {α : Type} {f : α → List Value} {k : Nat} (hk : ∀ a, (f a).length = k) (h0 : 0 < k) : ∀ (l : List α) (j : Nat) (u : Value), (gcells f l)[j]? = some u → ∃ i a m, l[i]? = some a ∧ j = i * k + m ∧ (f a)[m]? = some u
 | [], j, u, h => by simp [gcells] at h
 | a :: r, j, u, h => by
  rw [gcells] at h
  by_cases hj : j < k
  ·rw [List.getElem?_append_left (by rw [hk]; exact hj)] at h
   exact ⟨0, a, j, rfl, by omega, h⟩
  ·rw [List.getElem?_append_right (by rw [hk]; omega), hk] at h
   obtain ⟨i, b, m, h1, h2, h3⟩ := gcells_inv hk h0 r (j - k) u h
   exact ⟨i + 1, b, m, by simpa using h1, by rw [Nat.add_mul]; omega, h3⟩

end

end Go.Proofs.YtmmfakpphjjjfaaGreat

/- What an argument that is a slice of lists of ops, or a slice of texts, comes in as. No program. -/
namespace Go.Proofs.YtmmfakpphjjjfaaGreat
open Go.RowKit Go.ChangeShapes Go.WideShapes Go.Deep
set_option linter.unusedVariables false

def strc (s : ByteArray) : List Value := [.string s]
theorem strc_len (s : ByteArray) : (strc s).length = 1 := rfl

def IsS (w : World) (v : Value) (ks : List ByteArray) : Prop := RowG strc w v ks
def FitS (ks : List ByteArray) : Prop := ∀ s ∈ ks, s.size ≤ 140737488351232

theorem IsS.full {w : World} {v : Value} {r : List ByteArray} (h : IsS w v r) (hne : 0 < r.length) :
  ∃ b off cap, v = .slice (some ⟨b, off, none⟩) r.length cap ∧ r.length ≤ cap ∧ cap ≤ maxLen ∧ b < w.heap.size ∧ ∀ i a, r[i]? = some a → w.cell? ⟨b, off + i, none⟩ = some (.string a) := by
 obtain ⟨b, off, cap, h1, h2, h3, h4, h5⟩ := RowG.full strc_len (by decide) h hne
 refine ⟨b, off, cap, h1, h2, h3, h4, fun i a ha => ?_⟩
 have := h5 i a ha 0 (.string a) rfl
 simpa using this

section
variable {H : Type} {enc : TypeId × Value → H} {P : Program} {w : World} {base : Nat} {spare : Nat → Bool} {held : Bool}

theorem open_lists {t e o : TypeId} {g0 g1 g2 : Field} {fuel : Nat} {v : Value} {x : DataW H × List MemPlace} (ht : P.underlying t = some (.slice e)) (he : P.underlying e = some (.slice o)) (ce : P.cellsOf e = 1)
  (ho : P.underlying o = some (.struct #[g0, g1, g2])) (hone' : oneCellFields P #[g0, g1, g2] = true) (co : P.cellsOf o = 3) (k0 : P.underlying g0.type = some .bool) (k1 : P.underlying g1.type = some .string) (k2 : P.underlying g2.type = some .string)
  (h : DataW.trod enc P w base spare held fuel t [v] = some x) : ∃ r : List Rw, IsLL w v r ∧ ((x.1 = .nil ∧ r = []) ∨ ∃ ds sp, x.1 = .slice ds sp ∧ ds.length = r.length ∧ ∀ (i : Nat) (c : Rw), r[i]? = some c → ∃ d, ds[i]? = some d ∧ OpsD d c.l) := by
 rcases open_slice ht h with ⟨hv, hx⟩ | ⟨a, len, cap, m, n, D, Pl, hv, hb, hl, hm, hmm, rfl, hx⟩
 ·simp at hv
  subst hv hx
  exact ⟨[], ⟨RowG.nil _ _, fun a ha => by simp at ha⟩, .inl ⟨rfl, rfl⟩⟩
 ·simp at hv
  subst hv
  have hlm : len ≤ m := by rw [hmm]; split <;> omega
  have each : ∀ i, i < len → ∃ c : Rw, w.cell? (a.add i) = some c.v ∧ IsO w c.v c.l ∧ OpsD (D i) c.l := by
   intro i hi
   obtain ⟨cs', h1, h2⟩ := hx i (by omega)
   rw [ce] at h1
   obtain ⟨_, hlen, hcell⟩ := World.cells?_some h1
   match cs', hlen with
   | [v0], _ =>
    obtain ⟨l, hl2, hd2⟩ := open_ops he ho hone' co k0 k1 k2 h2
    have e0 := hcell 0 (by omega)
    rw [Go.Deep.add_add] at e0
    exact ⟨⟨v0, l⟩, by simpa using e0, hl2, hd2⟩
  have : Inhabited Rw := ⟨⟨.slice none 0 0, []⟩⟩
  obtain ⟨f, hf⟩ := choose_lt each
  refine ⟨(List.range len).map f, ⟨.inr ⟨a, cap, by simp, by simpa using hl, hm, fun j u hj => ?_⟩, fun c hc => ?_⟩, .inr ⟨(List.range len).map D, (List.range (m - len)).map fun j => D (len + j), rfl, by simp, fun i c hic => ?_⟩⟩
  ·obtain ⟨i, c, m', hic, rfl, hu⟩ := gcells_inv rwc_len (by decide) _ j u hj
   obtain ⟨hi, e⟩ := List.getElem?_eq_some_iff.1 hic
   simp at hi e
   subst e
   have hm0 : m' = 0 := by
    have := (List.getElem?_eq_some_iff.1 hu).1
    simp [rwc] at this
    exact this
   subst hm0
   simp [rwc] at hu
   subst hu
   simpa using (hf i hi).1
  ·obtain ⟨i, hi, rfl⟩ := List.mem_map.1 hc
   exact (hf i (by simpa using hi)).2.1
  ·obtain ⟨hi, e⟩ := List.getElem?_eq_some_iff.1 hic
   simp at hi e
   subst e
   exact ⟨D i, by simp [hi], (hf i hi).2.2⟩

def StrD (d : DataW H) (s : ByteArray) : Prop := d = .lit (.string s.data.toList)

theorem open_strs {t e : TypeId} {fuel : Nat} {v : Value} {x : DataW H × List MemPlace} (ht : P.underlying t = some (.slice e)) (he : P.underlying e = some .string) (ce : P.cellsOf e = 1)
  (h : DataW.trod enc P w base spare held fuel t [v] = some x) : ∃ r : List ByteArray, IsS w v r ∧ ((x.1 = .nil ∧ r = []) ∨ ∃ ds sp, x.1 = .slice ds sp ∧ ds.length = r.length ∧ ∀ (i : Nat) (c : ByteArray), r[i]? = some c → ∃ d, ds[i]? = some d ∧ StrD d c) := by
 rcases open_slice ht h with ⟨hv, hx⟩ | ⟨a, len, cap, m, n, D, Pl, hv, hb, hl, hm, hmm, rfl, hx⟩
 ·simp at hv
  subst hv hx
  exact ⟨[], RowG.nil _ _, .inl ⟨rfl, rfl⟩⟩
 ·simp at hv
  subst hv
  have hlm : len ≤ m := by rw [hmm]; split <;> omega
  have each : ∀ i, i < len → ∃ c : ByteArray, w.cell? (a.add i) = some (.string c) ∧ StrD (D i) c := by
   intro i hi
   obtain ⟨cs', h1, h2⟩ := hx i (by omega)
   rw [ce] at h1
   obtain ⟨_, hlen, hcell⟩ := World.cells?_some h1
   match cs', hlen with
   | [v0], _ =>
    obtain ⟨s, hs, hsd, _⟩ := DataW.trod_string he h2
    simp at hs
    subst hs
    have e0 := hcell 0 (by omega)
    rw [Go.Deep.add_add] at e0
    exact ⟨s, by simpa using e0, by unfold StrD; simpa using congrArg Prod.fst hsd⟩
  have : Inhabited ByteArray := ⟨⟨#[]⟩⟩
  obtain ⟨f, hf⟩ := choose_lt each
  refine ⟨(List.range len).map f, .inr ⟨a, cap, by simp, by simpa using hl, hm, fun j u hj => ?_⟩, .inr ⟨(List.range len).map D, (List.range (m - len)).map fun j => D (len + j), rfl, by simp, fun i c hic => ?_⟩⟩
  ·obtain ⟨i, c, m', hic, rfl, hu⟩ := gcells_inv strc_len (by decide) _ j u hj
   obtain ⟨hi, e⟩ := List.getElem?_eq_some_iff.1 hic
   simp at hi e
   subst e
   have hm0 : m' = 0 := by
    have := (List.getElem?_eq_some_iff.1 hu).1
    simp [strc] at this
    exact this
   subst hm0
   simp [strc] at hu
   subst hu
   simpa using (hf i hi).1
  ·obtain ⟨hi, e⟩ := List.getElem?_eq_some_iff.1 hic
   simp at hi e
   subst e
   exact ⟨D i, by simp [hi], (hf i hi).2⟩

theorem sized_strs {ts : List TypeId} {ds : List (DataW H)} (h : (DataW.weightsEach P ts ds).all (· ≤ reachBytes) = true) {j : Nat} {t e : TypeId} {r : List ByteArray} {es sp : List (DataW H)} (ht : ts[j]? = some t) (hd : ds[j]? = some (.slice es sp)) (hlen : es.length = r.length) (hr : ∀ (i : Nat) (c : ByteArray), r[i]? = some c → ∃ d, es[i]? = some d ∧ StrD d c)
  (hu : P.underlying t = some (.slice e)) (he : P.underlying e = some .string) (hb : P.bytesOf e = 16) :
  FitS r ∧ r.length * 16 ≤ 140737488351232 := by
 have hall := List.all_eq_true.1 h
 refine ⟨fun c hc => ?_, ?_⟩
 ·obtain ⟨i, hi⟩ := List.getElem?_of_mem hc
  obtain ⟨d, hd1, hd2⟩ := hr i c hi
  have key : c.data.toList.length ≤ reachBytes := of_decide_eq_true (hall _ (DataW.weights_mem_each ht hd _ (by
   simp only [DataW.weights, hu]
   refine List.mem_cons_of_mem _ (List.mem_append_left _ (weights_all (List.mem_of_getElem? hd1) ?_))
   unfold StrD at hd2
   subst hd2
   simp [DataW.weights])))
  rw [Lib.size_eq]
  exact key
 ·have := sized_slice h ht hd hu
  rw [hb] at this
  simp only [reachBytes] at this
  omega

end

end Go.Proofs.YtmmfakpphjjjfaaGreat

/- Do both stores tell the same? -/
namespace Go.Proofs.YtmmfakpphjjjfaaGreat
open Go.RowKit
open Bm (Ov)
set_option linter.unusedVariables false

theorem live_len (t : List Ov) : (Tm.live t).length ≤ t.length := by
 unfold Tm.live
 first | exact List.length_filter_le _ _ | (rw [List.length_map]; exact List.length_filter_le _ _)

set_option maxRecDepth 20000 in
set_option maxHeartbeats 4000000 in
theorem ssame_any (w0 w : World) (s : Sto.Ss) (ps p q xs x y : Nat) (F G : Nat → Prop) (h : TP w0 w s s ps p q xs x y F G) (k : Nat) (hin : SIn k s) (hk : k ≤ 80) (gv : Value) (ks : List ByteArray) (hks : IsS w gv ks) (hkf : FitS ks) (hkl : ks.length ≤ 20) :
  Calls Tryz.prog 17 #[.pointer (some ⟨ps, 0, none⟩), .pointer (some ⟨xs, 0, none⟩), gv] w fun E w' => E = .returned (.bool true) ∧ Below w.heap.size w w' := by
 have ok := h.yy.ok
 have hro := hin.ro ok
 have hnum := hin.num
 have hops := hin.ops
 have hrest := hin.rest
 have hfold := hin.fold
 have HE1 : Hid (∀ W, Below w.heap.size w W → Calls Tryz.prog 27 #[.pointer (some ⟨ps, 0, none⟩)] W fun E w' => E = .returned (.int .i64 (Sto.fin s)) ∧ Below w.heap.size w w') := hide fun W hW => (sEnd_any ps p q F W s (h.ss.below hW)).mono fun E w' k => ⟨k.1, hW.trans (k.2.mono hW.size)⟩
 have HE2 : Hid (∀ W, Below w.heap.size w W → Calls Tryz.prog 49 #[.pointer (some ⟨xs, 0, none⟩)] W fun E w' => E = .returned (.int .i64 (Sto.fin s)) ∧ Below w.heap.size w w') := hide fun W hW => (dEnd_any xs x y G W s (h.yy.below hW)).mono fun E w' k => ⟨k.1, hW.trans (k.2.mono hW.size)⟩
 have HR1 : Hid (∀ W, Below w.heap.size w W → Calls Tryz.prog 28 #[.pointer (some ⟨ps, 0, none⟩)] W fun E w' => E = .returned (.int .i64 s.l.length) ∧ Below w.heap.size w w') := hide fun W hW => (sRest_any ps p q F W s (h.ss.below hW)).mono fun E w' k => ⟨k.1, hW.trans (k.2.mono hW.size)⟩
 have HR2 : Hid (∀ W, Below w.heap.size w W → Calls Tryz.prog 54 #[.pointer (some ⟨xs, 0, none⟩)] W fun E w' => E = .returned (.int .i64 s.l.length) ∧ Below w.heap.size w w') := hide fun W hW => (dRest_any xs x y G W s (h.yy.below hW)).mono fun E w' k => ⟨k.1, k.2 ▸ hW⟩
 have HA1 : Hid (∀ W, Below w.heap.size w W → Calls Tryz.prog 21 #[.pointer (some ⟨ps, 0, none⟩), .int .i64 1000] W fun E w' => ∃ v, E = .returned v ∧ OwnO 65 W.heap.size w' v (Tm.live (Sto.fold s)) ∧ Below W.heap.size W w') := hide fun W hW => by
  have hT := h.below hW
  have hS : Sn w0 W ps p q F s := ⟨hT.ss, h.fb, hT.bel⟩
  have := hS.all 1000 (by omega) (by omega)
  rw [List.take_of_length_le (by have := live_len (Sto.fold s); omega)] at this
  exact this
 have HA2 : Hid (∀ W, Below w.heap.size w W → Calls Tryz.prog 19 #[.pointer (some ⟨xs, 0, none⟩)] W fun E w' => ∃ v, E = .returned v ∧ OwnO 65 W.heap.size w' v (Tm.live (Sto.fold s)) ∧ Below W.heap.size W w') := hide fun W hW => dAll_any xs x y G W s (h.yy.below hW) (by omega) (by omega)
 have HG1 : Hid (∀ W key, key.size ≤ 140737488351232 → Below w.heap.size w W → Calls Tryz.prog 26 #[.pointer (some ⟨ps, 0, none⟩), .string key] W fun E w' => E = .returned (.tuple #[.string (Go.Proofs.YtmmfakpphjjjfaaGreat.gv (Sto.fold s) key), .bool (gp (Sto.fold s) key)]) ∧ Below w.heap.size w w') := hide fun W key hz hW => (sget_any ps p q F W s key (h.ss.below hW) (by omega)).mono fun E w' k => ⟨k.1, hW.trans (k.2.mono hW.size)⟩
 have HG2 : Hid (∀ W key, Below w.heap.size w W → Calls Tryz.prog 55 #[.pointer (some ⟨xs, 0, none⟩), .string key] W fun E w' => E = .returned (.tuple #[.string (Go.Proofs.YtmmfakpphjjjfaaGreat.gv (Sto.fold s) key), .bool (gp (Sto.fold s) key)]) ∧ Below w.heap.size w w') := hide fun W key hW => (dGet_any xs x y G W s key (h.yy.below hW) (by omega) (by omega)).mono fun E w' k => ⟨k.1, hW.trans (k.2.mono hW.size)⟩
 have hll : (Tm.live (Sto.fold s)).length ≤ 1000 := by have := live_len (Sto.fold s); omega
 obtain ⟨ga, gk, hgv, _, _⟩ := hks.shape
 have HK0 := hide hks
 have HKF := hide hkf
 subst hgv
 generalize Sto.fin s = fi at *
 generalize s.l.length = rl at *
 have hfi : (fi != fi) = false := by simp
 have hrl : ((rl : Int) != (rl : Int)) = false := by simp
 clear h hin ok hks hkf
 go_enter Tryz.func17, Tryz.ntmps17
 go_wp2_with fail
 refine (HE1.out _ (Below.refl _ _)).mono ?_
 rintro E w1 ⟨rfl, b1⟩
 have X1 := hide (HE2.out _ b1)
 clear HE1 HE2 b1
 go_wp2_with fail
 refine X1.out.mono ?_
 rintro E w2 ⟨rfl, b2⟩
 have X2 := hide (HR1.out _ b2)
 clear X1 HR1 b2
 go_wp2_with fail
 refine X2.out.mono ?_
 rintro E w3 ⟨rfl, b3⟩
 have X3 := hide (HR2.out _ b3)
 clear X2 HR2 b3
 go_wp2_with fail
 refine X3.out.mono ?_
 rintro E w4 ⟨rfl, b4⟩
 have X4 := hide (HA1.out _ b4)
 have B4 := hide b4
 clear X3 HA1 b4
 go_wp2_with fail
 refine X4.out.mono ?_
 rintro E w5 ⟨v5, rfl, o5, b5⟩
 have B5 := hide (B4.out.trans (b5.mono B4.out.size))
 have X5 := hide (HA2.out _ B5.out)
 have O5 := hide o5
 obtain ⟨a5, k5, hv5, _, _⟩ := o5.is.shape
 subst hv5
 clear X4 HA2 b5 o5
 go_wp2_with fail
 refine X5.out.mono ?_
 rintro E w6 ⟨v6, rfl, o6, b6⟩
 have B6 := hide (B5.out.trans (b6.mono B5.out.size))
 have SO := hide (sameO_any _ _ _ _ w6 (O5.out.below b6).is o6.is (by omega) (by omega))
 rw [Bm.sameL_self] at SO
 obtain ⟨a6, k6, hv6, _, _⟩ := o6.is.shape
 subst hv6
 clear X5 o6 b6 O5
 go_wp2_with fail
 refine SO.out.mono ?_
 rintro E w7 ⟨rfl, b7⟩
 have BZ := hide (B6.out.trans (b7.mono B6.out.size))
 clear SO b7 B6 B5 B4
 go_wp2
 go_loopw [7] (fun iv wr => ∃ (j : Nat), j ≤ ks.length ∧ iv = .int .i64 j ∧ Hid (Below w.heap.size w wr)) (fun iv _ => ks.length - (intOf iv).toNat)
 case atStart => exact ⟨0, by omega, rfl, BZ⟩
 case round =>
  obtain ⟨j, hj, rfl, BR⟩ := hrel
  by_cases hlt : j < ks.length
  ·obtain ⟨qb, qo, qk, hvx, _, _, hQB, hcell⟩ := IsS.full (r := ks) (HK0.out.below BR.out) (by omega)
   simp only [Value.slice.injEq, true_and] at hvx
   obtain ⟨rfl, rfl⟩ := hvx
   obtain ⟨key, hkey⟩ : ∃ a, ks[j]? = some a := ⟨ks[j], by rw [List.getElem?_eq_getElem]⟩
   have d0 := hcell j key hkey
   have hlt' : (j : Int) < ks.length := by omega
   have hj0 : (0 : Int) ≤ (j : Int) := by omega
   have K1 := hide (HG1.out wr key (HKF.out key (List.mem_of_getElem? hkey)) BR.out)
   have K2 : Hid (∀ W, Below w.heap.size w W → Calls Tryz.prog 55 #[.pointer (some ⟨xs, 0, none⟩), .string key] W fun E w' => E = .returned (.tuple #[.string (Go.Proofs.YtmmfakpphjjjfaaGreat.gv (Sto.fold s) key), .bool (gp (Sto.fold s) key)]) ∧ Below w.heap.size w w') := hide fun W hW => HG2.out W key hW
   have D0 : Hid (∀ W, Below w.heap.size w W → ∃ v, W.cell? ⟨qb, qo + j, none⟩ = some v) := hide fun W hW => by
    have h1 := IsS.full (r := ks) (HK0.out.below hW) (by omega)
    obtain ⟨qb', qo', qk', hvx', _, _, _, hcell'⟩ := h1
    simp only [Value.slice.injEq, Option.some.injEq, Addr.mk.injEq, true_and, and_true] at hvx'
    obtain ⟨⟨rfl, rfl⟩, _⟩ := hvx'
    exact ⟨_, hcell' j key hkey⟩
   have D1 : Hid (∀ W, Below w.heap.size w W → W.cell? ⟨qb, qo + j, none⟩ = some (.string key)) := hide fun W hW => by
    have h1 := IsS.full (r := ks) (HK0.out.below hW) (by omega)
    obtain ⟨qb', qo', qk', hvx', _, _, _, hcell'⟩ := h1
    simp only [Value.slice.injEq, Option.some.injEq, Addr.mk.injEq, true_and, and_true] at hvx'
    obtain ⟨⟨rfl, rfl⟩, _⟩ := hvx'
    exact hcell' j key hkey
   generalize Go.Proofs.YtmmfakpphjjjfaaGreat.gv (Sto.fold s) key = ka at *
   generalize gp (Sto.fold s) key = kc at *
   have hka : (ka.toList == ka.toList) = true := by simp
   have hkc : (kc != kc) = false := by simp
   clear HG1 HG2 hcell hkey BZ D0
   go_wp2_with fail
   refine K1.out.mono ?_
   rintro E w8 ⟨rfl, b8⟩
   have d8 := D1.out w8 b8
   have Y2 := hide (K2.out w8 b8)
   clear K1 K2 b8 D1
   go_wp2_with fail
   refine Y2.out.mono ?_
   rintro E w9 ⟨rfl, b9⟩
   have BN := hide b9
   clear Y2 b9
   go_wp2
   go_roundw
   case rel => exact ⟨j + 1, by omega, by go_num, BN⟩
   case measure => simp [intOf]; omega
  ·have hnl : ¬ (j : Int) < ks.length := by omega
   have e : j = ks.length := by omega
   clear HK0 HG1 HG2 BZ
   go_wp2
   go_ret
   exact ⟨rfl, BR.out⟩

end Go.Proofs.YtmmfakpphjjjfaaGreat

/- A script of a store: small; the stores' beginnings. -/
namespace Go.Proofs.YtmmfakpphjjjfaaGreat
open Go.RowKit
open Bm (Ov)
set_option linter.unusedVariables false

theorem scall_any (w0 w : World) (s : Sto.Ss) (ps p q xs x y : Nat) (F G : Nat → Prop) (h : TP w0 w s s ps p q xs x y F G) (k : Nat) (hin : SIn k s) (hk : k ≤ 80) (a : Bc) (ha : BcOk w0 a) (hfit : FitO a.c.l) (h40 : a.c.l.length ≤ 40) :
  Calls Tryz.prog 16 #[.pointer (some ⟨ps, 0, none⟩), .pointer (some ⟨xs, 0, none⟩), bcv a] w fun E w' => E = .returned (.bool true) ∧ TD w0 ps p q xs x y k w' := by
 obtain ⟨h0, h1⟩ := pk_lt a.k 4 (by omega)
 have haw : BcOk w a := ha.below h.bel
 have hc : pk a.k 4 = 0 ∨ pk a.k 4 = 1 ∨ pk a.k 4 = 2 ∨ pk a.k 4 = 3 := by omega
 rcases hc with e | e | e | e
 ·exact scall0 w0 w s ps p q xs x y F G h k hin hk a ha hfit h40 e
 ·exact scall1 w0 w s ps p q xs x y F G h k hin hk a ha hfit h40 e
 ·exact scall2 w0 w s ps p q xs x y F G h k hin hk a haw e
 ·exact scall3 w0 w s ps p q xs x y F G h k hin hk a haw e

def smS (l : List Bc) (r : List Cw) : Bool := l.all (fun a => decide (a.c.l.length ≤ 40)) && (r.all (fun c => decide (c.l.length ≤ 40)) && (decide (l.length ≤ 40) && decide (r.length ≤ 40)))

theorem smS_is {l : List Bc} {r : List Cw} (h : smS l r = true) : (l.length ≤ 40 ∧ ∀ a ∈ l, a.c.l.length ≤ 40) ∧ r.length ≤ 40 ∧ ∀ c ∈ r, c.l.length ≤ 40 := by
 unfold smS at h
 simp at h
 exact ⟨⟨h.2.2.1, h.1⟩, h.2.2.2, h.2.1⟩

set_option maxRecDepth 20000 in
set_option maxHeartbeats 2000000 in
theorem ssmall_any (v vr : Value) (l : List Bc) (r : List Cw) (w : World) (h : IsR w v l) (hl : l.length ≤ 140737488355328) (hf : FitR l) (hr : IsC w vr r) (hfr : FitC r) (hrl : r.length ≤ 140737488355328) : Calls Tryz.prog 5 #[v, vr] w fun E w' => E = .returned (.bool (smS l r)) ∧ w = w' := by
 have H := hide h
 have HFQ := hide hf
 have HR := hide hr
 have HFR := hide hfr
 obtain ⟨ao, cap, hv, hcap, hcm⟩ := h.1.shape
 obtain ⟨ro, rcap, hvr, _, _⟩ := hr.1.shape
 subst hv hvr
 clear h hf hr hfr
 go_enter Tryz.func5, Tryz.ntmps5
 go_wp2
 go_loopw [5] (fun iv wr => ∃ k : Nat, k ≤ l.length ∧ iv = .int .i64 k ∧ w = wr ∧ Hid ((l.take k).all (fun a => decide (a.c.l.length ≤ 40)) = true)) (fun iv _ => l.length - (intOf iv).toNat)
 case atStart => exact ⟨0, by omega, rfl, rfl, hide (by simp)⟩
 case round =>
  obtain ⟨k, hk, rfl, rfl, HT⟩ := hrel
  by_cases hlt : k < l.length
  ·obtain ⟨b, off, cq, hvx, _, _, hB, hcell⟩ := H.out.full (by omega)
   simp only [Value.slice.injEq, true_and] at hvx
   obtain ⟨rfl, rfl⟩ := hvx
   obtain ⟨a, ha⟩ : ∃ a, l[k]? = some a := ⟨l[k], by rw [List.getElem?_eq_getElem]⟩
   obtain ⟨_, _, _, _, e5⟩ := hcell k a ha
   obtain ⟨av, ac, hav, _, _⟩ := (H.out.2 a (List.mem_of_getElem? ha)).1.shape
   have hfl := (HFQ.out a (List.mem_of_getElem? ha)).2
   rw [hav] at e5
   have hlt' : (k : Int) < l.length := by omega
   have hk0 : (0 : Int) ≤ (k : Int) := by omega
   obtain ⟨hkl, hke⟩ := List.getElem?_eq_some_iff.1 ha
   by_cases hbig : a.c.l.length ≤ 40
   ·have hb1 : ¬ (40 : Int) < (a.c.l.length : Int) := by omega
    have HT2 : Hid ((l.take (k + 1)).all (fun a => decide (a.c.l.length ≤ 40)) = true) := hide (by
     rw [List.take_succ_eq_append_getElem hkl, List.all_append, HT.out, hke]
     simp [hbig])
    clear hcell ha hke hav hfl
    go_wp2
    go_roundw
    case rel => exact ⟨k + 1, by omega, by go_num, trivial, HT2⟩
    case measure => simp [intOf]; omega
   ·have hb1 : (40 : Int) < (a.c.l.length : Int) := by omega
    have hs : smS l r = false := by
     unfold smS
     rw [Bool.and_eq_false_iff]
     left
     rw [List.all_eq_false]
     exact ⟨a, List.mem_of_getElem? ha, by simpa using hbig⟩
    have HS := hide hs
    clear hcell ha hke hav hs hfl
    go_wp2
    go_ret
    exact ⟨by rw [HS.out]; rfl, rfl⟩
  ·have hlt' : ¬ (k : Int) < l.length := by omega
   have LA : Hid (l.all (fun a => decide (a.c.l.length ≤ 40)) = true) := hide (by
    have := HT.out
    rwa [List.take_of_length_le (by omega)] at this)
   clear HT
   go_wp2
   go_loopw [6] (fun iv wr => ∃ k : Nat, k ≤ r.length ∧ iv = .int .i64 k ∧ w = wr ∧ Hid ((r.take k).all (fun a => decide (a.l.length ≤ 40)) = true)) (fun iv _ => r.length - (intOf iv).toNat)
   case atStart => exact ⟨0, by omega, rfl, rfl, hide (by simp)⟩
   case round =>
    obtain ⟨k, hk, rfl, rfl, HT⟩ := hrel
    by_cases hlt : k < r.length
    ·obtain ⟨b, off, cq, hvx, _, _, hB, hcell⟩ := HR.out.1.full (by omega)
     simp only [Value.slice.injEq, true_and] at hvx
     obtain ⟨rfl, rfl⟩ := hvx
     obtain ⟨a, ha⟩ : ∃ a, r[k]? = some a := ⟨r[k], by rw [List.getElem?_eq_getElem]⟩
     obtain ⟨_, _, e5⟩ := hcell k a ha
     obtain ⟨av, ac, hav, _, _⟩ := (HR.out.2 a (List.mem_of_getElem? ha)).1.shape
     have hfl := (HFR.out a (List.mem_of_getElem? ha)).2
     rw [hav] at e5
     have hlt' : (k : Int) < r.length := by omega
     have hk0 : (0 : Int) ≤ (k : Int) := by omega
     obtain ⟨hkl, hke⟩ := List.getElem?_eq_some_iff.1 ha
     by_cases hbig : a.l.length ≤ 40
     ·have hb1 : ¬ (40 : Int) < (a.l.length : Int) := by omega
      have HT2 : Hid ((r.take (k + 1)).all (fun a => decide (a.l.length ≤ 40)) = true) := hide (by
       rw [List.take_succ_eq_append_getElem hkl, List.all_append, HT.out, hke]
       simp [hbig])
      clear hcell ha hke hav hfl
      go_wp2
      go_roundw
      case rel => exact ⟨k + 1, by omega, by go_num, trivial, HT2⟩
      case measure => simp [intOf]; omega
     ·have hb1 : (40 : Int) < (a.l.length : Int) := by omega
      have hs : smS l r = false := by
       unfold smS
       rw [LA.out, Bool.true_and, Bool.and_eq_false_iff]
       left
       rw [List.all_eq_false]
       exact ⟨a, List.mem_of_getElem? ha, by simpa using hbig⟩
      have HS := hide hs
      clear hcell ha hke hav hs hfl
      go_wp2
      go_ret
      exact ⟨by rw [HS.out]; rfl, rfl⟩
    ·have hlt' : ¬ (k : Int) < r.length := by omega
     have hs : smS l r = (decide ((l.length : Int) ≤ 40) && decide ((r.length : Int) ≤ 40)) := by
      have := HT.out
      rw [List.take_of_length_le (by omega)] at this
      unfold smS
      rw [LA.out, this, Bool.true_and, Bool.true_and]
      congr 1
      ·congr 1
       exact propext ⟨fun h => by omega, fun h => by omega⟩
      ·congr 1
       exact propext ⟨fun h => by omega, fun h => by omega⟩
     have HS := hide hs
     clear hs
     by_cases hll : (l.length : Int) ≤ 40
     ·have hlb : decide ((l.length : Int) ≤ 40) = true := by simpa using hll
      go_wp2
      go_ret
      exact ⟨by rw [HS.out, hlb]; rfl, rfl⟩
     ·have hlb : decide ((l.length : Int) ≤ 40) = false := by simpa using hll
      go_wp2
      go_ret
      exact ⟨by rw [HS.out, hlb]; rfl, rfl⟩

theorem xnew_any (w0 w : World) (y : Nat) (hy : w0.heap.size ≤ y) (h : Dk y (fun g => g = y) w Dm.new) (hb : Below w0.heap.size w0 w) :
  Calls Tryz.prog 9 #[.pointer (some ⟨y, 0, none⟩)] w fun E w' => ∃ x G, E = .returned (.tuple #[.pointer (some ⟨x, 0, none⟩), .int .i64 0]) ∧ XW x y G w' rs0 ∧ (∀ g, G g → g = y ∨ w.heap.size ≤ g) ∧ Out (fun g => g = y) w w' ∧ Below w0.heap.size w0 w' := by
 refine (xopen_any y _ w Dm.new h (big_new.mono (by decide) (by decide))).mono ?_
 rintro E w' ⟨l, LG, hc⟩
 have hl := rnew_log LG.out
 subst hl
 rcases hc with ⟨h0, _⟩ | ⟨_, p, F', rfl, hw, ho, hg⟩
 ·exact absurd rnew_op.1 h0
 ·exact ⟨p, F', rfl, hw, hg, ho, hb.trans (ho.below (fun g hg => by omega) hb.size)⟩

theorem rw_disk {p q : Nat} {F : Nat → Prop} {w : World} {s : Rl.Rs} {f : FuncId} {args : Array Value} {st' : Dm.Ds} {e : Int} (h : RW p q F w s) (hc : ∀ F1, Pk q F1 w s.d → Calls Tryz.prog f args w fun E w' => E = .returned (.int .i64 e) ∧ PStep q F1 w w' st') :
  Calls Tryz.prog f args w fun E w' => E = .returned (.int .i64 e) ∧ RStep p q F w w' ⟨st', s.l, s.bk⟩ := by
 obtain ⟨F1, G1, h1, h2, hF⟩ := h
 refine (hc F1 h1).mono ?_
 rintro E w' ⟨rfl, PS⟩
 refine ⟨rfl, ?_⟩
 obtain ⟨F2, k1, k2, k3, k4⟩ := RW.disk (s := s) h1 h2 PS
 rw [hF]
 refine ⟨_, ⟨F2, G1, k1, k2, rfl⟩, k3.mono fun g hg => .inl (.inl hg), ?_⟩
 rintro g (e | e)
 ·rcases k4 g e with e | e
  ·exact .inl (.inl e)
  ·exact .inr e
 ·exact .inl (.inr e)

theorem xw_disk {x y : Nat} {G : Nat → Prop} {w : World} {s : Rl.Rs} {f : FuncId} {args : Array Value} {st' : Dm.Ds} {e : Int} (h : XW x y G w s) (hc : ∀ F1, Dk y F1 w s.d → Calls Tryz.prog f args w fun E w' => E = .returned (.int .i64 e) ∧ DStep y F1 w w' st') :
  Calls Tryz.prog f args w fun E w' => E = .returned (.int .i64 e) ∧ XwS x y G w w' ⟨st', s.l, s.bk⟩ := by
 obtain ⟨F1, v, rs, h1, h2, h3, hF⟩ := h
 refine (hc F1 h1).mono ?_
 rintro E w' ⟨rfl, DS⟩
 refine ⟨rfl, ?_⟩
 rw [hF]
 exact XwS.disk h1 h2 h3 DS

end Go.Proofs.YtmmfakpphjjjfaaGreat
