/- Package script (layer 25): numbers: strconv's Atoi and Itoa, the reader's number. -/
import Derived.Test.YtdlogcdpapknaaaGreatDoorZH
import Derived.Test.YtdlogcdpapknaaaGreatDoorShelf
import Derived.Lib.SmallJoins
import Derived.Lib.AtoiTie
import Derived.Lib.AppendIntMem
namespace Go.Proofs.YtdlogcdpapknaaaGreatDoor
open Go.RowKit
set_option linter.unusedVariables false
set_option maxRecDepth 100000

/-- The package-level variables that are read. -/
structure Vs (w : World) : Prop where
  nms : Nms w
  tab : Lib.TabIs Tryz.prog w "internal/strconv.uint64pow10" .u64 Lib.pow10Tab
  syn : ∃ tp p, w.var? Tryz.prog "strconv.ErrSyntax" = some #[.iface tp p]
  rng : ∃ tp p, w.var? Tryz.prog "strconv.ErrRange" = some #[.iface tp p]
  ety : w.cell? ⟨1, 0, none⟩ = some (.iface 144 (.agg #[.pointer (some ⟨8, 31, none⟩)]))

theorem Vs.below {w w' : World} (h : Vs w) (hb : Below w.heap.size w w') : Vs w' := by
  obtain ⟨tp, p, hs⟩ := h.syn
  obtain ⟨tq, q, hr⟩ := h.rng
  have h1 : 1 < w.heap.size := by
    rcases Nat.lt_or_ge 1 w.heap.size with h' | h'
    · exact h'
    · have := h.ety
      simp [World.cell?, Array.getElem?_eq_none h'] at this
  exact ⟨h.nms.below hb (by omega), Go.Joins.tab_stays (g := 5) (by kernel_rfl) h.tab hb (Nat.le_refl _), ⟨tp, p, Go.Joins.var_stays (g := 3) (by kernel_rfl) hs hb (Nat.le_refl _)⟩, ⟨tq, q, Go.Joins.var_stays (g := 4) (by kernel_rfl) hr hb (Nat.le_refl _)⟩, (hb.cell (p := ⟨1, 0, none⟩) h1).trans h.ety⟩

theorem atoi_ok (s : ByteArray) (w : World) (hs : s.size ≤ 281474976710656) (v : Int) (h : Lib.atoiAll s.data.toList = .ok v) : Calls Tryz.prog 82 #[.string s] w fun E w' => E = .returned (.tuple #[.int .i64 v, .nilIface]) ∧ Below w.heap.size w w' := by
  refine (Tryz.strconv_Atoi_ok s (by omega) v h w).mono ?_
  rintro E w' ⟨rfl, h⟩
  refine ⟨rfl, ?_⟩
  rcases h with rfl | ⟨t, rfl⟩
  · exact Below.refl _ _
  · exact Go.Joins.below_bytesWorld _ _ _ _ (Nat.le_refl _)

theorem atoi_no (s : ByteArray) (w : World) (hs : s.size ≤ 281474976710656) (hv : Vs w) (h : ∀ v, Lib.atoiAll s.data.toList ≠ .ok v) : Calls Tryz.prog 82 #[.string s] w fun E w' => ∃ x T p, -9223372036854775808 ≤ x ∧ x ≤ 9223372036854775807 ∧ E = .returned (.tuple #[.int .i64 x, .iface T (.pointer (some p))]) ∧ Below w.heap.size w w' := by
  obtain ⟨tp, p, hs1⟩ := hv.syn
  obtain ⟨tq, q, hr1⟩ := hv.rng
  rcases e : Lib.atoiAll s.data.toList with v | _ | _
  · exact absurd e (h v)
  · refine (Any.strconv_Atoi_syntax_var Tryz.laysC172 s hs e tp p w hs1).mono ?_
    rintro E w' ⟨N, rfl, _, _, hb⟩
    exact ⟨_, _, _, by omega, by omega, rfl, hb⟩
  · refine (Tryz.strconv_Atoi_range_var s hs e tq q w hr1).mono ?_
    rintro E w' ⟨N, rfl, _, _, hb⟩
    have := Lib.atoiSat_bounds s.data.toList
    exact ⟨_, _, _, this.1, this.2, rfl, hb⟩

theorem itoa_any (n : Int) (w : World) (h0 : -9223372036854775808 ≤ n) (h1 : n ≤ 9223372036854775807) (hv : Vs w) : Calls Tryz.prog 58 #[.int .i64 n] w fun E w' => E = .returned (.string ⟨(Lib.itoa n).toArray⟩) ∧ Below w.heap.size w w' := by
  refine (Tryz.strconv_Itoa n h0 h1 w hv.tab).mono ?_
  rintro E w' ⟨rfl, k, os, rfl⟩
  exact ⟨rfl, Lib.below_grow _ _ (Nat.le_refl _) _ _⟩

theorem dec_dgf : ∀ (k n : Nat), n < 10 ^ (k + 1) → Lib.decDigits n = Sct.dgf k n
  | 0, n, h => by
    have h : n < 10 := h
    rw [Lib.decDigits, dif_pos h, Sct.dgf, Nat.mod_eq_of_lt h]
    rfl
  | k + 1, n, h => by
    rw [Lib.decDigits, Sct.dgf]
    by_cases h10 : n < 10
    · rw [dif_pos h10, if_pos h10]
      rfl
    · have hp : (10 : Nat) ^ (k + 2) = 10 * 10 ^ (k + 1) := by rw [Nat.pow_succ, Nat.mul_comm]
      rw [dif_neg h10, if_neg h10, dec_dgf k (n / 10) (by rw [hp] at h; omega)]
      rfl
theorem itoa_dg {n : Nat} (h : n ≤ 999999999) : Lib.itoa n = Sct.dg n := by
  unfold Lib.itoa
  rw [if_neg (by omega), Int.toNat_natCast]
  exact dec_dgf 20 n (by have : (10 : Nat) ^ 21 = 1000000000000000000000 := by decide
                         omega)

theorem decFrom_dig : ∀ (l : List UInt8) (a : Nat), (∀ c ∈ l, Sct.isDig c) → Lib.decFrom a l = some (l.foldl (fun a c => 10 * a + (c.toNat - 48)) a)
  | [], a, _ => rfl
  | c :: r, a, h => by
    have h1 := h c (by simp)
    unfold Sct.isDig at h1
    rw [Lib.decFrom, Lib.digitVal, if_pos h1, List.foldl_cons, Nat.mul_comm 10 a]
    exact decFrom_dig r _ fun d hd => h d (by simp [hd])

theorem atoi_dg {n : Nat} (h : n ≤ 999999999) : Lib.atoiAll (Sct.dg n) = .ok n := by
  obtain ⟨a, b, c, d, _⟩ := Sct.dg_all h
  rw [Lib.atoiAll_short _ (by omega)]
  cases e : Sct.dg n with
  | nil => rw [e] at c; simp at c
  | cons x r =>
    rw [e] at a b
    have hx := a x (by simp)
    unfold Sct.isDig at hx
    have h45 : (x == 45) = false := by
      simp only [beq_eq_false_iff_ne, ne_eq]
      intro e; rw [e] at hx; exact absurd hx.1 (by decide)
    have h43 : (x == 43) = false := by
      simp only [beq_eq_false_iff_ne, ne_eq]
      intro e; rw [e] at hx; exact absurd hx.1 (by decide)
    have hd : Lib.decNat (x :: r) = some n := by
      unfold Lib.decNat
      rw [show (x :: r).isEmpty = false from rfl, if_neg (by simp), decFrom_dig _ _ a]
      exact congrArg some b
    rw [Lib.atoi, h45, h43, hd]
    rfl

/-- What a word is read as by the program: a number, or none. -/
def NumP (w : List UInt8) (x : Int) (ok : Bool) : Prop := (-9223372036854775808 ≤ x ∧ x ≤ 9223372036854775807) ∧ (ok = true → 0 ≤ x → x ≤ 999999999 → Sct.dg x.toNat = w) ∧ ∀ m : Nat, m ≤ 999999999 → Sct.dg m = w → ok = true ∧ x = m

set_option maxHeartbeats 1000000 in
theorem rnum_any (w0 w : World) (g : Nat) (ws : List ByteArray) (bad : Bool) (hv : Vs w0) (hz : ∀ s ∈ ws, s.size ≤ 65536) (h : Rd w0 w g ws bad) :
    Calls Tryz.prog 54 #[.pointer (some ⟨g, 0, none⟩)] w fun E w' => ∃ x ok, E = .returned (.int .i64 x) ∧ NumP (ws.headD ⟨#[]⟩).data.toList x ok ∧ Rd w0 w' g ws.tail (bad || ws.isEmpty || !ok) ∧ w.grownBy w' (some g) := by
  have hsz : (ws.headD ⟨#[]⟩).size ≤ 65536 := by
    cases ws with
    | nil => decide
    | cons s r => exact hz s (by simp)
  have W := hide (rword_any w0 w g ws bad h)
  obtain ⟨s, hs⟩ : ∃ s, ws.headD ⟨#[]⟩ = s := ⟨_, rfl⟩
  obtain ⟨b1, hb1⟩ : ∃ b, (bad || ws.isEmpty) = b := ⟨_, rfl⟩
  rw [hs] at W hsz
  rw [hb1] at W
  rw [hs, hb1]
  clear hs hb1 hz h
  go_enter Tryz.func54, Tryz.ntmps54
  go_wp2_with fail
  refine W.out.mono ?_
  rintro E w1 ⟨rfl, R1, G1⟩
  have V1 := hide (hv.below R1.bel)
  clear W
  by_cases hok : ∃ v, Lib.atoiAll s.data.toList = .ok v
  · obtain ⟨v, hv1⟩ := hok
    have hbd := Lib.atoiAll_bounds hv1
    go_wp2_with fail
    refine (atoi_ok s w1 (by omega) v hv1).mono ?_
    rintro E w2 ⟨rfl, B2⟩
    have R2 := R1.below B2
    have V2 := V1.out.below B2
    go_wp2_with fail
    refine (itoa_any v w2 hbd.1 hbd.2 V2).mono ?_
    rintro E w3 ⟨rfl, B3⟩
    have R3 := R2.below B3
    have G3 : w.grownBy w3 (some g) := grown_trans (grown_trans G1 (grown_of_below B2 _)) (grown_of_below B3 _)
    by_cases he : Lib.itoa v = s.data.toList
    · have hq : (Lib.itoa v == s.toList) = true := by rw [Lib.toList_data]; simp [he]
      have N : NumP s.data.toList v true := ⟨hbd, fun _ h0 h1 => by
        have := itoa_dg (n := v.toNat) (by omega)
        rw [← he, ← this, show ((v.toNat : Nat) : Int) = v by omega], fun m hm e => ⟨rfl, by
          rw [← e, atoi_dg hm] at hv1
          exact (Lib.NumEnd.ok.inj hv1).symm⟩⟩
      have Q := hide (show ∃ x ok, Ending.returned (.int .i64 v) = .returned (.int .i64 x) ∧ NumP s.data.toList x ok ∧ Rd w0 w3 g ws.tail (b1 || !ok) ∧ w.grownBy w3 (some g) from ⟨v, true, rfl, N, by simpa using R3, G3⟩)
      clear N R1 R2 R3 G1 G3 V2 B2 B3 he hv1
      go_wp2
      go_ret
      exact Q.out
    · have hq : (Lib.itoa v == s.toList) = false := by rw [Lib.toList_data]; simpa using he
      have N : NumP s.data.toList v false := ⟨hbd, fun e => (by cases e), fun m hm e => by
        exfalso
        rw [← e, atoi_dg hm] at hv1
        apply he
        rw [← Lib.NumEnd.ok.inj hv1, itoa_dg hm, e]⟩
      have Q := hide (show ∃ x ok, Ending.returned (.int .i64 v) = .returned (.int .i64 x) ∧ NumP s.data.toList x ok ∧ Rd w0 (w3.setCell ⟨g, 1, none⟩ (.bool true)) g ws.tail (b1 || !ok) ∧ w.grownBy (w3.setCell ⟨g, 1, none⟩ (.bool true)) (some g) from ⟨v, false, rfl, N, by simpa using R3.put true, grown_trans G3 (grown_setCell _ _ _)⟩)
      obtain ⟨a3, k3, R3⟩ := R3
      have d1 := blk_cell R3.blk 1 rfl
      have f1 := blk_froz R3.blk 1
      clear N R1 R2 R3 G1 G3 V2 B2 B3 he hv1
      go_wp2
      go_ret
      exact Q.out
  · have hno : ∀ v, Lib.atoiAll s.data.toList ≠ .ok v := fun v e => hok ⟨v, e⟩
    go_wp2_with fail
    refine (atoi_no s w1 (by omega) V1.out hno).mono ?_
    rintro E w2 ⟨x, T, p, x0, x1, rfl, B2⟩
    have R2 := R1.below B2
    have N : NumP s.data.toList x false := ⟨⟨x0, x1⟩, fun e => (by cases e), fun m hm e => by
      exfalso
      exact hno m (by rw [← e, atoi_dg hm])⟩
    have Q := hide (show ∃ y ok, Ending.returned (.int .i64 x) = .returned (.int .i64 y) ∧ NumP s.data.toList y ok ∧ Rd w0 (w2.setCell ⟨g, 1, none⟩ (.bool true)) g ws.tail (b1 || !ok) ∧ w.grownBy (w2.setCell ⟨g, 1, none⟩ (.bool true)) (some g) from ⟨x, false, rfl, N, by simpa using R2.put true, grown_trans (grown_trans G1 (grown_of_below B2 _)) (grown_setCell _ _ _)⟩)
    obtain ⟨a3, k3, R3⟩ := R2
    have d1 := blk_cell R3.blk 1 rfl
    have f1 := blk_froz R3.blk 1
    clear N R1 R3 G1 B2 hno hok
    go_wp2
    go_ret
    exact Q.out

end Go.Proofs.YtdlogcdpapknaaaGreatDoor
