/- Texts of one layer, one behind the other. -/
import Derived.Test.YtdlogcdpapknaaaGreatDoorSxa
import Derived.Test.YtdlogcdpapknaaaGreatDoorSco
import Derived.Test.YtdlogcdpapknaaaGreatDoorZC
/- Package script (layer 25): Check. -/
namespace Go.Proofs.YtdlogcdpapknaaaGreatDoor
open Go.RowKit
set_option linter.unusedVariables false
set_option maxRecDepth 100000

set_option maxHeartbeats 400000 in
theorem within_any (x m : Int) (w : World) : Calls Tryz.prog 41 #[.int .i64 x, .int .i64 m] w fun E w' => E = .returned (.bool (decide (0 ≤ x ∧ x ≤ m))) ∧ w = w' := by
  by_cases h0 : 0 ≤ x
  · by_cases h1 : x ≤ m
    · have e : decide (0 ≤ x ∧ x ≤ m) = true := decide_eq_true ⟨h0, h1⟩
      rw [e]
      go_enter Tryz.func41, Tryz.ntmps41
      go_wp2
      go_ret
      exact ⟨rfl, rfl⟩
    · have e : decide (0 ≤ x ∧ x ≤ m) = false := decide_eq_false fun h => h1 h.2
      rw [e]
      go_enter Tryz.func41, Tryz.ntmps41
      go_wp2
      go_ret
      exact ⟨rfl, rfl⟩
  · have e : decide (0 ≤ x ∧ x ≤ m) = false := decide_eq_false fun h => h0 h.1
    rw [e]
    go_enter Tryz.func41, Tryz.ntmps41
    go_wp2
    go_ret
    exact ⟨rfl, rfl⟩

/-- A key that may be, wanted or not. -/
def MyK (k : List UInt8) (b : Bool) : Prop := if b then Om.chk false k [] = 0 else k = []
def MyO (l : List Bm.Ov) (b : Bool) : Prop := if b then Bm.chkL l = 0 else l = []

set_option maxHeartbeats 400000 in
theorem mayKey_any (s : ByteArray) (b : Bool) (w : World) (hs : s.size ≤ 140737488351232) : Calls Tryz.prog 42 #[.string s, .bool b] w fun E w' => ∃ r, E = .returned (.bool r) ∧ (r = true ↔ MyK s.data.toList b) ∧ Below w.heap.size w w' := by
  cases b
  · cases hq : (s.toList == [])
    · have R : ¬ MyK s.data.toList false := fun h => by
        have h : s.data.toList = [] := h
        rw [Lib.toList_data, h] at hq
        simp at hq
      go_enter Tryz.func42, Tryz.ntmps42
      go_wp2
      go_ret
      exact ⟨false, rfl, ⟨fun h => (by cases h), fun h => absurd h R⟩, Below.refl _ _⟩
    · have R : MyK s.data.toList false := by
        rw [Lib.toList_data] at hq
        exact beq_iff_eq.1 hq
      go_enter Tryz.func42, Tryz.ntmps42
      go_wp2
      go_ret
      exact ⟨true, rfl, ⟨fun _ => R, fun _ => rfl⟩, Below.refl _ _⟩
  · obtain ⟨c, hc⟩ : ∃ c, Om.chk false s.data.toList [] = c := ⟨_, rfl⟩
    have C : ∀ w, Calls Tryz.prog 77 #[opv false s ⟨#[]⟩] w fun E w' => E = .returned (.int .i64 c) ∧ Below w.heap.size w w' := fun w => by rw [← hc]; exact check_any false s ⟨#[]⟩ w hs (by decide)
    unfold opv at C
    have R : Hid (MyK s.data.toList true ↔ c = 0) := hide (by rw [← hc]; exact Iff.rfl)
    clear hc
    cases hq : (c == 0)
    · go_enter Tryz.func42, Tryz.ntmps42
      go_wp2_with (go_at_call 77; refine (C _).mono ?_; rintro E w1 ⟨rfl, b1⟩)
      go_ret
      exact ⟨false, rfl, ⟨fun h => (by cases h), fun h => by rw [R.out.1 h] at hq; simp at hq⟩, b1⟩
    · go_enter Tryz.func42, Tryz.ntmps42
      go_wp2_with (go_at_call 77; refine (C _).mono ?_; rintro E w1 ⟨rfl, b1⟩)
      go_ret
      exact ⟨true, rfl, ⟨fun _ => R.out.2 (by simpa using hq), fun _ => rfl⟩, b1⟩

set_option maxHeartbeats 400000 in
theorem mayOps_any (v : Value) (l : List Bm.Ov) (b : Bool) (w : World) (h : IsO w v l) (hf : FitO l) (hl : l.length ≤ 140737488355328) : Calls Tryz.prog 43 #[v, .bool b] w fun E w' => ∃ r, E = .returned (.bool r) ∧ (r = true ↔ MyO l b) ∧ Below w.heap.size w w' := by
  cases b
  · obtain ⟨ao, cap, hv, _, _⟩ := h.shape
    subst hv
    have R : Hid (MyO l false ↔ l.length = 0) := hide ⟨fun h => by have h : l = [] := h; rw [h]; rfl, fun h => List.length_eq_zero_iff.1 h⟩
    by_cases h0 : l.length = 0
    · have R2 := hide (R.out.2 h0)
      have hz : (l.length : Int) = 0 := by omega
      clear h hf hl
      go_enter Tryz.func43, Tryz.ntmps43
      go_wp2
      go_ret
      exact ⟨true, rfl, ⟨fun _ => R2.out, fun _ => rfl⟩, Below.refl _ _⟩
    · have hz : ((l.length : Int) == 0) = false := by simp; exact fun e => h0 (by rw [e]; rfl)
      clear h hf hl
      go_enter Tryz.func43, Tryz.ntmps43
      go_wp2
      go_ret
      exact ⟨false, rfl, ⟨fun h => (by cases h), fun h => absurd (R.out.1 h) h0⟩, Below.refl _ _⟩
  · obtain ⟨c, hc⟩ : ∃ c, Bm.chkL l = c := ⟨_, rfl⟩
    have C := bcheck_any v l w h hf hl
    rw [hc] at C
    have R : Hid (MyO l true ↔ c = 0) := hide (by rw [← hc]; exact Iff.rfl)
    clear hc
    obtain ⟨ao, cap, hv, _, _⟩ := h.shape
    subst hv
    clear h hf hl
    cases hq : (c == 0)
    · go_enter Tryz.func43, Tryz.ntmps43
      go_wp2_with (go_at_call 78; refine C.mono ?_; rintro E w1 ⟨rfl, b1⟩)
      go_ret
      exact ⟨false, rfl, ⟨fun h => (by cases h), fun h => by rw [R.out.1 h] at hq; simp at hq⟩, b1⟩
    · go_enter Tryz.func43, Tryz.ntmps43
      go_wp2_with (go_at_call 78; refine C.mono ?_; rintro E w1 ⟨rfl, b1⟩)
      go_ret
      exact ⟨true, rfl, ⟨fun _ => R.out.2 (by simpa using hq), fun _ => rfl⟩, b1⟩

/-- What Check asks behind the kind. -/
def okP (a : Sct.Av) : Prop := (0 ≤ a.u ∧ a.u ≤ shNode a.k) ∧ (0 ≤ a.n ∧ a.n ≤ shN a.k) ∧ (0 ≤ a.t ∧ a.t ≤ shT a.k) ∧ MyK a.key.data.toList (Sct.hk a.k) ∧ MyO a.ops (Sct.ho a.k)

theorem ok_okP {a : Sct.Av} : Sct.Ok a ↔ (1 ≤ a.k ∧ a.k ≤ 12) ∧ okP a := by
  constructor
  · intro h
    refine ⟨h.k, ?_, ?_, ?_, ?_, ?_⟩
    · have h1 := h.u; have h2 := h.u0; unfold shNode
      cases e : Sct.hu a.k
      · have := h2 e; simp; omega
      · simp; exact h1
    · have h1 := h.n; have h2 := h.n0; unfold shN
      cases e : Sct.hn a.k
      · have := h2 e; simp; omega
      · simp; exact h1
    · have h1 := h.t; have h2 := h.t0; unfold shT
      cases e : Sct.ht a.k
      · have := h2 e; simp; omega
      · simp; exact h1
    · have h1 := h.key; unfold MyK
      cases e : Sct.hk a.k
      · rw [e] at h1
        have h1 : a.key = ⟨#[]⟩ := h1
        rw [h1]; rfl
      · rw [e] at h1; exact h1
    · have h1 := h.ops; unfold MyO
      cases e : Sct.ho a.k
      · rw [e] at h1; exact h1
      · rw [e] at h1; exact h1
  · rintro ⟨hk, h1, h2, h3, h4, h5⟩
    unfold shNode at h1; unfold shN at h2; unfold shT at h3; unfold MyK at h4; unfold MyO at h5
    refine ⟨hk, ?_, ?_, ?_, fun e => ?_, fun e => ?_, fun e => ?_, ?_, h5⟩
    · split at h1 <;> omega
    · split at h2 <;> omega
    · split at h3 <;> omega
    · rw [e] at h1; simp at h1; omega
    · rw [e] at h2; simp at h2; omega
    · rw [e] at h3; simp at h3; omega
    · cases e : Sct.hk a.k
      · rw [e] at h4
        have h4 : a.key.data.toList = [] := h4
        exact Sct.ba_ext h4
      · rw [e] at h4; exact h4

set_option maxHeartbeats 4000000 in
theorem chkP_any (a : Sct.Av) (v : Value) (w : World) (h : IsO w v a.ops) (hf : FitO a.ops) (hl : a.ops.length ≤ 140737488355328) (hz : a.key.size ≤ 140737488351232) : Calls Tryz.prog 15 #[acv a v] w (ChR a w) := by
  unfold acv acc
  obtain ⟨w1, hw1, s1, b1, P1⟩ := blk_step w #[.int .i64 a.k, .int .i64 a.u, .int .i64 a.n, .int .i64 a.t, .string a.key, v] 24
  have c0 := blk_cell P1 0 rfl; have c1 := blk_cell P1 1 rfl; have c2 := blk_cell P1 2 rfl; have c3 := blk_cell P1 3 rfl; have c4 := blk_cell P1 4 rfl; have c5 := blk_cell P1 5 rfl
  obtain ⟨ao, cap, hv, _, _⟩ := h.shape
  have h1 := h.below b1
  rw [hv] at c5 hw1 h1
  rw [hv]
  have H1 := hide h1
  have B1 := hide b1
  have K := hide (ok_okP (a := a))
  have NO : Hid (∀ W, ¬ ((1 ≤ a.k ∧ a.k ≤ 12) ∧ okP a) → Below w.heap.size w W → ChR a w (.returned (.int .i64 2)) W) := hide fun W c b => ⟨.inr ⟨fun o => c (K.out.1 o), rfl⟩, b⟩
  have YES : Hid (∀ W, ((1 ≤ a.k ∧ a.k ≤ 12) ∧ okP a) → Below w.heap.size w W → ChR a w (.returned (.int .i64 0)) W) := hide fun W c b => ⟨.inl ⟨K.out.2 c, rfl⟩, b⟩
  clear h hv P1 b1 h1
  by_cases k0 : a.k < 1
  · have R := hide (NO.out w1 (fun c => by omega) B1.out)
    clear NO YES
    go_enter Tryz.func15, Tryz.ntmps15
    go_wp2
    go_ret
    exact R.out
  by_cases k1 : 12 < a.k
  · have R := hide (NO.out w1 (fun c => by omega) B1.out)
    clear NO YES
    go_enter Tryz.func15, Tryz.ntmps15
    go_wp2
    go_ret
    exact R.out
  have SH := hide (shapeOf_any a.k w1 (by omega))
  have hk12 := hide (show 1 ≤ a.k ∧ a.k ≤ 12 by omega)
  go_enter Tryz.func15, Tryz.ntmps15
  go_wp2_with fail
  refine SH.out.mono ?_
  rintro E w2 ⟨rfl, b2⟩
  obtain ⟨w3, hw3, s3, b3, P3⟩ := blk_step w2 #[.int .i64 (shNode a.k), .int .i64 (shN a.k), .int .i64 (shT a.k), .bool (Sct.hk a.k), .bool (Sct.ho a.k)] 89
  have b13 := b2.trans (b3.mono b2.size)
  have sz2 := b2.size
  have d0 := blk_cell P3 0 rfl; have d1 := blk_cell P3 1 rfl; have d2 := blk_cell P3 2 rfl; have d3 := blk_cell P3 3 rfl; have d4 := blk_cell P3 4 rfl
  have e1 := (b13.cell (p := ⟨w.heap.size, 1, none⟩) (by simp; omega)).trans c1; have e2 := (b13.cell (p := ⟨w.heap.size, 2, none⟩) (by simp; omega)).trans c2; have e3 := (b13.cell (p := ⟨w.heap.size, 3, none⟩) (by simp; omega)).trans c3
  have e4 := (b13.cell (p := ⟨w.heap.size, 4, none⟩) (by simp; omega)).trans c4; have e5 := (b13.cell (p := ⟨w.heap.size, 5, none⟩) (by simp; omega)).trans c5
  have B3 := hide (B1.out.trans (b13.mono (by omega)))
  have H3 := hide (H1.out.below b13)
  clear SH b2 b3 P3 b13 c0 c1 c2 c3 c4 c5 H1 B1 hw1
  unfold shV
  have W1 := hide (fun w => within_any a.u (shNode a.k) w)
  have W2 := hide (fun w => within_any a.n (shN a.k) w)
  have W3 := hide (fun w => within_any a.t (shT a.k) w)
  have MK := hide (mayKey_any a.key (Sct.hk a.k) w3 hz)
  have MO := hide (fun w h => mayOps_any (.slice ao a.ops.length cap) a.ops (Sct.ho a.k) w h hf hl)
  clear hz hf hl
  cases g1 : decide (0 ≤ a.u ∧ a.u ≤ shNode a.k)
  · have R := hide (NO.out w3 (fun c => of_decide_eq_false g1 c.2.1) B3.out)
    rw [g1] at W1
    clear NO YES g1
    go_wp2_with fail
    refine (W1.out _).mono ?_
    rintro E wx ⟨rfl, rfl⟩
    go_wp2
    go_ret
    exact R.out
  rw [g1] at W1
  have G1 := hide (of_decide_eq_true g1)
  clear g1
  cases g2 : decide (0 ≤ a.n ∧ a.n ≤ shN a.k)
  · have R := hide (NO.out w3 (fun c => of_decide_eq_false g2 c.2.2.1) B3.out)
    rw [g2] at W2
    clear NO YES g2
    go_wp2_with fail
    refine (W1.out _).mono ?_
    rintro E wx ⟨rfl, rfl⟩
    go_wp2_with fail
    refine (W2.out _).mono ?_
    rintro E wx ⟨rfl, rfl⟩
    go_wp2
    go_ret
    exact R.out
  rw [g2] at W2
  have G2 := hide (of_decide_eq_true g2)
  clear g2
  cases g3 : decide (0 ≤ a.t ∧ a.t ≤ shT a.k)
  · have R := hide (NO.out w3 (fun c => of_decide_eq_false g3 c.2.2.2.1) B3.out)
    rw [g3] at W3
    clear NO YES g3
    go_wp2_with fail
    refine (W1.out _).mono ?_
    rintro E wx ⟨rfl, rfl⟩
    go_wp2_with fail
    refine (W2.out _).mono ?_
    rintro E wx ⟨rfl, rfl⟩
    go_wp2_with fail
    refine (W3.out _).mono ?_
    rintro E wx ⟨rfl, rfl⟩
    go_wp2
    go_ret
    exact R.out
  rw [g3] at W3
  have G3 := hide (of_decide_eq_true g3)
  clear g3
  go_wp2_with fail
  refine (W1.out _).mono ?_
  rintro E wx ⟨rfl, rfl⟩
  go_wp2_with fail
  refine (W2.out _).mono ?_
  rintro E wx ⟨rfl, rfl⟩
  go_wp2_with fail
  refine (W3.out _).mono ?_
  rintro E wx ⟨rfl, rfl⟩
  go_wp2_with fail
  refine MK.out.mono ?_
  rintro E w4 ⟨r4, rfl, i4, b4⟩
  have B4 := hide (B3.out.trans (b4.mono (by have := B3.out.size; omega)))
  cases r4
  · have R := hide (NO.out w4 (fun c => absurd (i4.2 c.2.2.2.2.1) (by decide)) B4.out)
    clear NO YES i4 b4
    go_wp2
    go_ret
    exact R.out
  have G4 := hide (i4.1 rfl)
  have f4 := (b4.cell (p := ⟨w2.heap.size, 4, none⟩) (by simp; omega)).trans d4
  have f5 := (b4.cell (p := ⟨w.heap.size, 5, none⟩) (by simp; omega)).trans e5
  have M4 := hide (MO.out w4 (H3.out.below b4))
  clear i4 b4 MK MO W1 W2 W3
  go_wp2_with fail
  refine M4.out.mono ?_
  rintro E w5 ⟨r5, rfl, i5, b5⟩
  have B5 := hide (B4.out.trans (b5.mono B4.out.size))
  cases r5
  · have R := hide (NO.out w5 (fun c => absurd (i5.2 c.2.2.2.2.2) (by decide)) B5.out)
    clear NO YES i5 b5
    go_wp2
    go_ret
    exact R.out
  have R := hide (YES.out w5 ⟨hk12.out, G1.out, G2.out, G3.out, G4.out, i5.1 rfl⟩ B5.out)
  clear NO YES i5 b5
  go_wp2
  go_ret
  exact R.out

end Go.Proofs.YtdlogcdpapknaaaGreatDoor

/- Package script (layer 25): the reader of words: word. -/
namespace Go.Proofs.YtdlogcdpapknaaaGreatDoor
open Go.RowKit
set_option linter.unusedVariables false
set_option maxRecDepth 100000

/-- A reader in block g: words are left (they lie where w0 has them), bad or not. -/
structure Wrd (w0 w : World) (g : Nat) (ws : List ByteArray) (bad : Bool) (a : Option Addr) (c : Nat) : Prop where
  le : w0.heap.size ≤ g
  bel : Below w0.heap.size w0 w
  blk : w.heap[g]? = some (.cells #[.slice a ws.length c, .bool bad] 55 (0, 0))
  len : ws.length ≤ c ∧ c ≤ 65536
  adr : a = none → ws = []
  wrd : ∀ p, a = some p → ∃ pb po, p = ⟨pb, po, none⟩ ∧ ∀ j s, ws[j]? = some s → w0.cell? ⟨pb, po + j, none⟩ = some (.string s)
def Rd (w0 w : World) (g : Nat) (ws : List ByteArray) (bad : Bool) : Prop := ∃ a c, Wrd w0 w g ws bad a c

theorem Wrd.lt {w0 w : World} {g c : Nat} {ws : List ByteArray} {bad : Bool} {a : Option Addr} (h : Wrd w0 w g ws bad a c) : g < w.heap.size := blk_lt h.blk
theorem Rd.lt {w0 w : World} {g : Nat} {ws : List ByteArray} {bad : Bool} (h : Rd w0 w g ws bad) : g < w.heap.size := by
  obtain ⟨a, c, h⟩ := h
  exact h.lt
theorem Rd.below {w0 w w' : World} {g : Nat} {ws : List ByteArray} {bad : Bool} (h : Rd w0 w g ws bad) (hb : Below w.heap.size w w') : Rd w0 w' g ws bad := by
  obtain ⟨a, c, h⟩ := h
  exact ⟨a, c, h.le, h.bel.trans (hb.mono h.bel.size), (hb.block g h.lt).trans h.blk, h.len, h.adr, h.wrd⟩
theorem Rd.bel {w0 w : World} {g : Nat} {ws : List ByteArray} {bad : Bool} (h : Rd w0 w g ws bad) : Below w0.heap.size w0 w := by
  obtain ⟨a, c, h⟩ := h
  exact h.bel
theorem Rd.put {w0 w : World} {g : Nat} {ws : List ByteArray} {bad : Bool} (h : Rd w0 w g ws bad) (b : Bool) : Rd w0 (w.setCell ⟨g, 1, none⟩ (.bool b)) g ws b := by
  obtain ⟨a, c, h⟩ := h
  exact ⟨a, c, h.le, h.bel.setCell (p := ⟨g, 1, none⟩) h.le _, by rw [set_cells h.blk]; rfl, h.len, h.adr, h.wrd⟩

theorem rd_tail {w0 w : World} {g c pb po x : Nat} {s : ByteArray} {r : List ByteArray} {bad : Bool} (h : Wrd w0 w g (s :: r) bad (some ⟨pb, po, none⟩) c) (hx : x = po + 1 ∨ c = 1) :
    Rd w0 (w.setCell ⟨g, 0, none⟩ (.slice (some ⟨pb, x, none⟩) r.length (c - 1))) g r bad := by
  have hl := h.len
  simp only [List.length_cons] at hl
  obtain ⟨pb', po', e, hw⟩ := h.wrd _ rfl
  simp only [Addr.mk.injEq, and_true] at e
  obtain ⟨rfl, rfl⟩ := e
  refine ⟨_, _, h.le, h.bel.setCell (p := ⟨g, 0, none⟩) h.le _, by rw [set_cells h.blk]; rfl, ⟨by omega, by omega⟩, fun e => by simp at e, ?_⟩
  intro p e
  obtain rfl := Option.some.inj e
  refine ⟨pb, x, rfl, fun j u hj => ?_⟩
  rcases hx with rfl | hc
  · have := hw (j + 1) u hj
    rw [← this, show po + 1 + j = po + (j + 1) by omega]
  · exfalso
    have := (List.getElem?_eq_some_iff.1 hj).1
    omega

set_option maxHeartbeats 400000 in
theorem rword_any (w0 w : World) (g : Nat) (ws : List ByteArray) (bad : Bool) (h : Rd w0 w g ws bad) :
    Calls Tryz.prog 53 #[.pointer (some ⟨g, 0, none⟩)] w fun E w' => E = .returned (.string (ws.headD ⟨#[]⟩)) ∧ Rd w0 w' g ws.tail (bad || ws.isEmpty) ∧ w.grownBy w' (some g) := by
  have HR := hide h
  obtain ⟨a, c, h⟩ := h
  have f0 := blk_froz h.blk 0
  have f1 := blk_froz h.blk 1
  have hlt := h.lt
  cases ws with
  | nil =>
    have c0 : w.cell? ⟨g, 0, none⟩ = some (.slice a 0 c) := blk_cell h.blk 0 rfl
    have c1 : w.cell? ⟨g, 1, none⟩ = some (.bool bad) := blk_cell h.blk 1 rfl
    clear h
    go_enter Tryz.func53, Tryz.ntmps53
    go_wp2
    go_ret
    refine ⟨rfl, ?_, grown_setCell _ _ _⟩
    have := HR.out.put true
    simpa using this
  | cons s r =>
    have c0 : w.cell? ⟨g, 0, none⟩ = some (.slice a (r.length + 1 : Nat) c) := blk_cell h.blk 0 rfl
    have c1 : w.cell? ⟨g, 1, none⟩ = some (.bool bad) := blk_cell h.blk 1 rfl
    have hlen : r.length + 1 ≤ c ∧ c ≤ 65536 := h.len
    obtain ⟨p, rfl⟩ : ∃ p, a = some p := by
      cases a with
      | none => exact absurd (h.adr rfl) (by simp)
      | some p => exact ⟨p, rfl⟩
    obtain ⟨pb, po, rfl, hw⟩ := h.wrd p rfl
    have hs : w0.cell? ⟨pb, po, none⟩ = some (.string s) := hw 0 s rfl
    have hpl : pb < w0.heap.size := by
      rcases Nat.lt_or_ge pb w0.heap.size with h' | h'
      · exact h'
      · simp [World.cell?, Array.getElem?_eq_none h'] at hs
    have k0 : w.cell? ⟨pb, po, none⟩ = some (.string s) := (h.bel.cell (p := ⟨pb, po, none⟩) hpl).trans hs
    have P := hide fun x hx => rd_tail (x := x) h hx
    obtain ⟨n, hn⟩ : ∃ n, r.length = n := ⟨_, rfl⟩
    rw [hn] at c0 hlen P
    clear h hw hs hn
    have hz : (((n + 1 : Nat) : Int) == 0) = false := by simp; omega
    go_enter Tryz.func53, Tryz.ntmps53
    go_wp2
    case inl =>
      obtain rfl : c = 1 := by assumption
      go_ret
      exact ⟨rfl, by have := P.out po (.inr rfl); simpa using this, grown_setCell _ _ _⟩
    case inr =>
      go_ret
      exact ⟨rfl, by have := P.out (po + 1) (.inl rfl); simpa using this, grown_setCell _ _ _⟩

end Go.Proofs.YtdlogcdpapknaaaGreatDoor
