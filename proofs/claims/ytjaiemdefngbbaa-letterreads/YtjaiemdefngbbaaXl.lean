/- The program's reader: closures over one place. The contract of the first closure, 'number'. -/
import Derived.Test.YtjaiemdefngbbaaXk
import Derived.Test.YtjaiemdefngbbaaA4
namespace Go.Proofs.Ytjaiemdefngbbaa
open Go.RowKit
set_option linter.unusedVariables false

/-- The error that sticks. -/
def bad5 (bad : Bool) : Int := if bad then 5 else 0

/-- The variables that the closures share: the bytes (block B), the place (B + 2), the error (B + 3). -/
structure Rst (B : Nat) (w0 w : World) (vb : Value) (bs : List Int) (a : Nat) (bad : Bool) : Prop where
  is0 : Is .u8 w0 vb bs
  hB : w0.heap.size = B
  bel : Below B w0 w
  bx : w.heap[B]? = some (.cells #[vb] 22 (0, 0))
  at' : w.heap[B + 2]? = some (.cells #[.int .i64 a] 3 (0, 0))
  er : w.heap[B + 3]? = some (.cells #[.int .i64 (bad5 bad)] 23 (0, 0))
  le : a ≤ bs.length

section
variable {B : Nat} {w0 w w' : World} {vb : Value} {bs : List Int} {a : Nat} {bad : Bool}

theorem Rst.is (h : Rst B w0 w vb bs a bad) : Is .u8 w vb bs := by
  have := h.bel
  rw [← h.hB] at this
  exact h.is0.below this

theorem Rst.lt (h : Rst B w0 w vb bs a bad) : B + 3 < w.heap.size := blk_lt h.er

theorem Rst.below (h : Rst B w0 w vb bs a bad) (hb : Below w.heap.size w w') : Rst B w0 w' vb bs a bad := by
  have := h.lt
  exact ⟨h.is0, h.hB, h.bel.trans (hb.mono (by omega)), (hb.block B (by omega)).trans h.bx, (hb.block (B + 2) (by omega)).trans h.at', (hb.block (B + 3) (by omega)).trans h.er, h.le⟩

/-- A block of the function's own that is none of these is written. -/
theorem Rst.other (h : Rst B w0 w vb bs a bad) {g : Nat} (hg : w.grownBy w' (some g)) (h1 : B ≤ g) (h2 : g ≠ B) (h3 : g ≠ B + 2) (h4 : g ≠ B + 3) : Rst B w0 w' vb bs a bad := by
  have := h.lt
  exact ⟨h.is0, h.hB, below_put h.bel hg h1 (by omega), (hg.block B (by omega) (by simp; omega)).trans h.bx, (hg.block (B + 2) (by omega) (by simp; omega)).trans h.at', (hg.block (B + 3) (by omega) (by simp; omega)).trans h.er, h.le⟩

theorem Rst.putE (h : Rst B w0 w vb bs a bad) (bad' : Bool) : Rst B w0 (w.setCell ⟨B + 3, 0, none⟩ (.int .i64 (bad5 bad'))) vb bs a bad' := by
  have hl := h.lt
  have hg := grown_setCell w ⟨B + 3, 0, none⟩ (.int .i64 (bad5 bad'))
  exact ⟨h.is0, h.hB, below_put h.bel hg (by simp) (by omega), (hg.block B (by omega) (by simp)).trans h.bx, (hg.block (B + 2) (by omega) (by simp)).trans h.at', set_cells h.er 0 _, h.le⟩

theorem Rst.putA (h : Rst B w0 w vb bs a bad) (a' : Nat) (ha : a' ≤ bs.length) : Rst B w0 (w.setCell ⟨B + 2, 0, none⟩ (.int .i64 a')) vb bs a' bad := by
  have hl := h.lt
  have hg := grown_setCell w ⟨B + 2, 0, none⟩ (.int .i64 a')
  exact ⟨h.is0, h.hB, below_put h.bel hg (by simp) (by omega), (hg.block B (by omega) (by simp)).trans h.bx, set_cells h.at' 0 _, (hg.block (B + 3) (by omega) (by simp)).trans h.er, ha⟩
end

/-- What the closures may write. -/
def Wr (B : Nat) : Nat → Prop := fun i => i = B + 2 ∨ i = B + 3

theorem out_E (B : Nat) (w : World) (u : Value) : Out (Wr B) w (w.setCell ⟨B + 3, 0, none⟩ u) := Out.of_grown (grown_setCell w ⟨B + 3, 0, none⟩ u) (fun i hi => .inr (by simpa using hi.symm))
theorem out_A (B : Nat) (w : World) (u : Value) : Out (Wr B) w (w.setCell ⟨B + 2, 0, none⟩ u) := Out.of_grown (grown_setCell w ⟨B + 2, 0, none⟩ u) (fun i hi => .inl (by simpa using hi.symm))
theorem out_two {B : Nat} {w w1 w2 : World} (h : Out (Wr B) w w1) (k : Out (Wr B) w1 w2) : Out (Wr B) w w2 := h.trans k (fun i hi => .inl hi)

set_option maxRecDepth 100000 in
set_option maxHeartbeats 1000000 in
theorem number_any (B : Nat) (w0 w : World) (vb : Value) (bs : List Int) (a : Nat) (bad : Bool) (most : Nat) (h : Rst B w0 w vb bs a bad) (hl : bs.length ≤ 100000000000000) (hm : most < 9223372036854775808) :
    Calls Try.prog 61 #[.int .i64 most, .pointer (some ⟨B + 3, 0, none⟩), .pointer (some ⟨B, 0, none⟩), .pointer (some ⟨B + 2, 0, none⟩)] w fun E w' => ∃ (u a' : Nat) (bad' : Bool), E = .returned (.int .i64 u) ∧ Hid (Rst B w0 w' vb bs a' bad' ∧ SStep bs most a bad u a' bad' ∧ Out (Wr B) w w') := by
  have ha := h.le
  have HH := hide h
  cases bad
  · have cb : w.cell? ⟨B, 0, none⟩ = some vb := blk_cell h.bx 0 rfl
    have ca : w.cell? ⟨B + 2, 0, none⟩ = some (.int .i64 a) := blk_cell h.at' 0 rfl
    have ce : w.cell? ⟨B + 3, 0, none⟩ = some (.int .i64 0) := blk_cell h.er 0 rfl
    obtain ⟨vs, hsl, isl⟩ := h.is.slice_l Try.elemB Try.sizeE a ha
    have hsl := hsl w
    obtain ⟨u, i, e, hS⟩ := sres_is (bs.drop a) most
    have hdl : (bs.drop a).length = bs.length - a := by rw [List.length_drop]
    have fe := blk_froz h.er 0
    rcases hS with ⟨hR, h1, h2, he⟩ | ⟨hu, hi, he, x, n, f, hR, hcase⟩
    · have hbd := Vm.res_bounds hR
      obtain ⟨un, rfl⟩ : ∃ un : Nat, u = un := ⟨u.toNat, by omega⟩
      obtain ⟨n, rfl⟩ : ∃ n : Nat, i = n := ⟨i.toNat, by omega⟩
      have hG : SStep bs most a false un (a + n) false := by
        rcases hR with ⟨x, hx, hp, h3, h4, _⟩ | ⟨_, _, _, h5⟩
        · have : x = un := by omega
          subst this
          exact .inr (.inr ⟨rfl, rfl, by omega, hp, by omega⟩)
        · simp at h5
      have C := hide (small_any vs (bs.drop a) most un n 0 w isl (by omega) (by omega) (by omega) (.inl ⟨hR, h1, h2, rfl⟩))
      have HG := hide hG
      have hn1 : a + n ≤ bs.length := by omega
      have hn2 : n ≤ 10 := by omega
      have hsame : w.setCell ⟨B + 3, 0, none⟩ (.int .i64 0) = w := set_same h.er (j := 0) rfl
      have fa := blk_froz h.at' 0
      clear hG hR hbd h he h1 h2 isl
      go_enter Try.func61, Try.ntmps61
      go_wp2_with fail
      refine C.out.mono ?_
      rintro E w1 ⟨rfl, rfl⟩
      go_wp2
      go_ret
      exact ⟨un, a + n, false, rfl, hide ⟨HH.out.putA (a + n) hn1, HG.out, out_A _ _ _⟩⟩
    · have hG : SStep bs most a false 0 a true := by
        refine .inr (.inl ⟨rfl, rfl, rfl, rfl, fun y hy hp => ?_⟩)
        have := Vm.res_good hR (u := y) (by omega) hp
        omega
      have C := hide (small_any vs (bs.drop a) most 0 0 5 w isl (by omega) (by omega) (by omega) (.inr ⟨rfl, rfl, rfl, x, n, f, hR, hcase⟩))
      have HG := hide hG
      obtain ⟨V, hV⟩ : ∃ V, w.setCell ⟨B + 3, 0, none⟩ (.int .i64 5) = V := ⟨_, rfl⟩
      have RV : Hid (Rst B w0 V vb bs a true) := hide (by rw [← hV]; exact h.putE true)
      have OV : Hid (Out (Wr B) w V) := hide (by rw [← hV]; exact out_E _ _ _)
      have ca2 : V.cell? ⟨B + 2, 0, none⟩ = some (.int .i64 a) := blk_cell RV.out.at' 0 rfl
      have fa2 := blk_froz RV.out.at' 0
      have hsame : V.setCell ⟨B + 2, 0, none⟩ (.int .i64 a) = V := set_same RV.out.at' (j := 0) rfl
      clear hG hR h he hcase hu hi isl
      go_enter Try.func61, Try.ntmps61
      go_wp2_with fail
      refine C.out.mono ?_
      rintro E w1 ⟨rfl, rfl⟩
      go_wp2
      go_ret
      exact ⟨0, a, true, rfl, hide ⟨RV.out, HG.out, OV.out⟩⟩
  · have ce : w.cell? ⟨B + 3, 0, none⟩ = some (.int .i64 5) := blk_cell h.er 0 rfl
    clear h
    go_enter Try.func61, Try.ntmps61
    go_wp2
    go_ret
    exact ⟨0, a, true, rfl, hide ⟨HH.out, .inl ⟨rfl, rfl, rfl, rfl⟩, Out.refl _ _⟩⟩

end Go.Proofs.Ytjaiemdefngbbaa
