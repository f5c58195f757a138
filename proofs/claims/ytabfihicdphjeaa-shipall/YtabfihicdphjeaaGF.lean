/- Texts of one layer, one behind the other. -/
import Derived.Test.YtabfihicdphjeaaGC
import Derived.Test.YtabfihicdphjeaaGE
import Derived.Test.YtabfihicdphjeaaG9
/- The program's reader: closures over one place. The contract of the first closure, 'number'. -/
namespace Go.Proofs.Ytabfihicdphjeaa
open Go.RowKit
set_option linter.unusedVariables false

/-- The error that sticks. -/
def bad5 (bad : Bool) : Int := if bad then 5 else 0

/-- The variables that the closures share: the bytes (block B), the place (B + 2), the error (B + 3). -/
structure Rst (B : Nat) (w0 w : World) (vb : Value) (bs : List Int) (a : Nat) (bad : Bool) : Prop where
  is0 : Is .u8 w0 vb bs
  hB : w0.heap.size = B
  bel : Below B w0 w
  bx : w.heap[B]? = some (.cells #[vb] 50 (0, 0))
  at' : w.heap[B + 2]? = some (.cells #[.int .i64 a] 3 (0, 0))
  er : w.heap[B + 3]? = some (.cells #[.int .i64 (bad5 bad)] 27 (0, 0))
  le : a ≤ bs.length

section
variable {B : Nat} {w0 w w' : World} {vb : Value} {bs : List Int} {a : Nat} {bad : Bool}

theorem Rst.is (h : Rst B w0 w vb bs a bad) : Is .u8 w vb bs := by
  have := h.bel
  rw [← h.hB] at this
  exact h.is0.below this

theorem Rst.lt (h : Rst B w0 w vb bs a bad) : B + 3 < w.heap.size := blk_lt h.er

theorem Rst.below (h : Rst B w0 w vb bs a bad) (hb : Below w.heap.size w w') : Rst B w0 w' vb bs a bad := by
  have := h.lt
  exact ⟨h.is0, h.hB, h.bel.trans (hb.mono (by omega)), (hb.block B (by omega)).trans h.bx, (hb.block (B + 2) (by omega)).trans h.at', (hb.block (B + 3) (by omega)).trans h.er, h.le⟩

/-- A block of the function's own that is none of these is written. -/
theorem Rst.other (h : Rst B w0 w vb bs a bad) {g : Nat} (hg : w.grownBy w' (some g)) (h1 : B ≤ g) (h2 : g ≠ B) (h3 : g ≠ B + 2) (h4 : g ≠ B + 3) : Rst B w0 w' vb bs a bad := by
  have := h.lt
  exact ⟨h.is0, h.hB, below_put h.bel hg h1 (by omega), (hg.block B (by omega) (by simp; omega)).trans h.bx, (hg.block (B + 2) (by omega) (by simp; omega)).trans h.at', (hg.block (B + 3) (by omega) (by simp; omega)).trans h.er, h.le⟩

theorem Rst.putE (h : Rst B w0 w vb bs a bad) (bad' : Bool) : Rst B w0 (w.setCell ⟨B + 3, 0, none⟩ (.int .i64 (bad5 bad'))) vb bs a bad' := by
  have hl := h.lt
  have hg := grown_setCell w ⟨B + 3, 0, none⟩ (.int .i64 (bad5 bad'))
  exact ⟨h.is0, h.hB, below_put h.bel hg (by simp) (by omega), (hg.block B (by omega) (by simp)).trans h.bx, (hg.block (B + 2) (by omega) (by simp)).trans h.at', set_cells h.er 0 _, h.le⟩

theorem Rst.putA (h : Rst B w0 w vb bs a bad) (a' : Nat) (ha : a' ≤ bs.length) : Rst B w0 (w.setCell ⟨B + 2, 0, none⟩ (.int .i64 a')) vb bs a' bad := by
  have hl := h.lt
  have hg := grown_setCell w ⟨B + 2, 0, none⟩ (.int .i64 a')
  exact ⟨h.is0, h.hB, below_put h.bel hg (by simp) (by omega), (hg.block B (by omega) (by simp)).trans h.bx, set_cells h.at' 0 _, (hg.block (B + 3) (by omega) (by simp)).trans h.er, ha⟩

end

/-- What the closures may write. -/
def Wr (B : Nat) : Nat → Prop := fun i => i = B + 2 ∨ i = B + 3

theorem out_E (B : Nat) (w : World) (u : Value) : Out (Wr B) w (w.setCell ⟨B + 3, 0, none⟩ u) := Out.of_grown (grown_setCell w ⟨B + 3, 0, none⟩ u) (fun i hi => .inr (by simpa using hi.symm))
theorem out_A (B : Nat) (w : World) (u : Value) : Out (Wr B) w (w.setCell ⟨B + 2, 0, none⟩ u) := Out.of_grown (grown_setCell w ⟨B + 2, 0, none⟩ u) (fun i hi => .inl (by simpa using hi.symm))
theorem out_two {B : Nat} {w w1 w2 : World} (h : Out (Wr B) w w1) (k : Out (Wr B) w1 w2) : Out (Wr B) w w2 := h.trans k (fun i hi => .inl hi)

set_option maxRecDepth 100000 in
set_option maxHeartbeats 1000000 in
theorem number_any (B : Nat) (w0 w : World) (vb : Value) (bs : List Int) (a : Nat) (bad : Bool) (most : Nat) (h : Rst B w0 w vb bs a bad) (hl : bs.length ≤ 100000000000000) (hm : most < 9223372036854775808) :
    Calls Try.prog 70 #[.int .i64 most, .pointer (some ⟨B + 3, 0, none⟩), .pointer (some ⟨B, 0, none⟩), .pointer (some ⟨B + 2, 0, none⟩)] w fun E w' => ∃ (u a' : Nat) (bad' : Bool), E = .returned (.int .i64 u) ∧ Hid (Rst B w0 w' vb bs a' bad' ∧ SStep bs most a bad u a' bad' ∧ Out (Wr B) w w') := by
  have ha := h.le
  have HH := hide h
  cases bad
  · have cb : w.cell? ⟨B, 0, none⟩ = some vb := blk_cell h.bx 0 rfl
    have ca : w.cell? ⟨B + 2, 0, none⟩ = some (.int .i64 a) := blk_cell h.at' 0 rfl
    have ce : w.cell? ⟨B + 3, 0, none⟩ = some (.int .i64 0) := blk_cell h.er 0 rfl
    obtain ⟨vs, hsl, isl⟩ := h.is.slice_l Try.elemB Try.sizeE a ha
    have hsl := hsl w
    obtain ⟨u, i, e, hS⟩ := sres_is (bs.drop a) most
    have hdl : (bs.drop a).length = bs.length - a := by rw [List.length_drop]
    have fe := blk_froz h.er 0
    rcases hS with ⟨hR, h1, h2, he⟩ | ⟨hu, hi, he, x, n, f, hR, hcase⟩
    · have hbd := Vm.res_bounds hR
      obtain ⟨un, rfl⟩ : ∃ un : Nat, u = un := ⟨u.toNat, by omega⟩
      obtain ⟨n, rfl⟩ : ∃ n : Nat, i = n := ⟨i.toNat, by omega⟩
      have hG : SStep bs most a false un (a + n) false := by
        rcases hR with ⟨x, hx, hp, h3, h4, _⟩ | ⟨_, _, _, h5⟩
        · have : x = un := by omega
          subst this
          exact .inr (.inr ⟨rfl, rfl, by omega, hp, by omega⟩)
        · simp at h5
      have C := hide (small_any vs (bs.drop a) most un n 0 w isl (by omega) (by omega) (by omega) (.inl ⟨hR, h1, h2, rfl⟩))
      have HG := hide hG
      have hn1 : a + n ≤ bs.length := by omega
      have hn2 : n ≤ 10 := by omega
      have hsame : w.setCell ⟨B + 3, 0, none⟩ (.int .i64 0) = w := set_same h.er (j := 0) rfl
      have fa := blk_froz h.at' 0
      clear hG hR hbd h he h1 h2 isl
      go_enter Try.func70, Try.ntmps70
      go_wp2_with fail
      refine C.out.mono ?_
      rintro E w1 ⟨rfl, rfl⟩
      go_wp2
      go_ret
      exact ⟨un, a + n, false, rfl, hide ⟨HH.out.putA (a + n) hn1, HG.out, out_A _ _ _⟩⟩
    · have hG : SStep bs most a false 0 a true := by
        refine .inr (.inl ⟨rfl, rfl, rfl, rfl, fun y hy hp => ?_⟩)
        have := Vm.res_good hR (u := y) (by omega) hp
        omega
      have C := hide (small_any vs (bs.drop a) most 0 0 5 w isl (by omega) (by omega) (by omega) (.inr ⟨rfl, rfl, rfl, x, n, f, hR, hcase⟩))
      have HG := hide hG
      obtain ⟨V, hV⟩ : ∃ V, w.setCell ⟨B + 3, 0, none⟩ (.int .i64 5) = V := ⟨_, rfl⟩
      have RV : Hid (Rst B w0 V vb bs a true) := hide (by rw [← hV]; exact h.putE true)
      have OV : Hid (Out (Wr B) w V) := hide (by rw [← hV]; exact out_E _ _ _)
      have ca2 : V.cell? ⟨B + 2, 0, none⟩ = some (.int .i64 a) := blk_cell RV.out.at' 0 rfl
      have fa2 := blk_froz RV.out.at' 0
      have hsame : V.setCell ⟨B + 2, 0, none⟩ (.int .i64 a) = V := set_same RV.out.at' (j := 0) rfl
      clear hG hR h he hcase hu hi isl
      go_enter Try.func70, Try.ntmps70
      go_wp2_with fail
      refine C.out.mono ?_
      rintro E w1 ⟨rfl, rfl⟩
      go_wp2
      go_ret
      exact ⟨0, a, true, rfl, hide ⟨RV.out, HG.out, OV.out⟩⟩
  · have ce : w.cell? ⟨B + 3, 0, none⟩ = some (.int .i64 5) := blk_cell h.er 0 rfl
    clear h
    go_enter Try.func70, Try.ntmps70
    go_wp2
    go_ret
    exact ⟨0, a, true, rfl, hide ⟨HH.out, .inl ⟨rfl, rfl, rfl, rfl⟩, Out.refl _ _⟩⟩

end Go.Proofs.Ytabfihicdphjeaa

/- The contract of read's second closure, 'one': one commit. -/
namespace Go.Proofs.Ytabfihicdphjeaa
open Go.RowKit
set_option linter.unusedVariables false

theorem no_frm {bs : List Int} {a : Nat} (h : ∀ x : Nat, x ≤ bs.length → ¬ Vm.enc x <+: bs.drop a) : ∀ c' : Cm.Cv, Cm.chk c'.e c'.n c'.l = 0 → ¬ Fm.frm (Mm.cb c') <+: bs.drop a := fun c' _ hp => by
  obtain ⟨h1, h2, h3⟩ := Fm.frm_pre hp
  rw [List.length_drop] at h3
  exact h _ (by omega) h1

theorem no_room {bs : List Int} {a u : Nat} (h : Vm.enc u <+: bs.drop a) (hu : bs.length - (a + Vm.sz u) < u) : ∀ c' : Cm.Cv, Cm.chk c'.e c'.n c'.l = 0 → ¬ Fm.frm (Mm.cb c') <+: bs.drop a := fun c' _ hp => by
  obtain ⟨h1, h2, h3⟩ := Fm.frm_pre hp
  have e := Vm.pre_one _ _ _ h h1
  subst e
  rw [List.length_drop] at h2 h3
  omega

/-- The piece that a count and what is behind it makes. -/
theorem one_piece {bs : List Int} {a u : Nat} (h : Vm.enc u <+: bs.drop a) (hu : u ≤ bs.length - (a + Vm.sz u)) : ((bs.drop (a + Vm.sz u)).take u).length = u ∧ Fm.frm ((bs.drop (a + Vm.sz u)).take u) <+: bs.drop a := by
  have := Fm.frm_of (bs := bs.drop a) (x := u) h (by rw [List.length_drop]; omega)
  rw [List.drop_drop] at this
  exact this

theorem one_good {bs : List Int} {a u : Nat} {e n : Int} {l : List Bm.Ov} (h : Vm.enc u <+: bs.drop a) (hu : u ≤ bs.length - (a + Vm.sz u)) (hc : Cm.chk e n l = 0) (he : Cm.encC e n l = (bs.drop (a + Vm.sz u)).take u) : Mm.CStep bs a false ⟨e, n, l⟩ (a + Vm.sz u + u) false := by
  obtain ⟨h1, h2⟩ := one_piece h hu
  refine .inr (.inr ⟨rfl, rfl, hc, ?_, ?_⟩)
  · show Fm.frm (Cm.encC e n l) <+: _
    rw [he]
    exact h2
  · show _ = a + (Fm.frm (Cm.encC e n l)).length
    rw [he, Fm.frm_len, h1]
    omega

theorem one_bad {bs : List Int} {a u : Nat} (h : Vm.enc u <+: bs.drop a) (hu : u ≤ bs.length - (a + Vm.sz u)) (hno : ∀ e' n' l', Cm.chk e' n' l' = 0 → Cm.encC e' n' l' ≠ (bs.drop (a + Vm.sz u)).take u) : ∀ c' : Cm.Cv, Cm.chk c'.e c'.n c'.l = 0 → ¬ Fm.frm (Mm.cb c') <+: bs.drop a := fun c' hc hp => by
  obtain ⟨h1, h2⟩ := one_piece h hu
  exact hno c'.e c'.n c'.l hc (Fm.frm_one hp h2)

/-- Three cells written again. -/
theorem same3 {V : World} {R : Nat} {t : TypeId} {x y z : Value} (hR : V.heap[R]? = some (.cells #[x, y, z] t (0, 0))) : ((V.setCell ⟨R, 0, none⟩ x).setCell ⟨R, 1, none⟩ y).setCell ⟨R, 2, none⟩ z = V := by
  have h0 : V.setCell ⟨R, 0, none⟩ x = V := set_same hR (j := 0) rfl
  have h1 : V.setCell ⟨R, 1, none⟩ y = V := set_same hR (j := 1) rfl
  have h2 : V.setCell ⟨R, 2, none⟩ z = V := set_same hR (j := 2) rfl
  rw [h0, h1, h2]

/-- The variable that holds the first closure. -/
def Fnb (B : Nat) (w : World) : Prop := w.heap[B + 4]? = some (.cells #[.func (.func 70) #[] #[.pointer (some ⟨B + 3, 0, none⟩), .pointer (some ⟨B, 0, none⟩), .pointer (some ⟨B + 2, 0, none⟩)]] 95 (0, 0))

theorem Fnb.out {B : Nat} {w w' : World} (h : Fnb B w) (ho : Out (Wr B) w w') : Fnb B w' := (ho.block (B + 4) (blk_lt h) (by unfold Wr; omega)).trans h
theorem Fnb.below {B : Nat} {w w' : World} (h : Fnb B w) (hb : Below w.heap.size w w') : Fnb B w' := (hb.block (B + 4) (blk_lt h)).trans h

/-- What a commit that was read is. -/
def CFit (e n : Int) (l : List Bm.Ov) : Prop := In64 e ∧ In64 n ∧ FitO l ∧ l.length ≤ 8

theorem cfit_no : CFit 0 0 [] := ⟨by simp [In64], by simp [In64], fun o ho => by simp at ho, by simp⟩
theorem cfit_ok {e n : Int} {l : List Bm.Ov} (h : Cm.chk e n l = 0) : CFit e n l := by
  obtain ⟨h1, h2, h3, h4, h5⟩ := Cm.chk_zero h
  exact ⟨⟨by omega, by omega⟩, ⟨by omega, by omega⟩, (small_of h5).fit, (Bm.chkL_zero h5).2.1⟩

set_option maxRecDepth 100000 in
set_option maxHeartbeats 1000000 in
theorem one_any (B : Nat) (w0 w : World) (vb : Value) (bs : List Int) (a : Nat) (bad : Bool) (h : Rst B w0 w vb bs a bad) (hn : Fnb B w) (hl : bs.length ≤ 100000000000000) :
    Calls Try.prog 72 #[.pointer (some ⟨B + 4, 0, none⟩), .pointer (some ⟨B, 0, none⟩), .pointer (some ⟨B + 2, 0, none⟩), .pointer (some ⟨B + 3, 0, none⟩)] w fun E w' => ∃ (e n : Int) (v : Value) (l : List Bm.Ov) (a' : Nat) (bad' : Bool), E = .returned (cmv e n v) ∧ Hid (OwnO 62 w.heap.size w' v l ∧ Mm.CStep bs a bad ⟨e, n, l⟩ a' bad' ∧ CFit e n l ∧ Rst B w0 w' vb bs a' bad' ∧ Out (Wr B) w w') := by
  unfold cmv
  have hlt := h.lt
  have hlt4 := blk_lt hn
  obtain ⟨w1, hw1, sz1, bel1, hR⟩ := blk_step w #[.int .i64 0, .int .i64 0, .slice none 0 0] 46
  have R1 := hide (h.below bel1)
  have F1 := hide (hn.below bel1)
  have HR1 := hide hR
  have O1 : Hid (Out (Wr B) w w1) := hide (Out.of_below bel1)
  obtain ⟨ao, cap, hvb, _, _⟩ := h.is.shape
  have cb : w1.cell? ⟨B, 0, none⟩ = some (.slice ao bs.length cap) := by rw [← hvb]; exact blk_cell R1.out.bx 0 rfl
  have cf : w1.cell? ⟨B + 4, 0, none⟩ = some (.func (.func 70) #[] #[.pointer (some ⟨B + 3, 0, none⟩), .pointer (some ⟨B, 0, none⟩), .pointer (some ⟨B + 2, 0, none⟩)]) := blk_cell F1.out 0 rfl
  have HVB := hide hvb
  clear h hn hR hvb
  go_enter Try.func72, Try.ntmps72
  go_wp2_with fail
  refine (number_any B w0 w1 vb bs a bad bs.length R1.out hl (by omega)).mono ?_
  rintro E w2 ⟨u, a1, bad1, rfl, H2⟩
  obtain ⟨r2, s2, o2⟩ := H2.out
  have sz2 := o2.size
  have R2 := hide r2
  have S2 := hide s2
  have O2 : Hid (Out (Wr B) w w2) := hide (out_two O1.out o2)
  have hR2 := (o2.block w.heap.size (by omega) (by unfold Wr; omega)).trans HR1.out
  have HR2 := hide hR2
  have ha1 := r2.le
  have cb2 : w2.cell? ⟨B, 0, none⟩ = some (.slice ao bs.length cap) := by rw [← HVB.out]; exact blk_cell r2.bx 0 rfl
  have ca2 : w2.cell? ⟨B + 2, 0, none⟩ = some (.int .i64 a1) := blk_cell r2.at' 0 rfl
  have ce2 : w2.cell? ⟨B + 3, 0, none⟩ = some (.int .i64 (bad5 bad1)) := blk_cell r2.er 0 rfl
  have fe2 := blk_froz r2.er 0
  have hu : u ≤ bs.length := by
    rcases s2 with ⟨_, _, rfl, _⟩ | ⟨_, _, rfl, _⟩ | ⟨_, _, hx, _⟩
    · omega
    · omega
    · exact hx
  clear H2 r2 s2 o2 cb cf hw1 R1 F1 O1 HR1
  obtain ⟨Z, hZ, bZ, gZ, ⟨a0, a1', a2⟩, ⟨f0, f1, f2⟩, ⟨z0, z1, z2⟩⟩ := res_step hR2 (.int .i64 0) (.int .i64 0) (.slice none 0 0)
  have szZ := gZ.size
  cases bad1
  · -- no error so far
    have hsu : bad = false ∧ Vm.enc u <+: bs.drop a ∧ a1 = a + Vm.sz u := by
      rcases S2.out with ⟨_, hx, _⟩ | ⟨_, hx, _⟩ | ⟨h1, _, _, h2, h3⟩
      · simp at hx
      · simp at hx
      · exact ⟨h1, h2, h3⟩
    obtain ⟨rfl, hen, rfl⟩ := hsu
    have HEN := hide hen
    have hbz : bad5 false = 0 := rfl
    rw [hbz] at ce2
    by_cases hroom : bs.length - (a + Vm.sz u) < u
    · -- too few bytes are left
      have hg : (bs.length : Int) - ((a + Vm.sz u : Nat) : Int) < u := by omega
      obtain ⟨V, hV⟩ : ∃ V, w2.setCell ⟨B + 3, 0, none⟩ (.int .i64 5) = V := ⟨_, rfl⟩
      have RV : Hid (Rst B w0 V vb bs (a + Vm.sz u) true) := hide (by rw [← hV]; exact R2.out.putE true)
      have OV : Hid (Out (Wr B) w V) := hide (out_two O2.out (by rw [← hV]; exact out_E _ _ _))
      have hRV : V.heap[w.heap.size]? = some (.cells #[.int .i64 0, .int .i64 0, .slice none 0 0] 46 (0, 0)) := by
        rw [← hV]
        exact ((grown_setCell w2 ⟨B + 3, 0, none⟩ (.int .i64 5)).block w.heap.size (by omega) (by simp; omega)).trans HR2.out
      have ce3 : V.cell? ⟨B + 3, 0, none⟩ = some (.int .i64 5) := blk_cell RV.out.er 0 rfl
      obtain ⟨Y, hY, bY, gY, ⟨y0, y1', y2⟩, ⟨k0, k1, k2⟩, ⟨x0, x1, x2⟩⟩ := res_step hRV (.int .i64 0) (.int .i64 0) (.slice none 0 0)
      have hYV : V = Y := by
        rw [← hY, same3 hRV]
      subst hYV
      have HS := hide (no_room hen hroom)
      generalize a + Vm.sz u = q at *
      clear hen hroom hR2 hRV bY gY bZ gZ
      go_wp2
      refine bodyPost_ret (v := .agg #[.int .i64 0, .int .i64 0, .slice none 0 0]) (by simp [results, Try.results72, go_sem, x0, x1, x2]) rfl ?_
      exact ⟨0, 0, _, [], _, true, rfl, hide ⟨OwnO.nil _ _ _, .inr (.inl ⟨rfl, rfl, HS.out⟩), cfit_no, RV.out, OV.out⟩⟩
    · -- a piece of it
      have hg : ¬ (bs.length : Int) - ((a + Vm.sz u : Nat) : Int) < u := by omega
      obtain ⟨vs, hsl, isl⟩ := R2.out.is.slice_lh Try.elemB Try.sizeE (a + Vm.sz u) (a + Vm.sz u + u) (by omega) (by omega)
      rw [show a + Vm.sz u + u - (a + Vm.sz u) = u by omega] at isl
      have hsl2 : (Instr.slice 50 (.slice ao bs.length cap) (some (.int .i64 ((a + Vm.sz u : Nat) : Int))) (some (.int .i64 (((a + Vm.sz u : Nat) : Int) + (u : Int)))) none).run Try.prog w2 = .ok vs w2 := by
        have := hsl w2
        rw [HVB.out] at this
        simpa using this
      have hwr : IntKind.i64.wrap (((a + Vm.sz u : Nat) : Int) + (u : Int)) = ((a + Vm.sz u : Nat) : Int) + u := wrap_i64_small _ (by omega) (by omega)
      have hpl : ((bs.drop (a + Vm.sz u)).take u).length ≤ 100000000000000 := by rw [List.length_take]; omega
      have C3 := hide (bclone_any vs ((bs.drop (a + Vm.sz u)).take u) w2 isl (by omega))
      have HNO : Hid (¬ bs.length - (a + Vm.sz u) < u) := hide hroom
      have GB : Hid (∀ e n l, Cm.chk e n l = 0 → Cm.encC e n l = (bs.drop (a + Vm.sz u)).take u → Mm.CStep bs a false ⟨e, n, l⟩ (a + Vm.sz u + u) false) := hide fun e n l => one_good hen (by omega)
      have GN : Hid ((∀ e' n' l', Cm.chk e' n' l' = 0 → Cm.encC e' n' l' ≠ (bs.drop (a + Vm.sz u)).take u) → ∀ c' : Cm.Cv, Cm.chk c'.e c'.n c'.l = 0 → ¬ Fm.frm (Mm.cb c') <+: bs.drop a) := hide fun k => one_bad hen (by omega) k
      have hqu : a + Vm.sz u + u ≤ bs.length := by omega
      generalize (bs.drop (a + Vm.sz u)).take u = pc at *
      generalize a + Vm.sz u = q at *
      clear hsl isl hen hroom hZ bZ gZ a0 a1' a2 f0 f1 f2 z0 z1 z2 HEN S2 hR2 Z szZ
      go_wp2_with fail
      refine C3.out.mono ?_
      rintro E w3 ⟨v3, rfl, own3, bel3⟩
      have sz3 := bel3.size
      have R3 := hide (R2.out.below bel3)
      have O3 : Hid (Out (Wr B) w w3) := hide (out_two O2.out (Out.of_below bel3))
      have C4 := hide (cdec_any v3 pc w3 own3.is (by omega))
      have HR3 := hide ((bel3.block w.heap.size (by omega)).trans HR2.out)
      clear C3 own3 cb2 ca2 ce2 fe2 hsl2 bel3
      go_wp2_with fail
      refine C4.out.mono ?_
      rintro E w4 ⟨e, n, g, vl, l, rfl, ownl, hC, bel4⟩
      unfold cmv
      have sz4 := bel4.size
      have R4 := hide (R3.out.below bel4)
      have O4 : Hid (Out (Wr B) w w4) := hide (out_two O3.out (Out.of_below bel4))
      have hR4 := (bel4.block w.heap.size (by omega)).trans HR3.out
      obtain ⟨ah, ln, ch, hvl⟩ : ∃ ah ln ch, vl = .slice ah ln ch := by
        obtain ⟨ah, ch, hvl, _, _⟩ := ownl.is.shape
        exact ⟨ah, _, ch, hvl⟩
      subst hvl
      obtain ⟨Y, hY, bY, gY, ⟨y0, y1', y2⟩, ⟨k0, k1, k2⟩, ⟨x0, x1, x2⟩⟩ := res_step hR4 (.int .i64 e) (.int .i64 n) (.slice ah ln ch)
      have szY := gY.size
      have RY := hide (R4.out.other gY (by omega) (by omega) (by omega) (by omega))
      have OY : Hid (Out (Wr B) w Y) := hide ⟨gY.os.trans O4.out.os, gY.tape.trans O4.out.tape, gY.output.trans O4.out.output, by omega, fun i hi hn => (gY.block i (by omega) (by simp; omega)).trans (O4.out.block i hi hn)⟩
      have ownY := ownl.keptg gY (by omega)
      have fer := blk_froz RY.out.er 0
      have cer : Y.cell? ⟨B + 3, 0, none⟩ = some (.int .i64 0) := blk_cell RY.out.er 0 rfl
      have hC' := hide hC
      clear C4 ownl bel4 hC O4 R4 hR4
      rcases hC'.out with ⟨hg0, hchk, henc⟩ | ⟨hg5, he0, hn0, hl0, hno⟩
      · subst hg0
        have hsame : Y.setCell ⟨B + 3, 0, none⟩ (.int .i64 0) = Y := set_same RY.out.er (j := 0) rfl
        have car : Y.cell? ⟨B + 2, 0, none⟩ = some (.int .i64 q) := blk_cell RY.out.at' 0 rfl
        have far := blk_froz RY.out.at' 0
        obtain ⟨X, hX⟩ : ∃ X, Y.setCell ⟨B + 2, 0, none⟩ (.int .i64 ((q + u : Nat) : Int)) = X := ⟨_, rfl⟩
        have RX : Hid (Rst B w0 X vb bs (q + u) false) := hide (by rw [← hX]; exact RY.out.putA (q + u) hqu)
        have OX : Hid (Out (Wr B) w X) := hide (out_two OY.out (by rw [← hX]; exact out_A _ _ _))
        have gX : Y.grownBy X (some (B + 2)) := by rw [← hX]; exact grown_setCell _ _ _
        have bX := (gX.block w.heap.size (by omega) (by simp; omega)).trans bY
        have ownX := (ownY.keptg gX (by omega)).rebase (base' := w.heap.size) (by omega)
        have HF : Hid (Mm.CStep bs a false ⟨e, n, l⟩ (q + u) false ∧ CFit e n l) := hide ⟨GB.out e n l hchk henc, cfit_ok hchk⟩
        obtain ⟨X2, hX2, bX2, gX2, ⟨j0, j1, j2⟩, ⟨m0, m1, m2⟩, ⟨n0, n1, n2⟩⟩ := res_step bX (.int .i64 e) (.int .i64 n) (.slice ah ln ch)
        have hXX : X = X2 := by
          rw [← hX2, same3 bX]
        subst hXX
        push_cast at hX
        clear hchk henc hC' bX gX bX2 gX2 bY gY ownY
        go_wp2
        refine bodyPost_ret (v := .agg #[.int .i64 e, .int .i64 n, .slice ah ln ch]) (by simp [results, Try.results72, go_sem, n0, n1, n2]) rfl ?_
        exact ⟨_, _, _, l, _, false, rfl, hide ⟨ownX, HF.out.1, HF.out.2, RX.out, OX.out⟩⟩
      · subst hg5 he0 hn0 hl0
        obtain ⟨V, hV⟩ : ∃ V, Y.setCell ⟨B + 3, 0, none⟩ (.int .i64 5) = V := ⟨_, rfl⟩
        have RV : Hid (Rst B w0 V vb bs q true) := hide (by rw [← hV]; exact RY.out.putE true)
        have OV : Hid (Out (Wr B) w V) := hide (out_two OY.out (by rw [← hV]; exact out_E _ _ _))
        have gV : Y.grownBy V (some (B + 3)) := by rw [← hV]; exact grown_setCell _ _ _
        have szV := gV.size
        have bV := (gV.block w.heap.size (by omega) (by simp; omega)).trans bY
        have car : V.cell? ⟨B + 2, 0, none⟩ = some (.int .i64 q) := blk_cell RV.out.at' 0 rfl
        have far := blk_froz RV.out.at' 0
        obtain ⟨X, hX⟩ : ∃ X, V.setCell ⟨B + 2, 0, none⟩ (.int .i64 ((q + u : Nat) : Int)) = X := ⟨_, rfl⟩
        have RX : Hid (Rst B w0 X vb bs (q + u) true) := hide (by rw [← hX]; exact RV.out.putA (q + u) hqu)
        have OX : Hid (Out (Wr B) w X) := hide (out_two OV.out (by rw [← hX]; exact out_A _ _ _))
        have gX : V.grownBy X (some (B + 2)) := by rw [← hX]; exact grown_setCell _ _ _
        have bX := (gX.block w.heap.size (by omega) (by simp; omega)).trans bV
        have HF := hide (GN.out hno)
        obtain ⟨X2, hX2, bX2, gX2, ⟨j0, j1, j2⟩, ⟨m0, m1, m2⟩, ⟨n0, n1, n2⟩⟩ := res_step bX (.int .i64 0) (.int .i64 0) (.slice ah ln ch)
        have hXX : X = X2 := by
          rw [← hX2, same3 bX]
        subst hXX
        push_cast at hX
        have ownX := ((ownY.keptg gV (by omega)).keptg gX (by omega)).rebase (base' := w.heap.size) (by omega)
        clear hno hC' bX gX bX2 gX2 bY gY ownY
        go_wp2
        refine bodyPost_ret (v := .agg #[.int .i64 0, .int .i64 0, .slice ah ln ch]) (by simp [results, Try.results72, go_sem, n0, n1, n2]) rfl ?_
        exact ⟨_, _, _, [], _, true, rfl, hide ⟨ownX, .inr (.inl ⟨rfl, rfl, HF.out⟩), cfit_no, RX.out, OX.out⟩⟩
  · -- an error stuck
    have hbz : bad5 true = 5 := rfl
    rw [hbz] at ce2
    have hu0 : u = 0 := by
      rcases S2.out with ⟨_, _, rfl, _⟩ | ⟨_, _, rfl, _⟩ | ⟨_, hx, _⟩
      · rfl
      · rfl
      · simp at hx
    subst hu0
    have hg : ¬ (bs.length : Int) - (a1 : Int) < ((0 : Nat) : Int) := by omega
    have hg' : ¬ (bs.length : Int) - (a1 : Int) < 0 := by omega
    have HCS : Hid (Mm.CStep bs a bad ⟨0, 0, []⟩ a1 true) := hide (by
      rcases S2.out with ⟨h1, _⟩ | ⟨h1, _, _, _, h2⟩ | ⟨_, hx, _⟩
      · exact .inl ⟨h1, rfl⟩
      · exact .inr (.inl ⟨h1, rfl, no_frm h2⟩)
      · simp at hx)
    have hZ2 : w2 = Z := by
      rw [← hZ, same3 hR2]
    subst hZ2
    clear hR2 bZ gZ S2
    go_wp2
    refine bodyPost_ret (v := .agg #[.int .i64 0, .int .i64 0, .slice none 0 0]) (by simp [results, Try.results72, go_sem, z0, z1, z2]) rfl ?_
    exact ⟨0, 0, _, [], _, true, rfl, hide ⟨OwnO.nil _ _ _, HCS.out, cfit_no, R2.out, O2.out⟩⟩

end Go.Proofs.Ytabfihicdphjeaa

/- A message that is read: whose memory it is, what is known of it; the reader's first closure where its answer is known. -/
namespace Go.Proofs.Ytabfihicdphjeaa
open Go.RowKit
set_option linter.unusedVariables false

theorem sstep_is (bs : List Int) (mx a : Nat) (bad : Bool) : ∃ (u a' : Nat) (bad' : Bool), SStep bs mx a bad u a' bad' := by
  cases bad
  · by_cases h : ∃ x : Nat, x ≤ mx ∧ Vm.enc x <+: bs.drop a
    · obtain ⟨x, h1, h2⟩ := h
      exact ⟨x, _, false, .inr (.inr ⟨rfl, rfl, h1, h2, rfl⟩)⟩
    · exact ⟨0, a, true, .inr (.inl ⟨rfl, rfl, rfl, rfl, fun x h1 h2 => h ⟨x, h1, h2⟩⟩)⟩
  · exact ⟨0, a, true, .inl ⟨rfl, rfl, rfl, rfl⟩⟩

theorem sstep_one {bs : List Int} {mx a u a' v a'' : Nat} {bad b' b'' : Bool} (h : SStep bs mx a bad u a' b') (k : SStep bs mx a bad v a'' b'') : u = v ∧ a' = a'' ∧ b' = b'' := by
  rcases h with ⟨rfl, rfl, rfl, rfl⟩ | ⟨rfl, rfl, rfl, rfl, h⟩ | ⟨rfl, rfl, h1, h2, rfl⟩
  · rcases k with ⟨_, rfl, rfl, rfl⟩ | ⟨k, _⟩ | ⟨k, _⟩
    · exact ⟨rfl, rfl, rfl⟩
    · simp at k
    · simp at k
  · rcases k with ⟨k, _⟩ | ⟨_, rfl, rfl, rfl, _⟩ | ⟨_, _, k1, k2, _⟩
    · simp at k
    · exact ⟨rfl, rfl, rfl⟩
    · exact absurd k2 (h _ k1)
  · rcases k with ⟨k, _⟩ | ⟨_, _, _, _, k⟩ | ⟨_, rfl, k1, k2, rfl⟩
    · simp at k
    · exact absurd h2 (k _ h1)
    · have := Vm.pre_one _ _ _ h2 k2
      subst this
      exact ⟨rfl, rfl, rfl⟩

theorem sstep_max {bs : List Int} {mx a u a' : Nat} {b b' : Bool} (h : SStep bs mx a b u a' b') : u ≤ mx := by
  rcases h with ⟨_, _, rfl, _⟩ | ⟨_, _, rfl, _⟩ | ⟨_, _, h, _⟩
  · omega
  · omega
  · exact h

/-- The closure 'number', its answer known. -/
theorem number_at (B : Nat) (w0 w : World) (vb : Value) (bs : List Int) (a : Nat) (bad : Bool) (most u a' : Nat) (bad' : Bool) (h : Rst B w0 w vb bs a bad) (hl : bs.length ≤ 100000000000000) (hm : most < 9223372036854775808) (hS : SStep bs most a bad u a' bad') :
    Calls Try.prog 70 #[.int .i64 most, .pointer (some ⟨B + 3, 0, none⟩), .pointer (some ⟨B, 0, none⟩), .pointer (some ⟨B + 2, 0, none⟩)] w fun E w' => E = .returned (.int .i64 u) ∧ Hid (Rst B w0 w' vb bs a' bad' ∧ Out (Wr B) w w') := by
  refine (number_any B w0 w vb bs a bad most h hl hm).mono ?_
  rintro E w' ⟨v, a2, b2, rfl, H⟩
  obtain ⟨h1, h2, h3⟩ := H.out
  obtain ⟨rfl, rfl, rfl⟩ := sstep_one hS h2
  exact ⟨rfl, hide ⟨h1, h3⟩⟩

/-- A message whose lists are the call's own. -/
structure OwnM (base : Nat) (w : World) (m : Mw) : Prop where
  s : OwnS base w m.vs m.ss
  c : OwnR 46 base w m.vc m.cs
  o : CopyR base w m.cs
  i : ∀ c ∈ m.cs, In64 c.e ∧ In64 c.n
  ap : ApC m.cs

theorem OwnM.is {base : Nat} {w : World} {m : Mw} (h : OwnM base w m) : IsM w m := ⟨h.s.row, h.c.row, fun c hc => ⟨(h.o c hc).is, h.i c hc⟩⟩

theorem OwnM.no (base : Nat) (w : World) : OwnM base w mno := ⟨OwnG.nil _ _ _ _ _, OwnR.nil _ _ _, fun c hc => by simp [mno] at hc, fun c hc => by simp [mno] at hc, fun i j c d _ hc => by simp [mno] at hc⟩

theorem OwnM.rebase {base base' : Nat} {w : World} {m : Mw} (h : OwnM base w m) (hb : base' ≤ base) : OwnM base' w m := ⟨ownS_rebase h.s hb, h.c.rebase hb, fun c hc => (h.o c hc).rebase hb, h.i, h.ap⟩

theorem OwnM.below {base : Nat} {w w' : World} {m : Mw} (h : OwnM base w m) (hb : Below w.heap.size w w') : OwnM base w' m := ⟨ownS_below h.s hb, h.c.below hb, h.o.below hb, h.i, h.ap⟩

/-- Its lists stay where only blocks ahead of them are written. -/
theorem OwnM.out {base : Nat} {w w' : World} {m : Mw} {F : Nat → Prop} (h : OwnM base w m) (ho : Out F w w') (hF : ∀ i, F i → i < base) : OwnM base w' m := by
  have k : ∀ (v : Value), (∀ b, v.ownBlock = some b → base ≤ b ∧ b < w.heap.size) → ∀ b, v.ownBlock = some b → w'.heap[b]? = w.heap[b]? := fun v hv b hb => ho.block b (hv b hb).2 fun hf => by have := hF b hf; have := (hv b hb).1; omega
  refine ⟨h.s.agree (k _ h.s.lt), row_agree h.c (k _ (World.ownsRow.lt h.c)), fun c hc => ?_, h.i, h.ap⟩
  exact row_agree (h.o c hc) (k _ (World.ownsRow.lt (h.o c hc)))

/-- What the reader has come to. -/
def Rdd (bs : List Int) (m : Mm.Msg) (a : Nat) (bad : Bool) : Prop := (Mm.GoC bs (Mm.hd m) m.cs a bad ∧ (bad = false → Mm.Sh m)) ∨ (¬ Mm.Ok m ∧ Mm.Dc bs Mm.no 5)

theorem rd_end {bs : List Int} {m : Mm.Msg} {a : Nat} {bad : Bool} (h : Rdd bs m a bad) : ((bad = false ∧ a = bs.length ∧ Mm.Ok m) ∧ Mm.Dc bs m 0) ∨ (¬ (bad = false ∧ a = bs.length ∧ Mm.Ok m) ∧ Mm.Dc bs Mm.no 5) := by
  rcases h with ⟨h1, h2⟩ | ⟨h1, h2⟩
  · exact Mm.go_end h1 h2
  · exact .inr ⟨fun k => h1 k.2.2, h2⟩

/-- Two cells in one: the variables of the reader, the closure's, and the message so far. -/
structure RdS (B : Nat) (w0 w : World) (vb : Value) (bs : List Int) (a : Nat) (bad : Bool) (m : Mw) : Prop where
  r : Rst B w0 w vb bs a bad
  f : Fnb B w
  m : MAt w (B + 1) m

section
variable {B : Nat} {w0 w w' : World} {vb : Value} {bs : List Int} {a a' : Nat} {bad bad' : Bool} {m : Mw}

theorem RdS.lt (h : RdS B w0 w vb bs a bad m) : B + 4 < w.heap.size := blk_lt h.f
theorem RdS.below (h : RdS B w0 w vb bs a bad m) (hb : Below w.heap.size w w') : RdS B w0 w' vb bs a bad m := ⟨h.r.below hb, h.f.below hb, h.m.below hb⟩
theorem RdS.step (h : RdS B w0 w vb bs a bad m) (hr : Rst B w0 w' vb bs a' bad') (ho : Out (Wr B) w w') : RdS B w0 w' vb bs a' bad' m :=
  ⟨hr, h.f.out ho, (ho.block (B + 1) h.m.lt (by unfold Wr; omega)).trans h.m⟩
theorem RdS.put (h : RdS B w0 w vb bs a bad m) (j : Nat) (u : Value) (m' : Mw) (hm : (mc m).setIfInBounds j u = mc m') : RdS B w0 (w.setCell ⟨B + 1, j, none⟩ u) vb bs a bad m' := by
  have hg := grown_setCell w ⟨B + 1, j, none⟩ u
  have hl := h.lt
  refine ⟨h.r.other hg (by simp) (by simp) (by simp) (by simp), (hg.block (B + 4) (by omega) (by simp)).trans h.f, ?_⟩
  unfold MAt
  rw [← hm]
  exact set_cells h.m j u
theorem RdS.cf (h : RdS B w0 w vb bs a bad m) : w.cell? ⟨B + 4, 0, none⟩ = some (.func (.func 70) #[] #[.pointer (some ⟨B + 3, 0, none⟩), .pointer (some ⟨B, 0, none⟩), .pointer (some ⟨B + 2, 0, none⟩)]) := blk_cell h.f 0 rfl
theorem RdS.ca (h : RdS B w0 w vb bs a bad m) : w.cell? ⟨B + 2, 0, none⟩ = some (.int .i64 a) := blk_cell h.r.at' 0 rfl
theorem RdS.ce (h : RdS B w0 w vb bs a bad m) : w.cell? ⟨B + 3, 0, none⟩ = some (.int .i64 (bad5 bad)) := blk_cell h.r.er 0 rfl
theorem RdS.fm (h : RdS B w0 w vb bs a bad m) (j : Nat) : w.frozen? ⟨B + 1, j, none⟩ = false := blk_froz h.m j
/-- The message's own lists stay under what the closures and the function write. -/
theorem OwnM.wr (h : OwnM (B + 5) w m) (ho : Out (Wr B) w w') : OwnM (B + 5) w' m := h.out ho (fun i hi => by unfold Wr at hi; omega)
theorem OwnM.set (h : OwnM (B + 5) w m) (j : Nat) (u : Value) : OwnM (B + 5) (w.setCell ⟨B + 1, j, none⟩ u) m := h.out (F := fun i => i = B + 1) (Out.of_grown (grown_setCell w ⟨B + 1, j, none⟩ u) (fun i hi => by simpa using hi.symm)) (fun i hi => by omega)

end

/-- The function's own first steps: its variables. -/
theorem read_start (w : World) (vb : Value) (bs : List Int) (h : Is .u8 w vb bs) :
    ∃ w1 w2 w3 w4 w5 w6, w.alloc (.cells #[vb] 50) = w1 ∧ w1.alloc (.cells #[.int .i64 0, .int .i64 0, .int .u8 0, .int .i64 0, .slice none 0 0, .int .i64 0, .int .i64 0, .slice none 0 0] 26) = w2 ∧ w2.alloc (.cells #[.int .i64 0] 3) = w3 ∧ w3.alloc (.cells #[.int .i64 0] 27) = w4 ∧
      w1.heap.size = w.heap.size + 1 ∧ w2.heap.size = w.heap.size + 2 ∧ w3.heap.size = w.heap.size + 3 ∧ w4.heap.size = w.heap.size + 4 ∧
      w4.alloc (.cells #[.nilFunc] 95) = w5 ∧ w5.cell? ⟨w.heap.size + 4, 0, none⟩ = some .nilFunc ∧ w5.frozen? ⟨w.heap.size + 4, 0, none⟩ = false ∧
      w5.setCell ⟨w.heap.size + 4, 0, none⟩ (.func (.func 70) #[] #[.pointer (some ⟨w.heap.size + 3, 0, none⟩), .pointer (some ⟨w.heap.size, 0, none⟩), .pointer (some ⟨w.heap.size + 2, 0, none⟩)]) = w6 ∧ RdS w.heap.size w w6 vb bs 0 false mno := by
  obtain ⟨w1, h1, s1, b1, k1⟩ := blk_step w #[vb] 50
  obtain ⟨w2, h2, s2, b2, k2⟩ := blk_step w1 #[.int .i64 0, .int .i64 0, .int .u8 0, .int .i64 0, .slice none 0 0, .int .i64 0, .int .i64 0, .slice none 0 0] 26
  obtain ⟨w3, h3, s3, b3, k3⟩ := blk_step w2 #[.int .i64 0] 3
  obtain ⟨w4, h4, s4, b4, k4⟩ := blk_step w3 #[.int .i64 0] 27
  obtain ⟨w5, h5, s5, b5, k5⟩ := blk_step w4 #[.nilFunc] 95
  have s4' : w4.heap.size = w.heap.size + 4 := by omega
  rw [s4'] at k5
  obtain ⟨w6, h6, k6, g6, f6⟩ := putAt k5 0 (.func (.func 70) #[] #[.pointer (some ⟨w.heap.size + 3, 0, none⟩), .pointer (some ⟨w.heap.size, 0, none⟩), .pointer (some ⟨w.heap.size + 2, 0, none⟩)])
  have b06 : Below w.heap.size w w6 := below_put ((((b1.trans (b2.mono (by omega))).trans (b3.mono (by omega))).trans (b4.mono (by omega))).trans (b5.mono (by omega))) g6 (by omega) (by omega)
  have q : ∀ i, i < w4.heap.size → w6.heap[i]? = w4.heap[i]? := fun i hi => (g6.block i (by omega) (by simp; omega)).trans (b5.block i hi)
  refine ⟨w1, w2, w3, w4, w5, w6, h1, h2, h3, h4, s1, by omega, by omega, by omega, h5, blk_cell k5 0 rfl, f6, h6, ⟨h, rfl, b06, ?_, ?_, ?_, by omega⟩, k6, ?_⟩
  · exact (q _ (by omega)).trans ((b4.block _ (by omega)).trans ((b3.block _ (by omega)).trans ((b2.block _ (by omega)).trans k1)))
  · rw [show w.heap.size + 2 = w2.heap.size by omega]
    exact (q _ (by omega)).trans ((b4.block _ (by omega)).trans k3)
  · rw [show w.heap.size + 3 = w3.heap.size by omega]
    exact (q _ (by omega)).trans k4
  · unfold MAt
    rw [show w.heap.size + 1 = w1.heap.size by omega]
    exact (q _ (by omega)).trans ((b4.block _ (by omega)).trans ((b3.block _ (by omega)).trans k2))

end Go.Proofs.Ytabfihicdphjeaa
