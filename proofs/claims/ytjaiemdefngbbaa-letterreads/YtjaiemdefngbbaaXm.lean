/- The contract of read's second closure, 'one': one commit. -/
import Derived.Test.YtjaiemdefngbbaaXl
namespace Go.Proofs.Ytjaiemdefngbbaa
open Go.RowKit
set_option linter.unusedVariables false

theorem no_frm {bs : List Int} {a : Nat} (h : ∀ x : Nat, x ≤ bs.length → ¬ Vm.enc x <+: bs.drop a) : ∀ c' : Cm.Cv, Cm.chk c'.e c'.n c'.l = 0 → ¬ Fm.frm (Mm.cb c') <+: bs.drop a := fun c' _ hp => by
  obtain ⟨h1, h2, h3⟩ := Fm.frm_pre hp
  rw [List.length_drop] at h3
  exact h _ (by omega) h1

theorem no_room {bs : List Int} {a u : Nat} (h : Vm.enc u <+: bs.drop a) (hu : bs.length - (a + Vm.sz u) < u) : ∀ c' : Cm.Cv, Cm.chk c'.e c'.n c'.l = 0 → ¬ Fm.frm (Mm.cb c') <+: bs.drop a := fun c' _ hp => by
  obtain ⟨h1, h2, h3⟩ := Fm.frm_pre hp
  have e := Vm.pre_one _ _ _ h h1
  subst e
  rw [List.length_drop] at h2 h3
  omega

/-- The piece that a count and what is behind it makes. -/
theorem one_piece {bs : List Int} {a u : Nat} (h : Vm.enc u <+: bs.drop a) (hu : u ≤ bs.length - (a + Vm.sz u)) : ((bs.drop (a + Vm.sz u)).take u).length = u ∧ Fm.frm ((bs.drop (a + Vm.sz u)).take u) <+: bs.drop a := by
  have := Fm.frm_of (bs := bs.drop a) (x := u) h (by rw [List.length_drop]; omega)
  rw [List.drop_drop] at this
  exact this

theorem one_good {bs : List Int} {a u : Nat} {e n : Int} {l : List Bm.Ov} (h : Vm.enc u <+: bs.drop a) (hu : u ≤ bs.length - (a + Vm.sz u)) (hc : Cm.chk e n l = 0) (he : Cm.encC e n l = (bs.drop (a + Vm.sz u)).take u) : Mm.CStep bs a false ⟨e, n, l⟩ (a + Vm.sz u + u) false := by
  obtain ⟨h1, h2⟩ := one_piece h hu
  refine .inr (.inr ⟨rfl, rfl, hc, ?_, ?_⟩)
  · show Fm.frm (Cm.encC e n l) <+: _
    rw [he]
    exact h2
  · show _ = a + (Fm.frm (Cm.encC e n l)).length
    rw [he, Fm.frm_len, h1]
    omega

theorem one_bad {bs : List Int} {a u : Nat} (h : Vm.enc u <+: bs.drop a) (hu : u ≤ bs.length - (a + Vm.sz u)) (hno : ∀ e' n' l', Cm.chk e' n' l' = 0 → Cm.encC e' n' l' ≠ (bs.drop (a + Vm.sz u)).take u) : ∀ c' : Cm.Cv, Cm.chk c'.e c'.n c'.l = 0 → ¬ Fm.frm (Mm.cb c') <+: bs.drop a := fun c' hc hp => by
  obtain ⟨h1, h2⟩ := one_piece h hu
  exact hno c'.e c'.n c'.l hc (Fm.frm_one hp h2)

/-- Three cells written again. -/
theorem same3 {V : World} {R : Nat} {t : TypeId} {x y z : Value} (hR : V.heap[R]? = some (.cells #[x, y, z] t (0, 0))) : ((V.setCell ⟨R, 0, none⟩ x).setCell ⟨R, 1, none⟩ y).setCell ⟨R, 2, none⟩ z = V := by
  have h0 : V.setCell ⟨R, 0, none⟩ x = V := set_same hR (j := 0) rfl
  have h1 : V.setCell ⟨R, 1, none⟩ y = V := set_same hR (j := 1) rfl
  have h2 : V.setCell ⟨R, 2, none⟩ z = V := set_same hR (j := 2) rfl
  rw [h0, h1, h2]

/-- The variable that holds the first closure. -/
def Fnb (B : Nat) (w : World) : Prop := w.heap[B + 4]? = some (.cells #[.func (.func 61) #[] #[.pointer (some ⟨B + 3, 0, none⟩), .pointer (some ⟨B, 0, none⟩), .pointer (some ⟨B + 2, 0, none⟩)]] 73 (0, 0))

theorem Fnb.out {B : Nat} {w w' : World} (h : Fnb B w) (ho : Out (Wr B) w w') : Fnb B w' := (ho.block (B + 4) (blk_lt h) (by unfold Wr; omega)).trans h
theorem Fnb.below {B : Nat} {w w' : World} (h : Fnb B w) (hb : Below w.heap.size w w') : Fnb B w' := (hb.block (B + 4) (blk_lt h)).trans h

/-- What a commit that was read is. -/
def CFit (e n : Int) (l : List Bm.Ov) : Prop := In64 e ∧ In64 n ∧ FitO l ∧ l.length ≤ 8

theorem cfit_no : CFit 0 0 [] := ⟨by simp [In64], by simp [In64], fun o ho => by simp at ho, by simp⟩
theorem cfit_ok {e n : Int} {l : List Bm.Ov} (h : Cm.chk e n l = 0) : CFit e n l := by
  obtain ⟨h1, h2, h3, h4, h5⟩ := Cm.chk_zero h
  exact ⟨⟨by omega, by omega⟩, ⟨by omega, by omega⟩, (small_of h5).fit, (Bm.chkL_zero h5).2.1⟩

set_option maxRecDepth 100000 in
set_option maxHeartbeats 1000000 in
theorem one_any (B : Nat) (w0 w : World) (vb : Value) (bs : List Int) (a : Nat) (bad : Bool) (h : Rst B w0 w vb bs a bad) (hn : Fnb B w) (hl : bs.length ≤ 100000000000000) :
    Calls Try.prog 63 #[.pointer (some ⟨B + 4, 0, none⟩), .pointer (some ⟨B, 0, none⟩), .pointer (some ⟨B + 2, 0, none⟩), .pointer (some ⟨B + 3, 0, none⟩)] w fun E w' => ∃ (e n : Int) (v : Value) (l : List Bm.Ov) (a' : Nat) (bad' : Bool), E = .returned (cmv e n v) ∧ Hid (OwnO 33 w.heap.size w' v l ∧ Mm.CStep bs a bad ⟨e, n, l⟩ a' bad' ∧ CFit e n l ∧ Rst B w0 w' vb bs a' bad' ∧ Out (Wr B) w w') := by
  unfold cmv
  have hlt := h.lt
  have hlt4 := blk_lt hn
  obtain ⟨w1, hw1, sz1, bel1, hR⟩ := blk_step w #[.int .i64 0, .int .i64 0, .slice none 0 0] 36
  have R1 := hide (h.below bel1)
  have F1 := hide (hn.below bel1)
  have HR1 := hide hR
  have O1 : Hid (Out (Wr B) w w1) := hide (Out.of_below bel1)
  obtain ⟨ao, cap, hvb, _, _⟩ := h.is.shape
  have cb : w1.cell? ⟨B, 0, none⟩ = some (.slice ao bs.length cap) := by rw [← hvb]; exact blk_cell R1.out.bx 0 rfl
  have cf : w1.cell? ⟨B + 4, 0, none⟩ = some (.func (.func 61) #[] #[.pointer (some ⟨B + 3, 0, none⟩), .pointer (some ⟨B, 0, none⟩), .pointer (some ⟨B + 2, 0, none⟩)]) := blk_cell F1.out 0 rfl
  have HVB := hide hvb
  clear h hn hR hvb
  go_enter Try.func63, Try.ntmps63
  go_wp2_with fail
  refine (number_any B w0 w1 vb bs a bad bs.length R1.out hl (by omega)).mono ?_
  rintro E w2 ⟨u, a1, bad1, rfl, H2⟩
  obtain ⟨r2, s2, o2⟩ := H2.out
  have sz2 := o2.size
  have R2 := hide r2
  have S2 := hide s2
  have O2 : Hid (Out (Wr B) w w2) := hide (out_two O1.out o2)
  have hR2 := (o2.block w.heap.size (by omega) (by unfold Wr; omega)).trans HR1.out
  have HR2 := hide hR2
  have ha1 := r2.le
  have cb2 : w2.cell? ⟨B, 0, none⟩ = some (.slice ao bs.length cap) := by rw [← HVB.out]; exact blk_cell r2.bx 0 rfl
  have ca2 : w2.cell? ⟨B + 2, 0, none⟩ = some (.int .i64 a1) := blk_cell r2.at' 0 rfl
  have ce2 : w2.cell? ⟨B + 3, 0, none⟩ = some (.int .i64 (bad5 bad1)) := blk_cell r2.er 0 rfl
  have fe2 := blk_froz r2.er 0
  have hu : u ≤ bs.length := by
    rcases s2 with ⟨_, _, rfl, _⟩ | ⟨_, _, rfl, _⟩ | ⟨_, _, hx, _⟩
    · omega
    · omega
    · exact hx
  clear H2 r2 s2 o2 cb cf hw1 R1 F1 O1 HR1
  obtain ⟨Z, hZ, bZ, gZ, ⟨a0, a1', a2⟩, ⟨f0, f1, f2⟩, ⟨z0, z1, z2⟩⟩ := res_step hR2 (.int .i64 0) (.int .i64 0) (.slice none 0 0)
  have szZ := gZ.size
  cases bad1
  · -- no error so far
    have hsu : bad = false ∧ Vm.enc u <+: bs.drop a ∧ a1 = a + Vm.sz u := by
      rcases S2.out with ⟨_, hx, _⟩ | ⟨_, hx, _⟩ | ⟨h1, _, _, h2, h3⟩
      · simp at hx
      · simp at hx
      · exact ⟨h1, h2, h3⟩
    obtain ⟨rfl, hen, rfl⟩ := hsu
    have HEN := hide hen
    have hbz : bad5 false = 0 := rfl
    rw [hbz] at ce2
    by_cases hroom : bs.length - (a + Vm.sz u) < u
    · -- too few bytes are left
      have hg : (bs.length : Int) - ((a + Vm.sz u : Nat) : Int) < u := by omega
      obtain ⟨V, hV⟩ : ∃ V, w2.setCell ⟨B + 3, 0, none⟩ (.int .i64 5) = V := ⟨_, rfl⟩
      have RV : Hid (Rst B w0 V vb bs (a + Vm.sz u) true) := hide (by rw [← hV]; exact R2.out.putE true)
      have OV : Hid (Out (Wr B) w V) := hide (out_two O2.out (by rw [← hV]; exact out_E _ _ _))
      have hRV : V.heap[w.heap.size]? = some (.cells #[.int .i64 0, .int .i64 0, .slice none 0 0] 36 (0, 0)) := by
        rw [← hV]
        exact ((grown_setCell w2 ⟨B + 3, 0, none⟩ (.int .i64 5)).block w.heap.size (by omega) (by simp; omega)).trans HR2.out
      have ce3 : V.cell? ⟨B + 3, 0, none⟩ = some (.int .i64 5) := blk_cell RV.out.er 0 rfl
      obtain ⟨Y, hY, bY, gY, ⟨y0, y1', y2⟩, ⟨k0, k1, k2⟩, ⟨x0, x1, x2⟩⟩ := res_step hRV (.int .i64 0) (.int .i64 0) (.slice none 0 0)
      have hYV : V = Y := by
        rw [← hY, same3 hRV]
      subst hYV
      have HS := hide (no_room hen hroom)
      generalize a + Vm.sz u = q at *
      clear hen hroom hR2 hRV bY gY bZ gZ
      go_wp2
      refine bodyPost_ret (v := .agg #[.int .i64 0, .int .i64 0, .slice none 0 0]) (by simp [results, Try.results63, go_sem, x0, x1, x2]) rfl ?_
      exact ⟨0, 0, _, [], _, true, rfl, hide ⟨OwnO.nil _ _ _, .inr (.inl ⟨rfl, rfl, HS.out⟩), cfit_no, RV.out, OV.out⟩⟩
    · -- a piece of it
      have hg : ¬ (bs.length : Int) - ((a + Vm.sz u : Nat) : Int) < u := by omega
      obtain ⟨vs, hsl, isl⟩ := R2.out.is.slice_lh Try.elemB Try.sizeE (a + Vm.sz u) (a + Vm.sz u + u) (by omega) (by omega)
      rw [show a + Vm.sz u + u - (a + Vm.sz u) = u by omega] at isl
      have hsl2 : (Instr.slice 22 (.slice ao bs.length cap) (some (.int .i64 ((a + Vm.sz u : Nat) : Int))) (some (.int .i64 (((a + Vm.sz u : Nat) : Int) + (u : Int)))) none).run Try.prog w2 = .ok vs w2 := by
        have := hsl w2
        rw [HVB.out] at this
        simpa using this
      have hwr : IntKind.i64.wrap (((a + Vm.sz u : Nat) : Int) + (u : Int)) = ((a + Vm.sz u : Nat) : Int) + u := wrap_i64_small _ (by omega) (by omega)
      have hpl : ((bs.drop (a + Vm.sz u)).take u).length ≤ 100000000000000 := by rw [List.length_take]; omega
      have C3 := hide (bclone_any vs ((bs.drop (a + Vm.sz u)).take u) w2 isl (by omega))
      have HNO : Hid (¬ bs.length - (a + Vm.sz u) < u) := hide hroom
      have GB : Hid (∀ e n l, Cm.chk e n l = 0 → Cm.encC e n l = (bs.drop (a + Vm.sz u)).take u → Mm.CStep bs a false ⟨e, n, l⟩ (a + Vm.sz u + u) false) := hide fun e n l => one_good hen (by omega)
      have GN : Hid ((∀ e' n' l', Cm.chk e' n' l' = 0 → Cm.encC e' n' l' ≠ (bs.drop (a + Vm.sz u)).take u) → ∀ c' : Cm.Cv, Cm.chk c'.e c'.n c'.l = 0 → ¬ Fm.frm (Mm.cb c') <+: bs.drop a) := hide fun k => one_bad hen (by omega) k
      have hqu : a + Vm.sz u + u ≤ bs.length := by omega
      generalize (bs.drop (a + Vm.sz u)).take u = pc at *
      generalize a + Vm.sz u = q at *
      clear hsl isl hen hroom hZ bZ gZ a0 a1' a2 f0 f1 f2 z0 z1 z2 HEN S2 hR2 Z szZ
      go_wp2_with fail
      refine C3.out.mono ?_
      rintro E w3 ⟨v3, rfl, own3, bel3⟩
      have sz3 := bel3.size
      have R3 := hide (R2.out.below bel3)
      have O3 : Hid (Out (Wr B) w w3) := hide (out_two O2.out (Out.of_below bel3))
      have C4 := hide (cdec_any v3 pc w3 own3.is (by omega))
      have HR3 := hide ((bel3.block w.heap.size (by omega)).trans HR2.out)
      clear C3 own3 cb2 ca2 ce2 fe2 hsl2 bel3
      go_wp2_with fail
      refine C4.out.mono ?_
      rintro E w4 ⟨e, n, g, vl, l, rfl, ownl, hC, bel4⟩
      unfold cmv
      have sz4 := bel4.size
      have R4 := hide (R3.out.below bel4)
      have O4 : Hid (Out (Wr B) w w4) := hide (out_two O3.out (Out.of_below bel4))
      have hR4 := (bel4.block w.heap.size (by omega)).trans HR3.out
      obtain ⟨ah, ln, ch, hvl⟩ : ∃ ah ln ch, vl = .slice ah ln ch := by
        obtain ⟨ah, ch, hvl, _, _⟩ := ownl.is.shape
        exact ⟨ah, _, ch, hvl⟩
      subst hvl
      obtain ⟨Y, hY, bY, gY, ⟨y0, y1', y2⟩, ⟨k0, k1, k2⟩, ⟨x0, x1, x2⟩⟩ := res_step hR4 (.int .i64 e) (.int .i64 n) (.slice ah ln ch)
      have szY := gY.size
      have RY := hide (R4.out.other gY (by omega) (by omega) (by omega) (by omega))
      have OY : Hid (Out (Wr B) w Y) := hide ⟨gY.os.trans O4.out.os, gY.tape.trans O4.out.tape, gY.output.trans O4.out.output, by omega, fun i hi hn => (gY.block i (by omega) (by simp; omega)).trans (O4.out.block i hi hn)⟩
      have ownY := ownl.keptg gY (by omega)
      have fer := blk_froz RY.out.er 0
      have cer : Y.cell? ⟨B + 3, 0, none⟩ = some (.int .i64 0) := blk_cell RY.out.er 0 rfl
      have hC' := hide hC
      clear C4 ownl bel4 hC O4 R4 hR4
      rcases hC'.out with ⟨hg0, hchk, henc⟩ | ⟨hg5, he0, hn0, hl0, hno⟩
      · subst hg0
        have hsame : Y.setCell ⟨B + 3, 0, none⟩ (.int .i64 0) = Y := set_same RY.out.er (j := 0) rfl
        have car : Y.cell? ⟨B + 2, 0, none⟩ = some (.int .i64 q) := blk_cell RY.out.at' 0 rfl
        have far := blk_froz RY.out.at' 0
        obtain ⟨X, hX⟩ : ∃ X, Y.setCell ⟨B + 2, 0, none⟩ (.int .i64 ((q + u : Nat) : Int)) = X := ⟨_, rfl⟩
        have RX : Hid (Rst B w0 X vb bs (q + u) false) := hide (by rw [← hX]; exact RY.out.putA (q + u) hqu)
        have OX : Hid (Out (Wr B) w X) := hide (out_two OY.out (by rw [← hX]; exact out_A _ _ _))
        have gX : Y.grownBy X (some (B + 2)) := by rw [← hX]; exact grown_setCell _ _ _
        have bX := (gX.block w.heap.size (by omega) (by simp; omega)).trans bY
        have ownX := (ownY.keptg gX (by omega)).rebase (base' := w.heap.size) (by omega)
        have HF : Hid (Mm.CStep bs a false ⟨e, n, l⟩ (q + u) false ∧ CFit e n l) := hide ⟨GB.out e n l hchk henc, cfit_ok hchk⟩
        obtain ⟨X2, hX2, bX2, gX2, ⟨j0, j1, j2⟩, ⟨m0, m1, m2⟩, ⟨n0, n1, n2⟩⟩ := res_step bX (.int .i64 e) (.int .i64 n) (.slice ah ln ch)
        have hXX : X = X2 := by
          rw [← hX2, same3 bX]
        subst hXX
        push_cast at hX
        clear hchk henc hC' bX gX bX2 gX2 bY gY ownY
        go_wp2
        refine bodyPost_ret (v := .agg #[.int .i64 e, .int .i64 n, .slice ah ln ch]) (by simp [results, Try.results63, go_sem, n0, n1, n2]) rfl ?_
        exact ⟨_, _, _, l, _, false, rfl, hide ⟨ownX, HF.out.1, HF.out.2, RX.out, OX.out⟩⟩
      · subst hg5 he0 hn0 hl0
        obtain ⟨V, hV⟩ : ∃ V, Y.setCell ⟨B + 3, 0, none⟩ (.int .i64 5) = V := ⟨_, rfl⟩
        have RV : Hid (Rst B w0 V vb bs q true) := hide (by rw [← hV]; exact RY.out.putE true)
        have OV : Hid (Out (Wr B) w V) := hide (out_two OY.out (by rw [← hV]; exact out_E _ _ _))
        have gV : Y.grownBy V (some (B + 3)) := by rw [← hV]; exact grown_setCell _ _ _
        have szV := gV.size
        have bV := (gV.block w.heap.size (by omega) (by simp; omega)).trans bY
        have car : V.cell? ⟨B + 2, 0, none⟩ = some (.int .i64 q) := blk_cell RV.out.at' 0 rfl
        have far := blk_froz RV.out.at' 0
        obtain ⟨X, hX⟩ : ∃ X, V.setCell ⟨B + 2, 0, none⟩ (.int .i64 ((q + u : Nat) : Int)) = X := ⟨_, rfl⟩
        have RX : Hid (Rst B w0 X vb bs (q + u) true) := hide (by rw [← hX]; exact RV.out.putA (q + u) hqu)
        have OX : Hid (Out (Wr B) w X) := hide (out_two OV.out (by rw [← hX]; exact out_A _ _ _))
        have gX : V.grownBy X (some (B + 2)) := by rw [← hX]; exact grown_setCell _ _ _
        have bX := (gX.block w.heap.size (by omega) (by simp; omega)).trans bV
        have HF := hide (GN.out hno)
        obtain ⟨X2, hX2, bX2, gX2, ⟨j0, j1, j2⟩, ⟨m0, m1, m2⟩, ⟨n0, n1, n2⟩⟩ := res_step bX (.int .i64 0) (.int .i64 0) (.slice ah ln ch)
        have hXX : X = X2 := by
          rw [← hX2, same3 bX]
        subst hXX
        push_cast at hX
        have ownX := ((ownY.keptg gV (by omega)).keptg gX (by omega)).rebase (base' := w.heap.size) (by omega)
        clear hno hC' bX gX bX2 gX2 bY gY ownY
        go_wp2
        refine bodyPost_ret (v := .agg #[.int .i64 0, .int .i64 0, .slice ah ln ch]) (by simp [results, Try.results63, go_sem, n0, n1, n2]) rfl ?_
        exact ⟨_, _, _, [], _, true, rfl, hide ⟨ownX, .inr (.inl ⟨rfl, rfl, HF.out⟩), cfit_no, RX.out, OX.out⟩⟩
  · -- an error stuck
    have hbz : bad5 true = 5 := rfl
    rw [hbz] at ce2
    have hu0 : u = 0 := by
      rcases S2.out with ⟨_, _, rfl, _⟩ | ⟨_, _, rfl, _⟩ | ⟨_, hx, _⟩
      · rfl
      · rfl
      · simp at hx
    subst hu0
    have hg : ¬ (bs.length : Int) - (a1 : Int) < ((0 : Nat) : Int) := by omega
    have hg' : ¬ (bs.length : Int) - (a1 : Int) < 0 := by omega
    have HCS : Hid (Mm.CStep bs a bad ⟨0, 0, []⟩ a1 true) := hide (by
      rcases S2.out with ⟨h1, _⟩ | ⟨h1, _, _, _, h2⟩ | ⟨_, hx, _⟩
      · exact .inl ⟨h1, rfl⟩
      · exact .inr (.inl ⟨h1, rfl, no_frm h2⟩)
      · simp at hx)
    have hZ2 : w2 = Z := by
      rw [← hZ, same3 hR2]
    subst hZ2
    clear hR2 bZ gZ S2
    go_wp2
    refine bodyPost_ret (v := .agg #[.int .i64 0, .int .i64 0, .slice none 0 0]) (by simp [results, Try.results63, go_sem, z0, z1, z2]) rfl ?_
    exact ⟨0, 0, _, [], _, true, rfl, hide ⟨OwnO.nil _ _ _, HCS.out, cfit_no, R2.out, O2.out⟩⟩

end Go.Proofs.Ytjaiemdefngbbaa
