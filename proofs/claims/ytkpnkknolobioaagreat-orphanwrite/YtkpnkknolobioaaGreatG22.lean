/- Texts of one layer, one behind the other. -/
import Derived.Test.YtkpnkknolobioaaGreatG21
import Derived.Test.YtkpnkknolobioaaGreatG16
import Derived.Test.YtkpnkknolobioaaGreatG1
/- The program's disk: Write, whatever the disk and the file. -/
namespace Go.Proofs.YtkpnkknolobioaaGreat
open Go.RowKit Go.Shelf
set_option linter.unusedVariables false
attribute [local go_sem] Oper.semAt_some

set_option maxRecDepth 100000 in
set_option maxHeartbeats 2000000 in
theorem write_any (p : Nat) (F : Nat → Prop) (w : World) (st : Dm.Ds) (file : Int) (vb : Value) (bs : List Int) (h : Pk p F w st) (hb : Is .u8 w vb bs) (hbF : 0 < bs.length → ∀ b, vb.ownBlock = some b → ¬ F b) (hLm : bs.length ≤ 1000000)
    (hw : st.wait.length + cnt bs.length ≤ 1000000) (hl : st.left ≤ 9223372036854775807) (hc : st.count + cnt bs.length < 9223372036854775807) :
    Calls Tryz.prog 8 #[.pointer (some ⟨p, 0, none⟩), .int .i64 file, vb] w fun E w' => E = .returned (.int .i64 (Dm.write st file bs).1) ∧ PStep p F w w' (Dm.write st file bs).2 := by
  unfold Dm.write
  obtain ⟨w1, hw1, sz1, bel1, B1⟩ := blk_step w #[.pointer (some ⟨p, 0, none⟩)] 28
  obtain ⟨w2, hw2, sz2, bel2, B2⟩ := blk_step w1 #[.int .i64 file] 3
  obtain ⟨w3, hw3, sz3, bel3, B3⟩ := blk_step w2 #[.int .i64 0] 32
  rw [sz1] at B2 bel2
  rw [show w2.heap.size = w.heap.size + 2 by omega] at B3 bel3
  have bel03 : Below w.heap.size w w3 := (bel1.trans (bel2.mono (by omega))).trans (bel3.mono (by omega))
  have HR := hide (refuses_any p F w3 st (h.below bel03))
  have HF := hide (isfile_any file w3)
  have HK := hide h
  replace sz2 : w2.heap.size = w.heap.size + 2 := by omega
  replace sz3 : w3.heap.size = w.heap.size + 3 := by omega
  have C0 : w3.cell? ⟨w.heap.size, 0, none⟩ = some (.pointer (some ⟨p, 0, none⟩)) := by
    have e1 := (bel2.block w.heap.size (by omega)).trans B1
    exact blk_cell ((bel3.block w.heap.size (by omega)).trans e1) 0 rfl
  have C1 : w3.cell? ⟨w.heap.size + 1, 0, none⟩ = some (.int .i64 file) := blk_cell ((bel3.block (w.heap.size + 1) (by omega)).trans B2) 0 rfl
  have C2 : w3.cell? ⟨w.heap.size + 2, 0, none⟩ = some (.int .i64 0) := blk_cell B3 0 rfl
  have f2 := blk_froz B3 0
  have hend : ∀ e : Int, Below w.heap.size w (w3.setCell ⟨w.heap.size + 2, 0, none⟩ (.int .i64 e)) ∧ (w3.setCell ⟨w.heap.size + 2, 0, none⟩ (.int .i64 e)).cell? ⟨w.heap.size + 2, 0, none⟩ = some (.int .i64 e) := fun e =>
    ⟨bel03.grown (grown_setCell w3 ⟨w.heap.size + 2, 0, none⟩ _) (by omega) fun k hk => by simp at hk; omega, blk_cell (set_cells B3 0 (.int .i64 e)) 0 (by simp)⟩
  have HE := hide hend
  cases hon : st.on
  · rw [if_pos rfl]
    have hk := ask_off hon
    clear h hon hend B1 B2 B3
    refine (callsIn_wide (n := 6)).1 ?_
    refine callsIn_of_wp_marks Tryz.func8 rfl trivial ?_ rfl
    simp only [Tryz.ntmps8, List.size_toArray, List.length_cons, List.length_nil, Nat.reduceAdd, Nat.reduceSub, Array.replicate_succ, Array.replicate_zero, List.push_toArray, List.append_toArray, List.nil_append, List.cons_append]
    gi_wp2_with fail
    refine ⟨trivial, (callsIn_wide.2 HR.out).mono ?_⟩
    rintro E w' ⟨rfl, rfl⟩
    rw [hk]
    gi_wp2
    obtain ⟨b6, c6⟩ := HE.out 6
    refine ⟨.int .i64 6, ?_, rfl, PStep.same HK.out b6⟩
    simp [results, Tryz.results8, go_sem, c6]
  · rw [if_neg (by simp)]
    have hk := ask_on hon
    cases hin : Dm.inF file
    · rw [if_pos rfl]
      rw [hin] at HF
      clear h hon hend B1 B2 B3 hin
      refine (callsIn_wide (n := 6)).1 ?_
      refine callsIn_of_wp_marks Tryz.func8 rfl trivial ?_ rfl
      simp only [Tryz.ntmps8, List.size_toArray, List.length_cons, List.length_nil, Nat.reduceAdd, Nat.reduceSub, Array.replicate_succ, Array.replicate_zero, List.push_toArray, List.append_toArray, List.nil_append, List.cons_append]
      gi_wp2_with fail
      refine ⟨trivial, (callsIn_wide.2 HR.out).mono ?_⟩
      rintro E w' ⟨rfl, rfl⟩
      rw [hk]
      gi_wp2_with fail
      refine ⟨trivial, (callsIn_wide.2 HF.out).mono ?_⟩
      rintro E w' ⟨rfl, rfl⟩
      gi_wp2
      obtain ⟨b6, c6⟩ := HE.out 2
      refine ⟨.int .i64 2, ?_, rfl, PStep.same HK.out b6⟩
      simp [results, Tryz.results8, go_sem, c6]
    · rw [if_neg (by simp)]
      obtain ⟨f, hf, rfl⟩ := inF_nat hin
      rw [Int.toNat_natCast, wrt_pieces]
      exact wgo_any p F w st f hf vb bs h hon hb hbF hLm hw hl hc

end Go.Proofs.YtkpnkknolobioaaGreat

/- The program's Has and Write of sections (layer 19). -/
namespace Go.Proofs.YtkpnkknolobioaaGreat
open Go.RowKit
set_option linter.unusedVariables false

set_option maxRecDepth 20000 in
set_option maxHeartbeats 8000000 in
theorem powrite_any (p : Nat) (F : Nat → Prop) (w : World) (st : Dm.Ds) (base e f : Int) (v : Value) (rs : List Cw) (hc : ∀ W, Out F w W → IsC W v rs) (hf : FitC rs) (hl : rs.length ≤ 2000) (h : Pk p F w st) (t u : Nat) (hB : Big t u st) (ht : t ≤ 100000000000) (hu : u + 20000 ≤ 1000000) :
    Calls Tryz.prog 15 #[.pointer (some ⟨p, 0, none⟩), .int .i64 base, cmv e f v] w fun E w' => E = .returned (.int .i64 (Orp.wrS st base ⟨e, f, cvs rs⟩).1) ∧ PStep p F w w' (Orp.wrS st base ⟨e, f, cvs rs⟩).2 := by
  unfold cmv
  obtain ⟨w1, hw1, sz1, bel1, hBx⟩ := blk_step w #[.int .i64 e, .int .i64 f, v] 25
  obtain ⟨s, hs⟩ : ∃ s : Orp.Se, ⟨e, f, cvs rs⟩ = s := ⟨_, rfl⟩
  have D1 := hide (h.below bel1)
  have FLT : Hid (∀ g, F g → g < w.heap.size) := hide h.lt
  have RD := hide (dread_any p F w1 st 3 D1.out (fun f => by have := hB.1.1 f; omega) (by have := hB.1.2.1; omega))
  have EN : Hid (∀ W, Below w.heap.size w W → Calls Tryz.prog 30 #[cmv e f v] W fun E w' => ∃ vb, E = .returned (.tuple #[vb, .int .i64 (Orp.chk ⟨e, f, cvs rs⟩)]) ∧ Own .u8 5 W.heap.size w' vb (Orp.out ⟨e, f, cvs rs⟩) ∧ Below W.heap.size W w') := hide fun W hW => poenc_any e f v rs W (hc W (Out.of_below hW)) hf (by omega)
  unfold cmv at EN
  rw [hs] at EN ⊢
  obtain ⟨rr, hrr⟩ : ∃ x, Orp.wrS st base s = x := ⟨_, rfl⟩
  rw [hrr]
  have HRR := hide hrr
  have hsl : s.cs.length = rs.length := by rw [← hs]; exact cvs_many rs
  obtain ⟨va, vk, hv, _, _⟩ := (hc w (Out.refl _ _)).1.shape
  have B1 := hide bel1
  have HBX := hide hBx
  rw [hv] at hw1 EN HBX
  subst hv
  clear hc hf h bel1 hBx hs hrr
  cases hon : st.on with
  | false =>
    rw [show rdE st 3 = 6 by unfold rdE; rw [if_pos hon]] at RD
    have HR := hide (HRR.out.symm.trans (Orp.wrS_off hon))
    clear hon EN HBX
    go_enter Tryz.func15, Tryz.ntmps15
    go_wp2_with fail
    refine RD.out.mono ?_
    rintro E w2 ⟨vh, rfl, ownh, bel2⟩
    have FIN : Hid (PStep p F w w2 st) := hide (PStep.pre B1.out (PStep.same D1.out bel2))
    obtain ⟨ha, hk, hvh, _, _⟩ := ownh.is.shape
    subst hvh
    clear RD D1 ownh bel2
    go_wp2
    go_ret
    rw [HR.out]
    exact ⟨rfl, FIN.out⟩
  | true =>
  rw [show rdE st 3 = 0 by unfold rdE; rw [if_neg (by simp [hon]), if_neg (by decide)], show rdB st 3 = Orp.hl st by unfold rdB; rw [if_neg (by simp [hon]), if_neg (by decide)]; rfl] at RD
  have HON := hide hon
  clear hon
  obtain ⟨ck, hck⟩ : ∃ z, Orp.chk s = z := ⟨_, rfl⟩
  rw [hck] at EN
  have HCK := hide hck
  clear hck
  go_enter Tryz.func15, Tryz.ntmps15
  go_wp2_with fail
  refine RD.out.mono ?_
  rintro E w2 ⟨vh, rfl, ownh, bel2⟩
  obtain ⟨ha, hk, hvh, _, _⟩ := ownh.is.shape
  obtain ⟨nh, hnh⟩ : ∃ z, (Orp.hl st).length = z := ⟨_, rfl⟩
  rw [hnh] at hvh
  have hnb : nh ≤ 100000000000 := by rw [← hnh]; have := Dm.hold_len st.wait (st.sure 3) 3; have := hB.1.1 3; unfold Orp.hl; omega
  have D2 := hide (D1.out.below bel2)
  have B2 := hide (B1.out.trans (bel2.mono B1.out.size))
  have hB2 := (bel2.block _ (blk_lt HBX.out)).trans HBX.out
  have k0 := blk_cell hB2 0 rfl
  have k1 := blk_cell hB2 1 rfl
  have k2 := blk_cell hB2 2 rfl
  simp only [List.getElem_toArray, List.getElem_cons_zero, List.getElem_cons_succ] at k0 k1 k2
  have EN2 := hide (EN.out w2 B2.out)
  have HNH := hide hnh
  have s2 := B2.out.size
  subst hvh
  clear RD ownh bel2 hnh EN D1 B1 HBX hB2
  go_wp2_with fail
  refine EN2.out.mono ?_
  rintro E w3 ⟨vb, rfl, ownb, bel3⟩
  have D3 := hide (D2.out.below bel3)
  have B3 := hide (B2.out.trans (bel3.mono B2.out.size))
  obtain ⟨xa, xn, xk, hvb⟩ := ownb.is.form
  clear EN2 k0 k1 k2
  by_cases hc0 : ck = 0
  · subst hc0
    rw [Orp.out_ok HCK.out] at ownb
    have hlb : (Orp.sec s).length ≤ 900000 := by have := Orp.sec_le HCK.out; omega
    have OB3 := hide ownb
    have VB : Hid (∀ g, vb.ownBlock = some g → w.heap.size ≤ g ∧ g < w3.heap.size) := hide fun g hg => by have := ownb.block g hg; omega
    have hcn : cnt (Orp.sec s).length ≤ 14063 := by unfold cnt; omega
    rw [hvb] at OB3 VB
    subst hvb
    clear ownb bel3 D2 B2
    by_cases hbad : base < 0 ∨ (nh : Int) < base
    · have HR := hide (HRR.out.symm.trans (Orp.wrS_arg HON.out HCK.out (by rw [HNH.out]; exact hbad)))
      have FIN : Hid (PStep p F w w3 st) := hide (PStep.pre B3.out (PStep.same D3.out (Below.refl _ _)))
      by_cases hb0 : base < 0
      · clear hbad
        go_wp2
        go_ret
        rw [HR.out]
        exact ⟨rfl, FIN.out⟩
      · have hb1 : (nh : Int) < base := by omega
        clear hbad
        go_wp2
        go_ret
        rw [HR.out]
        exact ⟨rfl, FIN.out⟩
    have hb0 : ¬ base < 0 := by omega
    have hb1 : ¬ (nh : Int) < base := by omega
    have HW1 := hide (HRR.out.symm.trans (Orp.wrS_go HON.out HCK.out (by rw [HNH.out]; exact hbad)))
    clear hbad
    by_cases hcut : base < nh
    · have CU := hide (cut_any p F w3 st 3 base D3.out (fun f => by have := hB.1.1 f; omega) (by have := hB.1.2.1; omega) hB.2 (by have := hB.1.2.2; omega))
      have hbB := big_cut hB 3 base
      have C6 := hide (cut3_e (st := st) (n := base) HON.out (by omega) (by rw [HNH.out]; omega))
      obtain ⟨⟨e4, st4⟩, h4⟩ : ∃ x, Dm.cutD st 3 base = x := ⟨_, rfl⟩
      have H4 := hide h4
      rw [h4] at CU hbB C6
      simp only at CU hbB C6
      clear h4
      go_wp2_with fail
      refine CU.out.mono ?_
      rintro E w4 ⟨rfl, F4, D4', O4, S4⟩
      have D4 := hide D4'
      have OUT4 : Hid (Out F w w4 ∧ ∀ g, F4 g → F g ∨ w3.heap.size ≤ g) := hide ⟨(Out.of_below B3.out).trans O4 (fun g hg => .inl hg), S4⟩
      have IB4 : Hid (Is .u8 w4 (.slice xa xn xk) (Orp.sec s)) := hide (OB3.out.is.agree fun g hg => O4.block g (by have := VB.out g hg; omega) fun hF => by have := VB.out g hg; have := FLT.out g hF; omega)
      have NF4 : Hid (∀ g, (Value.slice xa xn xk).ownBlock = some g → ¬ F4 g) := hide fun g hg hF => by
        have q := VB.out g hg
        rcases S4 g hF with q2 | q2
        · have := FLT.out g q2; omega
        · omega
      clear CU D4' O4 S4 D3
      by_cases he4 : e4 = 0
      · subst he4
        have hW : Orp.wr1 st base s = Orp.wr2 st4 s := by rw [wr1_cut (by rw [HNH.out]; exact hcut) (by rw [H4.out]), H4.out]
        have HW := hide (HW1.out.trans hW)
        have hBc : Big t (u + 1) st4 := hbB
        clear hW hcut hbB
        have WR := hide (write_any p F4 w4 st4 3 (.slice xa xn xk) (Orp.sec s) D4.out IB4.out (fun _ => NF4.out) (by omega) (by have := hBc.1.2.1; omega) hBc.2 (by have := hBc.1.2.2; omega))
        have hB5 := big_write hBc 3 (Orp.sec s)
        have E1 := hide (fun h => wr2_e1 (st := st4) (s := s) h)
        have E2 := hide (fun h q => wr2_e2 (st := st4) (s := s) h q)
        have E3 := hide (fun h q => wr2_e3 (st := st4) (s := s) h q)
        have W6 := hide (write3_e (st := st4) (Orp.sec s))
        obtain ⟨⟨e5, st5⟩, h5⟩ : ∃ x, Dm.write st4 3 (Orp.sec s) = x := ⟨_, rfl⟩
        rw [h5] at WR hB5 E1 E2 E3 W6
        simp only at WR hB5 E1 E2 E3 W6
        rw [← HW.out] at E1 E2 E3
        clear h5 IB4 NF4
        go_wp2_with fail
        refine WR.out.mono ?_
        rintro E w5 ⟨rfl, F5, D5', O5, S5⟩
        have D5 := hide D5'
        have OUT5 : Hid (Out F w w5 ∧ ∀ g, F5 g → F g ∨ w.heap.size ≤ g) := hide ⟨OUT4.out.1.trans O5 (fun g hg => (OUT4.out.2 g hg).imp_right fun q => Nat.le_trans B3.out.size q), fun g hg => by
          rcases S5 g hg with q | q
          · exact (OUT4.out.2 g q).imp_right fun q => Nat.le_trans B3.out.size q
          · exact .inr (Nat.le_trans OUT4.out.1.size q)⟩
        clear WR D5' O5 S5 D4 OUT4
        by_cases he5 : e5 = 0
        · subst he5
          have SY := hide (sync_any p F5 w5 st5 D5.out (fun f => by have := hB5.1.1 f; omega) (by have := hB5.1.2.1; omega) hB5.2 (by have := hB5.1.2.2; omega))
          have Y6 := hide (sync3_e st5)
          obtain ⟨⟨e6, st6⟩, h6⟩ : ∃ x, Dm.sync st5 = x := ⟨_, rfl⟩
          rw [h6] at SY E2 E3 Y6
          simp only at SY E2 E3 Y6
          clear h6
          go_wp2_with fail
          refine SY.out.mono ?_
          rintro E w6 ⟨rfl, F6, D6', O6, S6⟩
          have FIN : Hid (PStep p F w w6 st6) := hide ⟨F6, D6', OUT5.out.1.trans O6 OUT5.out.2, fun g hg => by
            rcases S6 g hg with q | q
            · exact OUT5.out.2 g q
            · exact .inr (Nat.le_trans OUT5.out.1.size q)⟩
          clear SY D6' O6 S6 D5 OUT5
          by_cases he6 : e6 = 0
          · subst he6
            have HR := hide (E3.out (by trivial) (by trivial))
            clear E1 E2 E3
            go_wp2
            go_ret
            rw [HR.out]
            exact ⟨rfl, FIN.out⟩
          · obtain rfl : e6 = 6 := Y6.out.resolve_left he6
            have HR := hide (E2.out (by trivial) (by decide))
            clear E1 E2 E3
            go_wp2
            go_ret
            rw [HR.out]
            exact ⟨rfl, FIN.out⟩
        · obtain rfl : e5 = 6 := W6.out.resolve_left he5
          have HR := hide (E1.out (by decide))
          have FIN : Hid (PStep p F w w5 st5) := hide ⟨F5, D5.out, OUT5.out.1, OUT5.out.2⟩
          clear E1 E2 E3
          go_wp2
          go_ret
          rw [HR.out]
          exact ⟨rfl, FIN.out⟩
      · obtain rfl : e4 = 6 := C6.out.resolve_left he4
        have hW : Orp.wr1 st base s = (6, st4) := by rw [wr1_no (by rw [HNH.out]; exact hcut) (by rw [H4.out]; simp), H4.out]
        have HR := hide (HW1.out.trans hW)
        have FIN : Hid (PStep p F w w4 st4) := hide ⟨F4, D4.out, OUT4.out.1, fun g hg => (OUT4.out.2 g hg).imp_right fun q => Nat.le_trans B3.out.size q⟩
        clear hW
        go_wp2
        go_ret
        rw [HR.out]
        exact ⟨rfl, FIN.out⟩
    · have hW : Orp.wr1 st base s = Orp.wr2 st s := wr1_all (by rw [HNH.out]; exact hcut)
      have HW := hide (HW1.out.trans hW)
      obtain ⟨st4, hst4⟩ : ∃ x, st = x := ⟨_, rfl⟩
      obtain ⟨w4, hw4⟩ : ∃ x, w3 = x := ⟨_, rfl⟩
      obtain ⟨F4, hF4⟩ : ∃ x, F = x := ⟨_, rfl⟩
      have hBc : Big t (u + 1) st4 := by rw [← hst4]; exact hB.mono (Nat.le_refl _) (by omega)
      have D4 : Hid (Pk p F4 w4 st4) := by rw [← hst4, ← hw4, ← hF4]; exact D3
      have OUT4 : Hid (Out F w w4 ∧ ∀ g, F4 g → F g ∨ w3.heap.size ≤ g) := hide ⟨by rw [← hw4]; exact Out.of_below B3.out, fun g hg => .inl (by rw [hF4]; exact hg)⟩
      have IB4 : Hid (Is .u8 w4 (.slice xa xn xk) (Orp.sec s)) := hide (by rw [← hw4]; exact OB3.out.is)
      have NF4 : Hid (∀ g, (Value.slice xa xn xk).ownBlock = some g → ¬ F4 g) := hide fun g hg hF => by
        have q := VB.out g hg
        rw [← hF4] at hF
        have := FLT.out g hF
        omega
      rw [hst4] at HW
      rw [hw4]
      clear hW D3 hst4 hw4 hF4
      have WR := hide (write_any p F4 w4 st4 3 (.slice xa xn xk) (Orp.sec s) D4.out IB4.out (fun _ => NF4.out) (by omega) (by have := hBc.1.2.1; omega) hBc.2 (by have := hBc.1.2.2; omega))
      have hB5 := big_write hBc 3 (Orp.sec s)
      have E1 := hide (fun h => wr2_e1 (st := st4) (s := s) h)
      have E2 := hide (fun h q => wr2_e2 (st := st4) (s := s) h q)
      have E3 := hide (fun h q => wr2_e3 (st := st4) (s := s) h q)
      have W6 := hide (write3_e (st := st4) (Orp.sec s))
      obtain ⟨⟨e5, st5⟩, h5⟩ : ∃ x, Dm.write st4 3 (Orp.sec s) = x := ⟨_, rfl⟩
      rw [h5] at WR hB5 E1 E2 E3 W6
      simp only at WR hB5 E1 E2 E3 W6
      rw [← HW.out] at E1 E2 E3
      clear h5 IB4 NF4
      go_wp2_with fail
      refine WR.out.mono ?_
      rintro E w5 ⟨rfl, F5, D5', O5, S5⟩
      have D5 := hide D5'
      have OUT5 : Hid (Out F w w5 ∧ ∀ g, F5 g → F g ∨ w.heap.size ≤ g) := hide ⟨OUT4.out.1.trans O5 (fun g hg => (OUT4.out.2 g hg).imp_right fun q => Nat.le_trans B3.out.size q), fun g hg => by
        rcases S5 g hg with q | q
        · exact (OUT4.out.2 g q).imp_right fun q => Nat.le_trans B3.out.size q
        · exact .inr (Nat.le_trans OUT4.out.1.size q)⟩
      clear WR D5' O5 S5 D4 OUT4
      by_cases he5 : e5 = 0
      · subst he5
        have SY := hide (sync_any p F5 w5 st5 D5.out (fun f => by have := hB5.1.1 f; omega) (by have := hB5.1.2.1; omega) hB5.2 (by have := hB5.1.2.2; omega))
        have Y6 := hide (sync3_e st5)
        obtain ⟨⟨e6, st6⟩, h6⟩ : ∃ x, Dm.sync st5 = x := ⟨_, rfl⟩
        rw [h6] at SY E2 E3 Y6
        simp only at SY E2 E3 Y6
        clear h6
        go_wp2_with fail
        refine SY.out.mono ?_
        rintro E w6 ⟨rfl, F6, D6', O6, S6⟩
        have FIN : Hid (PStep p F w w6 st6) := hide ⟨F6, D6', OUT5.out.1.trans O6 OUT5.out.2, fun g hg => by
          rcases S6 g hg with q | q
          · exact OUT5.out.2 g q
          · exact .inr (Nat.le_trans OUT5.out.1.size q)⟩
        clear SY D6' O6 S6 D5 OUT5
        by_cases he6 : e6 = 0
        · subst he6
          have HR := hide (E3.out (by trivial) (by trivial))
          clear E1 E2 E3
          go_wp2
          go_ret
          rw [HR.out]
          exact ⟨rfl, FIN.out⟩
        · obtain rfl : e6 = 6 := Y6.out.resolve_left he6
          have HR := hide (E2.out (by trivial) (by decide))
          clear E1 E2 E3
          go_wp2
          go_ret
          rw [HR.out]
          exact ⟨rfl, FIN.out⟩
      · obtain rfl : e5 = 6 := W6.out.resolve_left he5
        have HR := hide (E1.out (by decide))
        have FIN : Hid (PStep p F w w5 st5) := hide ⟨F5, D5.out, OUT5.out.1, OUT5.out.2⟩
        clear E1 E2 E3
        go_wp2
        go_ret
        rw [HR.out]
        exact ⟨rfl, FIN.out⟩
  · have hcb : (ck != 0) = true := by simp [hc0]
    have HR := hide (HRR.out.symm.trans (Orp.wrS_chk HON.out (by rw [HCK.out]; exact hc0)))
    rw [HCK.out] at HR
    have FIN : Hid (PStep p F w w3 st) := hide (PStep.pre B3.out (PStep.same D3.out (Below.refl _ _)))
    subst hvb
    clear ownb
    go_wp2
    go_ret
    rw [HR.out]
    exact ⟨rfl, FIN.out⟩

end Go.Proofs.YtkpnkknolobioaaGreat
