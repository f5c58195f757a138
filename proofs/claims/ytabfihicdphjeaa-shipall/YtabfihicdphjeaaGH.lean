/- Texts of one layer, one behind the other. -/
import Derived.Test.YtabfihicdphjeaaGG
import Derived.Test.YtabfihicdphjeaaG9
/- The contract of read (the program's): a hello. -/
namespace Go.Proofs.Ytabfihicdphjeaa
open Go.RowKit
set_option linter.unusedVariables false

/-- A call of a function value inside a region that draws its order. -/
theorem fn_at {P : Program} {ops : Array Oper} {o : Oper} {a : Act} {w : World} {K : Act → World → Prop} {Q : Exit → Act → World → Prop} {E : Prop} (hgd : o.guard = none) (x : Operand) (f : FuncId) (args : Array Operand) (ts : Array TypeId) (cap : Array Value)
    (ho : o.op = .call { callee := .value x, args := args, argTypes := ts }) (hx : a.eval x = .func (.func f) #[] cap) (hent : ∀ args w, (callFunc f args).run P w = .ok (.enter f args) w) (vs : Array Value) (hvs : args.map a.eval = vs)
    {R : Value → World → Prop} (hc : Calls P f (vs ++ cap) w fun e w' => ∃ v, e = .returned v ∧ R v w') (h : ∀ v w', R v w' → K (a.put o.dst v) w') :
    if Region.wanted o (yielded ops a.tmps) = true then Oper.wp P o a w K Q else E := by
  have hw : Region.wanted o (yielded ops a.tmps) = true := by simp [Region.wanted, hgd]
  rw [if_pos hw]
  unfold Oper.wp
  simp only [execOp, ho, resolve, invoke, Sem.run_bind, hvs, hx]
  simp only [Deferred.ofValue, Sem.run_pure, Result.andThen_ok, Array.empty_append, hent]
  rw [Oper.upon_enter]
  refine hc.mono ?_
  rintro e w' ⟨v, rfl, hr⟩
  exact h v w' hr

theorem RdS.grown {B : Nat} {w0 w w' : World} {vb : Value} {bs : List Int} {a : Nat} {bad : Bool} {m : Mw} (h : RdS B w0 w vb bs a bad m) {row : Option Nat} (hg : w.grownBy w' row) (hr : ∀ g, row = some g → B + 5 ≤ g) : RdS B w0 w' vb bs a bad m := by
  have hl := h.lt
  have k : ∀ i, i < B + 5 → w'.heap[i]? = w.heap[i]? := fun i hi => hg.block i (by omega) fun e => by have := hr i e.symm; omega
  exact ⟨⟨h.r.is0, h.r.hB, h.r.bel.grown hg (by omega) (fun g e => by have := hr g e; omega), (k _ (by omega)).trans h.r.bx, (k _ (by omega)).trans h.r.at', (k _ (by omega)).trans h.r.er, h.r.le⟩, (k _ (by omega)).trans h.f, (k _ (by omega)).trans h.m⟩

theorem Try.enters70 : ∀ args w, (callFunc 70 args).run Try.prog w = .ok (.enter 70 args) w := enters_of Try.func70 (by kernel_rfl) rfl

/-- What the closure answers and leaves. -/
def NumR (B : Nat) (w0 : World) (vb : Value) (bs : List Int) (u a' : Nat) (bad' : Bool) (w : World) (v : Value) (w' : World) : Prop := v = .int .i64 u ∧ Hid (Rst B w0 w' vb bs a' bad' ∧ Out (Wr B) w w')

theorem number_fn (B : Nat) (w0 w : World) (vb : Value) (bs : List Int) (a : Nat) (bad : Bool) (most u a' : Nat) (bad' : Bool) (h : Rst B w0 w vb bs a bad) (hl : bs.length ≤ 100000000000000) (hm : most < 9223372036854775808) (hS : SStep bs most a bad u a' bad') :
    Calls Try.prog 70 (#[.int .i64 most] ++ #[.pointer (some ⟨B + 3, 0, none⟩), .pointer (some ⟨B, 0, none⟩), .pointer (some ⟨B + 2, 0, none⟩)]) w fun E w' => ∃ v, E = .returned v ∧ NumR B w0 vb bs u a' bad' w v w' := by
  have := number_at B w0 w vb bs a bad most u a' bad' h hl hm hS
  refine this.mono ?_
  rintro E w' ⟨rfl, H⟩
  exact ⟨_, rfl, rfl, H⟩

/-- A hello so far. -/
def hm1 (e r n : Int) (vs : Value) (ss : List Sm.S) : Mw := ⟨1, e, r, n, vs, ss, 0, 0, .slice none 0 0, []⟩

theorem own_hm {base : Nat} {w : World} {e r n : Int} {vs : Value} {ss : List Sm.S} (h : OwnS base w vs ss) : OwnM base w (hm1 e r n vs ss) := ⟨h, OwnR.nil _ _ _, fun c hc => by simp [hm1] at hc, fun c hc => by simp [hm1] at hc, fun i j c d _ hc => by simp [hm1] at hc⟩

set_option maxRecDepth 100000 in
set_option maxHeartbeats 2000000 in
theorem read_1 (vb : Value) (bs : List Int) (w : World) (hb : Is .u8 w vb bs) (hl : bs.length ≤ 100000000000000) (a1 : Nat) (b1 : Bool) (S1 : SStep bs 3 0 false 1 a1 b1) :
    Calls Try.prog 47 #[vb] w (ReadR w bs) := by
  obtain ⟨ao, ln, cap, hv⟩ := hb.form
  subst hv
  obtain ⟨w1, w2, w3, w4, w5, w6, hw1, hw2, hw3, hw4, sz1, sz2, sz3, sz4, hw5, cn5, fn5, hw6, r6⟩ := read_start w _ bs hb
  have hmf : ∀ (fn : Fn) (first cap : Array Value) (w : World), (Instr.makeFunc fn first cap).run Try.prog w = .ok (.func fn first cap) w := fun _ _ _ _ => rfl
  have hst := run_store Try.prog w5 ⟨w.heap.size + 4, 0, none⟩ (.func (.func 70) #[] #[.pointer (some ⟨w.heap.size + 3, 0, none⟩), .pointer (some ⟨w.heap.size, 0, none⟩), .pointer (some ⟨w.heap.size + 2, 0, none⟩)]) .plain rfl
  simp only [cn5, fn5, hw6] at hst
  simp only [Bool.false_eq_true, if_false] at hst
  obtain ⟨u2, a2, b2, S2⟩ := sstep_is bs 1048576 a1 b1
  have hu2 := sstep_max S2
  have R6 := hide r6
  have cf := r6.cf
  have X1 := hide S1
  have X2 := hide S2
  have G2 : Hid (Mm.Go bs [1, (u2 : Int)] a2 b2) := hide (Mm.go_step (Mm.go_step (Mm.go_start bs) S1 Mm.nx_0) S2 (Mm.nx_1 _))
  have O6 : Hid (OwnM (w.heap.size + 5) w6 mno) := hide (OwnM.no _ _)
  have C1 := hide (number_at w.heap.size w w6 _ bs 0 false 3 1 a1 b1 r6.r hl (by omega) S1)
  clear S1 S2 r6 hb
  go_enter Try.func47, Try.ntmps47
  go_wp2_with fail
  refine C1.out.mono ?_
  rintro E w7 ⟨rfl, H7⟩
  have R7 := hide (R6.out.step H7.out.1 H7.out.2)
  have O7 := hide (O6.out.wr H7.out.2)
  clear H7 C1 hw1 hw2 hw3 hw4 hw5 hw6 R6 O6 cf cn5 fn5 hst
  obtain ⟨w8, hw8⟩ : ∃ V, w7.setCell ⟨w.heap.size + 1, 0, none⟩ (.int .i64 1) = V := ⟨_, rfl⟩
  have R8 : Hid (RdS w.heap.size w w8 (.slice ao ln cap) bs a1 b1 ⟨1, 0, 0, 0, .slice none 0 0, [], 0, 0, .slice none 0 0, []⟩) := hide (by rw [← hw8]; exact R7.out.put 0 _ _ rfl)
  have O8 : Hid (OwnM (w.heap.size + 5) w8 mno) := hide (by rw [← hw8]; exact O7.out.set 0 _)
  obtain ⟨c0, c1, c2, c3, c4, c5, c6, c7⟩ := ei_of R7.out.m
  have f0 := R7.out.fm 0
  have cf := R8.out.cf
  have C2 := hide (number_at w.heap.size w w8 _ bs a1 b1 1048576 u2 a2 b2 R8.out.r hl (by omega) X2.out)
  clear R7 O7
  go_wp2_with fail
  refine C2.out.mono ?_
  rintro E w9 ⟨rfl, H9⟩
  have R9 := hide (R8.out.step H9.out.1 H9.out.2)
  have O9 := hide (O8.out.wr H9.out.2)
  clear H9 C2 R8 O8 cf hw8 c0 c1 c2 c3 c4 c5 c6 c7 f0
  obtain ⟨wA, hwA⟩ : ∃ V, w9.setCell ⟨w.heap.size + 1, 1, none⟩ (.int .i64 u2) = V := ⟨_, rfl⟩
  have RA : Hid (RdS w.heap.size w wA (.slice ao ln cap) bs a2 b2 ⟨1, u2, 0, 0, .slice none 0 0, [], 0, 0, .slice none 0 0, []⟩) := hide (by rw [← hwA]; exact R9.out.put 1 _ _ rfl)
  have OA : Hid (OwnM (w.heap.size + 5) wA mno) := hide (by rw [← hwA]; exact O9.out.set 1 _)
  obtain ⟨c0, c1, c2, c3, c4, c5, c6, c7⟩ := ei_of R9.out.m
  obtain ⟨d0, d1, d2, d3, d4, d5, d6, d7⟩ := ei_of RA.out.m
  have f1 := R9.out.fm 1
  obtain ⟨u3, a3, b3, S3⟩ := sstep_is bs 3 a2 b2
  obtain ⟨u4, a4, b4, S4⟩ := sstep_is bs 1048576 a3 b3
  obtain ⟨u5, a5, b5, S5⟩ := sstep_is bs 1048576 a4 b4
  have hu3 := sstep_max S3
  have hu4 := sstep_max S4
  have hu5 := sstep_max S5
  have G5 : Hid (Mm.Go bs ([1, (u2 : Int), (u3 : Int), (u4 : Int), (u5 : Int)] ++ Mm.fl []) a5 b5) := hide (by
    have := Mm.go_step (Mm.go_step (Mm.go_step G2.out S3 (Mm.nx_12 _)) S4 (Mm.nx_13 _ _)) S5 (Mm.nx_14 _ _ _)
    simpa [Mm.fl] using this)
  have X4 := hide S4
  have X5 := hide S5
  have cf := RA.out.cf
  have C3 := hide (number_at w.heap.size w wA _ bs a2 b2 3 u3 a3 b3 RA.out.r hl (by omega) S3)
  have hwr : IntKind.u8.wrap (u3 : Int) = u3 := by
    unfold IntKind.wrap
    simp [IntKind.bits, IntKind.signed]
    omega
  clear R9 O9 S3 S4 S5
  go_wp2_with fail
  refine C3.out.mono ?_
  rintro E wB ⟨rfl, HB⟩
  have RB := hide (RA.out.step HB.out.1 HB.out.2)
  clear HB C3 RA OA cf hwA c0 c1 c2 c3 c4 c5 c6 c7 d0 d1 d2 d3 d4 d5 d6 d7 f1
  obtain ⟨wC, hwC⟩ : ∃ V, wB.setCell ⟨w.heap.size + 1, 2, none⟩ (.int .u8 u3) = V := ⟨_, rfl⟩
  have RC : Hid (RdS w.heap.size w wC (.slice ao ln cap) bs a3 b3 (hm1 u2 u3 0 (.slice none 0 0) [])) := hide (by rw [← hwC]; exact RB.out.put 2 _ _ rfl)
  obtain ⟨c0, c1, c2, c3, c4, c5, c6, c7⟩ := ei_of RB.out.m
  have f2 := RB.out.fm 2
  have cf := RC.out.cf
  have C4 := hide (number_at w.heap.size w wC _ bs a3 b3 1048576 u4 a4 b4 RC.out.r hl (by omega) X4.out)
  clear RB
  go_wp2_with fail
  refine C4.out.mono ?_
  rintro E wD ⟨rfl, HD⟩
  have RD := hide (RC.out.step HD.out.1 HD.out.2)
  clear HD C4 RC cf hwC c0 c1 c2 c3 c4 c5 c6 c7 f2
  obtain ⟨wE, hwE⟩ : ∃ V, wD.setCell ⟨w.heap.size + 1, 3, none⟩ (.int .i64 u4) = V := ⟨_, rfl⟩
  have RE : Hid (RdS w.heap.size w wE (.slice ao ln cap) bs a4 b4 (hm1 u2 u3 u4 (.slice none 0 0) [])) := hide (by rw [← hwE]; exact RD.out.put 3 _ _ rfl)
  obtain ⟨c0, c1, c2, c3, c4, c5, c6, c7⟩ := ei_of RD.out.m
  have f3 := RD.out.fm 3
  have cf := RE.out.cf
  have C5 := hide (number_at w.heap.size w wE _ bs a4 b4 1048576 u5 a5 b5 RE.out.r hl (by omega) X5.out)
  clear RD
  go_wp2_with fail
  refine C5.out.mono ?_
  rintro E wF ⟨rfl, HF⟩
  have RF := hide (RE.out.step HF.out.1 HF.out.2)
  clear HF C5 RE cf hwE c0 c1 c2 c3 c4 c5 c6 c7 f3
  go_wp2
  go_loopw [7] (fun lv wr => ∃ (left a : Nat) (bad : Bool) (vs : Value) (ss : List Sm.S), lv = .int .i64 left ∧ left ≤ 1048576 ∧ Hid (ss.length + left = u5) ∧ Hid (RdS w.heap.size w wr (.slice ao ln cap) bs a bad (hm1 u2 u3 u4 vs ss) ∧ OwnS (w.heap.size + 5) wr vs ss) ∧ Hid (Mm.Go bs ([1, (u2 : Int), (u3 : Int), (u4 : Int), (u5 : Int)] ++ Mm.fl ss) a bad)) (fun lv _ => (intOf lv).toNat)
  case atStart => exact ⟨u5, a5, b5, _, [], rfl, hu5, hide (by simp), hide ⟨RF.out, OwnG.nil _ _ _ _ _⟩, G5⟩
  case round =>
    clear RF G5
    obtain ⟨left, a, bad, vs, ss, rfl, hlf, HL, HR, HG⟩ := hrel
    have ce : wr.cell? ⟨w.heap.size + 3, 0, none⟩ = some (.int .i64 (bad5 bad)) := HR.out.1.ce
    obtain ⟨xa, xl, xc, hvs⟩ : ∃ x y z, vs = .slice x y z := by
      obtain ⟨x, z, hv, _, _⟩ := HR.out.2.row.shape
      exact ⟨x, _, z, hv⟩
    subst hvs
    by_cases hcont : 0 < left ∧ bad = false
    · obtain ⟨hlt, rfl⟩ := hcont
      have hlt' : (0 : Int) < left := by omega
      have hb0 : bad5 false = 0 := rfl
      rw [hb0] at ce
      obtain ⟨p, aa, ba, SA⟩ := sstep_is bs 1048576 a false
      obtain ⟨q, ab, bb, SB⟩ := sstep_is bs 1048576 aa ba
      have hp := sstep_max SA
      have hq := sstep_max SB
      have HG2 : Hid (Mm.Go bs ([1, (u2 : Int), (u3 : Int), (u4 : Int), (u5 : Int)] ++ Mm.fl (ss ++ [((p : Int), (q : Int))])) ab bb) := hide (by
        have h1 := Mm.go_step HG.out SA (Mm.nx_15 _ _ _ _ _ (by rw [Mm.fl_len]; have := HL.out; omega))
        rw [List.append_assoc] at h1
        have h2 := Mm.go_step h1 SB (Mm.nx_15 _ _ _ _ _ (by rw [List.length_append, Mm.fl_len]; have := HL.out; simp; omega))
        rw [Mm.fl_app]
        simpa [Mm.fl] using h2)
      have RD1 := hide (HR.out.1.drewN 1)
      have OD1 : Hid (OwnS (w.heap.size + 5) (wr.drewN 1) (.slice xa xl xc) ss) := hide (ownS_below HR.out.2 (below_drewN (Below.refl _ _) 1))
      have C1 := hide (number_fn w.heap.size w (wr.drewN 1) _ bs a false 1048576 p aa ba RD1.out.r hl (by omega) SA)
      have C2 := hide (fun (W : World) (k : Rst w.heap.size w W (.slice ao ln cap) bs aa ba) => number_fn w.heap.size w W _ bs aa ba 1048576 q ab bb k hl (by omega) SB)
      have cv : wr.cell? ⟨w.heap.size + 1, 4, none⟩ = some (.slice xa xl xc) := HR.out.1.m.ei.c4
      have cf := HR.out.1.cf
      have hll := HL.out
      clear SA SB HG
      go_wp2_with fail
      go_region_law (first
        | (refine fn_at rfl (.tmp 40) 70 #[.const (.int .i64 1048576)] #[3] #[.pointer (some ⟨w.heap.size + 3, 0, none⟩), .pointer (some ⟨w.heap.size, 0, none⟩), .pointer (some ⟨w.heap.size + 2, 0, none⟩)] rfl (by simp [Act.eval]) Try.enters70 #[.int .i64 1048576] (by simp [Act.eval]) C1.out ?_; rintro v1 z1 ⟨rfl, H1⟩; have R1 := hide (RD1.out.step H1.out.1 H1.out.2); have O1 : Hid (OwnS (w.heap.size + 5) z1 (.slice xa xl xc) ss) := hide ((own_hm (e := 0) (r := 0) (n := 0) OD1.out).wr H1.out.2).s; have cv1 : z1.cell? ⟨w.heap.size + 1, 4, none⟩ = some (.slice xa xl xc) := R1.out.m.ei.c4; have cf1 := R1.out.cf; clear H1)
        | (refine fn_at rfl (.tmp 42) 70 #[.const (.int .i64 1048576)] #[3] #[.pointer (some ⟨w.heap.size + 3, 0, none⟩), .pointer (some ⟨w.heap.size, 0, none⟩), .pointer (some ⟨w.heap.size + 2, 0, none⟩)] rfl (by simp [Act.eval]) Try.enters70 #[.int .i64 1048576] (by simp [Act.eval]) (C2.out _ R1.out.r) ?_; rintro v2 z2 ⟨rfl, H2⟩; have R2 := hide (R1.out.step H2.out.1 H2.out.2); have O2 : Hid (OwnS (w.heap.size + 5) z2 (.slice xa xl xc) ss) := hide ((own_hm (e := 0) (r := 0) (n := 0) O1.out).wr H2.out.2).s; have cv2 : z2.cell? ⟨w.heap.size + 1, 4, none⟩ = some (.slice xa xl xc) := R2.out.m.ei.c4; have cf2 := R2.out.cf; obtain ⟨z3, hz3, sz3', bel3, own3⟩ := sts_step z2 #[.int .i64 p, .int .i64 q] 1 [((p : Int), (q : Int))] rfl rfl (by simp [maxLen]); have R3 := hide (R2.out.below bel3); have O3 := hide (ownS_below O2.out bel3); have cv3 : z3.cell? ⟨w.heap.size + 1, 4, none⟩ = some (.slice xa xl xc) := R3.out.m.ei.c4; have RW3 := hide own3.row; have hl3 := R3.out.lt; clear H2 own3 bel3 sz3')
        | (refine step_append_rows stc 2 16 stc_len (by decide) (by decide) (.agg #[.int .i64 0, .int .i64 0]) rfl rfl (.tmp 39) (.tmp 45) 23 rfl 66 (w.heap.size + 5) Try.underlying23 Try.info66 _ ss (by simp [Act.eval]) O3.out _ [((p : Int), (q : Int))] (by simp [Act.eval]) RW3.out (stc_one _) (by simp; omega) (by omega) ?_; intro v4 z4 own4 gr4; obtain ⟨ya, yl, yc, hv4⟩ : ∃ x y z, v4 = .slice x y z := (by obtain ⟨x, z, hv, _, _⟩ := own4.row.shape; exact ⟨x, _, z, hv⟩); subst hv4; have R4 := hide (R3.out.grown gr4 (fun g e => (O3.out.lt g e).1)); have O4 := hide own4; have cv4 : z4.cell? ⟨w.heap.size + 1, 4, none⟩ = some (.slice xa xl xc) := R4.out.m.ei.c4; have fr4 := R4.out.fm 4; clear own4 gr4))
      all_goals
        obtain ⟨z5, hz5⟩ : ∃ V, z4.setCell ⟨w.heap.size + 1, 4, none⟩ (.slice ya yl yc) = V := ⟨_, rfl⟩
        have R5 : Hid (RdS w.heap.size w z5 (.slice ao ln cap) bs ab bb (hm1 u2 u3 u4 (.slice ya yl yc) (ss ++ [((p : Int), (q : Int))]))) := hide (by rw [← hz5]; exact R4.out.put 4 _ _ rfl)
        have O5 : Hid (OwnS (w.heap.size + 5) z5 (.slice ya yl yc) (ss ++ [((p : Int), (q : Int))])) := hide (by rw [← hz5]; exact ((own_hm (e := 0) (r := 0) (n := 0) O4.out).set 4 _).s)
        clear R4 O4 R3 O3 R2 O2 R1 O1 C1 C2 RD1 OD1
        go_wp2
        go_roundw
        case rel => exact ⟨left - 1, ab, bb, _, _, by rw [show ((left - 1 : Nat) : Int) = (left : Int) - 1 by omega], by omega, hide (by rw [List.length_append]; simp; omega), hide ⟨R5.out, O5.out⟩, HG2⟩
        case measure => simp [intOf]; omega
    · have hend : Hid (bad = false → left = 0) := hide fun h => by
        rcases Nat.eq_zero_or_pos left with e | e
        · exact e
        · exact absurd ⟨e, h⟩ hcont
      have hsl : ss.length ≤ 1048576 := by have := HL.out; omega
      have RX := hide HR.out.1
      have OX : Hid (OwnM (w.heap.size + 5) wr (hm1 u2 u3 u4 (.slice xa xl xc) ss)) := hide (own_hm HR.out.2)
      by_cases hz : left = 0
      · have hz' : ¬ (0 : Int) < left := by omega
        clear hcont
        obtain ⟨wZ, hwZ⟩ : ∃ V, wr.drew = V := ⟨_, rfl⟩
        have RZ : Hid (RdS w.heap.size w wZ (.slice ao ln cap) bs a bad ⟨1, u2, u3, u4, .slice xa xl xc, ss, 0, 0, .slice none 0 0, []⟩) := hide (by rw [← hwZ]; exact RX.out.drewN 1)
        have HZ : Hid (OwnM w.heap.size wZ ⟨1, u2, u3, u4, .slice xa xl xc, ss, 0, 0, .slice none 0 0, []⟩ ∧ FitM ⟨1, u2, u3, u4, .slice xa xl xc, ss, 0, 0, .slice none 0 0, []⟩ ∧ Rdd bs (Mw.m ⟨1, u2, u3, u4, .slice xa xl xc, ss, 0, 0, .slice none 0 0, []⟩) a bad ∧ Below w.heap.size w wZ) := by
          refine ⟨?_, fit_nums (k := 1) (f := 0) (p := 0) (by omega) hu2 hu3 hu4 (by omega) (by omega) (by show ss.length ≤ _; omega) (fun c hc => by simp at hc) (by simp), .inl ⟨?_, ?_⟩, RZ.out.r.bel⟩
          · have := (OX.out.below (below_drewN (Below.refl _ _) 1)).rebase (base' := w.heap.size) (by omega)
            rw [← hwZ]
            exact ⟨this.s, this.c, this.o, this.i, this.ap⟩
          · have h1 := HG.out
            rw [Mm.hd_1 rfl]
            rcases h1 with ⟨h2, h3⟩ | h2
            · have hz := hend.out h2
              have hlz := HL.out
              rw [hz] at hlz
              have : ((ss.length : Int)) = (u5 : Int) := by omega
              show Mm.GoC bs ([1, (u2 : Int), (u3 : Int), (u4 : Int), (ss.length : Int)] ++ Mm.fl ss) [] a bad
              rw [this]
              exact HG.out.c
            · exact .inr h2
          · intro hb
            refine ⟨?_, .inl ⟨rfl, rfl, rfl, rfl⟩⟩
            rw [Mm.hd_1 rfl]
            have hz := hend.out hb
            have hlz := HL.out
            rw [hz] at hlz
            have : ((ss.length : Int)) = (u5 : Int) := by omega
            show ∀ z ∈ ([1, (u2 : Int), (u3 : Int), (u4 : Int), (ss.length : Int)] ++ Mm.fl ss), 0 ≤ z
            rw [this]
            rcases HG.out with ⟨_, h, _⟩ | ⟨h, _⟩
            · exact h
            · rw [hb] at h; simp at h
        obtain ⟨e0, e1, e2, e3, e4, e5, e6, e7⟩ := ei_of RZ.out.m
        have ea := RZ.out.ca
        have ee := RZ.out.ce
        obtain ⟨s0, s1, s2, s3, s4, s5, s6, s7, sa, se⟩ := RZ.out.sam
        have z0 := RZ.out.fm 0
        have z1 := RZ.out.fm 1
        have z2 := RZ.out.fm 2
        have z3 := RZ.out.fm 3
        have z4 := RZ.out.fm 4
        have z5 := RZ.out.fm 5
        have z6 := RZ.out.fm 6
        have z7 := RZ.out.fm 7
        have za := blk_froz RZ.out.r.at' 0
        have ze := blk_froz RZ.out.r.er 0
        go_wp2
        go_region
        go_wp2
        refine bodyPost_ret (v := .tuple #[.agg #[.int .i64 1, .int .i64 u2, .int .u8 u3, .int .i64 u4, .slice xa xl xc, .int .i64 0, .int .i64 0, .slice none 0 0], .int .i64 a, .int .i64 (bad5 bad)]) (by simp [results, Try.results47, go_sem, e0, e1, e2, e3, e4, e5, e6, e7, ea, ee]) rfl ?_
        exact ⟨⟨1, u2, u3, u4, .slice xa xl xc, ss, 0, 0, .slice none 0 0, []⟩, a, bad, rfl, HZ⟩
      · have hz' : (0 : Int) < left := by omega
        have hbt : bad = true := by
          cases bad
          · exact absurd ⟨by omega, rfl⟩ hcont
          · rfl
        subst hbt
        have hb5 : bad5 true = 5 := rfl
        rw [hb5] at ce
        clear hcont
        obtain ⟨wZ, hwZ⟩ : ∃ V, wr.drew = V := ⟨_, rfl⟩
        have RZ : Hid (RdS w.heap.size w wZ (.slice ao ln cap) bs a true ⟨1, u2, u3, u4, .slice xa xl xc, ss, 0, 0, .slice none 0 0, []⟩) := hide (by rw [← hwZ]; exact RX.out.drewN 1)
        have HZ : Hid (OwnM w.heap.size wZ ⟨1, u2, u3, u4, .slice xa xl xc, ss, 0, 0, .slice none 0 0, []⟩ ∧ FitM ⟨1, u2, u3, u4, .slice xa xl xc, ss, 0, 0, .slice none 0 0, []⟩ ∧ Rdd bs (Mw.m ⟨1, u2, u3, u4, .slice xa xl xc, ss, 0, 0, .slice none 0 0, []⟩) a true ∧ Below w.heap.size w wZ) := by
          refine ⟨?_, fit_nums (k := 1) (f := 0) (p := 0) (by omega) hu2 hu3 hu4 (by omega) (by omega) (by show ss.length ≤ _; omega) (fun c hc => by simp at hc) (by simp), .inl ⟨?_, ?_⟩, RZ.out.r.bel⟩
          · have := (OX.out.below (below_drewN (Below.refl _ _) 1)).rebase (base' := w.heap.size) (by omega)
            rw [← hwZ]
            exact ⟨this.s, this.c, this.o, this.i, this.ap⟩
          · have h1 := HG.out
            rw [Mm.hd_1 rfl]
            rcases h1 with ⟨h2, h3⟩ | h2
            · have hz := hend.out h2
              have hlz := HL.out
              rw [hz] at hlz
              have : ((ss.length : Int)) = (u5 : Int) := by omega
              show Mm.GoC bs ([1, (u2 : Int), (u3 : Int), (u4 : Int), (ss.length : Int)] ++ Mm.fl ss) [] a true
              rw [this]
              exact HG.out.c
            · exact .inr h2
          · intro hb
            simp at hb
        obtain ⟨e0, e1, e2, e3, e4, e5, e6, e7⟩ := ei_of RZ.out.m
        have ea := RZ.out.ca
        have ee := RZ.out.ce
        rw [hb5] at ee
        obtain ⟨s0, s1, s2, s3, s4, s5, s6, s7, sa, se⟩ := RZ.out.sam
        rw [hb5] at se
        have z0 := RZ.out.fm 0
        have z1 := RZ.out.fm 1
        have z2 := RZ.out.fm 2
        have z3 := RZ.out.fm 3
        have z4 := RZ.out.fm 4
        have z5 := RZ.out.fm 5
        have z6 := RZ.out.fm 6
        have z7 := RZ.out.fm 7
        have za := blk_froz RZ.out.r.at' 0
        have ze := blk_froz RZ.out.r.er 0
        go_wp2
        go_region
        go_wp2
        refine bodyPost_ret (v := .tuple #[.agg #[.int .i64 1, .int .i64 u2, .int .u8 u3, .int .i64 u4, .slice xa xl xc, .int .i64 0, .int .i64 0, .slice none 0 0], .int .i64 a, .int .i64 5]) (by simp [results, Try.results47, go_sem, e0, e1, e2, e3, e4, e5, e6, e7, ea, ee]) rfl ?_
        exact ⟨⟨1, u2, u3, u4, .slice xa xl xc, ss, 0, 0, .slice none 0 0, []⟩, a, true, rfl, HZ⟩

end Go.Proofs.Ytabfihicdphjeaa
