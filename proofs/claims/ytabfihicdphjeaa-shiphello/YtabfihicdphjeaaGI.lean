/- Texts of one layer, one behind the other. -/
import Derived.Test.YtabfihicdphjeaaGH
/- The contract of read (the program's): a ship; read as a whole. -/
namespace Go.Proofs.Ytabfihicdphjeaa
open Go.RowKit
set_option linter.unusedVariables false

theorem RdS.base {B : Nat} {w0 w w' : World} {vb : Value} {bs : List Int} {a : Nat} {bad : Bool} {m : Mw} (h : RdS B w0 w vb bs a bad m) (hb : Below (B + 5) w w') : RdS B w0 w' vb bs a bad m :=
  ⟨⟨h.r.is0, h.r.hB, h.r.bel.trans (hb.mono (by omega)), (hb.block _ (by omega)).trans h.r.bx, (hb.block _ (by omega)).trans h.r.at', (hb.block _ (by omega)).trans h.r.er, h.r.le⟩, (hb.block _ (by omega)).trans h.f, (hb.block _ (by omega)).trans h.m⟩

/-- What the second closure answers and leaves. -/
def OneR (B : Nat) (w0 : World) (vb : Value) (bs : List Int) (a : Nat) (bad : Bool) (w : World) (v : Value) (w' : World) : Prop :=
  ∃ (e n : Int) (xa : Option Addr) (xl xc : Nat) (l : List Bm.Ov) (a' : Nat) (bad' : Bool), v = .agg #[.int .i64 e, .int .i64 n, .slice xa xl xc] ∧ Hid (OwnO 62 w.heap.size w' (.slice xa xl xc) l ∧ Mm.CStep bs a bad ⟨e, n, l⟩ a' bad' ∧ CFit e n l ∧ Rst B w0 w' vb bs a' bad' ∧ Out (Wr B) w w')

theorem one_fn (B : Nat) (w0 w : World) (vb : Value) (bs : List Int) (a : Nat) (bad : Bool) (h : Rst B w0 w vb bs a bad) (hn : Fnb B w) (hl : bs.length ≤ 100000000000000) :
    Calls Try.prog 72 (#[] ++ #[.pointer (some ⟨B + 4, 0, none⟩), .pointer (some ⟨B, 0, none⟩), .pointer (some ⟨B + 2, 0, none⟩), .pointer (some ⟨B + 3, 0, none⟩)]) w fun E w' => ∃ v, E = .returned v ∧ OneR B w0 vb bs a bad w v w' := by
  refine (one_any B w0 w vb bs a bad h hn hl).mono ?_
  rintro E w' ⟨e, n, v, l, a', bad', rfl, H⟩
  obtain ⟨xa, xc, hv, _, _⟩ := H.out.1.is.shape
  subst hv
  exact ⟨_, rfl, e, n, xa, _, xc, l, a', bad', rfl, H⟩

theorem Try.enters72 : ∀ args w, (callFunc 72 args).run Try.prog w = .ok (.enter 72 args) w := enters_of Try.func72 (by kernel_rfl) rfl

/-- Commits so far. -/
structure ShS (b : Nat) (w : World) (vc : Value) (cs : List Cw) : Prop where
  c : OwnR 46 b w vc cs
  o : CopyR b w cs
  i : ∀ c ∈ cs, In64 c.e ∧ In64 c.n
  ap : ApC cs
  f : FitC cs

theorem ShS.nil (b : Nat) (w : World) : ShS b w (.slice none 0 0) [] := ⟨OwnR.nil _ _ _, fun c hc => by simp at hc, fun c hc => by simp at hc, fun i j c d _ hc => by simp at hc, fun c hc => by simp at hc⟩

theorem ShS.below {b : Nat} {w w' : World} {vc : Value} {cs : List Cw} (h : ShS b w vc cs) (hb : Below w.heap.size w w') : ShS b w' vc cs := ⟨h.c.below hb, h.o.below hb, h.i, h.ap, h.f⟩

theorem ShS.out {b : Nat} {w w' : World} {vc : Value} {cs : List Cw} {F : Nat → Prop} (h : ShS b w vc cs) (ho : Out F w w') (hF : ∀ i, F i → i < b) : ShS b w' vc cs := by
  have k : ∀ (v : Value), (∀ g, v.ownBlock = some g → b ≤ g ∧ g < w.heap.size) → ∀ g, v.ownBlock = some g → w'.heap[g]? = w.heap[g]? := fun v hv g hg => ho.block g (hv g hg).2 fun hf => by have := hF g hf; have := (hv g hg).1; omega
  exact ⟨row_agree h.c (k _ (World.ownsRow.lt h.c)), fun c hc => row_agree (h.o c hc) (k _ (World.ownsRow.lt (h.o c hc))), h.i, h.ap, h.f⟩

/-- One more. -/
theorem ShS.snoc {b : Nat} {w z4 : World} {vc v4 : Value} {cs : List Cw} {e n : Int} {vl : Value} {l : List Bm.Ov} {N : Nat} (h : ShS b w vc cs) (kp : KeepT 46 w z4) (hc : OwnR 46 b z4 v4 (cs ++ [⟨e, n, vl, l⟩])) (ho : OwnO 62 N w vl l) (hN : b ≤ N) (hlt : ∀ d ∈ cs, ∀ g, d.v.ownBlock = some g → g < N) (hf : CFit e n l) : ShS b z4 v4 (cs ++ [⟨e, n, vl, l⟩]) := by
  refine ⟨hc, (h.o.keepT kp).snoc ((ho.rebase hN).keepT kp (by decide)), fun c hcc => ?_, apc_snoc h.ap hlt (fun g hg => (World.ownsRow.lt ho g hg).1), fun c hcc => ?_⟩
  · rcases List.mem_append.1 hcc with hcc | hcc
    · exact h.i c hcc
    · rw [List.mem_singleton.1 hcc]; exact ⟨hf.1, hf.2.1⟩
  · rcases List.mem_append.1 hcc with hcc | hcc
    · exact h.f c hcc
    · rw [List.mem_singleton.1 hcc]; exact ⟨hf.2.2.1, by have := hf.2.2.2; show l.length * 40 ≤ _; omega⟩

/-- A ship so far. -/
def sm2 (e f p : Int) (vc : Value) (cs : List Cw) : Mw := ⟨2, e, 0, 0, .slice none 0 0, [], f, p, vc, cs⟩

theorem own_sm {b : Nat} {w : World} {e f p : Int} {vc : Value} {cs : List Cw} (h : ShS b w vc cs) : OwnM b w (sm2 e f p vc cs) := ⟨OwnG.nil _ _ _ _ _, h.c, h.o, h.i, h.ap⟩

set_option maxRecDepth 100000 in
set_option maxHeartbeats 2000000 in
theorem read_2 (vb : Value) (bs : List Int) (w : World) (hb : Is .u8 w vb bs) (hl : bs.length ≤ 100000000000000) (a1 : Nat) (b1 : Bool) (S1 : SStep bs 3 0 false 2 a1 b1) :
    Calls Try.prog 47 #[vb] w (ReadR w bs) := by
  obtain ⟨ao, ln, cap, hv⟩ := hb.form
  subst hv
  obtain ⟨w1, w2, w3, w4, w5, w6, hw1, hw2, hw3, hw4, sz1, sz2, sz3, sz4, hw5, cn5, fn5, hw6, r6⟩ := read_start w _ bs hb
  have hmf : ∀ (fn : Fn) (first cap : Array Value) (w : World), (Instr.makeFunc fn first cap).run Try.prog w = .ok (.func fn first cap) w := fun _ _ _ _ => rfl
  have hst := run_store Try.prog w5 ⟨w.heap.size + 4, 0, none⟩ (.func (.func 70) #[] #[.pointer (some ⟨w.heap.size + 3, 0, none⟩), .pointer (some ⟨w.heap.size, 0, none⟩), .pointer (some ⟨w.heap.size + 2, 0, none⟩)]) .plain rfl
  simp only [cn5, fn5, hw6] at hst
  simp only [Bool.false_eq_true, if_false] at hst
  obtain ⟨u2, a2, b2, S2⟩ := sstep_is bs 1048576 a1 b1
  have hu2 := sstep_max S2
  have R6 := hide r6
  have cf := r6.cf
  have X1 := hide S1
  have X2 := hide S2
  have G2 : Hid (Mm.Go bs [2, (u2 : Int)] a2 b2) := hide (Mm.go_step (Mm.go_step (Mm.go_start bs) S1 Mm.nx_0) S2 (Mm.nx_1 _))
  have O6 : Hid (OwnM (w.heap.size + 5) w6 mno) := hide (OwnM.no _ _)
  have C1 := hide (number_at w.heap.size w w6 _ bs 0 false 3 2 a1 b1 r6.r hl (by omega) S1)
  clear S1 S2 r6 hb
  go_enter Try.func47, Try.ntmps47
  go_wp2_with fail
  refine C1.out.mono ?_
  rintro E w7 ⟨rfl, H7⟩
  have R7 := hide (R6.out.step H7.out.1 H7.out.2)
  have O7 := hide (O6.out.wr H7.out.2)
  clear H7 C1 hw1 hw2 hw3 hw4 hw5 hw6 R6 O6 cf cn5 fn5 hst
  obtain ⟨w8, hw8⟩ : ∃ V, w7.setCell ⟨w.heap.size + 1, 0, none⟩ (.int .i64 2) = V := ⟨_, rfl⟩
  have R8 : Hid (RdS w.heap.size w w8 (.slice ao ln cap) bs a1 b1 ⟨2, 0, 0, 0, .slice none 0 0, [], 0, 0, .slice none 0 0, []⟩) := hide (by rw [← hw8]; exact R7.out.put 0 _ _ rfl)
  have O8 : Hid (OwnM (w.heap.size + 5) w8 mno) := hide (by rw [← hw8]; exact O7.out.set 0 _)
  obtain ⟨c0, c1, c2, c3, c4, c5, c6, c7⟩ := ei_of R7.out.m
  have f0 := R7.out.fm 0
  have cf := R8.out.cf
  have C2 := hide (number_at w.heap.size w w8 _ bs a1 b1 1048576 u2 a2 b2 R8.out.r hl (by omega) X2.out)
  clear R7 O7
  go_wp2_with fail
  refine C2.out.mono ?_
  rintro E w9 ⟨rfl, H9⟩
  have R9 := hide (R8.out.step H9.out.1 H9.out.2)
  have O9 := hide (O8.out.wr H9.out.2)
  clear H9 C2 R8 O8 cf hw8 c0 c1 c2 c3 c4 c5 c6 c7 f0
  obtain ⟨wA, hwA⟩ : ∃ V, w9.setCell ⟨w.heap.size + 1, 1, none⟩ (.int .i64 u2) = V := ⟨_, rfl⟩
  have RA : Hid (RdS w.heap.size w wA (.slice ao ln cap) bs a2 b2 ⟨2, u2, 0, 0, .slice none 0 0, [], 0, 0, .slice none 0 0, []⟩) := hide (by rw [← hwA]; exact R9.out.put 1 _ _ rfl)
  have OA : Hid (OwnM (w.heap.size + 5) wA mno) := hide (by rw [← hwA]; exact O9.out.set 1 _)
  obtain ⟨c0, c1, c2, c3, c4, c5, c6, c7⟩ := ei_of R9.out.m
  obtain ⟨d0, d1, d2, d3, d4, d5, d6, d7⟩ := ei_of RA.out.m
  have f1 := R9.out.fm 1
  obtain ⟨u3, a3, b3, S3⟩ := sstep_is bs 1048576 a2 b2
  obtain ⟨u4, a4, b4, S4⟩ := sstep_is bs 1048576 a3 b3
  obtain ⟨u5, a5, b5, S5⟩ := sstep_is bs 4 a4 b4
  have hu3 := sstep_max S3
  have hu4 := sstep_max S4
  have hu5 := sstep_max S5
  have G5 : Hid (Mm.GoC bs [2, (u2 : Int), (u3 : Int), (u4 : Int), (u5 : Int)] (cvs []) a5 b5) := hide (Mm.go_step (Mm.go_step (Mm.go_step G2.out S3 (Mm.nx_22 _)) S4 (Mm.nx_23 _ _)) S5 (Mm.nx_24 _ _ _)).c
  have X4 := hide S4
  have X5 := hide S5
  have cf := RA.out.cf
  have C3 := hide (number_at w.heap.size w wA _ bs a2 b2 1048576 u3 a3 b3 RA.out.r hl (by omega) S3)
  clear R9 O9 S3 S4 S5
  go_wp2_with fail
  refine C3.out.mono ?_
  rintro E wB ⟨rfl, HB⟩
  have RB := hide (RA.out.step HB.out.1 HB.out.2)
  clear HB C3 RA OA cf hwA c0 c1 c2 c3 c4 c5 c6 c7 d0 d1 d2 d3 d4 d5 d6 d7 f1
  obtain ⟨wC, hwC⟩ : ∃ V, wB.setCell ⟨w.heap.size + 1, 5, none⟩ (.int .i64 u3) = V := ⟨_, rfl⟩
  have RC : Hid (RdS w.heap.size w wC (.slice ao ln cap) bs a3 b3 (sm2 u2 u3 0 (.slice none 0 0) [])) := hide (by rw [← hwC]; exact RB.out.put 5 _ _ rfl)
  obtain ⟨c0, c1, c2, c3, c4, c5, c6, c7⟩ := ei_of RB.out.m
  have f2 := RB.out.fm 5
  have cf := RC.out.cf
  have C4 := hide (number_at w.heap.size w wC _ bs a3 b3 1048576 u4 a4 b4 RC.out.r hl (by omega) X4.out)
  clear RB
  go_wp2_with fail
  refine C4.out.mono ?_
  rintro E wD ⟨rfl, HD⟩
  have RD := hide (RC.out.step HD.out.1 HD.out.2)
  clear HD C4 RC cf hwC c0 c1 c2 c3 c4 c5 c6 c7 f2
  obtain ⟨wE, hwE⟩ : ∃ V, wD.setCell ⟨w.heap.size + 1, 6, none⟩ (.int .i64 u4) = V := ⟨_, rfl⟩
  have RE : Hid (RdS w.heap.size w wE (.slice ao ln cap) bs a4 b4 (sm2 u2 u3 u4 (.slice none 0 0) [])) := hide (by rw [← hwE]; exact RD.out.put 6 _ _ rfl)
  obtain ⟨c0, c1, c2, c3, c4, c5, c6, c7⟩ := ei_of RD.out.m
  have f3 := RD.out.fm 6
  have cf := RE.out.cf
  have C5 := hide (number_at w.heap.size w wE _ bs a4 b4 4 u5 a5 b5 RE.out.r hl (by omega) X5.out)
  clear RD
  go_wp2_with fail
  refine C5.out.mono ?_
  rintro E wF ⟨rfl, HF⟩
  have RF := hide (RE.out.step HF.out.1 HF.out.2)
  clear HF C5 RE cf hwE c0 c1 c2 c3 c4 c5 c6 c7 f3
  go_wp2
  go_loopw [8] (fun lv wr => ∃ (left a : Nat) (bad : Bool) (vc : Value) (cs : List Cw), lv = .int .i64 left ∧ left ≤ 4 ∧ Hid (cs.length + left = u5) ∧ Hid (RdS w.heap.size w wr (.slice ao ln cap) bs a bad (sm2 u2 u3 u4 vc cs) ∧ ShS (w.heap.size + 5) wr vc cs) ∧ Hid (Mm.GoC bs [2, (u2 : Int), (u3 : Int), (u4 : Int), (u5 : Int)] (cvs cs) a bad)) (fun lv _ => (intOf lv).toNat)
  case atStart => exact ⟨u5, a5, b5, _, [], rfl, hu5, hide (by simp), hide ⟨RF.out, ShS.nil _ _⟩, G5⟩
  case round =>
    clear RF G5
    obtain ⟨left, a, bad, vc, cs, rfl, hlf, HL, HR, HG⟩ := hrel
    have ce : wr.cell? ⟨w.heap.size + 3, 0, none⟩ = some (.int .i64 (bad5 bad)) := HR.out.1.ce
    obtain ⟨xa, xl, xc, hvs⟩ : ∃ x y z, vc = .slice x y z := by
      obtain ⟨x, z, hv, _, _⟩ := HR.out.2.c.row.shape
      exact ⟨x, _, z, hv⟩
    subst hvs
    by_cases hcont : 0 < left ∧ bad = false
    · obtain ⟨hlt, rfl⟩ := hcont
      have hlt' : (0 : Int) < left := by omega
      have hb0 : bad5 false = 0 := rfl
      rw [hb0] at ce
      have RD1 := hide (HR.out.1.drewN 1)
      have OD1 : Hid (ShS (w.heap.size + 5) (wr.drewN 1) (.slice xa xl xc) cs) := hide (HR.out.2.below (below_drewN (Below.refl _ _) 1))
      have C1 := hide (one_fn w.heap.size w (wr.drewN 1) _ bs a false RD1.out.r RD1.out.f hl)
      have cv : wr.cell? ⟨w.heap.size + 1, 7, none⟩ = some (.slice xa xl xc) := HR.out.1.m.ei.c7
      have hll := HL.out
      have hl5 := HR.out.1.lt
      have HLT : Hid (∀ d ∈ cs, ∀ g, d.v.ownBlock = some g → g < (wr.drewN 1).heap.size) := hide fun d hd g hg => (World.ownsRow.lt (OD1.out.o d hd) g hg).2
      have HL5 : Hid (w.heap.size + 5 ≤ (wr.drewN 1).heap.size) := hide (by have := RD1.out.lt; omega)
      go_wp2_with fail
      go_region_law (first
        | (refine fn_at rfl (.tmp 68) 72 #[] #[] #[.pointer (some ⟨w.heap.size + 4, 0, none⟩), .pointer (some ⟨w.heap.size, 0, none⟩), .pointer (some ⟨w.heap.size + 2, 0, none⟩), .pointer (some ⟨w.heap.size + 3, 0, none⟩)] rfl (by simp [Act.eval, Act.put]) Try.enters72 #[] (by simp) C1.out ?_; rintro v1 z1 ⟨e, n, ya, yl, yc, l, a', bad', rfl, H1⟩; have R1 := hide (RD1.out.step H1.out.2.2.2.1 H1.out.2.2.2.2); have O1 := hide (OD1.out.out H1.out.2.2.2.2 (fun i hi => by unfold Wr at hi; omega)); have cv1 : z1.cell? ⟨w.heap.size + 1, 7, none⟩ = some (.slice xa xl xc) := R1.out.m.ei.c7; obtain ⟨z3, hz3, sz3', bel3, own3⟩ := coms_step 46 z1 #[.int .i64 e, .int .i64 n, .slice ya yl yc] 1 [⟨e, n, .slice ya yl yc, l⟩] rfl rfl (by simp [maxLen]); have R3 := hide (R1.out.below bel3); have O3 := hide (O1.out.below bel3); have W3 : Hid (OwnO 62 (wr.drewN 1).heap.size z3 (.slice ya yl yc) l) := hide (H1.out.1.below bel3); have cv3 : z3.cell? ⟨w.heap.size + 1, 7, none⟩ = some (.slice xa xl xc) := R3.out.m.ei.c7; have RW3 := hide own3.row; have hl3 := R3.out.lt; clear own3 bel3 sz3')
        | (refine step_append_coms rfl (.tmp 67) (.tmp 70) 24 rfl 46 (w.heap.size + 5) Try.underlying24 Try.info46 _ cs (by simp [Act.eval]) O3.out.c _ [⟨e, n, .slice ya yl yc, l⟩] (by simp [Act.eval]) RW3.out (by intro c hc; rw [List.mem_singleton.1 hc]; rfl) (by simp; omega) (by omega) ?_; intro v4 z4 own4 bel4 kp4; obtain ⟨qa, ql, qc, hv4⟩ : ∃ x y z, v4 = .slice x y z := (by obtain ⟨x, z, hv, _, _⟩ := own4.row.shape; exact ⟨x, _, z, hv⟩); subst hv4; have R4 := hide (R3.out.base bel4); have O4 := hide (O3.out.snoc kp4 own4 W3.out HL5.out HLT.out H1.out.2.2.1); have cv4 : z4.cell? ⟨w.heap.size + 1, 7, none⟩ = some (.slice xa xl xc) := R4.out.m.ei.c7; have fr4 := R4.out.fm 7; clear own4 bel4 kp4))
      all_goals
        obtain ⟨z5, hz5⟩ : ∃ V, z4.setCell ⟨w.heap.size + 1, 7, none⟩ (.slice qa ql qc) = V := ⟨_, rfl⟩
        have R5 : Hid (RdS w.heap.size w z5 (.slice ao ln cap) bs a' bad' (sm2 u2 u3 u4 (.slice qa ql qc) (cs ++ [⟨e, n, .slice ya yl yc, l⟩]))) := hide (by rw [← hz5]; exact R4.out.put 7 _ _ rfl)
        have O5 : Hid (ShS (w.heap.size + 5) z5 (.slice qa ql qc) (cs ++ [⟨e, n, .slice ya yl yc, l⟩])) := hide (by rw [← hz5]; exact O4.out.out (F := fun i => i = w.heap.size + 1) (Out.of_grown (grown_setCell z4 ⟨w.heap.size + 1, 7, none⟩ (.slice qa ql qc)) (fun i hi => by simpa using hi.symm)) (fun i hi => by omega))
        have HG2 : Hid (Mm.GoC bs [2, (u2 : Int), (u3 : Int), (u4 : Int), (u5 : Int)] (cvs (cs ++ [⟨e, n, .slice ya yl yc, l⟩])) a' bad') := hide (by
          have := Mm.goc_step HG.out H1.out.2.1 (by rw [cvs_length]; omega)
          simpa [cvs, Cw.c] using this)
        clear R4 O4 R3 O3 R1 O1 C1 RD1 OD1 H1 W3 HLT HL5
        go_wp2
        go_roundw
        case rel => exact ⟨left - 1, a', bad', _, _, by rw [show ((left - 1 : Nat) : Int) = (left : Int) - 1 by omega], by omega, hide (by rw [List.length_append]; simp; omega), hide ⟨R5.out, O5.out⟩, HG2⟩
        case measure => simp [intOf]; omega
    · have hend : Hid (bad = false → left = 0) := hide fun h => by
        rcases Nat.eq_zero_or_pos left with e | e
        · exact e
        · exact absurd ⟨e, h⟩ hcont
      have hsl : cs.length ≤ 4 := by have := HL.out; omega
      have RX := hide HR.out.1
      have OX : Hid (OwnM (w.heap.size + 5) wr (sm2 u2 u3 u4 (.slice xa xl xc) cs)) := hide (own_sm HR.out.2)
      by_cases hz : left = 0
      · have hz' : ¬ (0 : Int) < left := by omega
        clear hcont
        obtain ⟨wZ, hwZ⟩ : ∃ V, wr.drew = V := ⟨_, rfl⟩
        have RZ : Hid (RdS w.heap.size w wZ (.slice ao ln cap) bs a bad ⟨2, u2, 0, 0, .slice none 0 0, [], u3, u4, .slice xa xl xc, cs⟩) := hide (by rw [← hwZ]; exact RX.out.drewN 1)
        have HZ : Hid (OwnM w.heap.size wZ ⟨2, u2, 0, 0, .slice none 0 0, [], u3, u4, .slice xa xl xc, cs⟩ ∧ FitM ⟨2, u2, 0, 0, .slice none 0 0, [], u3, u4, .slice xa xl xc, cs⟩ ∧ Rdd bs (Mw.m ⟨2, u2, 0, 0, .slice none 0 0, [], u3, u4, .slice xa xl xc, cs⟩) a bad ∧ Below w.heap.size w wZ) := by
          refine ⟨?_, fit_nums (k := 2) (r := 0) (n := 0) (by omega) hu2 (by omega) (by omega) hu3 hu4 (by simp) HR.out.2.f (by show cs.length ≤ _; omega), .inl ⟨?_, ?_⟩, RZ.out.r.bel⟩
          · have := (OX.out.below (below_drewN (Below.refl _ _) 1)).rebase (base' := w.heap.size) (by omega)
            rw [← hwZ]
            exact ⟨this.s, this.c, this.o, this.i, this.ap⟩
          · have h1 := HG.out
            rw [Mm.hd_2 rfl]
            show Mm.GoC bs [2, (u2 : Int), (u3 : Int), (u4 : Int), ((cvs cs).length : Int)] (cvs cs) a bad
            rcases h1 with ⟨h2, h3⟩ | h2
            · have hz := hend.out h2
              have hlz := HL.out
              rw [hz] at hlz
              rw [show (((cvs cs).length : Int)) = (u5 : Int) by rw [cvs_length]; omega]
              exact HG.out
            · exact .inr h2
          · intro hb
            rcases HG.out with ⟨_, h, h', _⟩ | ⟨h, _⟩
            · refine ⟨?_, .inr (.inl ⟨rfl, rfl, rfl, rfl, h'⟩)⟩
              rw [Mm.hd_2 rfl]
              have hz := hend.out hb
              have hlz := HL.out
              rw [hz] at hlz
              show ∀ z ∈ [2, (u2 : Int), (u3 : Int), (u4 : Int), ((cvs cs).length : Int)], 0 ≤ z
              rw [show (((cvs cs).length : Int)) = (u5 : Int) by rw [cvs_length]; omega]
              exact h
            · rw [hb] at h; simp at h
        obtain ⟨e0, e1, e2, e3, e4, e5, e6, e7⟩ := ei_of RZ.out.m
        have ea := RZ.out.ca
        have ee := RZ.out.ce
        obtain ⟨s0, s1, s2, s3, s4, s5, s6, s7, sa, se⟩ := RZ.out.sam
        have z0 := RZ.out.fm 0
        have z1 := RZ.out.fm 1
        have z2 := RZ.out.fm 2
        have z3 := RZ.out.fm 3
        have z4 := RZ.out.fm 4
        have z5 := RZ.out.fm 5
        have z6 := RZ.out.fm 6
        have z7 := RZ.out.fm 7
        have za := blk_froz RZ.out.r.at' 0
        have ze := blk_froz RZ.out.r.er 0
        go_wp2
        go_region
        go_wp2
        refine bodyPost_ret (v := .tuple #[.agg #[.int .i64 2, .int .i64 u2, .int .u8 0, .int .i64 0, .slice none 0 0, .int .i64 u3, .int .i64 u4, .slice xa xl xc], .int .i64 a, .int .i64 (bad5 bad)]) (by simp [results, Try.results47, go_sem, e0, e1, e2, e3, e4, e5, e6, e7, ea, ee]) rfl ?_
        exact ⟨⟨2, u2, 0, 0, .slice none 0 0, [], u3, u4, .slice xa xl xc, cs⟩, a, bad, rfl, HZ⟩
      · have hz' : (0 : Int) < left := by omega
        have hbt : bad = true := by
          cases bad
          · exact absurd ⟨by omega, rfl⟩ hcont
          · rfl
        subst hbt
        have hb5 : bad5 true = 5 := rfl
        rw [hb5] at ce
        clear hcont
        obtain ⟨wZ, hwZ⟩ : ∃ V, wr.drew = V := ⟨_, rfl⟩
        have RZ : Hid (RdS w.heap.size w wZ (.slice ao ln cap) bs a true ⟨2, u2, 0, 0, .slice none 0 0, [], u3, u4, .slice xa xl xc, cs⟩) := hide (by rw [← hwZ]; exact RX.out.drewN 1)
        have HZ : Hid (OwnM w.heap.size wZ ⟨2, u2, 0, 0, .slice none 0 0, [], u3, u4, .slice xa xl xc, cs⟩ ∧ FitM ⟨2, u2, 0, 0, .slice none 0 0, [], u3, u4, .slice xa xl xc, cs⟩ ∧ Rdd bs (Mw.m ⟨2, u2, 0, 0, .slice none 0 0, [], u3, u4, .slice xa xl xc, cs⟩) a true ∧ Below w.heap.size w wZ) := by
          refine ⟨?_, fit_nums (k := 2) (r := 0) (n := 0) (by omega) hu2 (by omega) (by omega) hu3 hu4 (by simp) HR.out.2.f (by show cs.length ≤ _; omega), .inl ⟨?_, ?_⟩, RZ.out.r.bel⟩
          · have := (OX.out.below (below_drewN (Below.refl _ _) 1)).rebase (base' := w.heap.size) (by omega)
            rw [← hwZ]
            exact ⟨this.s, this.c, this.o, this.i, this.ap⟩
          · have h1 := HG.out
            rw [Mm.hd_2 rfl]
            show Mm.GoC bs [2, (u2 : Int), (u3 : Int), (u4 : Int), ((cvs cs).length : Int)] (cvs cs) a true
            rcases h1 with ⟨h2, h3⟩ | h2
            · have hz := hend.out h2
              have hlz := HL.out
              rw [hz] at hlz
              rw [show (((cvs cs).length : Int)) = (u5 : Int) by rw [cvs_length]; omega]
              exact HG.out
            · exact .inr h2
          · intro hb
            simp at hb
        obtain ⟨e0, e1, e2, e3, e4, e5, e6, e7⟩ := ei_of RZ.out.m
        have ea := RZ.out.ca
        have ee := RZ.out.ce
        rw [hb5] at ee
        obtain ⟨s0, s1, s2, s3, s4, s5, s6, s7, sa, se⟩ := RZ.out.sam
        rw [hb5] at se
        have z0 := RZ.out.fm 0
        have z1 := RZ.out.fm 1
        have z2 := RZ.out.fm 2
        have z3 := RZ.out.fm 3
        have z4 := RZ.out.fm 4
        have z5 := RZ.out.fm 5
        have z6 := RZ.out.fm 6
        have z7 := RZ.out.fm 7
        have za := blk_froz RZ.out.r.at' 0
        have ze := blk_froz RZ.out.r.er 0
        go_wp2
        go_region
        go_wp2
        refine bodyPost_ret (v := .tuple #[.agg #[.int .i64 2, .int .i64 u2, .int .u8 0, .int .i64 0, .slice none 0 0, .int .i64 u3, .int .i64 u4, .slice xa xl xc], .int .i64 a, .int .i64 5]) (by simp [results, Try.results47, go_sem, e0, e1, e2, e3, e4, e5, e6, e7, ea, ee]) rfl ?_
        exact ⟨⟨2, u2, 0, 0, .slice none 0 0, [], u3, u4, .slice xa xl xc, cs⟩, a, true, rfl, HZ⟩

theorem mread_any (vb : Value) (bs : List Int) (w : World) (hb : Is .u8 w vb bs) (hl : bs.length ≤ 100000000000000) : Calls Try.prog 47 #[vb] w (ReadR w bs) := by
  obtain ⟨u, a1, b1, S1⟩ := sstep_is bs 3 0 false
  have := sstep_max S1
  rcases (show u = 0 ∨ u = 1 ∨ u = 2 ∨ u = 3 by omega) with rfl | rfl | rfl | rfl
  · exact read_0 vb bs w hb hl a1 b1 S1
  · exact read_1 vb bs w hb hl a1 b1 S1
  · exact read_2 vb bs w hb hl a1 b1 S1
  · exact read_3 vb bs w hb hl a1 b1 S1

end Go.Proofs.Ytabfihicdphjeaa

/- The contract of Decode (the program's). -/
namespace Go.Proofs.Ytabfihicdphjeaa
open Go.RowKit
set_option linter.unusedVariables false

/-- What Decode comes to. -/
def DecR (w : World) (m' : Mm.Msg) (g : Int) (E : Ending) (w' : World) : Prop :=
  ∃ m : Mw, E = .returned (.tuple #[mv m, .int .i64 g]) ∧ Hid (m.m = m' ∧ OwnM w.heap.size w' m ∧ FitM m ∧ Below w.heap.size w w')

theorem dec_no {w w' : World} (hb : Below w.heap.size w w') : Hid (mno.m = Mm.no ∧ OwnM w.heap.size w' mno ∧ FitM mno ∧ Below w.heap.size w w') := hide ⟨rfl, OwnM.no _ _, FitM.no, hb⟩

set_option maxRecDepth 100000 in
set_option maxHeartbeats 2000000 in
theorem mdecode_any (vb : Value) (bs : List Int) (w : World) (hb : Is .u8 w vb bs) (hl : bs.length ≤ 100000000000000) (m' : Mm.Msg) (g : Int) (hD : Mm.Dc bs m' g) :
    Calls Try.prog 25 #[vb] w (DecR w m' g) := by
  obtain ⟨xo, xc, hvb, _, _⟩ := hb.shape
  subst hvb
  obtain ⟨w1, hw1, sz1, bel1, hR⟩ := blk_step w #[.int .i64 0, .int .i64 0, .int .u8 0, .int .i64 0, .slice none 0 0, .int .i64 0, .int .i64 0, .slice none 0 0] 26
  have C1 := hide (mread_any _ bs w1 (hb.below bel1) hl)
  have HD := hide hD
  have HR := hide hR
  clear hR hb hD
  go_enter Try.func25, Try.ntmps25
  go_wp2_with fail
  refine C1.out.mono ?_
  rintro E w2 ⟨m, a, bad, rfl, H⟩
  obtain ⟨ho, hf, hrd, bel2⟩ := H.out
  have sz2 := bel2.size
  obtain ⟨ao, cap, hvs, _, _⟩ := ho.is.s.shape
  obtain ⟨ao2, cap2, hvc, _, _⟩ := ho.is.c.1.shape
  rw [mv_eq hvs hvc]
  have HVS := hide hvs
  have HVC := hide hvc
  have HO := hide ho
  have HF := hide hf
  have HE := hide (rd_end hrd)
  have bel02 := bel1.trans (bel2.mono (by omega))
  obtain ⟨V, hV, hV2, szV, belV, hM, _⟩ := new8 w2 26 (.int .i64 0) (.int .i64 0) (.int .u8 0) (.int .i64 0) (.slice none 0 0) (.int .i64 0) (.int .i64 0) (.slice none 0 0) (.int .i64 m.k) (.int .i64 m.e) (.int .u8 m.r) (.int .i64 m.n) (.slice ao m.ss.length cap) (.int .i64 m.f) (.int .i64 m.p) (.slice ao2 m.cs.length cap2)
  have MV : Hid (MAt V w2.heap.size m) := hide (by unfold MAt; rw [mc_eq hvs hvc]; exact hM)
  have hR3 := (belV.block w.heap.size (by omega)).trans ((bel2.block w.heap.size (by omega)).trans HR.out)
  have bel0V := bel02.trans (belV.mono (by omega))
  have OV := hide (HO.out.below belV)
  obtain ⟨Z, hZ, bZ, gZ, ⟨a0, a1, a2, a3, a4, a5, a6, a7⟩, fr, ⟨z0, z1, z2, z3, z4, z5, z6, z7⟩⟩ := put8 hR3 (.int .i64 0) (.int .i64 0) (.int .u8 0) (.int .i64 0) (.slice none 0 0) (.int .i64 0) (.int .i64 0) (.slice none 0 0)
  have f0 := fr 0; have f1 := fr 1; have f2 := fr 2; have f3 := fr 3; have f4 := fr 4; have f5 := fr 5; have f6 := fr 6; have f7 := fr 7
  have belZ := below_put bel0V gZ (Nat.le_refl _) (by omega)
  have HR3 := hide hR3
  have NOZ : Hid (mno.m = Mm.no ∧ OwnM w.heap.size Z mno ∧ FitM mno ∧ Below w.heap.size w Z) := dec_no belZ
  clear ho hf hrd H hvs hvc hM hR3 bZ gZ fr bel1 bel2 HO HR C1 belZ
  have NO : Hid (¬ (bad = false ∧ a = bs.length ∧ Mm.Ok m.m) → m' = Mm.no ∧ g = 5) := hide fun h => by
    rcases HE.out with ⟨h1, _⟩ | ⟨_, h2⟩
    · exact absurd h1 h
    · exact Mm.dc_one HD.out h2
  cases bad
  · have hb5 : bad5 false = 0 := rfl
    rw [hb5]
    by_cases hn : a = bs.length
    · subst hn
      have hnn : (((bs.length : Int)) != (bs.length : Int)) = false := by simp
      obtain ⟨c, hc⟩ : ∃ c, Mm.Ck m.m c := by
        by_cases h : Mm.Ok m.m
        · exact ⟨0, .inl ⟨rfl, h⟩⟩
        · exact ⟨2, .inr ⟨rfl, h⟩⟩
      have HC := hide hc
      have XX := hide (mcheck_any m c V OV.out.is HF.out hc)
      rw [mv_eq HVS.out HVC.out] at XX
      obtain ⟨q0, q1, q2, q3, q4, q5, q6, q7⟩ := MV.out.ei' HVS.out HVC.out
      clear hc
      go_wp2_with fail
      refine XX.out.mono ?_
      rintro E w4 ⟨rfl, bel4⟩
      have sz4 := bel4.size
      have hR4 := (bel4.block w.heap.size (by omega)).trans HR3.out
      have bel04 := bel0V.trans (bel4.mono (by omega))
      have O4 := hide (OV.out.below bel4)
      clear XX q0 q1 q2 q3 q4 q5 q6 q7 hZ a0 a1 a2 a3 a4 a5 a6 a7 z0 z1 z2 z3 z4 z5 z6 z7 f0 f1 f2 f3 f4 f5 f6 f7 hw1 hV hV2
      obtain ⟨q0, q1, q2, q3, q4, q5, q6, q7⟩ := (MV.out.below bel4).ei' HVS.out HVC.out
      rcases HC.out with ⟨hc0, hok⟩ | ⟨hc2, hok⟩
      · subst hc0
        obtain ⟨Y, hY, bY, gY, ⟨a0, a1, a2, a3, a4, a5, a6, a7⟩, fr, ⟨y0, y1, y2, y3, y4, y5, y6, y7⟩⟩ := put8 hR4 (.int .i64 m.k) (.int .i64 m.e) (.int .u8 m.r) (.int .i64 m.n) (.slice ao m.ss.length cap) (.int .i64 m.f) (.int .i64 m.p) (.slice ao2 m.cs.length cap2)
        have f0 := fr 0; have f1 := fr 1; have f2 := fr 2; have f3 := fr 3; have f4 := fr 4; have f5 := fr 5; have f6 := fr 6; have f7 := fr 7
        have belY := below_put bel04 gY (Nat.le_refl _) (by omega)
        have OY := ((O4.out.out (F := fun i => i = w.heap.size) (Out.of_grown gY (fun i hi => by simpa using hi.symm)) (fun i hi => by omega)).rebase (base' := w.heap.size) (by omega))
        have hres : m.m = m' ∧ (0 : Int) = g := by
          rcases HE.out with ⟨_, h2⟩ | ⟨h1, _⟩
          · exact Mm.dc_one h2 HD.out
          · exact (h1 (by simp [hok])).elim
        obtain ⟨hmm, rfl⟩ := hres
        have HZZ : Hid (m.m = m' ∧ OwnM w.heap.size Y m ∧ FitM m ∧ Below w.heap.size w Y) := hide ⟨hmm, OY, HF.out, belY⟩
        have hmv := mv_eq HVS.out HVC.out
        clear hok hmm OY belY gY bY fr hR4 O4 bel04 NO HE HD
        go_wp2
        refine bodyPost_ret (v := .tuple #[.agg #[.int .i64 m.k, .int .i64 m.e, .int .u8 m.r, .int .i64 m.n, .slice ao m.ss.length cap, .int .i64 m.f, .int .i64 m.p, .slice ao2 m.cs.length cap2], .int .i64 0]) (by simp [results, Try.results25, go_sem, y0, y1, y2, y3, y4, y5, y6, y7]) rfl ?_
        exact ⟨m, by rw [hmv], HZZ⟩
      · subst hc2
        obtain ⟨rfl, rfl⟩ := NO.out fun h => hok h.2.2
        obtain ⟨Y, hY, bY, gY, ⟨a0, a1, a2, a3, a4, a5, a6, a7⟩, fr, ⟨y0, y1, y2, y3, y4, y5, y6, y7⟩⟩ := put8 hR4 (.int .i64 0) (.int .i64 0) (.int .u8 0) (.int .i64 0) (.slice none 0 0) (.int .i64 0) (.int .i64 0) (.slice none 0 0)
        have f0 := fr 0; have f1 := fr 1; have f2 := fr 2; have f3 := fr 3; have f4 := fr 4; have f5 := fr 5; have f6 := fr 6; have f7 := fr 7
        have HZZ := dec_no (below_put bel04 gY (Nat.le_refl _) (by omega))
        clear hok gY bY fr hR4 O4 bel04 NO HE HD
        go_wp2
        refine bodyPost_ret (v := .tuple #[.agg #[.int .i64 0, .int .i64 0, .int .u8 0, .int .i64 0, .slice none 0 0, .int .i64 0, .int .i64 0, .slice none 0 0], .int .i64 5]) (by simp [results, Try.results25, go_sem, y0, y1, y2, y3, y4, y5, y6, y7]) rfl ?_
        exact ⟨mno, rfl, HZZ⟩
    · obtain ⟨rfl, rfl⟩ := NO.out fun h => hn h.2.1
      have hnn : (((a : Int)) != (bs.length : Int)) = true := by simp; omega
      clear hn
      go_wp2
      refine bodyPost_ret (v := .tuple #[.agg #[.int .i64 0, .int .i64 0, .int .u8 0, .int .i64 0, .slice none 0 0, .int .i64 0, .int .i64 0, .slice none 0 0], .int .i64 5]) (by simp [results, Try.results25, go_sem, z0, z1, z2, z3, z4, z5, z6, z7]) rfl ?_
      exact ⟨mno, rfl, NOZ⟩
  · have hb5 : bad5 true = 5 := rfl
    rw [hb5]
    obtain ⟨rfl, rfl⟩ := NO.out fun h => by simp at h
    go_wp2
    refine bodyPost_ret (v := .tuple #[.agg #[.int .i64 0, .int .i64 0, .int .u8 0, .int .i64 0, .slice none 0 0, .int .i64 0, .int .i64 0, .slice none 0 0], .int .i64 5]) (by simp [results, Try.results25, go_sem, z0, z1, z2, z3, z4, z5, z6, z7]) rfl ?_
    exact ⟨mno, rfl, NOZ⟩

end Go.Proofs.Ytabfihicdphjeaa
