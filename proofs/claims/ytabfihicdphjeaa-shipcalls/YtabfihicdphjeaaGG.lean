/- Texts of one layer, one behind the other. -/
import Derived.Test.YtabfihicdphjeaaGF
/- The contract of read (the program's): an ack, and no kind. -/
namespace Go.Proofs.Ytabfihicdphjeaa
open Go.RowKit
set_option linter.unusedVariables false

/-- What read comes to. -/
def ReadR (w : World) (bs : List Int) (E : Ending) (w' : World) : Prop :=
  ∃ (m : Mw) (a : Nat) (bad : Bool), E = .returned (.tuple #[mv m, .int .i64 a, .int .i64 (bad5 bad)]) ∧ Hid (OwnM w.heap.size w' m ∧ FitM m ∧ Rdd bs m.m a bad ∧ Below w.heap.size w w')

theorem nat64 {k : Nat} (h : k ≤ 1048576) : In64 (k : Int) := ⟨by omega, by omega⟩

theorem fit_nums {k e r n f p : Nat} {vs vc : Value} {ss : List Sm.S} {cs : List Cw} (h1 : k ≤ 3) (h2 : e ≤ 1048576) (h3 : r ≤ 3) (h4 : n ≤ 1048576) (h5 : f ≤ 1048576) (h6 : p ≤ 1048576) (h7 : ss.length ≤ 140737488355328) (h8 : FitC cs) (h9 : cs.length ≤ 140737488355328) : FitM ⟨k, e, r, n, vs, ss, f, p, vc, cs⟩ :=
  ⟨nat64 (by omega), nat64 (by omega), by simp, by simp; omega, nat64 (by omega), nat64 (by omega), nat64 (by omega), h7, h8, h9⟩

/-- Eight cells of a message's block, written again; the place's and the error's, too. -/
structure Sam8 (w : World) (B : Nat) (m : Mw) (a : Nat) (e : Int) : Prop where
  s0 : w.setCell ⟨B + 1, 0, none⟩ (.int .i64 m.k) = w
  s1 : w.setCell ⟨B + 1, 1, none⟩ (.int .i64 m.e) = w
  s2 : w.setCell ⟨B + 1, 2, none⟩ (.int .u8 m.r) = w
  s3 : w.setCell ⟨B + 1, 3, none⟩ (.int .i64 m.n) = w
  s4 : w.setCell ⟨B + 1, 4, none⟩ m.vs = w
  s5 : w.setCell ⟨B + 1, 5, none⟩ (.int .i64 m.f) = w
  s6 : w.setCell ⟨B + 1, 6, none⟩ (.int .i64 m.p) = w
  s7 : w.setCell ⟨B + 1, 7, none⟩ m.vc = w
  sa : w.setCell ⟨B + 2, 0, none⟩ (.int .i64 a) = w
  se : w.setCell ⟨B + 3, 0, none⟩ (.int .i64 e) = w

theorem RdS.sam {B : Nat} {w0 w : World} {vb : Value} {bs : List Int} {a : Nat} {bad : Bool} {m : Mw} (h : RdS B w0 w vb bs a bad m) : Sam8 w B m a (bad5 bad) :=
  ⟨set_same h.m (j := 0) rfl, set_same h.m (j := 1) rfl, set_same h.m (j := 2) rfl, set_same h.m (j := 3) rfl, set_same h.m (j := 4) rfl, set_same h.m (j := 5) rfl, set_same h.m (j := 6) rfl, set_same h.m (j := 7) rfl, set_same h.r.at' (j := 0) rfl, set_same h.r.er (j := 0) rfl⟩

theorem RdS.drewN {B : Nat} {w0 w : World} {vb : Value} {bs : List Int} {a : Nat} {bad : Bool} {m : Mw} (h : RdS B w0 w vb bs a bad m) (n : Nat) : RdS B w0 (w.drewN n) vb bs a bad m := h.below (below_drewN (Below.refl _ _) n)

set_option maxRecDepth 100000 in
set_option maxHeartbeats 2000000 in
theorem read_3 (vb : Value) (bs : List Int) (w : World) (hb : Is .u8 w vb bs) (hl : bs.length ≤ 100000000000000) (a1 : Nat) (b1 : Bool) (S1 : SStep bs 3 0 false 3 a1 b1) :
    Calls Try.prog 47 #[vb] w (ReadR w bs) := by
  obtain ⟨ao, ln, cap, hv⟩ := hb.form
  subst hv
  obtain ⟨w1, w2, w3, w4, w5, w6, hw1, hw2, hw3, hw4, sz1, sz2, sz3, sz4, hw5, cn5, fn5, hw6, r6⟩ := read_start w _ bs hb
  have hmf : ∀ (fn : Fn) (first cap : Array Value) (w : World), (Instr.makeFunc fn first cap).run Try.prog w = .ok (.func fn first cap) w := fun _ _ _ _ => rfl
  have hst := run_store Try.prog w5 ⟨w.heap.size + 4, 0, none⟩ (.func (.func 70) #[] #[.pointer (some ⟨w.heap.size + 3, 0, none⟩), .pointer (some ⟨w.heap.size, 0, none⟩), .pointer (some ⟨w.heap.size + 2, 0, none⟩)]) .plain rfl
  simp only [cn5, fn5, hw6] at hst
  simp only [Bool.false_eq_true, if_false] at hst
  obtain ⟨u2, a2, b2, S2⟩ := sstep_is bs 1048576 a1 b1
  have hu2 := sstep_max S2
  have R6 := hide r6
  have cf := r6.cf
  have X1 := hide S1
  have X2 := hide S2
  have G2 : Hid (Mm.Go bs [3, (u2 : Int)] a2 b2) := hide (Mm.go_step (Mm.go_step (Mm.go_start bs) S1 Mm.nx_0) S2 (Mm.nx_1 _))
  have O6 : Hid (OwnM (w.heap.size + 5) w6 mno) := hide (OwnM.no _ _)
  have C1 := hide (number_at w.heap.size w w6 _ bs 0 false 3 3 a1 b1 r6.r hl (by omega) S1)
  clear S1 S2 r6 hb
  go_enter Try.func47, Try.ntmps47
  go_wp2_with fail
  refine C1.out.mono ?_
  rintro E w7 ⟨rfl, H7⟩
  have R7 := hide (R6.out.step H7.out.1 H7.out.2)
  have O7 := hide (O6.out.wr H7.out.2)
  clear H7 C1 hw1 hw2 hw3 hw4 hw5 hw6 R6 O6 cf cn5 fn5 hst
  obtain ⟨w8, hw8⟩ : ∃ V, w7.setCell ⟨w.heap.size + 1, 0, none⟩ (.int .i64 3) = V := ⟨_, rfl⟩
  have R8 : Hid (RdS w.heap.size w w8 (.slice ao ln cap) bs a1 b1 ⟨3, 0, 0, 0, .slice none 0 0, [], 0, 0, .slice none 0 0, []⟩) := hide (by rw [← hw8]; exact R7.out.put 0 _ _ rfl)
  have O8 : Hid (OwnM (w.heap.size + 5) w8 mno) := hide (by rw [← hw8]; exact O7.out.set 0 _)
  obtain ⟨c0, c1, c2, c3, c4, c5, c6, c7⟩ := ei_of R7.out.m
  have f0 := R7.out.fm 0
  have cf := R8.out.cf
  have C2 := hide (number_at w.heap.size w w8 _ bs a1 b1 1048576 u2 a2 b2 R8.out.r hl (by omega) X2.out)
  clear R7 O7
  go_wp2_with fail
  refine C2.out.mono ?_
  rintro E w9 ⟨rfl, H9⟩
  have R9 := hide (R8.out.step H9.out.1 H9.out.2)
  have O9 := hide (O8.out.wr H9.out.2)
  clear H9 C2 R8 O8 cf hw8 c0 c1 c2 c3 c4 c5 c6 c7 f0
  obtain ⟨wA, hwA⟩ : ∃ V, w9.setCell ⟨w.heap.size + 1, 1, none⟩ (.int .i64 u2) = V := ⟨_, rfl⟩
  have RA : Hid (RdS w.heap.size w wA (.slice ao ln cap) bs a2 b2 ⟨3, u2, 0, 0, .slice none 0 0, [], 0, 0, .slice none 0 0, []⟩) := hide (by rw [← hwA]; exact R9.out.put 1 _ _ rfl)
  have OA : Hid (OwnM (w.heap.size + 5) wA mno) := hide (by rw [← hwA]; exact O9.out.set 1 _)
  obtain ⟨c0, c1, c2, c3, c4, c5, c6, c7⟩ := ei_of R9.out.m
  obtain ⟨d0, d1, d2, d3, d4, d5, d6, d7⟩ := ei_of RA.out.m
  have f1 := R9.out.fm 1
  obtain ⟨u3, a3, b3, S3⟩ := sstep_is bs 1048576 a2 b2
  have hu3 := sstep_max S3
  have G3 : Hid (Mm.Go bs [3, (u2 : Int), (u3 : Int)] a3 b3) := hide (Mm.go_step G2.out S3 (Mm.nx_3 _))
  have cf := RA.out.cf
  have C3 := hide (number_at w.heap.size w wA _ bs a2 b2 1048576 u3 a3 b3 RA.out.r hl (by omega) S3)
  clear R9 O9 S3
  go_wp2_with fail
  refine C3.out.mono ?_
  rintro E wB ⟨rfl, HB⟩
  have RB := hide (RA.out.step HB.out.1 HB.out.2)
  have OB := hide (OA.out.wr HB.out.2)
  clear HB C3 RA OA cf hwA c0 c1 c2 c3 c4 c5 c6 c7 d0 d1 d2 d3 d4 d5 d6 d7 f1
  obtain ⟨wC, hwC⟩ : ∃ V, wB.setCell ⟨w.heap.size + 1, 3, none⟩ (.int .i64 u3) = V := ⟨_, rfl⟩
  have RC : Hid (RdS w.heap.size w wC (.slice ao ln cap) bs a3 b3 ⟨3, u2, 0, u3, .slice none 0 0, [], 0, 0, .slice none 0 0, []⟩) := hide (by rw [← hwC]; exact RB.out.put 3 _ _ rfl)
  have OC : Hid (OwnM (w.heap.size + 5) wC mno) := hide (by rw [← hwC]; exact OB.out.set 3 _)
  obtain ⟨c0, c1, c2, c3, c4, c5, c6, c7⟩ := ei_of RB.out.m
  have f3 := RB.out.fm 3
  obtain ⟨wZ, hwZ⟩ : ∃ V, wC.drew = V := ⟨_, rfl⟩
  have RZ : Hid (RdS w.heap.size w wZ (.slice ao ln cap) bs a3 b3 ⟨3, u2, 0, u3, .slice none 0 0, [], 0, 0, .slice none 0 0, []⟩) := hide (by rw [← hwZ]; exact RC.out.drewN 1)
  have HZ : Hid (OwnM w.heap.size wZ ⟨3, u2, 0, u3, .slice none 0 0, [], 0, 0, .slice none 0 0, []⟩ ∧ FitM ⟨3, u2, 0, u3, .slice none 0 0, [], 0, 0, .slice none 0 0, []⟩ ∧ Rdd bs (Mw.m ⟨3, u2, 0, u3, .slice none 0 0, [], 0, 0, .slice none 0 0, []⟩) a3 b3 ∧ Below w.heap.size w wZ) := by
    refine ⟨?_, fit_nums (k := 3) (r := 0) (f := 0) (p := 0) (by omega) hu2 (by omega) hu3 (by omega) (by omega) (by simp) (fun c hc => by simp at hc) (by simp), .inl ⟨?_, ?_⟩, RZ.out.r.bel⟩
    · have := (OC.out.below (below_drewN (Below.refl _ _) 1)).rebase (base' := w.heap.size) (by omega)
      rw [← hwZ]
      exact ⟨this.s, this.c, this.o, this.i, this.ap⟩
    · have h1 := G3.out.c
      rw [Mm.hd_3 rfl]
      exact h1
    · intro hb
      refine ⟨?_, .inr (.inr ⟨rfl, rfl, rfl, rfl, rfl, rfl⟩)⟩
      rw [Mm.hd_3 rfl]
      rcases G3.out with ⟨_, h, _⟩ | ⟨h, _⟩
      · exact h
      · rw [hb] at h; simp at h
  obtain ⟨e0, e1, e2, e3, e4, e5, e6, e7⟩ := ei_of RZ.out.m
  have ea := RZ.out.ca
  have ee := RZ.out.ce
  obtain ⟨s0, s1, s2, s3, s4, s5, s6, s7, sa, se⟩ := RZ.out.sam
  have z0 := RZ.out.fm 0
  have z1 := RZ.out.fm 1
  have z2 := RZ.out.fm 2
  have z3 := RZ.out.fm 3
  have z4 := RZ.out.fm 4
  have z5 := RZ.out.fm 5
  have z6 := RZ.out.fm 6
  have z7 := RZ.out.fm 7
  have za := blk_froz RZ.out.r.at' 0
  have ze := blk_froz RZ.out.r.er 0
  go_wp2
  go_region
  go_wp2
  refine bodyPost_ret (v := .tuple #[.agg #[.int .i64 3, .int .i64 u2, .int .u8 0, .int .i64 u3, .slice none 0 0, .int .i64 0, .int .i64 0, .slice none 0 0], .int .i64 a3, .int .i64 (bad5 b3)]) (by simp [results, Try.results47, go_sem, e0, e1, e2, e3, e4, e5, e6, e7, ea, ee]) rfl ?_
  exact ⟨⟨3, u2, 0, u3, .slice none 0 0, [], 0, 0, .slice none 0 0, []⟩, a3, b3, rfl, HZ⟩

set_option maxRecDepth 100000 in
set_option maxHeartbeats 2000000 in
theorem read_0 (vb : Value) (bs : List Int) (w : World) (hb : Is .u8 w vb bs) (hl : bs.length ≤ 100000000000000) (a1 : Nat) (b1 : Bool) (S1 : SStep bs 3 0 false 0 a1 b1) :
    Calls Try.prog 47 #[vb] w (ReadR w bs) := by
  obtain ⟨ao, ln, cap, hv⟩ := hb.form
  subst hv
  obtain ⟨w1, w2, w3, w4, w5, w6, hw1, hw2, hw3, hw4, sz1, sz2, sz3, sz4, hw5, cn5, fn5, hw6, r6⟩ := read_start w _ bs hb
  have hmf : ∀ (fn : Fn) (first cap : Array Value) (w : World), (Instr.makeFunc fn first cap).run Try.prog w = .ok (.func fn first cap) w := fun _ _ _ _ => rfl
  have hst := run_store Try.prog w5 ⟨w.heap.size + 4, 0, none⟩ (.func (.func 70) #[] #[.pointer (some ⟨w.heap.size + 3, 0, none⟩), .pointer (some ⟨w.heap.size, 0, none⟩), .pointer (some ⟨w.heap.size + 2, 0, none⟩)]) .plain rfl
  simp only [cn5, fn5, hw6] at hst
  simp only [Bool.false_eq_true, if_false] at hst
  obtain ⟨u2, a2, b2, S2⟩ := sstep_is bs 1048576 a1 b1
  have hu2 := sstep_max S2
  have R6 := hide r6
  have cf := r6.cf
  have X1 := hide S1
  have X2 := hide S2
  have G2 : Hid (Mm.Go bs [0, (u2 : Int)] a2 b2) := hide (Mm.go_step (Mm.go_step (Mm.go_start bs) S1 Mm.nx_0) S2 (Mm.nx_1 _))
  have O6 : Hid (OwnM (w.heap.size + 5) w6 mno) := hide (OwnM.no _ _)
  have C1 := hide (number_at w.heap.size w w6 _ bs 0 false 3 0 a1 b1 r6.r hl (by omega) S1)
  clear S1 S2 r6 hb
  go_enter Try.func47, Try.ntmps47
  go_wp2_with fail
  refine C1.out.mono ?_
  rintro E w7 ⟨rfl, H7⟩
  have R7 := hide (R6.out.step H7.out.1 H7.out.2)
  have O7 := hide (O6.out.wr H7.out.2)
  clear H7 C1 hw1 hw2 hw3 hw4 hw5 hw6 R6 O6 cf cn5 fn5 hst
  obtain ⟨w8, hw8⟩ : ∃ V, w7.setCell ⟨w.heap.size + 1, 0, none⟩ (.int .i64 0) = V := ⟨_, rfl⟩
  have R8 : Hid (RdS w.heap.size w w8 (.slice ao ln cap) bs a1 b1 ⟨0, 0, 0, 0, .slice none 0 0, [], 0, 0, .slice none 0 0, []⟩) := hide (by rw [← hw8]; exact R7.out.put 0 _ _ rfl)
  have O8 : Hid (OwnM (w.heap.size + 5) w8 mno) := hide (by rw [← hw8]; exact O7.out.set 0 _)
  obtain ⟨c0, c1, c2, c3, c4, c5, c6, c7⟩ := ei_of R7.out.m
  have f0 := R7.out.fm 0
  have cf := R8.out.cf
  have C2 := hide (number_at w.heap.size w w8 _ bs a1 b1 1048576 u2 a2 b2 R8.out.r hl (by omega) X2.out)
  clear R7 O7
  go_wp2_with fail
  refine C2.out.mono ?_
  rintro E w9 ⟨rfl, H9⟩
  have R9 := hide (R8.out.step H9.out.1 H9.out.2)
  have O9 := hide (O8.out.wr H9.out.2)
  clear H9 C2 R8 O8 cf hw8 c0 c1 c2 c3 c4 c5 c6 c7 f0
  obtain ⟨wA, hwA⟩ : ∃ V, w9.setCell ⟨w.heap.size + 1, 1, none⟩ (.int .i64 u2) = V := ⟨_, rfl⟩
  have RA : Hid (RdS w.heap.size w wA (.slice ao ln cap) bs a2 b2 ⟨0, u2, 0, 0, .slice none 0 0, [], 0, 0, .slice none 0 0, []⟩) := hide (by rw [← hwA]; exact R9.out.put 1 _ _ rfl)
  have OA : Hid (OwnM (w.heap.size + 5) wA mno) := hide (by rw [← hwA]; exact O9.out.set 1 _)
  obtain ⟨c0, c1, c2, c3, c4, c5, c6, c7⟩ := ei_of R9.out.m
  obtain ⟨d0, d1, d2, d3, d4, d5, d6, d7⟩ := ei_of RA.out.m
  have f1 := R9.out.fm 1
  obtain ⟨wZ, hwZ⟩ : ∃ V, wA.drew = V := ⟨_, rfl⟩
  have RZ : Hid (RdS w.heap.size w wZ (.slice ao ln cap) bs a2 b2 ⟨0, u2, 0, 0, .slice none 0 0, [], 0, 0, .slice none 0 0, []⟩) := hide (by rw [← hwZ]; exact RA.out.drewN 1)
  have HZ : Hid (OwnM w.heap.size wZ ⟨0, u2, 0, 0, .slice none 0 0, [], 0, 0, .slice none 0 0, []⟩ ∧ FitM ⟨0, u2, 0, 0, .slice none 0 0, [], 0, 0, .slice none 0 0, []⟩ ∧ Rdd bs (Mw.m ⟨0, u2, 0, 0, .slice none 0 0, [], 0, 0, .slice none 0 0, []⟩) a2 b2 ∧ Below w.heap.size w wZ) := by
    refine ⟨?_, fit_nums (k := 0) (r := 0) (n := 0) (f := 0) (p := 0) (by omega) hu2 (by omega) (by omega) (by omega) (by omega) (by simp) (fun c hc => by simp at hc) (by simp), .inr ⟨fun k => by have := Mm.sh_k (Mm.ok_sh k); simp [Mw.m] at this, Mm.go_none G2.out⟩, RZ.out.r.bel⟩
    · have := (OA.out.below (below_drewN (Below.refl _ _) 1)).rebase (base' := w.heap.size) (by omega)
      rw [← hwZ]
      exact ⟨this.s, this.c, this.o, this.i, this.ap⟩
  obtain ⟨e0, e1, e2, e3, e4, e5, e6, e7⟩ := ei_of RZ.out.m
  have ea := RZ.out.ca
  have ee := RZ.out.ce
  obtain ⟨s0, s1, s2, s3, s4, s5, s6, s7, sa, se⟩ := RZ.out.sam
  have z0 := RZ.out.fm 0
  have z1 := RZ.out.fm 1
  have z2 := RZ.out.fm 2
  have z3 := RZ.out.fm 3
  have z4 := RZ.out.fm 4
  have z5 := RZ.out.fm 5
  have z6 := RZ.out.fm 6
  have z7 := RZ.out.fm 7
  have za := blk_froz RZ.out.r.at' 0
  have ze := blk_froz RZ.out.r.er 0
  go_wp2
  go_region
  go_wp2
  refine bodyPost_ret (v := .tuple #[.agg #[.int .i64 0, .int .i64 u2, .int .u8 0, .int .i64 0, .slice none 0 0, .int .i64 0, .int .i64 0, .slice none 0 0], .int .i64 a2, .int .i64 (bad5 b2)]) (by simp [results, Try.results47, go_sem, e0, e1, e2, e3, e4, e5, e6, e7, ea, ee]) rfl ?_
  exact ⟨⟨0, u2, 0, 0, .slice none 0 0, [], 0, 0, .slice none 0 0, []⟩, a2, b2, rfl, HZ⟩

end Go.Proofs.Ytabfihicdphjeaa
