/- The walk of LinkNames. -/
import Derived.Test.YtadfbmglbaebiaaLi
namespace Go.Proofs.Ytadfbmglbaebiaa
open Go.RowKit
set_option linter.unusedVariables false

def nmL (k : Nat) : List Lm.Lt := (List.range k).map fun (i : Nat) => ⟨(i : Int) + 1, ((i % 2 : Nat) : Int), []⟩
def nmS (k : Nat) : Lm.Ls := ⟨k, nmL k⟩

theorem nm_send (k : Nat) (h : k < 512) : Lm.send (nmS k) ((k % 2 : Nat) : Int) [] = (((k : Int) + 1, 0), nmS (k + 1)) := by
  have h1 : ¬ (((k % 2 : Nat) : Int) ≠ 0 ∧ ((k % 2 : Nat) : Int) ≠ 1) := by omega
  have h2 : ¬ 512 ≤ (nmL k).length := by simp [nmL]; omega
  unfold Lm.send
  rw [if_neg h1]
  unfold Lm.put
  rw [if_neg (show ¬ 512 ≤ (nmS k).fl.length from h2)]
  simp [nmS, nmL, List.range_succ]

theorem nm_ok : ∀ k, k ≤ 512 → Lm.Ok (nmS k)
  | 0, _ => Lm.ok_new
  | k + 1, h => by
    have := Lm.ok_send (to := ((k % 2 : Nat) : Int)) (bs := []) (nm_ok k (by omega)) (by decide)
    rwa [nm_send k (by omega)] at this

def nm5 : Lm.Ls := ⟨512, (nmL 512).tail⟩
def nm6 : Lm.Ls := ⟨513, (nmL 512).tail ++ [⟨513, 0, []⟩]⟩
def nm7 : Lm.Ls := (Lm.del nm6 2).2
theorem nm_f1 : Lm.send (nmS 512) 0 [] = ((0, 3), nmS 512) := by kernel_rfl
theorem nm_f2 : Lm.twi (nmS 512) 7 = ((0, 3), nmS 512) := by kernel_rfl
theorem nm_f3 : Lm.send (nmS 512) 2 [] = ((0, 2), nmS 512) := by kernel_rfl
theorem nm_f4 : Lm.del (nmS 512) 1 = ((⟨1, 0, []⟩, 0), nm5) := by kernel_rfl
theorem nm_f5 : Lm.del nm5 1 = ((⟨0, 0, []⟩, 4), nm5) := by kernel_rfl
theorem nm_f6 : Lm.send nm5 0 [] = ((513, 0), nm6) := by kernel_rfl
theorem nm_f7 : Lm.del nm6 2 = ((⟨2, 1, []⟩, 0), nm7) := by kernel_rfl
theorem nm_f8 : Lm.del nm7 2 = ((⟨0, 0, []⟩, 4), nm7) := by kernel_rfl
theorem nm_l5 : nm5.fl.length ≤ 512 := by decide +kernel
theorem nm_l6 : nm6.fl.length ≤ 512 := by decide +kernel
theorem nm_l7 : nm7.fl.length ≤ 512 := by decide +kernel

/-- A link beside a block X. -/
def SX (base X p : Nat) (w : World) (st : Lm.Ls) : Prop := ∃ F, Lk false p F w st ∧ (∀ g, F g → base ≤ g) ∧ ¬ F X

theorem SX.step {base X p : Nat} {w w' : World} {st' : Lm.Ls} {F : Nat → Prop} (h2 : ∀ g, F g → base ≤ g) (h3 : ¬ F X) (hb : base ≤ w.heap.size) (hX : X < w.heap.size) (s : LStep false p F w w' st') : SX base X p w' st' ∧ Below base w w' ∧ w'.heap[X]? = w.heap[X]? := by
  obtain ⟨F', k1, k2, k3⟩ := s
  refine ⟨⟨F', k1, fun g hg => ?_, fun hg => ?_⟩, k2.below h2 hb, k2.block X hX h3⟩
  · rcases k3 g hg with h | h
    · exact h2 g h
    · omega
  · rcases k3 X hg with h | h
    · exact h3 h
    · omega

theorem xsend_any (base X p : Nat) (w : World) (st : Lm.Ls) (to : Int) (x1 x2 : Int) (x3 : Lm.Ls) (h : SX base X p w st) (hb : base ≤ w.heap.size) (hX : X < w.heap.size) (hlast : st.last < 9223372036854775807) (hx : Lm.send st to [] = ((x1, x2), x3)) :
    Calls Try.prog 10 #[.pointer (some ⟨p, 0, none⟩), .int .i64 to, .slice none 0 0] w fun E w' => E = .returned (.tuple #[.int .i64 x1, .int .i64 x2]) ∧ SX base X p w' x3 ∧ Below base w w' ∧ w'.heap[X]? = w.heap[X]? := by
  obtain ⟨F, h1, h2, h3⟩ := h
  refine (send_any p F w st to _ [] h1 (Is.nil _ _) (by decide) hlast).mono ?_
  rw [hx]
  rintro E w' ⟨rfl, s⟩
  exact ⟨rfl, SX.step h2 h3 hb hX s⟩

theorem xdel_any (base X p : Nat) (w : World) (st : Lm.Ls) (n : Int) (x : Lm.Lt) (x2 : Int) (x3 : Lm.Ls) (h : SX base X p w st) (hb : base ≤ w.heap.size) (hX : X < w.heap.size) (hl : st.fl.length ≤ 512) (hx : Lm.del st n = ((x, x2), x3)) :
    Calls Try.prog 12 #[.pointer (some ⟨p, 0, none⟩), .int .i64 n] w fun E w' => ∃ vx, E = .returned (.tuple #[.agg #[.int .i64 x.n, .int .i64 x.to, vx], .int .i64 x2]) ∧ SX base X p w' x3 ∧ Below base w w' ∧ w'.heap[X]? = w.heap[X]? ∧ Is .u8 w' vx x.bs := by
  obtain ⟨F, h1, h2, h3⟩ := h
  refine (deliver_any p F w st n h1 hl).mono ?_
  rw [hx]
  rintro E w' ⟨vx, rfl, s, b⟩
  obtain ⟨s1, s2, s3⟩ := SX.step h2 h3 hb hX s
  exact ⟨vx, rfl, s1, s2, s3, b.1⟩

theorem xdrop_any (base X p : Nat) (w : World) (st : Lm.Ls) (n : Int) (x : Lm.Lt) (x2 : Int) (x3 : Lm.Ls) (h : SX base X p w st) (hb : base ≤ w.heap.size) (hX : X < w.heap.size) (hl : st.fl.length ≤ 512) (hx : Lm.del st n = ((x, x2), x3)) :
    Calls Try.prog 13 #[.pointer (some ⟨p, 0, none⟩), .int .i64 n] w fun E w' => E = .returned (.int .i64 x2) ∧ SX base X p w' x3 ∧ Below base w w' ∧ w'.heap[X]? = w.heap[X]? := by
  obtain ⟨F, h1, h2, h3⟩ := h
  refine (drop_any p F w st n h1 hl).mono ?_
  rw [hx]
  rintro E w' ⟨rfl, s⟩
  exact ⟨rfl, SX.step h2 h3 hb hX s⟩

theorem SX.below {base X p : Nat} {w w' : World} {st : Lm.Ls} (h : SX base X p w st) (hb : Below w.heap.size w w') : SX base X p w' st := by
  obtain ⟨F, h1, h2, h3⟩ := h
  exact ⟨F, h1.below hb, h2, h3⟩

theorem SL.sx {base p : Nat} {w w' : World} {st : Lm.Ls} (h : SL false base p w st) (hb : Below w.heap.size w w') : SX base w.heap.size p w' st := by
  obtain ⟨F, h1, h2⟩ := h
  exact ⟨F, h1.below hb, h2, fun h => by have := h1.lt _ h; omega⟩

set_option maxRecDepth 100000 in
set_option maxHeartbeats 4000000 in
theorem linkNames_walk (w : World) : Calls Try.prog 3 #[] w fun E w' => E = .returned (.bool true) ∧ Below w.heap.size w w' := by
  go_enter Try.func3, Try.ntmps3
  go_wp2_with fail
  refine (lives_any w).mono ?_
  rintro E w1 ⟨rfl, b1⟩
  go_wp2_with fail
  refine (snew_any w1).mono ?_
  rintro E w2 ⟨rfl, s2, b2⟩
  have S2 := hide s2
  clear s2
  go_wp2
  go_loopw [2] (fun iv wr => ∃ k : Nat, k ≤ 512 ∧ iv = .int .i64 k ∧ Hid (SL false w1.heap.size w1.heap.size wr (nmS k)) ∧ Below w1.heap.size w1 wr) (fun iv _ => 512 - (intOf iv).toNat)
  case atStart => exact ⟨0, by omega, rfl, S2, b2⟩
  case round =>
    obtain ⟨k, hk, rfl, HS, bel⟩ := hrel
    have sz := bel.size
    by_cases hlt : k < 512
    · have hlt' : (k : Int) < 512 := by omega
      have htm : (k : Int).tmod 2 = ((k % 2 : Nat) : Int) := by rw [Int.tmod_eq_emod_of_nonneg (by omega)]; simp
      have X := hide (ssend_any w1.heap.size w1.heap.size wr (nmS k) ((k % 2 : Nat) : Int) (.slice none 0 0) [] ((k : Int) + 1) 0 (nmS (k + 1)) HS.out sz (Is.nil _ _) (by decide) (by show k < _; omega) (nm_send k hlt))
      rw [← htm] at X
      clear htm HS
      go_wp2_with fail
      refine X.out.mono ?_
      rintro E w3 ⟨rfl, s3, b3⟩
      have S3 := hide s3
      have B3 := bel.trans b3
      clear s3 b3
      go_wp2
      go_roundw
      case rel => exact ⟨k + 1, by omega, by go_num, S3, B3⟩
      case measure => simp [intOf]; omega
    · obtain rfl : k = 512 := by omega
      have X := hide (ssend_any w1.heap.size w1.heap.size wr (nmS 512) 0 (.slice none 0 0) [] 0 3 (nmS 512) HS.out sz (Is.nil _ _) (by decide) (by decide) nm_f1)
      clear HS
      go_wp2_with fail
      refine X.out.mono ?_
      rintro E w3 ⟨rfl, s3, b3⟩
      have B3 := bel.trans b3
      have z3 := B3.size
      have X3 := hide (stwice_any w1.heap.size w1.heap.size w3 (nmS 512) 7 0 3 (nmS 512) s3 z3 (nm_ok 512 (by omega)) (by decide) nm_f2)
      clear s3 b3 X
      go_wp2_with fail
      refine X3.out.mono ?_
      rintro E w4 ⟨rfl, s4, b4⟩
      have B4 := B3.trans b4
      have z4 := B4.size
      have X4 := hide (ssend_any w1.heap.size w1.heap.size w4 (nmS 512) 2 (.slice none 0 0) [] 0 2 (nmS 512) s4 z4 (Is.nil _ _) (by decide) (by decide) nm_f3)
      clear s4 b4 X3
      go_wp2_with fail
      refine X4.out.mono ?_
      rintro E w5 ⟨rfl, s5, b5⟩
      have B5 := B4.trans b5
      have z5 := B5.size
      have X5 := hide (sdel_any w1.heap.size w1.heap.size w5 (nmS 512) 1 ⟨1, 0, []⟩ 0 nm5 s5 z5 (by simp [nmS, nmL]) nm_f4)
      simp only at X5
      clear s5 b5 X4
      go_wp2_with fail
      refine X5.out.mono ?_
      rintro E w6 ⟨vx, rfl, s6, b6, isx⟩
      have B6 := B5.trans b6
      have z6 := B6.size
      obtain ⟨a6, n6, c6, rfl⟩ := isx.form
      obtain ⟨V, hV, hV2, szV, belV, bV, x0, x1, x2⟩ := new_three w6 31 (.int .i64 0) (.int .i64 0) (.slice none 0 0) (.int .i64 1) (.int .i64 0) (.slice a6 n6 c6)
      have BV := B6.trans (belV.mono z6)
      have zV := BV.size
      have X6 := hide (xdel_any w1.heap.size w6.heap.size w1.heap.size V nm5 1 ⟨0, 0, []⟩ 4 nm5 (s6.sx belV) zV (by omega) nm_l5 nm_f5)
      simp only at X6
      have HV := hide bV
      clear s6 b6 isx X5 bV
      go_wp2_with fail
      refine X6.out.mono ?_
      rintro E w7 ⟨vy, rfl, s7, b7, k7, isy⟩
      have B7 := BV.trans b7
      have z7 := B7.size
      have h7 := b7.size
      obtain ⟨a7, n7, c7, rfl⟩ := isy.form
      obtain ⟨U, hU, hU2, szU, belU, bU, y0, y1, y2⟩ := new_three w7 31 (.int .i64 0) (.int .i64 0) (.slice none 0 0) (.int .i64 0) (.int .i64 0) (.slice a7 n7 c7)
      have BU := B7.trans (belU.mono z7)
      have zU := BU.size
      have l7 : w6.heap.size < w7.heap.size := by
        have h1 := k7.trans HV.out
        exact blk_lt h1
      have kU := (belU.block w6.heap.size l7).trans (k7.trans HV.out)
      have X7 := hide (xsend_any w1.heap.size w6.heap.size w1.heap.size U nm5 0 513 0 nm6 (s7.below belU) zU (by omega) (by decide) nm_f6)
      have HU := hide kU
      clear s7 b7 isy X6 bU kU k7
      go_wp2_with fail
      refine X7.out.mono ?_
      rintro E w8 ⟨rfl, s8, b8, k8⟩
      have B8 := BU.trans b8
      have z8 := B8.size
      have h8 := k8.trans HU.out
      have u0 := blk_cell h8 0 rfl
      have u1 := blk_cell h8 1 rfl
      have X8 := hide (xdrop_any w1.heap.size w6.heap.size w1.heap.size w8 nm6 2 ⟨2, 1, []⟩ 0 nm7 s8 z8 (blk_lt h8) nm_l6 nm_f7)
      have H8 := hide h8
      clear s8 b8 X7 k8 h8
      go_wp2_with fail
      refine X8.out.mono ?_
      rintro E w9 ⟨rfl, s9, b9, k9⟩
      have B9 := B8.trans b9
      have z9 := B9.size
      have X9 := hide (xdrop_any w1.heap.size w6.heap.size w1.heap.size w9 nm7 2 ⟨0, 0, []⟩ 4 nm7 s9 z9 (blk_lt (k9.trans H8.out)) nm_l7 nm_f8)
      clear s9 b9 X8 k9
      go_wp2_with fail
      refine X9.out.mono ?_
      rintro E w10 ⟨rfl, s10, b10, k10⟩
      have B10 := hide (b1.trans ((B9.trans b10).mono b1.size))
      clear s10 k10
      go_wp2
      go_ret
      exact ⟨rfl, B10.out⟩

end Go.Proofs.Ytadfbmglbaebiaa
