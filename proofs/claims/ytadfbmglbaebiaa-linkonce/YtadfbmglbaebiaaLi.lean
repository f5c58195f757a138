/- A link in memory that is new ('SL'): its methods; the chapter's first examples. -/
import Derived.Test.YtadfbmglbaebiaaLh
import Derived.Lib.SlBytesConst
namespace Go.Proofs.Ytadfbmglbaebiaa
open Go.RowKit Go.Shelf
set_option linter.unusedVariables false

/-- A link whose blocks all lie from base on. -/
def SL (d : Bool) (base p : Nat) (w : World) (st : Lm.Ls) : Prop := ∃ F, Lk d p F w st ∧ ∀ g, F g → base ≤ g

theorem SL.below {d : Bool} {base p : Nat} {w w' : World} {st : Lm.Ls} (h : SL d base p w st) (hb : Below w.heap.size w w') : SL d base p w' st := by
  obtain ⟨F, h1, h2⟩ := h
  exact ⟨F, h1.below hb, h2⟩

theorem SL.step {d : Bool} {base p : Nat} {w w' : World} {st' : Lm.Ls} {F : Nat → Prop} (h2 : ∀ g, F g → base ≤ g) (hb : base ≤ w.heap.size) (s : LStep d p F w w' st') : SL d base p w' st' ∧ Below base w w' := by
  obtain ⟨F', k1, k2, k3⟩ := s
  refine ⟨⟨F', k1, fun g hg => ?_⟩, k2.below h2 hb⟩
  rcases k3 g hg with h | h
  · exact h2 g h
  · omega

theorem snew_any (w : World) : Calls Try.prog 9 #[] w fun E w' => E = .returned (.pointer (some ⟨w.heap.size, 0, none⟩)) ∧ SL false w.heap.size w.heap.size w' Lm.new ∧ Below w.heap.size w w' := by
  refine (lnew_any w).mono ?_
  rintro E w' ⟨rfl, h, b⟩
  exact ⟨rfl, ⟨_, h, fun g hg => by omega⟩, b⟩

theorem ssend_any (base p : Nat) (w : World) (st : Lm.Ls) (to : Int) (v : Value) (bs : List Int) (x1 x2 : Int) (x3 : Lm.Ls) (h : SL false base p w st) (hb : base ≤ w.heap.size) (hv : Is .u8 w v bs) (hbl : bs.length ≤ 40) (hlast : st.last < 9223372036854775807) (hx : Lm.send st to bs = ((x1, x2), x3)) :
    Calls Try.prog 10 #[.pointer (some ⟨p, 0, none⟩), .int .i64 to, v] w fun E w' => E = .returned (.tuple #[.int .i64 x1, .int .i64 x2]) ∧ SL false base p w' x3 ∧ Below base w w' := by
  obtain ⟨F, h1, h2⟩ := h
  refine (send_any p F w st to v bs h1 hv hbl hlast).mono ?_
  rw [hx]
  rintro E w' ⟨rfl, s⟩
  exact ⟨rfl, SL.step h2 hb s⟩

theorem stwice_any (base p : Nat) (w : World) (st : Lm.Ls) (n : Int) (x1 x2 : Int) (x3 : Lm.Ls) (h : SL false base p w st) (hb : base ≤ w.heap.size) (hok : Lm.Ok st) (hlast : st.last < 9223372036854775807) (hx : Lm.twi st n = ((x1, x2), x3)) :
    Calls Try.prog 11 #[.pointer (some ⟨p, 0, none⟩), .int .i64 n] w fun E w' => E = .returned (.tuple #[.int .i64 x1, .int .i64 x2]) ∧ SL false base p w' x3 ∧ Below base w w' := by
  obtain ⟨F, h1, h2⟩ := h
  refine (twice_any p F w st n h1 hok hlast).mono ?_
  rw [hx]
  rintro E w' ⟨rfl, s⟩
  exact ⟨rfl, SL.step h2 hb s⟩

theorem sdel_any (base p : Nat) (w : World) (st : Lm.Ls) (n : Int) (x : Lm.Lt) (x2 : Int) (x3 : Lm.Ls) (h : SL false base p w st) (hb : base ≤ w.heap.size) (hl : st.fl.length ≤ 512) (hx : Lm.del st n = ((x, x2), x3)) :
    Calls Try.prog 12 #[.pointer (some ⟨p, 0, none⟩), .int .i64 n] w fun E w' => ∃ vx, E = .returned (.tuple #[.agg #[.int .i64 x.n, .int .i64 x.to, vx], .int .i64 x2]) ∧ SL false base p w' x3 ∧ Below base w w' ∧ Is .u8 w' vx x.bs := by
  obtain ⟨F, h1, h2⟩ := h
  refine (deliver_any p F w st n h1 hl).mono ?_
  rw [hx]
  rintro E w' ⟨vx, rfl, s, b⟩
  obtain ⟨s1, s2⟩ := SL.step h2 hb s
  exact ⟨vx, rfl, s1, s2, b.1⟩

theorem sdrop_any (base p : Nat) (w : World) (st : Lm.Ls) (n : Int) (x : Lm.Lt) (x2 : Int) (x3 : Lm.Ls) (h : SL false base p w st) (hb : base ≤ w.heap.size) (hl : st.fl.length ≤ 512) (hx : Lm.del st n = ((x, x2), x3)) :
    Calls Try.prog 13 #[.pointer (some ⟨p, 0, none⟩), .int .i64 n] w fun E w' => E = .returned (.int .i64 x2) ∧ SL false base p w' x3 ∧ Below base w w' := by
  obtain ⟨F, h1, h2⟩ := h
  refine (drop_any p F w st n h1 hl).mono ?_
  rw [hx]
  rintro E w' ⟨rfl, s⟩
  exact ⟨rfl, SL.step h2 hb s⟩

theorem sflight_any (base p : Nat) (w : World) (st : Lm.Ls) (h : SL false base p w st) (hok : Lm.Ok st) :
    Calls Try.prog 20 #[.pointer (some ⟨p, 0, none⟩)] w fun E w' => ∃ v ns, E = .returned v ∧ LCopy w.heap.size w' v ns ∧ ns.map Lw.l = st.fl ∧ Below w.heap.size w w' := by
  obtain ⟨F, h1, h2⟩ := h
  exact flight_any p F w st h1 hok

/-- A byte that the text names. -/
theorem lit_step (w : World) (z : Int) (hz : (Lit.int .u8 z).wf = true) : ∃ W, w.alloc (.cells #[.int .u8 z] 5 (1, 2)) = W ∧ W.heap.size = w.heap.size + 1 ∧ Below w.heap.size w W ∧ Is .u8 W (.slice (some ⟨w.heap.size, 0, none⟩) 1 1) [z] := by
  refine ⟨_, rfl, by simp, (Below.refl _ _).alloc (Nat.le_refl _) _, by simpa using hz, .inr ⟨⟨w.heap.size, 0, none⟩, 1, rfl, by simp, by decide, fun i hi => ?_⟩⟩
  have : i = 0 := by simpa using hi
  subst this
  rw [add_at]
  exact blk_cell (heap_alloc_new w _) 0 rfl

/-- The links of the first examples. -/
def ex1 : Lm.Ls := ⟨1, [⟨1, 1, [97]⟩]⟩
def ex2 : Lm.Ls := ⟨2, [⟨1, 1, [97]⟩, ⟨2, 0, [98]⟩]⟩
def ex3 : Lm.Ls := ⟨3, [⟨1, 1, [97]⟩, ⟨2, 0, [98]⟩, ⟨3, 1, [97]⟩]⟩
theorem ex1_is : Lm.send Lm.new 1 [97] = ((1, 0), ex1) := rfl
theorem ex2_is : Lm.send ex1 0 [98] = ((2, 0), ex2) := rfl
theorem ex3_is : Lm.twi ex2 1 = ((3, 0), ex3) := rfl
theorem ok1 : Lm.Ok ex1 := by have := Lm.ok_send (to := 1) (bs := [97]) Lm.ok_new (by decide); rwa [ex1_is] at this
theorem ok2 : Lm.Ok ex2 := by have := Lm.ok_send (to := 0) (bs := [98]) ok1 (by decide); rwa [ex2_is] at this
theorem ok3 : Lm.Ok ex3 := by have := Lm.ok_twi ok2 1; rwa [ex3_is] at this

set_option maxRecDepth 100000 in
set_option maxHeartbeats 4000000 in
theorem lives_any (w : World) : Calls Try.prog 8 #[] w fun E w' => E = .returned (.bool true) ∧ Below w.heap.size w w' := by
  have kc := fun (w : World) (C : Array Value) (n c : Nat) => Lib.run_convert_bytes_const (P := Try.prog) w 29 5 C n c Try.underlying29 Try.underlying5
  go_enter Try.func8, Try.ntmps8
  go_wp2_with fail
  refine (snew_any w).mono ?_
  rintro E w1 ⟨rfl, s1, b1⟩
  have z1 := b1.size
  obtain ⟨w2, hw2, sz2, b2, is2⟩ := lit_step w1 97 (by decide)
  have X2 := hide (ssend_any w.heap.size w.heap.size w2 Lm.new 1 _ [97] 1 0 ex1 (s1.below b2) (by omega) is2 (by decide) (by decide) ex1_is)
  have B2 := hide (b1.trans (b2.mono z1))
  have z2 : w.heap.size ≤ w2.heap.size := by omega
  clear s1 is2 b2 b1 sz2
  go_wp2_with fail
  refine X2.out.mono ?_
  rintro E w3 ⟨rfl, s3, b3⟩
  have B3 := hide (B2.out.trans b3)
  have z3 := B3.out.size
  obtain ⟨w4, hw4, sz4, b4, is4⟩ := lit_step w3 98 (by decide)
  have X4 := hide (ssend_any w.heap.size w.heap.size w4 ex1 0 _ [98] 2 0 ex2 (s3.below b4) (by omega) is4 (by decide) (by decide) ex2_is)
  have B4 := hide (B3.out.trans (b4.mono z3))
  have z4 := B4.out.size
  clear s3 is4 b4 b3 sz4
  go_wp2_with fail
  refine X4.out.mono ?_
  rintro E w5 ⟨rfl, s5, b5⟩
  have B5 := hide (B4.out.trans b5)
  have z5 := B5.out.size
  have X5 := hide (stwice_any w.heap.size w.heap.size w5 ex2 1 3 0 ex3 s5 z5 ok2 (by decide) ex3_is)
  clear s5 b5
  go_wp2_with fail
  refine X5.out.mono ?_
  rintro E w6 ⟨rfl, s6, b6⟩
  have B6 := hide (B5.out.trans b6)
  have z6 := B6.out.size
  have X6 := hide (sflight_any w.heap.size w.heap.size w6 ex3 s6 ok3)
  clear s6 b6
  go_wp2_with fail
  refine X6.out.mono ?_
  rintro E w7 ⟨v7, ns, rfl, c7, m7, b7⟩
  obtain ⟨w8, hw8, sz8, b8, is8⟩ := lit_step w7 97 (by decide)
  obtain ⟨w9, hw9, sz9, b9, is9⟩ := lit_step w8 98 (by decide)
  obtain ⟨w10, hw10, sz10, b10, is10⟩ := lit_step w9 97 (by decide)
  obtain ⟨w11, hw11, sz11, b11, row11⟩ := rows_step letc 3 letc_len 31 w10 #[.int .i64 1, .int .i64 1, .slice (some ⟨w7.heap.size, 0, none⟩) 1 1, .int .i64 2, .int .i64 0, .slice (some ⟨w8.heap.size, 0, none⟩) 1 1, .int .i64 3, .int .i64 1, .slice (some ⟨w9.heap.size, 0, none⟩) 1 1] 3 [⟨1, 1, .slice (some ⟨w7.heap.size, 0, none⟩) 1 1, [97]⟩, ⟨2, 0, .slice (some ⟨w8.heap.size, 0, none⟩) 1 1, [98]⟩, ⟨3, 1, .slice (some ⟨w9.heap.size, 0, none⟩) 1 1, [97]⟩] rfl rfl (by simp [maxLen])
  have b711 : Below w7.heap.size w7 w11 := ((b8.trans (b9.mono (by omega))).trans (b10.mono (by omega))).trans (b11.mono (by omega))
  have r2 : RowL w11 (.slice (some ⟨w10.heap.size, 0, none⟩) 3 3) [⟨1, 1, .slice (some ⟨w7.heap.size, 0, none⟩) 1 1, [97]⟩, ⟨2, 0, .slice (some ⟨w8.heap.size, 0, none⟩) 1 1, [98]⟩, ⟨3, 1, .slice (some ⟨w9.heap.size, 0, none⟩) 1 1, [97]⟩] := by
    refine ⟨row11.row, fun r hr => ?_⟩
    simp only [List.mem_cons, List.not_mem_nil, or_false] at hr
    rcases hr with rfl | rfl | rfl
    · exact ((is8.below b9).below b10).below b11
    · exact (is9.below b10).below b11
    · exact is10.below b11
  have X11 := hide (flights_any v7 _ ns _ w11 (c7.rowl.below b711) r2 (by rw [m7]; rfl) (fun r hr => by
    have : r.l ∈ ex3.fl := by rw [← m7]; exact List.mem_map_of_mem hr
    exact (ok3.each _ this).2.2.2) (by have := congrArg List.length m7; simp [ex3] at this; omega))
  have B11 := hide ((B6.out.trans (b7.mono z6)).trans (b711.mono (by have := b7.size; omega)))
  obtain ⟨a7, c7', hv7, _, _⟩ := c7.1.row.shape
  subst hv7
  clear c7 r2 row11 is8 is9 is10 b8 b9 b10 b11 sz8 sz9 sz10 sz11 m7
  go_wp2_with fail
  refine X11.out.mono ?_
  rintro E w12 ⟨rfl, m, rfl⟩
  have B12 := hide (below_drewN B11.out m)
  go_wp2
  go_ret
  exact ⟨rfl, B12.out⟩

end Go.Proofs.Ytadfbmglbaebiaa
