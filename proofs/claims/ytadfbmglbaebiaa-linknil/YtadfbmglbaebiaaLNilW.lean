/- The walk of LinkNil. -/
import Derived.Test.YtadfbmglbaebiaaLnl
import Derived.Deep.RegionHeld3
import Derived.Deep.CutRange
namespace Go.Proofs.Ytadfbmglbaebiaa
open Go.RowKit Go.Shelf
set_option linter.unusedVariables false

theorem Try.enters10 : ∀ args w, (callFunc 10 args).run Try.prog w = .ok (.enter 10 args) w := enters_of Try.func10 (by kernel_rfl) rfl

theorem Try.enters12 : ∀ args w, (callFunc 12 args).run Try.prog w = .ok (.enter 12 args) w := enters_of Try.func12 (by kernel_rfl) rfl

theorem Try.enters11 : ∀ args w, (callFunc 11 args).run Try.prog w = .ok (.enter 11 args) w := enters_of Try.func11 (by kernel_rfl) rfl

/-- What a function's body must come to, where it never panics. -/
def calmQ (Q : Exit → Act → World → Prop) : Exit → Act → World → Prop
  | .panic _, _, _ => False
  | e, a, w => Q e a w

theorem calm_wp {P : Program} {c : Code} {Q : Exit → Act → World → Prop} {a : Act} {w : World} (h : c.wp P (calmQ Q) a w) : c.wp P Q a w :=
  Go.wp_mono h fun e a w hq => by
    cases e <;> first | exact hq | exact hq.elim

/-- One round, the others hidden. -/
theorem rounds_cut {P : Program} {c : Code} {Q : Exit → Act → World → Prop} {n : Nat} {a : Act} {w : World} (h : ∀ R : Act → World → Prop, (∀ a w, Hid (Code.rounds P c Q n a w) → R a w) → c.wp P (Exit.then R Q) a w) : Code.rounds P c Q (n + 1) a w := by
  rw [rounds_succ]
  exact h _ fun a w h => h.out

set_option maxRecDepth 100000 in
set_option maxHeartbeats 16000000 in
theorem linkNil_walk (a : Av) (w : World) (h : LactOk w a) :
    Calls Try.prog 5 #[.agg #[.int .i64 a.k, .int .i64 a.n, a.v]] w fun E w' => E = .returned (.bool true) ∧ Below w.heap.size w w' := by
  obtain ⟨x, xc, hav, _, _⟩ := h.1.shape
  obtain ⟨w1, hw1, sz1, bel1, B1⟩ := blk_step w #[.int .i64 a.k, .int .i64 a.n, a.v] 41
  obtain ⟨w2, hw2, sz2, bel2, B2⟩ := blk_step w1 #[.bool false] 4
  obtain ⟨w3, hw3, sz3, bel3, B3⟩ := blk_step w2 #[.bool false, .int .i64 0, .slice none 0 0] 53
  obtain ⟨w4, hw4, sz4, bel4, B4⟩ := blk_step w3 #[.pointer none, .pointer (some ⟨w.heap.size + 2, 0, none⟩)] 23
  rw [sz1] at B2 bel2
  rw [show w2.heap.size = w.heap.size + 2 by omega] at B3 bel3
  rw [show w3.heap.size = w.heap.size + 3 by omega] at B4 bel4
  have bel04 : Below w.heap.size w w4 := ((bel1.trans (bel2.mono (by omega))).trans (bel3.mono (by omega))).trans (bel4.mono (by omega))
  have zz : w4.heap.size = w.heap.size + 4 := by omega
  have FA : Hid (∀ W, Below w4.heap.size w4 W → (W.cell? ⟨w.heap.size + 3, 0, none⟩ = some (.pointer none) ∧ W.cell? ⟨w.heap.size + 3, 1, none⟩ = some (.pointer (some ⟨w.heap.size + 2, 0, none⟩)) ∧ W.cell? ⟨w.heap.size, 1, none⟩ = some (.int .i64 a.n) ∧ W.cell? ⟨w.heap.size, 2, none⟩ = some (.slice x a.bs.length xc)) ∧ NoL W (.pointer (some ⟨w.heap.size + 2, 0, none⟩)) ∧ W.heap[w.heap.size + 1]? = some (.cells #[.bool false] 4 (0, 0))) := hide fun W hb => by
    have p := (hb.block (w.heap.size + 3) (by omega)).trans B4
    have q := (hb.block w.heap.size (by omega)).trans ((bel4.block _ (by omega)).trans ((bel3.block _ (by omega)).trans ((bel2.block _ (by omega)).trans B1)))
    have r := (hb.block (w.heap.size + 1) (by omega)).trans ((bel4.block _ (by omega)).trans ((bel3.block _ (by omega)).trans B2))
    have s := (hb.block (w.heap.size + 2) (by omega)).trans ((bel4.block _ (by omega)).trans B3)
    rw [hav] at q
    exact ⟨⟨blk_cell p 0 rfl, blk_cell p 1 rfl, blk_cell q 1 rfl, blk_cell q 2 rfl⟩, .inr ⟨_, rfl, blk_cell s 0 rfl⟩, r⟩
  have ZW : Hid (∀ W, Below w4.heap.size w4 W → w4.heap.size ≤ W.heap.size) := hide fun W hb => hb.size
  replace sz2 : w2.heap.size = w.heap.size + 2 := by omega
  replace sz3 : w3.heap.size = w.heap.size + 3 := by omega
  have Z4 := hide zz
  rw [hav] at hw1 ⊢
  clear h B1 B2 B3 B4 hav bel1 bel2 bel3 bel4 sz4 zz
  refine (callsIn_wide (n := 6)).1 ?_
  refine callsIn_of_wp_marks Try.func5 rfl trivial ?_ rfl
  refine wpIn_wide.2 (calm_wp ?_)
  simp only [Try.ntmps5, List.size_toArray, List.length_cons, List.length_nil, Nat.reduceAdd, Nat.reduceSub, Array.replicate_succ, Array.replicate_zero, List.push_toArray, List.append_toArray, List.nil_append, List.cons_append]
  go_wp2
  refine wp_loop_rounds 3 ?_
  have WB0 : Hid (Below w4.heap.size w4 w4) := hide (Below.refl _ _)
  have NO0 : Hid (∀ W, Below w4.heap.size w4 W → NoL W (.pointer none)) := hide (fun W hb => .inl rfl)
  obtain ⟨c0, c1, c2, c3⟩ := (FA.out w4 WB0.out).1
  refine rounds_cut fun R0 hR0 => ?_
  go_wp2_with fail
  go_quiet ((go_at_call 10; refine Calls.quiet_of ((lsendN _ a.n _ _ (NO0.out _ (below_drewN WB0.out _))).mono (by rintro E w1 ⟨rfl, rfl⟩; exact ⟨rfl, 0, rfl⟩))))
  obtain ⟨w50, hw5⟩ : ∃ w5, w4.drewN nq = w5 := ⟨_, rfl⟩
  have b5 : Below w4.heap.size w4 w50 := by rw [← hw5]; exact below_drewN (Below.refl _ _) _
  rw [hw5]
  have WB50 : Hid (Below w4.heap.size w4 w50) := hide (WB0.out.trans (b5.mono (ZW.out _ WB0.out)))
  have b50 := hide b5
  clear c0 c1 c2 c3 b5 hw5
  obtain ⟨c0, c1, c2, c3⟩ := (FA.out w50 WB50.out).1
  obtain ⟨Va, hVa, szVa, belVa, bVa⟩ := blk_step w50 #[.int .i64 0, .int .i64 0, .slice none 0 0] 31
  have DA : Hid (Calls Try.prog 12 #[.pointer none, .int .i64 a.n] w50.drew fun E w' => ∃ u, E = .returned u ∧ (u = .tuple #[.agg #[.int .i64 0, .int .i64 0, .slice none 0 0], .int .i64 1] ∧ Below w50.heap.size w50 w')) := hide (by
    have bd : Below w50.heap.size w50 w50.drew := below_drewN (Below.refl _ _) 1
    refine (ldelN _ a.n w50.drew (NO0.out _ (WB50.out.trans (bd.mono (ZW.out _ WB50.out))))).mono ?_
    rintro E w' ⟨rfl, b⟩
    exact ⟨_, rfl, rfl, bd.trans b⟩)
  have DB : Hid (Calls Try.prog 12 #[.pointer none, .int .i64 a.n] Va.drew fun E w' => ∃ u, E = .returned u ∧ (u = .tuple #[.agg #[.int .i64 0, .int .i64 0, .slice none 0 0], .int .i64 1] ∧ Below w50.heap.size w50 w' ∧ w'.heap[w50.heap.size]? = some (.cells #[.int .i64 0, .int .i64 0, .slice none 0 0] 31 (0, 0)))) := hide (by
    have bd : Below w50.heap.size w50 Va.drew := belVa.trans ((below_drewN (Below.refl Va.heap.size Va) 1).mono (by omega))
    refine (ldelN _ a.n Va.drew (NO0.out _ (WB50.out.trans (bd.mono (ZW.out _ WB50.out))))).mono ?_
    rintro E w' ⟨rfl, b⟩
    have sd : Va.drew.heap.size = Va.heap.size := rfl
    exact ⟨_, rfl, rfl, bd.trans (b.mono (by omega)), (b.block w50.heap.size (by omega)).trans bVa⟩)
  obtain ⟨d0, d1, d2, d3⟩ := (FA.out Va (WB50.out.trans (belVa.mono (ZW.out _ WB50.out)))).1
  have ZA : Hid (w50.heap.size ≤ Va.heap.size) := hide (by omega)
  clear bVa belVa szVa
  go_upto_region 6 with fail
  go_cut [7, 8] from 33 to 42 (fun v7 v8 wx => ∃ X, v7 = .pointer (some ⟨X, 0, none⟩) ∧ v8 = .int .i64 1 ∧ wx.heap[X]? = some (.cells #[.int .i64 0, .int .i64 0, .slice none 0 0] 31 (0, 0)) ∧ Below w50.heap.size w50 wx)
  case first =>
    go_region_law (first
      | (refine call_at rfl 12 #[.tmp 37, .tmp 39] #[23, 3] rfl Try.enters12 #[.pointer none, .int .i64 a.n] (by first | (simp [Act.eval]; done) | (simp [Act.eval, Act.put]; done)) DA.out ?_; rintro _ w6 ⟨rfl, b6⟩; obtain ⟨V, hV, szV, belV, bV⟩ := blk_step w6 #[.int .i64 0, .int .i64 0, .slice none 0 0] 31; obtain ⟨V6, hV6, bV6, gV6, ⟨a0, a1, a2⟩, ⟨f0, f1, f2⟩, z012⟩ := res_step bV (.int .i64 0) (.int .i64 0) (.slice none 0 0); have bA := hide (below_put (b6.trans (belV.mono b6.size)) gV6 b6.size (by have := b6.size; omega)); have HX := hide bV6; clear bV bV6 gV6 belV szV z012)
      | (refine call_at rfl 12 #[.tmp 37, .tmp 39] #[23, 3] rfl Try.enters12 #[.pointer none, .int .i64 a.n] (by first | (simp [Act.eval]; done) | (simp [Act.eval, Act.put]; done)) DB.out ?_; rintro _ w6 ⟨rfl, b6, q6⟩; obtain ⟨V6, hV6, bV6, gV6, ⟨a0, a1, a2⟩, ⟨f0, f1, f2⟩, z012⟩ := res_step q6 (.int .i64 0) (.int .i64 0) (.slice none 0 0); have bB := hide (below_put b6 gV6 (Nat.le_refl _) b6.size); have HX := hide bV6; clear bV6 gV6 q6 z012))
    all_goals
      go_wp2_with fail
      go_meet
      first
        | exact ⟨w6.heap.size, rfl, rfl, HX.out, bA.out⟩
        | exact ⟨w50.heap.size, rfl, rfl, HX.out, bB.out⟩
  case rest =>
    obtain ⟨X, rfl, rfl, hX, b6⟩ := hcut
    obtain ⟨V6, hV6⟩ : ∃ V6, wc = V6 := ⟨_, rfl⟩
    rw [hV6] at hX b6 ⊢
    have HX := hide hX
    have b6x := hide b6
    have WB6 : Hid (Below w4.heap.size w4 V6) := hide (WB50.out.trans (b6x.out.mono (ZW.out _ WB50.out)))
    clear c0 c1 c2 c3 d0 d1 d2 d3 hV6 hVa DA DB hX b6
    obtain ⟨c0, c1, c2, c3⟩ := (FA.out V6 WB6.out).1
    go_wp2_with fail
    go_quiet ((go_at_call 11; refine Calls.quiet_of ((ltwiceN _ a.n _ (NO0.out _ (below_drewN WB6.out _))).mono (by rintro E w1 ⟨rfl, rfl⟩; exact ⟨rfl, 0, rfl⟩))))
    obtain ⟨w7, hw7⟩ : ∃ w7, V6.drewN nq = w7 := ⟨_, rfl⟩
    have b7 : Below V6.heap.size V6 w7 := by rw [← hw7]; exact below_drewN (Below.refl _ _) _
    rw [hw7]
    have WB7 : Hid (Below w4.heap.size w4 w7) := hide (WB6.out.trans (b7.mono (ZW.out _ WB6.out)))
    have hX7 := (b7.block X (blk_lt HX.out)).trans HX.out
    have B57 : Hid (Below w4.heap.size w4 w7) := hide (b50.out.trans ((b6x.out.trans (b7.mono b6x.out.size)).mono b50.out.size))
    have z0 := blk_cell hX7 0 rfl
    have z2 := blk_cell hX7 2 rfl
    have HX7 := hide hX7
    have hXl := blk_lt hX7
    clear c0 c1 c2 c3 HX b7 hX7 hw7
    obtain ⟨c0, c1, c2, c3⟩ := (FA.out w7 WB7.out).1
    have SK : Hid (∀ w', Below w7.heap.size w7 w' → w'.cell? ⟨w.heap.size + 3, 0, none⟩ = some (.pointer none) ∧ w'.cell? ⟨w.heap.size, 1, none⟩ = some (.int .i64 a.n) ∧ w'.cell? ⟨X, 0, none⟩ = some (.int .i64 0) ∧ w'.cell? ⟨X, 2, none⟩ = some (.slice none 0 0)) := hide fun w' hb => by
      obtain ⟨e0, e1, e2, e3⟩ := (FA.out w' (WB7.out.trans (hb.mono (ZW.out _ WB7.out)))).1
      have q := (hb.block X hXl).trans HX7.out
      exact ⟨e0, e2, blk_cell q 0 rfl, blk_cell q 2 rfl⟩
    have DR : Hid (Calls Try.prog 13 #[.pointer none, .int .i64 a.n] w7.drew fun E w' => E = .returned (.int .i64 1) ∧ (Below w7.heap.size w7 w' ∧ (w'.cell? ⟨w.heap.size + 3, 0, none⟩ = some (.pointer none) ∧ w'.cell? ⟨w.heap.size, 1, none⟩ = some (.int .i64 a.n) ∧ w'.cell? ⟨X, 0, none⟩ = some (.int .i64 0) ∧ w'.cell? ⟨X, 2, none⟩ = some (.slice none 0 0)))) := hide (by
      have bd : Below w7.heap.size w7 w7.drew := below_drewN (Below.refl _ _) 1
      refine (ldropN _ a.n w7.drew (NO0.out _ (WB7.out.trans (bd.mono (ZW.out _ WB7.out))))).mono ?_
      rintro E w' ⟨rfl, b⟩
      exact ⟨rfl, bd.trans b, SK.out _ (bd.trans b)⟩)
    have FL : Hid (∀ y, Below w7.heap.size w7 y → Calls Try.prog 20 #[.pointer none] y fun E w' => E = .returned (.slice none 0 0) ∧ (Below w7.heap.size w7 w' ∧ (w'.cell? ⟨w.heap.size + 3, 0, none⟩ = some (.pointer none) ∧ w'.cell? ⟨w.heap.size, 1, none⟩ = some (.int .i64 a.n) ∧ w'.cell? ⟨X, 0, none⟩ = some (.int .i64 0) ∧ w'.cell? ⟨X, 2, none⟩ = some (.slice none 0 0)))) := hide (fun y hy => by
      refine (lflightN _ y (NO0.out _ (WB7.out.trans (hy.mono (ZW.out _ WB7.out))))).mono ?_
      rintro E w' ⟨rfl, rfl⟩
      exact ⟨rfl, hy, SK.out _ hy⟩)
    go_wp2_with fail
    go_region_held3 (fun w' => w'.cell? ⟨w.heap.size + 3, 0, none⟩ = some (.pointer none) ∧ w'.cell? ⟨w.heap.size, 1, none⟩ = some (.int .i64 a.n) ∧ w'.cell? ⟨X, 0, none⟩ = some (.int .i64 0) ∧ w'.cell? ⟨X, 2, none⟩ = some (.slice none 0 0)) (first | exact ⟨c0, c2, z0, z2⟩ | exact Y8.out | exact Y9.out | go_keep)
      (first
      | (have hp := S8; go_at_call 20; refine (FL.out y8 S8.out).mono ?_; rintro E y9 ⟨rfl, S9', Y9'⟩; have S9 := hide S9'; have Y9 := hide Y9'; clear S9' Y9')
      | (go_at_call 13; refine DR.out.mono ?_; rintro E y8 ⟨rfl, S8', Y8'⟩; have S8 := hide S8'; have Y8 := hide Y8'; clear S8' Y8'))
    have B59 : Hid (Below w4.heap.size w4 y9) := hide (B57.out.trans (S9.out.mono B57.out.size))
    have WB9 : Hid (Below w4.heap.size w4 y9) := hide (WB0.out.trans (B59.out.mono (ZW.out _ WB0.out)))
    clear c0 c1 c2 c3 z0 z2 DR FL SK Y8 Y9 S8 S9 HX7
    obtain ⟨c0, c1, c2, c3⟩ := (FA.out y9 WB9.out).1
    have AL := hide (lallN (.pointer none) y9 (NO0.out _ WB9.out))
    go_wp2_with fail
    refine AL.out.mono ?_
    rintro E W00 ⟨B, rfl, sq, b10⟩
    have B510 : Hid (Below w4.heap.size w4 W00) := hide (B59.out.trans (b10.mono B59.out.size))
    have HSQ := hide sq
    have hq := Try.eqnilF W00 (.func 43) #[] #[.pointer (some ⟨B, 0, none⟩)]
    clear c0 c1 c2 c3 AL sq b10
    go_wp2_with fail
    refine (wpIn_wide (n := 6)).1 ?_
    refine wpIn_rangeFunc_ownF rfl (by omega) (gf := 43) (lb := #[.pointer (some ⟨B, 0, none⟩)]) rfl trivial (enters_of Try.func43 (by kernel_rfl) rfl) (all_seq 5 (by omega) B y9.heap.size [] W00 HSQ.out (by simp)) Kn.trans (kn_b (fun g hg => (HSQ.out.lt g hg).2)) (Below.refl _ _) (fun _ => rfl)
      (fun _ W => Below W00.heap.size W00 W) (fun _ _ _ => False) (fun s A B row hs hg hr => hs.grown hg hs.size fun k e => (hr k e).1) (fun _ _ _ _ _ hs _ _ => hs) (Below.refl _ _) (fun x => absurd x.2 (Nat.not_lt_zero _)) ?assign0 ?body0 ?done0 ?stop0
    case assign0 => exact fun l x => absurd x.2 (Nat.not_lt_zero _)
    case body0 => exact fun l pre x => absurd x.2 (Nat.not_lt_zero _)
    case stop0 =>
      rintro D c pre W _ _ h _
      exact h.elim
    case done0 =>
      rintro D0 xs W1 hD _ bI hK0
      have BR0 : Hid (Below w4.heap.size w4 W1) := hide (B510.out.trans (bI.mono B510.out.size))
      have WB1 : Hid (Below w4.heap.size w4 W1) := hide (WB0.out.trans (BR0.out.mono (ZW.out _ WB0.out)))
      have DK0 := hide hK0
      have DL0 : Hid (w4.heap.size ≤ D0) := hide (by have := B510.out.size; omega)
      clear hK0 bI hD B510 HSQ B59 WB9 B57 WB7 b6x WB6 ZA b50 WB50 NO0
      go_wp2
      refine hide ?_
      have NO1 : Hid (∀ W, Below w4.heap.size w4 W → NoL W (.pointer (some ⟨w.heap.size + 2, 0, none⟩))) := hide (fun W hb => (FA.out W hb).2.1)
      obtain ⟨c0, c1, c2, c3⟩ := (FA.out W1 WB1.out).1
      refine rounds_cut fun R1 hR1 => ?_
      go_wp2_with fail
      go_quiet ((go_at_call 10; refine Calls.quiet_of ((lsendN _ a.n _ _ (NO1.out _ (below_drewN WB1.out _))).mono (by rintro E w1 ⟨rfl, rfl⟩; exact ⟨rfl, 0, rfl⟩))))
      obtain ⟨w51, hw5⟩ : ∃ w5, W1.drewN nq = w5 := ⟨_, rfl⟩
      have b5 : Below W1.heap.size W1 w51 := by rw [← hw5]; exact below_drewN (Below.refl _ _) _
      rw [hw5]
      have WB51 : Hid (Below w4.heap.size w4 w51) := hide (WB1.out.trans (b5.mono (ZW.out _ WB1.out)))
      have b51 := hide b5
      clear c0 c1 c2 c3 b5 hw5
      obtain ⟨c0, c1, c2, c3⟩ := (FA.out w51 WB51.out).1
      obtain ⟨Va, hVa, szVa, belVa, bVa⟩ := blk_step w51 #[.int .i64 0, .int .i64 0, .slice none 0 0] 31
      have DA : Hid (Calls Try.prog 12 #[.pointer (some ⟨w.heap.size + 2, 0, none⟩), .int .i64 a.n] w51.drew fun E w' => ∃ u, E = .returned u ∧ (u = .tuple #[.agg #[.int .i64 0, .int .i64 0, .slice none 0 0], .int .i64 1] ∧ Below w51.heap.size w51 w')) := hide (by
        have bd : Below w51.heap.size w51 w51.drew := below_drewN (Below.refl _ _) 1
        refine (ldelN _ a.n w51.drew (NO1.out _ (WB51.out.trans (bd.mono (ZW.out _ WB51.out))))).mono ?_
        rintro E w' ⟨rfl, b⟩
        exact ⟨_, rfl, rfl, bd.trans b⟩)
      have DB : Hid (Calls Try.prog 12 #[.pointer (some ⟨w.heap.size + 2, 0, none⟩), .int .i64 a.n] Va.drew fun E w' => ∃ u, E = .returned u ∧ (u = .tuple #[.agg #[.int .i64 0, .int .i64 0, .slice none 0 0], .int .i64 1] ∧ Below w51.heap.size w51 w' ∧ w'.heap[w51.heap.size]? = some (.cells #[.int .i64 0, .int .i64 0, .slice none 0 0] 31 (0, 0)))) := hide (by
        have bd : Below w51.heap.size w51 Va.drew := belVa.trans ((below_drewN (Below.refl Va.heap.size Va) 1).mono (by omega))
        refine (ldelN _ a.n Va.drew (NO1.out _ (WB51.out.trans (bd.mono (ZW.out _ WB51.out))))).mono ?_
        rintro E w' ⟨rfl, b⟩
        have sd : Va.drew.heap.size = Va.heap.size := rfl
        exact ⟨_, rfl, rfl, bd.trans (b.mono (by omega)), (b.block w51.heap.size (by omega)).trans bVa⟩)
      obtain ⟨d0, d1, d2, d3⟩ := (FA.out Va (WB51.out.trans (belVa.mono (ZW.out _ WB51.out)))).1
      have ZA : Hid (w51.heap.size ≤ Va.heap.size) := hide (by omega)
      clear bVa belVa szVa
      go_upto_region 6 with fail
      go_cut [7, 8] from 33 to 42 (fun v7 v8 wx => ∃ X, v7 = .pointer (some ⟨X, 0, none⟩) ∧ v8 = .int .i64 1 ∧ wx.heap[X]? = some (.cells #[.int .i64 0, .int .i64 0, .slice none 0 0] 31 (0, 0)) ∧ Below w51.heap.size w51 wx)
      case first =>
        go_region_law (first
          | (refine call_at rfl 12 #[.tmp 37, .tmp 39] #[23, 3] rfl Try.enters12 #[.pointer (some ⟨w.heap.size + 2, 0, none⟩), .int .i64 a.n] (by first | (simp [Act.eval]; done) | (simp [Act.eval, Act.put]; done)) DA.out ?_; rintro _ w6 ⟨rfl, b6⟩; obtain ⟨V, hV, szV, belV, bV⟩ := blk_step w6 #[.int .i64 0, .int .i64 0, .slice none 0 0] 31; obtain ⟨V6, hV6, bV6, gV6, ⟨a0, a1, a2⟩, ⟨f0, f1, f2⟩, z012⟩ := res_step bV (.int .i64 0) (.int .i64 0) (.slice none 0 0); have bA := hide (below_put (b6.trans (belV.mono b6.size)) gV6 b6.size (by have := b6.size; omega)); have HX := hide bV6; clear bV bV6 gV6 belV szV z012)
          | (refine call_at rfl 12 #[.tmp 37, .tmp 39] #[23, 3] rfl Try.enters12 #[.pointer (some ⟨w.heap.size + 2, 0, none⟩), .int .i64 a.n] (by first | (simp [Act.eval]; done) | (simp [Act.eval, Act.put]; done)) DB.out ?_; rintro _ w6 ⟨rfl, b6, q6⟩; obtain ⟨V6, hV6, bV6, gV6, ⟨a0, a1, a2⟩, ⟨f0, f1, f2⟩, z012⟩ := res_step q6 (.int .i64 0) (.int .i64 0) (.slice none 0 0); have bB := hide (below_put b6 gV6 (Nat.le_refl _) b6.size); have HX := hide bV6; clear bV6 gV6 q6 z012))
        all_goals
          go_wp2_with fail
          go_meet
          first
            | exact ⟨w6.heap.size, rfl, rfl, HX.out, bA.out⟩
            | exact ⟨w51.heap.size, rfl, rfl, HX.out, bB.out⟩
      case rest =>
        obtain ⟨X, rfl, rfl, hX, b6⟩ := hcut
        obtain ⟨V6, hV6⟩ : ∃ V6, wc = V6 := ⟨_, rfl⟩
        rw [hV6] at hX b6 ⊢
        have HX := hide hX
        have b6x := hide b6
        have WB6 : Hid (Below w4.heap.size w4 V6) := hide (WB51.out.trans (b6x.out.mono (ZW.out _ WB51.out)))
        clear c0 c1 c2 c3 d0 d1 d2 d3 hV6 hVa DA DB hX b6
        obtain ⟨c0, c1, c2, c3⟩ := (FA.out V6 WB6.out).1
        go_wp2_with fail
        go_quiet ((go_at_call 11; refine Calls.quiet_of ((ltwiceN _ a.n _ (NO1.out _ (below_drewN WB6.out _))).mono (by rintro E w1 ⟨rfl, rfl⟩; exact ⟨rfl, 0, rfl⟩))))
        obtain ⟨w7, hw7⟩ : ∃ w7, V6.drewN nq = w7 := ⟨_, rfl⟩
        have b7 : Below V6.heap.size V6 w7 := by rw [← hw7]; exact below_drewN (Below.refl _ _) _
        rw [hw7]
        have WB7 : Hid (Below w4.heap.size w4 w7) := hide (WB6.out.trans (b7.mono (ZW.out _ WB6.out)))
        have hX7 := (b7.block X (blk_lt HX.out)).trans HX.out
        have B57 : Hid (Below W1.heap.size W1 w7) := hide (b51.out.trans ((b6x.out.trans (b7.mono b6x.out.size)).mono b51.out.size))
        have z0 := blk_cell hX7 0 rfl
        have z2 := blk_cell hX7 2 rfl
        have HX7 := hide hX7
        have hXl := blk_lt hX7
        clear c0 c1 c2 c3 HX b7 hX7 hw7
        obtain ⟨c0, c1, c2, c3⟩ := (FA.out w7 WB7.out).1
        have SK : Hid (∀ w', Below w7.heap.size w7 w' → w'.cell? ⟨w.heap.size + 3, 1, none⟩ = some (.pointer (some ⟨w.heap.size + 2, 0, none⟩)) ∧ w'.cell? ⟨w.heap.size, 1, none⟩ = some (.int .i64 a.n) ∧ w'.cell? ⟨X, 0, none⟩ = some (.int .i64 0) ∧ w'.cell? ⟨X, 2, none⟩ = some (.slice none 0 0)) := hide fun w' hb => by
          obtain ⟨e0, e1, e2, e3⟩ := (FA.out w' (WB7.out.trans (hb.mono (ZW.out _ WB7.out)))).1
          have q := (hb.block X hXl).trans HX7.out
          exact ⟨e1, e2, blk_cell q 0 rfl, blk_cell q 2 rfl⟩
        have DR : Hid (Calls Try.prog 13 #[.pointer (some ⟨w.heap.size + 2, 0, none⟩), .int .i64 a.n] w7.drew fun E w' => E = .returned (.int .i64 1) ∧ (Below w7.heap.size w7 w' ∧ (w'.cell? ⟨w.heap.size + 3, 1, none⟩ = some (.pointer (some ⟨w.heap.size + 2, 0, none⟩)) ∧ w'.cell? ⟨w.heap.size, 1, none⟩ = some (.int .i64 a.n) ∧ w'.cell? ⟨X, 0, none⟩ = some (.int .i64 0) ∧ w'.cell? ⟨X, 2, none⟩ = some (.slice none 0 0)))) := hide (by
          have bd : Below w7.heap.size w7 w7.drew := below_drewN (Below.refl _ _) 1
          refine (ldropN _ a.n w7.drew (NO1.out _ (WB7.out.trans (bd.mono (ZW.out _ WB7.out))))).mono ?_
          rintro E w' ⟨rfl, b⟩
          exact ⟨rfl, bd.trans b, SK.out _ (bd.trans b)⟩)
        have FL : Hid (∀ y, Below w7.heap.size w7 y → Calls Try.prog 20 #[.pointer (some ⟨w.heap.size + 2, 0, none⟩)] y fun E w' => E = .returned (.slice none 0 0) ∧ (Below w7.heap.size w7 w' ∧ (w'.cell? ⟨w.heap.size + 3, 1, none⟩ = some (.pointer (some ⟨w.heap.size + 2, 0, none⟩)) ∧ w'.cell? ⟨w.heap.size, 1, none⟩ = some (.int .i64 a.n) ∧ w'.cell? ⟨X, 0, none⟩ = some (.int .i64 0) ∧ w'.cell? ⟨X, 2, none⟩ = some (.slice none 0 0)))) := hide (fun y hy => by
          refine (lflightN _ y (NO1.out _ (WB7.out.trans (hy.mono (ZW.out _ WB7.out))))).mono ?_
          rintro E w' ⟨rfl, rfl⟩
          exact ⟨rfl, hy, SK.out _ hy⟩)
        go_wp2_with fail
        go_region_held3 (fun w' => w'.cell? ⟨w.heap.size + 3, 1, none⟩ = some (.pointer (some ⟨w.heap.size + 2, 0, none⟩)) ∧ w'.cell? ⟨w.heap.size, 1, none⟩ = some (.int .i64 a.n) ∧ w'.cell? ⟨X, 0, none⟩ = some (.int .i64 0) ∧ w'.cell? ⟨X, 2, none⟩ = some (.slice none 0 0)) (first | exact ⟨c1, c2, z0, z2⟩ | exact Y8.out | exact Y9.out | go_keep)
          (first
          | (have hp := S8; go_at_call 20; refine (FL.out y8 S8.out).mono ?_; rintro E y9 ⟨rfl, S9', Y9'⟩; have S9 := hide S9'; have Y9 := hide Y9'; clear S9' Y9')
          | (go_at_call 13; refine DR.out.mono ?_; rintro E y8 ⟨rfl, S8', Y8'⟩; have S8 := hide S8'; have Y8 := hide Y8'; clear S8' Y8'))
        have B59 : Hid (Below W1.heap.size W1 y9) := hide (B57.out.trans (S9.out.mono B57.out.size))
        have WB9 : Hid (Below w4.heap.size w4 y9) := hide (WB1.out.trans (B59.out.mono (ZW.out _ WB1.out)))
        clear c0 c1 c2 c3 z0 z2 DR FL SK Y8 Y9 S8 S9 HX7
        obtain ⟨c0, c1, c2, c3⟩ := (FA.out y9 WB9.out).1
        have AL := hide (lallN (.pointer (some ⟨w.heap.size + 2, 0, none⟩)) y9 (NO1.out _ WB9.out))
        go_wp2_with fail
        refine AL.out.mono ?_
        rintro E W10 ⟨B, rfl, sq, b10⟩
        have B510 : Hid (Below W1.heap.size W1 W10) := hide (B59.out.trans (b10.mono B59.out.size))
        have HSQ := hide sq
        have hq := Try.eqnilF W10 (.func 43) #[] #[.pointer (some ⟨B, 0, none⟩)]
        clear c0 c1 c2 c3 AL sq b10
        go_wp2_with fail
        refine (wpIn_wide (n := 6)).1 ?_
        refine wpIn_rangeFunc_ownF rfl (by omega) (gf := 43) (lb := #[.pointer (some ⟨B, 0, none⟩)]) rfl trivial (enters_of Try.func43 (by kernel_rfl) rfl) (all_seq 5 (by omega) B y9.heap.size [] W10 HSQ.out (by simp)) Kn.trans (kn_b (fun g hg => (HSQ.out.lt g hg).2)) (Below.refl _ _) (fun _ => rfl)
          (fun _ W => Below W10.heap.size W10 W) (fun _ _ _ => False) (fun s A B row hs hg hr => hs.grown hg hs.size fun k e => (hr k e).1) (fun _ _ _ _ _ hs _ _ => hs) (Below.refl _ _) (fun x => absurd x.2 (Nat.not_lt_zero _)) ?assign1 ?body1 ?done1 ?stop1
        case assign1 => exact fun l x => absurd x.2 (Nat.not_lt_zero _)
        case body1 => exact fun l pre x => absurd x.2 (Nat.not_lt_zero _)
        case stop1 =>
          rintro D c pre W _ _ h _
          exact h.elim
        case done1 =>
          rintro D1 xs W2 hD _ bI hK1
          have BR1 : Hid (Below W1.heap.size W1 W2) := hide (B510.out.trans (bI.mono B510.out.size))
          have WB2 : Hid (Below w4.heap.size w4 W2) := hide (WB1.out.trans (BR1.out.mono (ZW.out _ WB1.out)))
          have DK1 := hide hK1
          have DL1 : Hid (W1.heap.size ≤ D1) := hide (by have := B510.out.size; omega)
          clear hK1 bI hD B510 HSQ B59 WB9 B57 WB7 b6x WB6 ZA b51 WB51 NO1
          go_wp2
          refine hide ?_
          obtain ⟨c0, c1, c2, c3⟩ := (FA.out W2 WB2.out).1
          refine rounds_cut fun R2 hR2 => ?_
          go_wp2_with fail
          refine (lives_any W2).mono ?_
          rintro E w9 ⟨rfl, b9⟩
          have WB9 : Below w4.heap.size w4 w9 := WB2.out.trans (b9.mono (ZW.out _ WB2.out))
          have r9 := (FA.out w9 WB9).2.2
          have e9 := blk_cell r9 0 rfl
          have f9 := blk_froz r9 0
          have z4 := Z4.out
          have d0 := DL0.out
          have d1 := DL1.out
          have s1 := ZW.out _ WB1.out
          have k1 : w9.heap[D1]? = some (.deferred (some [])) := (b9.block D1 (Array.getElem?_eq_some_iff.1 DK1.out).1).trans DK1.out
          have k0 : w9.heap[D0]? = some (.deferred (some [])) := (b9.block D0 (Nat.lt_of_lt_of_le (Array.getElem?_eq_some_iff.1 DK0.out).1 BR1.out.size)).trans ((BR1.out.block D0 (Array.getElem?_eq_some_iff.1 DK0.out).1).trans DK0.out)
          have hne : D0 ≠ D1 := by
            have := (Array.getElem?_eq_some_iff.1 DK0.out).1
            omega
          have l0 := (Array.getElem?_eq_some_iff.1 k0).1
          have l1 := (Array.getElem?_eq_some_iff.1 k1).1
          have B0 : Hid (Below w.heap.size w w9) := hide (bel04.trans (WB9.mono (by omega)))
          have K0 := hide k0
          have K1 := hide k1
          have HR9 := hide r9
          clear c0 c1 c2 c3 k0 k1 r9 b9 WB9
          go_wp2
          have t1 : (w9.setCell ⟨w.heap.size + 1, 0, none⟩ (.bool true)).heap[D1]? = some (.deferred (some [])) := (Below.heap_setCell w9 ⟨w.heap.size + 1, 0, none⟩ _ D1 (by show D1 ≠ w.heap.size + 1; omega)).trans K1.out
          have t0 : ((w9.setCell ⟨w.heap.size + 1, 0, none⟩ (.bool true)).putObj D1 (.deferred none)).heap[D0]? = some (.deferred (some [])) := (World.putObj_heap_other hne).trans ((Below.heap_setCell w9 ⟨w.heap.size + 1, 0, none⟩ _ D0 (by show D0 ≠ w.heap.size + 1; omega)).trans K0.out)
          refine ⟨by simp, .inl ⟨_, _, rfl, run_takeDeferred t1, ?_⟩⟩
          refine ⟨by simp, .inl ⟨_, _, rfl, run_takeDeferred t0, ?_⟩⟩
          have g1 := grown_setCell w9 ⟨w.heap.size + 1, 0, none⟩ (.bool true)
          have g2 := grownBy_putObj' (w9.setCell ⟨w.heap.size + 1, 0, none⟩ (.bool true)) D1 (.deferred none)
          have g3 := grownBy_putObj' ((w9.setCell ⟨w.heap.size + 1, 0, none⟩ (.bool true)).putObj D1 (.deferred none)) D0 (.deferred none)
          have c9 := set_cells HR9.out 0 (.bool true)
          have q9 := (g2.block (w.heap.size + 1) (by have := g1.size; omega) (by simp; omega)).trans c9
          have p9 := (g3.block (w.heap.size + 1) (by have := g1.size; have := g2.size; omega) (by simp; omega)).trans q9
          have u9 := blk_cell p9 0 rfl
          refine ⟨.bool true, ?_, rfl, ?_⟩
          · simp [results, Try.results5, go_sem, u9]
          · have z9 := B0.out.size
            have s1' := g1.size
            have s2' := g2.size
            exact ((B0.out.grown g1 z9 fun k e => by simp at e; omega).grown g2 (by omega) fun k e => by simp at e; omega).grown g3 (by omega) fun k e => by simp at e; omega

end Go.Proofs.Ytadfbmglbaebiaa
