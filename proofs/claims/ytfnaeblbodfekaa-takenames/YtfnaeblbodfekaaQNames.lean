/- Proved: the worked examples of the chapter on taking ships come out as they are written (TakeNames). A closed statement; no conditions. -/
import Derived.Test.YtfnaeblbodfekaaGN
import Derived.Test.YtfnaeblbodfekaaRows
import Derived.ProofKit
import Derived.OpenShut
import Derived.ShutString
import Derived.ChangeOld
import Derived.Below
import Derived.SizedLaws
/- TakeNames: the walk. -/
namespace Go.Proofs.Ytfnaeblbodfekaa
open Go.RowKit
set_option linter.unusedVariables false

theorem nm_1 : Tak.tkE 0 3 (mkl 1 [1, 1, 3]) ⟨2, 3, 0, 0, [], 4, 3, []⟩ = 0 ∧ Tak.tk 0 3 (mkl 1 [1, 1, 3]) ⟨2, 3, 0, 0, [], 4, 3, []⟩ = [] := ⟨by rfl, by rfl⟩
theorem nm_2 : Tak.tkE 0 3 (mkl 1 [1, 1, 3]) ⟨2, 3, 0, 0, [], 5, 3, []⟩ = 13 ∧ Tak.tk 0 3 (mkl 1 [1, 1, 3]) ⟨2, 3, 0, 0, [], 5, 3, []⟩ = [] := ⟨by rfl, by rfl⟩
theorem nm_3 : Tak.tkE 0 3 (mkl 1 [1, 1, 3]) ⟨2, 3, 0, 0, [], 4, 2, []⟩ = 14 ∧ Tak.tk 0 3 (mkl 1 [1, 1, 3]) ⟨2, 3, 0, 0, [], 4, 2, []⟩ = [] := ⟨by rfl, by rfl⟩
theorem nm_4 : Tak.tkE 0 3 (mkl 1 [1, 1, 3]) ⟨2, 3, 0, 0, [], 2, 1, mkl 2 [3]⟩ = 14 ∧ Tak.tk 0 3 (mkl 1 [1, 1, 3]) ⟨2, 3, 0, 0, [], 2, 1, mkl 2 [3]⟩ = [] := ⟨by rfl, by rfl⟩
theorem nm_5 : Tak.tkE 0 4 (mkl 1 [1, 1, 3]) ⟨2, 3, 0, 0, [], 4, 3, []⟩ = 12 ∧ Tak.tk 0 4 (mkl 1 [1, 1, 3]) ⟨2, 3, 0, 0, [], 4, 3, []⟩ = [] := ⟨by rfl, by rfl⟩
theorem nm_6 : Tak.tkE 0 2 (mkl 1 [1, 1, 3]) ⟨2, 3, 0, 0, [], 4, 3, []⟩ = 2 ∧ Tak.tk 0 2 (mkl 1 [1, 1, 3]) ⟨2, 3, 0, 0, [], 4, 3, []⟩ = [] := ⟨by rfl, by rfl⟩

theorem nm_ok {f p : Int} (h2 : 1 ≤ f ∧ f ≤ 1048576) (h3 : 0 ≤ p ∧ p ≤ 3) (h4 : p = 0 ↔ f = 1) : Mm.Ok ⟨2, 3, 0, 0, [], f, p, []⟩ := ship_ok (by omega) h2 h3 h4 (by simp) (fun c hc => by simp at hc) trivial
theorem nm_ok4 : Mm.Ok ⟨2, 3, 0, 0, [], 2, 1, mkl 2 [3]⟩ := ship_ok (by omega) (by omega) (by omega) (by omega) (by decide) (fun c hc => by
  simp only [mkl, List.mem_cons, List.not_mem_nil, or_false] at hc
  rcases hc with rfl
  simp) ⟨rfl, rfl, by simp, trivial⟩

theorem own_any (e f p g : Int) (w w0 : World) (a : Option Addr) (k : Nat) (rs : List Cw) (l : List Cm.Cv) (h : Tkd w0 w a k rs l) (hl : l.length ≤ 1000) (he : In64 e) (hf : In64 f) (hp : In64 p) (hok : Mm.Ok ⟨2, 3, 0, 0, [], f, p, []⟩) (hx : Tak.tkE 0 e l ⟨2, 3, 0, 0, [], f, p, []⟩ = g ∧ Tak.tk 0 e l ⟨2, 3, 0, 0, [], f, p, []⟩ = []) :
    Calls Try.prog 8 #[.int .i64 e, .slice a l.length k, .agg #[.int .i64 2, .int .i64 3, .int .u8 0, .int .i64 0, .slice none 0 0, .int .i64 f, .int .i64 p, .slice none 0 0]] w (TkR w g []) := by
  have := take_own e w w0 w a k rs l h hl 3 f p (.slice none 0 0) [] [] w.heap.size (ShS.nil _ _) rfl he (by simp [In64]) hf hp (by simp) hok
  rw [hx.1, hx.2] at this
  exact this

theorem known_ack (k n : Int) (w : World) (hk : In64 k) (hn : 0 ≤ n ∧ n ≤ 1048576) :
    Calls Try.prog 10 #[.int .i64 3, .int .i64 k, .agg #[.int .i64 3, .int .i64 3, .int .u8 0, .int .i64 n, .slice none 0 0, .int .i64 0, .int .i64 0, .slice none 0 0]] w fun E w' => E = .returned (.tuple #[.int .i64 (max k n), .bool true, .int .i64 0]) ∧ Below w.heap.size w w' := by
  have hok : Mm.Ck (Mw.m ⟨3, 3, 0, n, .slice none 0 0, [], 0, 0, .slice none 0 0, []⟩) 0 := .inl ⟨rfl, by
    refine ⟨by simp [Mw.m], by simp [Mw.m], .inr (.inr ⟨rfl, ?_⟩)⟩
    simp [Mm.Ack, Mw.m, cvs]
    exact hn⟩
  exact pknown_any 3 k ⟨3, 3, 0, n, .slice none 0 0, [], 0, 0, .slice none 0 0, []⟩ 0 w (own_ack w.heap.size w 3 n).is (fit_ack (by simp [In64]) ⟨by omega, by omega⟩) hok (by simp [In64]) hk

theorem known_hel (w W : World) (vs : Value) (h : OwnS w.heap.size W vs [(1, 1)]) :
    Calls Try.prog 10 #[.int .i64 3, .int .i64 5, .agg #[.int .i64 1, .int .i64 3, .int .u8 3, .int .i64 9, vs, .int .i64 0, .int .i64 0, .slice none 0 0]] W fun E w' => E = .returned (.tuple #[.int .i64 5, .bool false, .int .i64 0]) ∧ Below W.heap.size W w' := by
  have hok : Mm.Ck (Mw.m ⟨1, 3, 3, 9, vs, [(1, 1)], 0, 0, .slice none 0 0, []⟩) 0 := .inl ⟨rfl, by
    refine ⟨by simp [Mw.m], by simp [Mw.m], .inl ⟨rfl, ?_⟩⟩
    simp [Mm.Hel, Mw.m, cvs, Sm.Ok, Sm.Up, Sm.lst]⟩
  exact pknown_any 3 5 ⟨1, 3, 3, 9, vs, [(1, 1)], 0, 0, .slice none 0 0, []⟩ 0 W (own_hel h 3 3 9).is (fit_hel (by simp [In64]) (by omega) (by omega) (by simp [In64]) (by simp)) hok (by simp [In64]) (by simp [In64])

set_option maxRecDepth 20000 in
set_option maxHeartbeats 4000000 in
theorem takeNames_walk (w : World) : Calls Try.prog 3 #[] w fun E w' => E = .returned (.bool true) ∧ Below w.heap.size w w' := by
  obtain ⟨l1, hl1⟩ : ∃ l, mkl 1 [1, 1, 3] = l := ⟨_, rfl⟩
  obtain ⟨l2, hl2⟩ : ∃ l, mkl 2 [3] = l := ⟨_, rfl⟩
  have N1 : Hid (l1.length = 3 ∧ l2.length = 1) := hide (by rw [← hl1, ← hl2]; exact ⟨rfl, rfl⟩)
  have Q1 := hide nm_1
  rw [hl1] at Q1
  have Q2 := hide nm_2
  rw [hl1] at Q2
  have Q3 := hide nm_3
  rw [hl1] at Q3
  have Q4 := hide nm_4
  rw [hl1] at Q4
  have Q5 := hide nm_5
  rw [hl1] at Q5
  have Q6 := hide nm_6
  rw [hl1] at Q6
  rw [hl2] at Q4
  have K4 := hide nm_ok4
  rw [hl2] at K4
  obtain ⟨w1, hw1, sz1, b1, o1⟩ := own_step .i64 3 w #[.int .i64 1, .int .i64 1, .int .i64 3] 3 [1, 1, 3] rfl rfl (by simp [maxLen]) (by decide)
  have X1 := hide (log18_any 1 _ [1, 1, 3] w1 o1.is (by omega) (by decide) (by decide))
  have LG2 : Hid (∀ W, ∃ V, W.alloc (.cells #[.int .i64 3] 3) = V ∧ Below W.heap.size W V ∧ Calls Try.prog 7 #[.int .i64 2, .slice (some ⟨W.heap.size, 0, none⟩) 1 1] V (LgR V l2)) := hide fun W => by
    obtain ⟨V, hV, _, bV, oV⟩ := own_step .i64 3 W #[.int .i64 3] 1 [3] rfl rfl (by simp [maxLen]) (by decide)
    have := log18_any 2 _ [3] V oV.is (by omega) (by decide) (by decide)
    rw [hl2] at this
    exact ⟨V, hV, bV, this⟩
  rw [hl1] at X1
  have B1 := hide b1
  clear b1 o1 sz1 hl1 hl2
  go_enter Try.func3, Try.ntmps3
  go_wp2_with fail
  refine X1.out.mono ?_
  intro E w2 hE
  obtain ⟨a2, k2, c2, rfl, T2⟩ := hE.open
  have B2 := hide (B1.out.trans (T2.bel.mono B1.out.size))
  have T2 := hide T2
  clear hE X1 hw1 B1
  have X := hide (shipped18_any 3 4 3 none 0 0 w2)
  go_wp2_with fail
  refine X.out.mono ?_
  rintro E w3 ⟨rfl, b5⟩
  have Y := hide (own_any 3 4 3 0 w3 w1 a2 k2 c2 l1 ⟨T2.out.sh.below b5, T2.out.is, T2.out.bel.trans (b5.mono T2.out.bel.size)⟩ (by rw [N1.out.1]; omega) (by simp [In64]) (by simp [In64]) (by simp [In64]) (nm_ok (by omega) (by omega) (by omega)) Q1.out)
  clear X Q1
  go_wp2_with fail
  refine Y.out.mono ?_
  intro E w4 hE
  obtain ⟨ta1, tk1, tc1, rfl, U⟩ := hE.open
  have s6 : Below w2.heap.size w2 w4 := b5.trans (U.bel.mono b5.size)
  have B4 := hide (B2.out.trans (s6.mono B2.out.size))
  have T2 : Hid (Tkd w1 w4 a2 k2 c2 l1) := hide ⟨T2.out.sh.below s6, T2.out.is, T2.out.bel.trans (s6.mono T2.out.bel.size)⟩
  clear hE Y s6 b5 B2 U
  have X := hide (shipped18_any 3 5 3 none 0 0 w4)
  go_wp2_with fail
  refine X.out.mono ?_
  rintro E w5 ⟨rfl, b5⟩
  have Y := hide (own_any 3 5 3 13 w5 w1 a2 k2 c2 l1 ⟨T2.out.sh.below b5, T2.out.is, T2.out.bel.trans (b5.mono T2.out.bel.size)⟩ (by rw [N1.out.1]; omega) (by simp [In64]) (by simp [In64]) (by simp [In64]) (nm_ok (by omega) (by omega) (by omega)) Q2.out)
  clear X Q2
  go_wp2_with fail
  refine Y.out.mono ?_
  intro E w6 hE
  obtain ⟨ta2, tk2, tc2, rfl, U⟩ := hE.open
  have s6 : Below w4.heap.size w4 w6 := b5.trans (U.bel.mono b5.size)
  have B6 := hide (B4.out.trans (s6.mono B4.out.size))
  have T2 : Hid (Tkd w1 w6 a2 k2 c2 l1) := hide ⟨T2.out.sh.below s6, T2.out.is, T2.out.bel.trans (s6.mono T2.out.bel.size)⟩
  clear hE Y s6 b5 B4 U
  have X := hide (shipped18_any 3 4 2 none 0 0 w6)
  go_wp2_with fail
  refine X.out.mono ?_
  rintro E w7 ⟨rfl, b5⟩
  have Y := hide (own_any 3 4 2 14 w7 w1 a2 k2 c2 l1 ⟨T2.out.sh.below b5, T2.out.is, T2.out.bel.trans (b5.mono T2.out.bel.size)⟩ (by rw [N1.out.1]; omega) (by simp [In64]) (by simp [In64]) (by simp [In64]) (nm_ok (by omega) (by omega) (by omega)) Q3.out)
  clear X Q3
  go_wp2_with fail
  refine Y.out.mono ?_
  intro E w8 hE
  obtain ⟨ta3, tk3, tc3, rfl, U⟩ := hE.open
  have s6 : Below w6.heap.size w6 w8 := b5.trans (U.bel.mono b5.size)
  have B8 := hide (B6.out.trans (s6.mono B6.out.size))
  have T2 : Hid (Tkd w1 w8 a2 k2 c2 l1) := hide ⟨T2.out.sh.below s6, T2.out.is, T2.out.bel.trans (s6.mono T2.out.bel.size)⟩
  clear hE Y s6 b5 B6 U
  obtain ⟨v4, hv4, bv4, x4⟩ := LG2.out w8
  have X4 := hide x4
  have BV := hide bv4
  clear x4 bv4 LG2
  go_wp2_with fail
  refine X4.out.mono ?_
  intro E w9 hE
  obtain ⟨a4, k4, c4, rfl, T4⟩ := hE.open
  have s4 : Below w8.heap.size w8 w9 := BV.out.trans (T4.bel.mono BV.out.size)
  have T4 := hide T4
  have X5 := hide (shipped18_any 3 2 1 a4 l2.length k4 w9)
  clear hE X4
  go_wp2_with fail
  refine X5.out.mono ?_
  rintro E w10 ⟨rfl, b5⟩
  have s5 : Below w8.heap.size w8 w10 := s4.trans (b5.mono s4.size)
  have X6 := hide (take_own 3 w10 w1 w10 a2 k2 c2 l1 ⟨T2.out.sh.below s5, T2.out.is, T2.out.bel.trans (s5.mono T2.out.bel.size)⟩ (by rw [N1.out.1]; omega) 3 2 1 (.slice a4 l2.length k4) c4 l2 v4.heap.size (T4.out.sh.below b5) T4.out.is (by simp [In64]) (by simp [In64]) (by simp [In64]) (by simp [In64]) (by rw [T4.out.len, N1.out.2]; omega) K4.out)
  rw [Q4.out.1, Q4.out.2] at X6
  clear X5 T4 Q4 K4 hv4 BV
  go_wp2_with fail
  refine X6.out.mono ?_
  intro E w11 hE
  obtain ⟨ta4, tk4, tc4, rfl, U4⟩ := hE.open
  have s6 : Below w8.heap.size w8 w11 := s5.trans (U4.bel.mono s5.size)
  have B11 := hide (B8.out.trans (s6.mono B8.out.size))
  have T2 : Hid (Tkd w1 w11 a2 k2 c2 l1) := hide ⟨T2.out.sh.below s6, T2.out.is, T2.out.bel.trans (s6.mono T2.out.bel.size)⟩
  clear hE X6 s4 s5 s6 b5 B8 U4
  have X := hide (shipped18_any 3 4 3 none 0 0 w11)
  go_wp2_with fail
  refine X.out.mono ?_
  rintro E w12 ⟨rfl, b5⟩
  have Y := hide (own_any 4 4 3 12 w12 w1 a2 k2 c2 l1 ⟨T2.out.sh.below b5, T2.out.is, T2.out.bel.trans (b5.mono T2.out.bel.size)⟩ (by rw [N1.out.1]; omega) (by simp [In64]) (by simp [In64]) (by simp [In64]) (nm_ok (by omega) (by omega) (by omega)) Q5.out)
  clear X Q5
  go_wp2_with fail
  refine Y.out.mono ?_
  intro E w13 hE
  obtain ⟨ta5, tk5, tc5, rfl, U⟩ := hE.open
  have s6 : Below w11.heap.size w11 w13 := b5.trans (U.bel.mono b5.size)
  have B13 := hide (B11.out.trans (s6.mono B11.out.size))
  have T2 : Hid (Tkd w1 w13 a2 k2 c2 l1) := hide ⟨T2.out.sh.below s6, T2.out.is, T2.out.bel.trans (s6.mono T2.out.bel.size)⟩
  clear hE Y s6 b5 B11 U
  have X := hide (shipped18_any 3 4 3 none 0 0 w13)
  go_wp2_with fail
  refine X.out.mono ?_
  rintro E w14 ⟨rfl, b5⟩
  have Y := hide (own_any 2 4 3 2 w14 w1 a2 k2 c2 l1 ⟨T2.out.sh.below b5, T2.out.is, T2.out.bel.trans (b5.mono T2.out.bel.size)⟩ (by rw [N1.out.1]; omega) (by simp [In64]) (by simp [In64]) (by simp [In64]) (nm_ok (by omega) (by omega) (by omega)) Q6.out)
  clear X Q6
  go_wp2_with fail
  refine Y.out.mono ?_
  intro E w15 hE
  obtain ⟨ta6, tk6, tc6, rfl, U⟩ := hE.open
  have s6 : Below w13.heap.size w13 w15 := b5.trans (U.bel.mono b5.size)
  have B15 := hide (B13.out.trans (s6.mono B13.out.size))
  have T2 : Hid (Tkd w1 w15 a2 k2 c2 l1) := hide ⟨T2.out.sh.below s6, T2.out.is, T2.out.bel.trans (s6.mono T2.out.bel.size)⟩
  clear hE Y s6 b5 B13 U
  have X := hide (known_ack (-1) 2 w15 (by simp [In64]) (by omega))
  simp only [show max (-1 : Int) 2 = 2 from rfl] at X
  go_wp2_with fail
  refine X.out.mono ?_
  rintro E w16 ⟨rfl, b5⟩
  have B16 := hide (B15.out.trans (b5.mono B15.out.size))
  clear X b5 B15
  have X := hide (known_ack 5 2 w16 (by simp [In64]) (by omega))
  simp only [show max (5 : Int) 2 = 5 from rfl] at X
  go_wp2_with fail
  refine X.out.mono ?_
  rintro E w17 ⟨rfl, b5⟩
  have B17 := hide (B16.out.trans (b5.mono B16.out.size))
  clear X b5 B16
  obtain ⟨v7, hv7, sz7, bv7, o7⟩ := sts_step w17 #[.int .i64 1, .int .i64 1] 1 [(1, 1)] rfl rfl (by simp [maxLen])
  have X := hide (known_hel w17 v7 _ o7)
  have BV := hide bv7
  clear sz7 bv7 o7
  go_wp2_with fail
  refine X.out.mono ?_
  rintro E w18 ⟨rfl, b5⟩
  have B18 := hide (B17.out.trans ((BV.out.trans (b5.mono BV.out.size)).mono B17.out.size))
  clear X b5 B17 BV hv7
  go_wp2_with fail
  refine (lives18_any _).mono ?_
  rintro E w19 ⟨rfl, b5⟩
  have B19 := hide (B18.out.trans (b5.mono B18.out.size))
  clear b5 B18
  go_wp2
  go_ret
  exact ⟨rfl, B19.out⟩

end Go.Proofs.Ytfnaeblbodfekaa

/- Proved: TakeNames -/
namespace Go.Proofs.Ytfnaeblbodfekaa
open Go.ChangeShapes Go.WideShapes Go.ChangeAt Go.RowKit
open Go.ChangeMaps (open_string shut_string)
set_option linter.unusedVariables false

namespace takeNamesFrame
theorem own : ownKnob Try.prog.godebug = none := by kernel_rfl
theorem laidOut : laidOutB Try.prog = true := by kernel_rfl

set_option maxRecDepth 100000 in
theorem lifted (os : Os) (started : os.Started) (H : Type) (enc : TypeId × Value → H) :
    ReturnsInHanded {} Try.checked os 3 .any (Rows.takeNamesSpec.pre6 enc Try.prog Try.f3 Rows.takeNamesRow.domain false) (Rows.takeNamesSpec.post enc Try.prog Try.f3 false true false false) := by
  refine returnsInHanded_of_change_sized (C := Try.checked) own started (by kernel_rfl) Try.func3
    (ChangeSpec.witness6 (enc := enc) (C := Try.checked) false ⟨#[], #[], []⟩ 8 (by kernel_rfl) (by kernel_rfl) (by kernel_rfl) (by kernel_rfl)) ?_
  intro W base args ds gs before hval0 hW hcnd hsz0 _
  have hsz : (DataW.weightsEach Try.prog (Try.f3.params.toList ++ Rows.takeNamesSpec.plain.varTypes Try.prog) (ds ++ gs)).all (· ≤ reachBytes) = true := hsz0
  clear hsz0
  have hval : ∀ (j : Nat) t v, Try.f3.params[j]? = some t → args[j]? = some v → Value.okWide Try.prog W .any base t v := hval0
  have hW' := hW
  obtain ⟨p, q, hA0, hV, rfl, hfz, hnd⟩ := hW
  have hA : DataW.TrodAll enc Try.prog W 0 (fun _ => true) true Try.f3.params.toList args.toList ds p := hA0
  rw [Try.params3] at hA hval hsz
  obtain ⟨rfl, rfl, rfl⟩ := trodAll_none hA
  obtain ⟨rfl, rfl⟩ := trodVars_none hV
  clear hA0 hval0
  refine (takeNames_walk  W ).mono fun e W' ⟨he, bel⟩ => ?_
  subst he
  exact ⟨_, rfl, _, _, _, [], [], [], hW', trodAll_mk1 (shut_bool Try.underlying4 _), trodAll_mk0, rfl, bel.frame _, fun h => by cases h⟩

theorem over : Rows.takeNamesRow.holds Try.pinned (OpenSpec.ofChange Rows.takeNamesSpec) :=
  OpenClaim.holds_of_wide 3 Try.f3 rfl rfl rfl rfl rfl rfl rfl ⟨rfl, rfl, rfl, rfl, rfl⟩ rfl rfl rfl rfl rfl (by kernel_rfl) Try.func3 (by kernel_rfl)
    (of_decide_eq_true (by kernel_rfl)) (by unfold Func.isWrapper; first | (rw [if_pos (by decide +kernel)]; kernel_rfl) | (rw [if_neg (by decide +kernel)]; exact ⟨rfl, rfl⟩))
    (fun os started H enc _ => lifted os started H enc)
end takeNamesFrame

/-- The statement. -/
theorem takeNames_holds : Rows.TakeNamesSaid := takeNamesFrame.over
#print axioms takeNames_holds
end Go.Proofs.Ytfnaeblbodfekaa
