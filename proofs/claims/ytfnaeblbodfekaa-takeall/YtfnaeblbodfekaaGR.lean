/- Texts of one layer, one behind the other. -/
import Derived.Test.YtfnaeblbodfekaaG1
import Derived.Test.YtfnaeblbodfekaaGK
/- The document's Known (layer 18). -/
namespace Go.Proofs.Ytfnaeblbodfekaa
open Go.RowKit
set_option linter.unusedVariables false

set_option maxRecDepth 20000 in
set_option maxHeartbeats 4000000 in
theorem knownR_any (e k : Int) (m : Mw) (c : Int) (w : World) (hi : IsM w m) (hf : FitM m) (hc : Mm.Ck m.m c) :
    Calls Try.prog 16 #[.int .i64 e, .int .i64 k, mv m] w fun E w' => E = .returned (.tuple #[.int .i64 (Tak.knV c e k m.m), .bool (Tak.knF c e m.m), .int .i64 (Tak.knE c e m.m)]) ∧ Below w.heap.size w w' := by
  obtain ⟨sa, so, hvs, _, _⟩ := hi.s.shape
  obtain ⟨ca, co, hvc, _, _⟩ := hi.c.1.shape
  obtain ⟨w1, hw1, sz1, bel1, hA⟩ := newm' w m hvs hvc
  have CK := hide (mcheckR_any m c w1 (hi.below bel1) hf hc)
  rw [mv_eq hvs hvc] at CK ⊢
  have HE : Hid (∀ W, Below w1.heap.size w1 W → Ei W w.heap.size (.int .i64 m.k) (.int .i64 m.e) (.int .u8 m.r) (.int .i64 m.n) (.slice sa m.ss.length so) (.int .i64 m.f) (.int .i64 m.p) (.slice ca m.cs.length co)) := hide fun W hb => (hA.below hb).ei' hvs hvc
  obtain ⟨p0, p1, p2, p3, p4, p5, p6, p7⟩ := HE.out w1 (Below.refl _ _)
  have B1 := hide bel1
  have eE : Tak.knE c e m.m = if c = 0 then (if m.e < e then 12 else if e < m.e then 2 else 0) else 2 := rfl
  have eF : Tak.knF c e m.m = (decide (Tak.knE c e m.m = 0) && (decide (m.k = 3) || (decide (m.k = 1) && decide (m.r = 2)))) := rfl
  have eV : Tak.knV c e k m.m = if Tak.knE c e m.m = 0 then (if (decide (m.k = 3) || (decide (m.k = 1) && decide (m.r = 2))) = true then max k m.n else max k 0) else 0 := rfl
  clear hi hf hc hA hvs hvc bel1
  by_cases h0 : c = 0
  case neg =>
    rw [if_neg h0] at eE
    rw [eE] at eF eV
    rw [eE, eF, eV]
    have hb : (c != 0) = true := by simpa using h0
    clear eE eF eV HE
    go_enter Try.func16, Try.ntmps16
    go_wp2_with fail
    refine CK.out.mono ?_
    rintro E w2 ⟨rfl, b2⟩
    have B2 := hide (B1.out.trans (b2.mono B1.out.size))
    clear CK b2
    go_wp2
    go_ret3
    exact ⟨rfl, B2.out⟩
  rw [if_pos h0] at eE
  rw [h0] at CK
  clear h0
  by_cases h1 : m.e < e
  · rw [if_pos h1] at eE
    rw [eE] at eF eV
    rw [eE, eF, eV]
    clear eE eF eV
    go_enter Try.func16, Try.ntmps16
    go_wp2_with fail
    refine CK.out.mono ?_
    rintro E w2 ⟨rfl, b2⟩
    have B2 := hide (B1.out.trans (b2.mono B1.out.size))
    obtain ⟨q0, q1, q2, q3, q4, q5, q6, q7⟩ := HE.out w2 b2
    clear CK b2 HE
    go_wp2
    go_ret3
    exact ⟨rfl, B2.out⟩
  rw [if_neg h1] at eE
  by_cases h2 : e < m.e
  · rw [if_pos h2] at eE
    rw [eE] at eF eV
    rw [eE, eF, eV]
    clear eE eF eV
    go_enter Try.func16, Try.ntmps16
    go_wp2_with fail
    refine CK.out.mono ?_
    rintro E w2 ⟨rfl, b2⟩
    have B2 := hide (B1.out.trans (b2.mono B1.out.size))
    obtain ⟨q0, q1, q2, q3, q4, q5, q6, q7⟩ := HE.out w2 b2
    clear CK b2 HE
    go_wp2
    go_ret3
    exact ⟨rfl, B2.out⟩
  rw [if_neg h2] at eE
  rw [eE] at eF eV
  rw [if_pos rfl] at eV
  rw [eE, eF, eV]
  by_cases h3 : m.k = 3
  · have hb : (m.k == 3) = true := by simpa using h3
    rw [decide_eq_true h3, Bool.true_or, if_pos rfl]
    clear h3
    clear eE eF eV
    by_cases hm : k < m.n
    · rw [show max k m.n = m.n by omega]
      go_enter Try.func16, Try.ntmps16
      go_wp2_with fail
      refine CK.out.mono ?_
      rintro E w2 ⟨rfl, b2⟩
      have B2 := hide (B1.out.trans (b2.mono B1.out.size))
      obtain ⟨q0, q1, q2, q3, q4, q5, q6, q7⟩ := HE.out w2 b2
      clear CK b2 HE
      go_wp2
      go_ret3
      exact ⟨rfl, B2.out⟩
    · rw [show max k m.n = k by omega]
      go_enter Try.func16, Try.ntmps16
      go_wp2_with fail
      refine CK.out.mono ?_
      rintro E w2 ⟨rfl, b2⟩
      have B2 := hide (B1.out.trans (b2.mono B1.out.size))
      obtain ⟨q0, q1, q2, q3, q4, q5, q6, q7⟩ := HE.out w2 b2
      clear CK b2 HE
      go_wp2
      go_ret3
      exact ⟨rfl, B2.out⟩
  have hb : (m.k == 3) = false := by simpa using h3
  rw [decide_eq_false h3, Bool.false_or]
  by_cases h4 : m.k = 1
  · have hb4 : (m.k == 1) = true := by simpa using h4
    rw [decide_eq_true h4, Bool.true_and]
    by_cases h5 : m.r = 2
    · have hb5 : (m.r == 2) = true := by simpa using h5
      rw [decide_eq_true h5, if_pos rfl]
      clear h3 h4 h5
      clear eE eF eV
      by_cases hm : k < m.n
      · rw [show max k m.n = m.n by omega]
        go_enter Try.func16, Try.ntmps16
        go_wp2_with fail
        refine CK.out.mono ?_
        rintro E w2 ⟨rfl, b2⟩
        have B2 := hide (B1.out.trans (b2.mono B1.out.size))
        obtain ⟨q0, q1, q2, q3, q4, q5, q6, q7⟩ := HE.out w2 b2
        clear CK b2 HE
        go_wp2
        go_ret3
        exact ⟨rfl, B2.out⟩
      · rw [show max k m.n = k by omega]
        go_enter Try.func16, Try.ntmps16
        go_wp2_with fail
        refine CK.out.mono ?_
        rintro E w2 ⟨rfl, b2⟩
        have B2 := hide (B1.out.trans (b2.mono B1.out.size))
        obtain ⟨q0, q1, q2, q3, q4, q5, q6, q7⟩ := HE.out w2 b2
        clear CK b2 HE
        go_wp2
        go_ret3
        exact ⟨rfl, B2.out⟩
    · have hb5 : (m.r == 2) = false := by simpa using h5
      rw [decide_eq_false h5, if_neg (by decide)]
      clear h3 h4 h5
      clear eE eF eV
      by_cases hm : k < 0
      · rw [show max k 0 = 0 by omega]
        go_enter Try.func16, Try.ntmps16
        go_wp2_with fail
        refine CK.out.mono ?_
        rintro E w2 ⟨rfl, b2⟩
        have B2 := hide (B1.out.trans (b2.mono B1.out.size))
        obtain ⟨q0, q1, q2, q3, q4, q5, q6, q7⟩ := HE.out w2 b2
        clear CK b2 HE
        go_wp2
        go_ret3
        exact ⟨rfl, B2.out⟩
      · rw [show max k 0 = k by omega]
        go_enter Try.func16, Try.ntmps16
        go_wp2_with fail
        refine CK.out.mono ?_
        rintro E w2 ⟨rfl, b2⟩
        have B2 := hide (B1.out.trans (b2.mono B1.out.size))
        obtain ⟨q0, q1, q2, q3, q4, q5, q6, q7⟩ := HE.out w2 b2
        clear CK b2 HE
        go_wp2
        go_ret3
        exact ⟨rfl, B2.out⟩
  · have hb4 : (m.k == 1) = false := by simpa using h4
    rw [decide_eq_false h4, Bool.false_and, if_neg (by decide)]
    clear h3 h4
    clear eE eF eV
    by_cases hm : k < 0
    · rw [show max k 0 = 0 by omega]
      go_enter Try.func16, Try.ntmps16
      go_wp2_with fail
      refine CK.out.mono ?_
      rintro E w2 ⟨rfl, b2⟩
      have B2 := hide (B1.out.trans (b2.mono B1.out.size))
      obtain ⟨q0, q1, q2, q3, q4, q5, q6, q7⟩ := HE.out w2 b2
      clear CK b2 HE
      go_wp2
      go_ret3
      exact ⟨rfl, B2.out⟩
    · rw [show max k 0 = k by omega]
      go_enter Try.func16, Try.ntmps16
      go_wp2_with fail
      refine CK.out.mono ?_
      rintro E w2 ⟨rfl, b2⟩
      have B2 := hide (B1.out.trans (b2.mono B1.out.size))
      obtain ⟨q0, q1, q2, q3, q4, q5, q6, q7⟩ := HE.out w2 b2
      clear CK b2 HE
      go_wp2
      go_ret3
      exact ⟨rfl, B2.out⟩

end Go.Proofs.Ytfnaeblbodfekaa
