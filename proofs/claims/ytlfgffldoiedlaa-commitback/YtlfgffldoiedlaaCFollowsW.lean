/- The walk of CommitFollows. -/
import Derived.Test.YtlfgffldoiedlaaCl
import Derived.Test.YtlfgffldoiedlaaCf
import Derived.Test.YtlfgffldoiedlaaCr
namespace Go.Proofs.Ytlfgffldoiedlaa
open Go.RowKit
set_option linter.unusedVariables false

theorem Try.eqlF (a b c d : Int) (w : World) : (binOp .eql 30 (.agg #[.int .i64 a, .int .i64 b]) (.agg #[.int .i64 c, .int .i64 d])).run Try.prog w = .ok (.bool ((a == c) && (b == d))) w := by
  rw [run_eql_struct, run_equalIn_agg w 9999 30 _ _ (by kernel_rfl) (by kernel_rfl)]
  unfold Program.fieldsOf
  rw [Try.underlying30]
  simp [Op.eqFields, go_sem, Try.underlying25, Try.underlying3]
  by_cases h1 : a = c <;> by_cases h2 : b = d <;> simp [h1, h2]

set_option maxRecDepth 100000 in
set_option maxHeartbeats 2000000 in
theorem commitFollows_walk (ep nu : Int) (vl : Value) (r : List Cw) (w : World) (hep : (Lit.int .i64 ep).wf = true) (hnu : (Lit.int .i64 nu).wf = true) (h : IsC w vl r) (hf : FitC r) (hl : r.length * 40 ≤ 140737488351232) :
    Calls Try.prog 6 #[.int .i64 ep, .int .i64 nu, vl] w fun e w' => e = .returned (.bool true) ∧ Below w.heap.size w w' := by
  have hlenl := h.1.len_run Try.elemC
  go_enter Try.func6, Try.ntmps6
  by_cases h40 : 40 < r.length
  · have h40' : (40 : Int) < r.length := by omega
    go_wp2_with fail
    refine (lives_any _).mono ?_
    rintro E w1 ⟨rfl, bel1⟩
    go_wp2
    go_ret
    exact ⟨rfl, bel1⟩
  have h40' : ¬ (40 : Int) < r.length := by omega
  go_wp2_with fail
  refine (lentCs_any _ r _ h hf (by omega)).mono ?_
  rintro E w1 ⟨v1, rs, rfl, own1, he, hlr, bel1⟩
  have sz1 := bel1.size
  have hlen := cvs_len he
  have hin := hlr.inC he h.2
  have hfit := fit_same he hf
  have HE := hide he
  have HLR := hide hlr
  have HIN := hide hin
  have HF := hide hfit
  clear he hlr hin hfit
  go_wp2_with fail
  refine (lives_any _).mono ?_
  rintro E w2 ⟨rfl, bel2⟩
  have sz2 := bel2.size
  have bel02 := bel1.trans (bel2.mono sz1)
  have own2 := own1.below bel2
  obtain ⟨vs, hsl, isl⟩ := own2.row.slice_h Try.elemC Try.sizeC r.length (by rw [List.length_append]; omega)
  rw [← hlen, List.take_left] at isl
  have isC2 : IsC w2 vs rs := ⟨isl, HIN.out.below bel2⟩
  clear isl own1
  go_wp2_with fail
  refine (cfol_any ep nu _ rs _ isC2 HF.out (by omega)).mono ?_
  rintro E w3 ⟨rfl, bel3⟩
  rw [HE.out]
  have sz3 := bel3.size
  have bel03 := bel02.trans (bel3.mono (by omega))
  have h3 := h.below bel03
  clear isC2 hsl
  go_wp2_with fail
  refine (cfolR_any ep nu _ r _ h3 hf (by omega)).mono ?_
  rintro E w4 ⟨rfl, bel4⟩
  have sz4 := bel4.size
  have bel24 := bel3.trans (bel4.mono sz3)
  have bel04 := bel02.trans (bel24.mono (by omega))
  have h4 := h.below bel04
  have own4 := own2.below bel24
  have HLR4 := hide ((HLR.out.below bel2).below bel24)
  unfold flv
  generalize Cm.fol ep nu 0 (cvs r) = f at *
  have heq := Try.eqlF f.1 f.2 f.1 f.2
  have hgd := Try.guardF
  rw [show ((f.1 == f.1) && (f.2 == f.2)) = true by simp] at heq
  clear h3 bel3 bel4 bel24 own2 bel02 bel03
  go_wp2_with fail
  refine (keptCs_yes _ _ rs r w.heap.size _ own4.row HE.out HLR4.out h4 hf (by omega)).mono ?_
  rintro E w5 ⟨rfl, bel5⟩
  have bel05 := bel04.trans (bel5.mono (by omega))
  go_wp2
  go_ret
  exact ⟨rfl, bel05⟩

end Go.Proofs.Ytlfgffldoiedlaa
