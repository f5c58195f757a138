/- The contracts of the example of the laws on batches, and of lives. -/
import Derived.Test.YtfgbdcncbhilfaaBd
import Derived.Test.YtfgbdcncbhilfaaBe
namespace Go.Proofs.Ytfgbdcncbhilfaa
open Go.RowKit
set_option linter.unusedVariables false

def exL : List Bm.Ov := [⟨true, ⟨#[97, 98]⟩, ⟨#[49]⟩⟩, ⟨true, ⟨#[97, 98, 99]⟩, ⟨#[50]⟩⟩, ⟨false, ⟨#[97, 98]⟩, ⟨#[]⟩⟩]
def exB : List Int := [3, 1, 0, 2, 97, 98, 1, 49, 1, 2, 1, 99, 1, 50, 0, 2, 0]

theorem exL_ok : Bm.chkL exL = 0 := by decide

theorem exB_is : Bm.encB exL = exB := by
  simp [exL, exB, Bm.encB, Bm.encL, Bm.encO, Bm.pre4, Bm.com, Bm.Ov.kl, Bm.Ov.vl, Bm.Ov.bit, Vm.enc_lo, Om.ints, Om.cnt]

theorem exL_small : SmallO exL := small_of exL_ok

set_option maxHeartbeats 400000 in
theorem example_any (w : World) :
    Calls Try.prog 9 #[] w fun E w' => ∃ vl vb, E = .returned (.tuple #[vl, vb]) ∧ OwnO 47 w.heap.size w' vl exL ∧ Own .u8 5 w.heap.size w' vb exB ∧ Below w.heap.size w w' := by
  obtain ⟨w1, hw1, sz1, bel1, own1⟩ := ops_step 47 w #[.bool true, .string ⟨#[97, 98]⟩, .string ⟨#[49]⟩, .bool true, .string ⟨#[97, 98, 99]⟩, .string ⟨#[50]⟩, .bool false, .string ⟨#[97, 98]⟩, .string ⟨#[]⟩] 3 exL rfl rfl (by simp [maxLen])
  obtain ⟨w2, hw2, sz2, bel2, own2⟩ := own_step .u8 5 w1 #[.int .u8 3, .int .u8 1, .int .u8 0, .int .u8 2, .int .u8 97, .int .u8 98, .int .u8 1, .int .u8 49, .int .u8 1, .int .u8 2, .int .u8 1, .int .u8 99, .int .u8 1, .int .u8 50, .int .u8 0, .int .u8 2, .int .u8 0] 17 exB rfl rfl (by simp [maxLen]) (by decide)
  have own1' := own1.below bel2
  have own2' := own2.rebase (base' := w.heap.size) (by omega)
  rw [sz1] at own2'
  have bel : Below w.heap.size w w2 := bel1.trans (bel2.mono (by omega))
  clear own1 own2 bel1 bel2
  go_enter Try.func9, Try.ntmps9
  go_wp2
  refine bodyPost_ret (v := .tuple #[_, _]) (by simp [results, Try.results9, go_sem]; exact ⟨rfl, rfl⟩) rfl ?_
  exact ⟨_, _, rfl, own1', own2', bel⟩

set_option maxHeartbeats 400000 in
theorem lives_any (w : World) : Calls Try.prog 11 #[] w fun E w' => E = .returned (.bool true) ∧ Below w.heap.size w w' := by
  go_enter Try.func11, Try.ntmps11
  go_wp2_with fail
  refine (example_any _).mono ?_
  rintro E w1 ⟨vl, vb, rfl, own1, owb1, bel1⟩
  have sz1 := bel1.size
  go_wp2_with fail
  refine (bapp_any _ [] vl exL _ (Is.nil _ _) (by simp) own1.is exL_small.fit (by simp [exL])).mono ?_
  rintro E w2 ⟨va, rfl, own2, bel2⟩
  rw [exL_ok, Bm.appB_ok exL_ok, exB_is, List.nil_append] at *
  have sz2 := bel2.size
  go_wp2_with fail
  refine (bread_any vb exB _ (owb1.below bel2).is (by simp [exB])).mono ?_
  rintro E w3 ⟨vm, m, n, e, rfl, own3, hR, bel3⟩
  obtain ⟨rfl, rfl, rfl⟩ := Bm.bres_good exL_ok (by rw [exB_is]; exact List.prefix_refl _) hR
  have owb3 := (owb1.below bel2).below bel3
  have own1b := (own1.below bel2).below bel3
  have own2b := own2.below bel3
  obtain ⟨ab, cb, hvb, _, _⟩ := owb3.is.shape
  rw [exB_is] at *
  clear hR
  subst hvb
  have sz3 := bel3.size
  have bel03 : Below w.heap.size w w3 := (bel1.trans (bel2.mono sz1)).trans (bel3.mono (by omega))
  have hlen : exB.length = 17 := rfl
  clear bel1 bel2 bel3 owb1 own1 own2
  go_wp2_with fail
  refine (same_yes _ _ exB exB _ own2b.is owb3.is (by omega) rfl).mono ?_
  rintro E w4 ⟨rfl, bel4⟩
  have i1 := (own1b.below bel4).is
  have i2 := (own3.below bel4).is
  have bel04 : Below w.heap.size w w4 := bel03.trans (bel4.mono (by omega))
  clear own1b own3 own2b owb3 bel4 bel03
  go_wp2_with fail
  refine (sameO_any _ _ exL exL _ i1 i2 (by simp [exL]) (by simp [exL])).mono ?_
  rintro E w5 ⟨rfl, bel5⟩
  rw [Bm.sameL_self]
  have bel05 : Below w.heap.size w w5 := bel04.trans (bel5.mono bel04.size)
  go_wp2
  go_ret
  exact ⟨rfl, bel05⟩

end Go.Proofs.Ytfgbdcncbhilfaa
