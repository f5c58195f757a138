/- The walk of the law VarintReads: it returns true. -/
import Derived.Test.YtgffjdkcoijniaaLives
namespace Go.Proofs.Ytgffjdkcoijniaa
open Go.RowKit
set_option linter.unusedVariables false

/-- The front of a row of the call's own. -/
theorem Own.front {k : IntKind} {e : TypeId} {base : Nat} {w : World} {v : Value} {zs ys : List Int} (h : Own k e base w v (zs ++ ys)) (hy : 0 < ys.length) :
    ∃ b cap, v = .slice (some ⟨b, 0, none⟩) (zs.length + ys.length) cap ∧ zs.length + ys.length ≤ cap ∧ cap ≤ maxLen ∧ base ≤ b ∧ b < w.heap.size ∧ Is k w (.slice (some ⟨b, 0, none⟩) zs.length cap) zs := by
  have his := h.is
  rcases h.2.2 with ⟨_, hn⟩ | ⟨g, cap, cur, hv, h1, hh, hc, hm, hs, ht⟩
  · rw [List.length_append] at hn; omega
  · simp only [List.length_append] at hv hc
    refine ⟨g, cap, hv, hc, hm, h1, (Array.getElem?_eq_some_iff.1 hh).1, fun z hz => h.1 z (List.mem_append_left _ hz), .inr ⟨⟨g, 0, none⟩, cap, rfl, by omega, hm, fun i hi => ?_⟩⟩
    obtain ⟨b', off', cap', hv', _, _, _, hcell⟩ := his.full (by simp; omega)
    rw [hv] at hv'
    simp at hv'
    obtain ⟨⟨rfl, rfl⟩, rfl⟩ := hv'
    rw [add_at, hcell i (by simp; omega)]
    simp [List.getElem?_append, hi]

set_option maxHeartbeats 800000 in
theorem varintReads_walk (vb : Value) (bs : List Int) (most : Int) (w : World) (hb : Is .u8 w vb bs) (hl : bs.length * 1 ≤ 140737488351232) (hm : (Lit.int .i64 most).wf = true) :
    Calls Try.prog 5 #[vb, .int .i64 most] w fun e w' => e = .returned (.bool true) ∧ Below w.heap.size w w' := by
  have hm := bounds_i64 hm
  obtain ⟨x, n, e, hR⟩ := Vm.res_is bs
  obtain ⟨u, i, g, hS⟩ := sres_is bs most
  obtain ⟨ao, cap, rfl, _, _⟩ := hb.shape
  go_enter Try.func5, Try.ntmps5
  go_wp2_with (go_at_call 14; refine (lent_any _ _ _ hb (by omega)).mono ?_; rintro E w1 ⟨v1, rfl, own1, bel1⟩; obtain ⟨b1, c1, rfl, hc1, hc1', _, _, is1⟩ := own1.front (by simp))
  refine (read_any _ _ _ _ _ _ is1 (by omega) hR).mono ?_
  rintro E w2 ⟨rfl, rfl⟩
  have HR := hide hR
  have HS := hide hS
  clear hR hS
  go_wp2_with fail
  refine (readR_any _ _ _ _ _ _ (hb.below bel1) (by omega) HR.out).mono ?_
  rintro E w2 ⟨rfl, bel2⟩
  have is2 := is1.below bel2
  have own2 := own1.below bel2
  have bel3 := bel1.trans (bel2.mono bel1.size)
  clear is1 own1 bel1 bel2
  go_wp2_with fail
  refine (small_any _ _ _ _ _ _ _ is2 (by omega) (by omega) (by omega) HS.out).mono ?_
  rintro E w3 ⟨rfl, rfl⟩
  go_wp2_with fail
  refine (smallR_any _ _ _ _ _ _ _ (hb.below bel3) (by omega) (by omega) (by omega) HS.out).mono ?_
  rintro E w3 ⟨rfl, bel4⟩
  have own3 := own2.below bel4
  have bel5 := bel3.trans (bel4.mono bel3.size)
  clear is2 own2 bel3 bel4
  go_wp2_with fail
  refine (lives_yes _).mono ?_
  rintro E w4 ⟨rfl, bel6⟩
  have own4 := own3.below bel6
  have bel7 := bel5.trans (bel6.mono bel5.size)
  clear own3 bel5 bel6
  have q1 : (x == x) = true := by simp
  have q2 : (n == n) = true := by simp
  have q3 : (e == e) = true := by simp
  have q4 : (u == u) = true := by simp
  have q5 : (i == i) = true := by simp
  have q6 : (g == g) = true := by simp
  go_wp2_with fail
  refine (kept_yes _ _ bs _ _ own4.is (hb.below bel7) (by omega) rfl).mono ?_
  rintro E w5 ⟨rfl, bel8⟩
  go_wp2
  go_ret
  exact ⟨rfl, bel7.trans (bel8.mono bel7.size)⟩

end Go.Proofs.Ytgffjdkcoijniaa
