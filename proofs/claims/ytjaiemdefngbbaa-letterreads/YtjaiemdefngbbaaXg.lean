/- The contract of shipMayBe (the program's). -/
import Derived.Test.YtjaiemdefngbbaaXf
namespace Go.Proofs.Ytjaiemdefngbbaa
open Go.RowKit
set_option linter.unusedVariables false

set_option maxRecDepth 100000 in
set_option maxHeartbeats 1000000 in
theorem shipMayBe_any (m : Mw) (ans : Bool) (w : World) (hi : IsM w m) (hf : FitM m) (h : Yes ans (ShpP m)) :
    Calls Try.prog 60 #[mv m] w fun E w' => E = .returned (.bool ans) ∧ Below w.heap.size w w' := by
  have NO : Hid (¬ ShpP m → ans = false) := hide fun k => h.no k
  have HD : Hid (Yes ans (ShpP m)) := hide h
  unfold mv
  obtain ⟨w1, hw1, sz1, bel1, hA⟩ := newm w m
  have A1 := hide hA
  obtain ⟨c0, c1, c2, c3, c4, c5, c6, c7⟩ := hA.ei
  have i1 := hide (hi.c.below bel1)
  have hl := hf.lc
  have HF := hide hf.fc
  have ff := hf.f
  have X := hide (fun (W : World) (k : IsC W m.vc m.cs) => cfol_any m.p (m.f - 1) m.vc m.cs W k HF.out hl)
  have C := hide (isC_cells i1.out)
  obtain ⟨ao, cap, hv, _, _⟩ := i1.out.1.shape
  have i1' : Hid (IsC w1 m.vc m.cs) := i1
  rw [hv] at c7 hw1 X C i1'
  rw [hv]
  have A2 : Hid (∀ W, Below w1.heap.size w1 W → Ei W w.heap.size (.int .i64 m.k) (.int .i64 m.e) (.int .u8 m.r) (.int .i64 m.n) m.vs (.int .i64 m.f) (.int .i64 m.p) (.slice ao m.cs.length cap)) := hide fun W hb => by
    have := (A1.out.below hb).ei
    rw [hv] at this
    exact this
  generalize hn : m.cs.length = n at *
  have HN := hide hn
  clear h hA hi hf hv i1 A1 hn
  go_enter Try.func60, Try.ntmps60
  by_cases h1 : m.f < 1
  · obtain rfl := NO.out fun k => by have := k.1; omega
    go_wp2
    go_ret
    exact ⟨rfl, bel1⟩
  by_cases h2 : 1048576 < m.f
  · obtain rfl := NO.out fun k => by have := k.2.1; omega
    go_wp2
    go_ret
    exact ⟨rfl, bel1⟩
  by_cases h3 : m.p < 0
  · obtain rfl := NO.out fun k => by have := k.2.2.1; omega
    go_wp2
    go_ret
    exact ⟨rfl, bel1⟩
  by_cases h4 : m.e < m.p
  · obtain rfl := NO.out fun k => by have := k.2.2.2.1; omega
    go_wp2
    go_ret
    exact ⟨rfl, bel1⟩
  rcases beq_two m.p m.f 0 1 with ⟨hbb, bb, q1, q2⟩ | ⟨hbb, bb, q1, q2⟩
  rotate_left
  · obtain rfl := NO.out fun k => hbb k.2.2.2.2.1
    clear hbb
    cases bb
    · have q3 : (m.f == 1) = true := q2
      clear q2
      go_wp2
      go_ret
      exact ⟨rfl, bel1⟩
    · have q3 : (m.f == 1) = false := q2
      clear q2
      go_wp2
      go_ret
      exact ⟨rfl, bel1⟩
  have HB := hide hbb
  have hbn : (bb != bb) = false := by simp
  clear hbb
  by_cases h5 : 4 < n
  · obtain rfl := NO.out fun k => by have := k.2.2.2.2.2.1; have := HN.out; omega
    clear X
    have h5' : (4 : Int) < n := by omega
    go_wp2
    go_ret
    exact ⟨rfl, bel1⟩
  have h5' : ¬ (4 : Int) < n := by omega
  go_wp2_with fail
  refine (X.out _ i1'.out).mono ?_
  rintro E w2 ⟨rfl, bel2⟩
  have sz2 := bel2.size
  have bel02 := bel1.trans (bel2.mono (by omega))
  clear c0 c1 c2 c3 c4 c5 c6 c7 hw1 X
  obtain ⟨c0, c1, c2, c3, c4, c5, c6, c7⟩ := A2.out _ bel2
  clear A2
  have hft := fol_two (cvs m.cs) m.p (m.f - 1)
  have hgd := Try.guardF
  unfold flv
  rcases hft with ⟨hg, hfo⟩ | ⟨hg, hfo⟩
  rotate_left
  · obtain rfl := NO.out fun k => hg k.2.2.2.2.2.2.2
    have hnq := Try.neqF (Cm.fol m.p (m.f - 1) 0 (cvs m.cs)).1 (Cm.fol m.p (m.f - 1) 0 (cvs m.cs)).2 0 0
    rw [show ((Cm.fol m.p (m.f - 1) 0 (cvs m.cs)).1 == 0 && (Cm.fol m.p (m.f - 1) 0 (cvs m.cs)).2 == 0) = false by simp [hfo]] at hnq
    generalize (Cm.fol m.p (m.f - 1) 0 (cvs m.cs)).1 = x1 at *
    generalize (Cm.fol m.p (m.f - 1) 0 (cvs m.cs)).2 = x2 at *
    clear hg hfo
    go_wp2
    go_ret
    exact ⟨rfl, bel02⟩
  rw [hfo]
  have hnq := Try.neqF 0 0 0 0
  rw [show ((0 : Int) == 0 && (0 : Int) == 0) = true from rfl] at hnq
  have HG := hide hg
  clear hfo hg
  by_cases hz : n = 0
  · have hn : m.cs = [] := List.eq_nil_of_length_eq_zero (by have := HN.out; omega)
    obtain rfl := HD.out.yes ⟨by omega, by omega, by omega, by omega, HB.out, by have := HN.out; omega, fun c hc => by rw [hn] at hc; simp [cvs] at hc, HG.out⟩
    have hz' : ((n : Int) == 0) = true := by simp [hz]
    clear hn hz
    go_wp2
    go_quiet (fail)
    go_wp2
    go_ret
    exact ⟨rfl, below_drewN bel02 _⟩
  · obtain ⟨b, off, cap', hv', hB', hc⟩ := C.out (by have := HN.out; omega)
    simp only [Value.slice.injEq, true_and] at hv'
    obtain ⟨rfl, rfl⟩ := hv'
    obtain ⟨s, hs⟩ := at_of (l := m.cs) (k := n - 1) (by have := HN.out; omega)
    obtain ⟨d0, d1, d2⟩ := row_at hc bel2 hB' hs
    have hla : Cm.lastE m.p (cvs m.cs) = s.e := last_of (cvs m.cs) m.p s.c (by rw [cvs_length, HN.out, cvs_get, hs]; rfl)
    have hq : ans = decide (s.e ≤ m.e) := HD.out.dec (fun hx => ⟨by omega, by omega, by omega, by omega, HB.out, by have := HN.out; omega, fun c hc => by have := (good_le _ _ _ HG.out).2 c hc; omega, HG.out⟩) (fun k => k.2.2.2.2.2.2.1 s.c (by unfold cvs; exact List.mem_map_of_mem (List.mem_of_getElem? hs)))
    subst hq
    obtain ⟨k, hk⟩ : ∃ k, n - 1 = k := ⟨_, rfl⟩
    rw [hk] at d0 d1 d2
    have hne : ((n : Int) == 0) = false := by simp; omega
    have hsub : (n : Int) - 1 = (k : Int) := by omega
    have hk1 : (k : Int) < (n : Int) := by omega
    clear hc hs hz NO HD HG HB hla hk C i1'
    go_wp2
    have hk1 : (k : Int) < (n : Int) := by omega
    go_big_quiet (fail)
    go_wp2
    go_ret
    exact ⟨rfl, below_drewN bel02 _⟩

end Go.Proofs.Ytjaiemdefngbbaa
