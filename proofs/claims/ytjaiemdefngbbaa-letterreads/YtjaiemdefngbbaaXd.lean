/- The contracts of Same of messages: the program's, the laws'. -/
import Derived.Test.YtjaiemdefngbbaaXc
namespace Go.Proofs.Ytjaiemdefngbbaa
open Go.RowKit
set_option linter.unusedVariables false

theorem two_ints {x y : Int} {ans : Bool} (h : x ≠ y → ans = false) : (x == y) = true ∨ ((x == y) = false ∧ ans = false) := by
  by_cases e : x = y
  · exact .inl (by simp [e])
  · exact .inr ⟨by simpa using e, h e⟩

theorem smM_cs {a b : Mm.Msg} (h1 : (a.k == b.k) = true) (h2 : (a.e == b.e) = true) (h3 : (a.r == b.r) = true) (h4 : (a.n == b.n) = true) (h5 : (a.f == b.f) = true) (h6 : (a.p == b.p) = true) (h7 : decide (a.ss = b.ss) = true) : smM a b = sameV a.cs b.cs := by
  unfold smM
  rw [h1, h2, h3, h4, h5, h6, h7]
  rfl

set_option maxHeartbeats 2000000 in
theorem msame_any (a b : Mw) (w : World) (ha : IsM w a) (hb : IsM w b) (fa : FitM a) (fb : FitM b) :
    Calls Try.prog 17 #[mv a, mv b] w fun E w' => E = .returned (.bool (smM a.m b.m)) ∧ Below w.heap.size w w' := by
  obtain ⟨ans, hans⟩ : ∃ x, smM a.m b.m = x := ⟨_, rfl⟩
  rw [hans]
  have HA := hide hans
  have NO : Hid (a.m ≠ b.m → ans = false) := hide fun h => by rw [← HA.out]; exact smM_no h
  clear hans
  unfold mv
  obtain ⟨w1, hw1, sz1, bel1, hA⟩ := newm w a
  obtain ⟨w2, hw2, sz2, bel2, hB⟩ := newm w1 b
  rw [sz1] at hB
  have A2 := hide (hA.below bel2)
  have B2 := hide hB
  have bel02 : Below w.heap.size w w2 := bel1.trans (bel2.mono (by omega))
  have IA := hide (ha.below bel02)
  have IB := hide (hb.below bel02)
  have FA := hide fa
  have FB := hide fb
  obtain ⟨c0, c1, c2, c3, c4, c5, c6, c7⟩ := A2.out.ei
  obtain ⟨d0, d1, d2, d3, d4, d5, d6, d7⟩ := B2.out.ei
  have q1 := two_ints (x := a.k) (y := b.k) (ans := ans) fun h => NO.out fun e => h (congrArg Mm.Msg.k e)
  have q2 := two_ints (x := a.e) (y := b.e) (ans := ans) fun h => NO.out fun e => h (congrArg Mm.Msg.e e)
  have q3 := two_ints (x := a.r) (y := b.r) (ans := ans) fun h => NO.out fun e => h (congrArg Mm.Msg.r e)
  have q4 := two_ints (x := a.n) (y := b.n) (ans := ans) fun h => NO.out fun e => h (congrArg Mm.Msg.n e)
  have q5 := two_ints (x := a.f) (y := b.f) (ans := ans) fun h => NO.out fun e => h (congrArg Mm.Msg.f e)
  have q6 := two_ints (x := a.p) (y := b.p) (ans := ans) fun h => NO.out fun e => h (congrArg Mm.Msg.p e)
  obtain ⟨ds, hds⟩ : ∃ x, decide (a.ss = b.ss) = x := ⟨_, rfl⟩
  have q7 : Hid (ds = false → ans = false) := hide fun h => NO.out fun e => by
    rw [h] at hds
    exact of_decide_eq_false hds (congrArg Mm.Msg.ss e)
  have DS := hide hds
  clear ha hb fa fb hA hB bel1 bel2 hds
  go_enter Try.func17, Try.ntmps17
  rcases q1 with q1 | ⟨q1, rfl⟩
  rotate_left
  · go_wp2
    go_ret
    exact ⟨rfl, bel02⟩
  rcases q2 with q2 | ⟨q2, rfl⟩
  rotate_left
  · go_wp2
    go_ret
    exact ⟨rfl, bel02⟩
  rcases q3 with q3 | ⟨q3, rfl⟩
  rotate_left
  · go_wp2
    go_ret
    exact ⟨rfl, bel02⟩
  rcases q4 with q4 | ⟨q4, rfl⟩
  rotate_left
  · go_wp2
    go_ret
    exact ⟨rfl, bel02⟩
  rcases q5 with q5 | ⟨q5, rfl⟩
  rotate_left
  · go_wp2
    go_ret
    exact ⟨rfl, bel02⟩
  rcases q6 with q6 | ⟨q6, rfl⟩
  rotate_left
  · go_wp2
    go_ret
    exact ⟨rfl, bel02⟩
  go_wp2_with fail
  refine (eqS_any _ _ a.ss b.ss _ IA.out.s IB.out.s FA.out.ls FB.out.ls).mono ?_
  rintro E w3 ⟨rfl, m, rfl⟩
  rw [DS.out]
  have bel3 : Below w2.heap.size w2 (w2.drewN m) := below_drewN (Below.refl _ _) m
  generalize w2.drewN m = w3 at *
  have sz3 := bel3.size
  have bel03 := bel02.trans (bel3.mono (by omega))
  cases ds
  · obtain rfl := q7.out rfl
    go_wp2
    go_ret
    exact ⟨rfl, bel03⟩
  · clear c0 c1 c2 c3 c4 c5 c6 c7 d0 d1 d2 d3 d4 d5 d6 d7 hw1 hw2
    obtain ⟨c0, c1, c2, c3, c4, c5, c6, c7⟩ := (A2.out.below bel3).ei
    obtain ⟨d0, d1, d2, d3, d4, d5, d6, d7⟩ := (B2.out.below bel3).ei
    have hs : ans = sameV (cvs a.cs) (cvs b.cs) := by
      rw [← HA.out]
      exact smM_cs (a := a.m) (b := b.m) q1 q2 q3 q4 q5 q6 DS.out
    go_wp2_with fail
    refine (eqC_any _ _ a.cs b.cs _ (IA.out.c.below bel3) (IB.out.c.below bel3) FA.out.fc FB.out.fc FA.out.lc FB.out.lc).mono ?_
    rintro E w4 ⟨rfl, bel4⟩
    have bel04 := bel03.trans (bel4.mono (by omega))
    rw [← hs]
    clear hs
    go_wp2
    go_ret
    exact ⟨rfl, bel04⟩

set_option maxHeartbeats 2000000 in
theorem msameK_any (a b : Mw) (w : World) (ha : IsM w a) (hb : IsM w b) (fa : FitM a) (fb : FitM b) :
    Calls Try.prog 23 #[mv a, mv b] w fun E w' => E = .returned (.bool (smM a.m b.m)) ∧ Below w.heap.size w w' := by
  obtain ⟨ans, hans⟩ : ∃ x, smM a.m b.m = x := ⟨_, rfl⟩
  rw [hans]
  have HA := hide hans
  have NO : Hid (a.m ≠ b.m → ans = false) := hide fun h => by rw [← HA.out]; exact smM_no h
  clear hans
  unfold mv
  obtain ⟨w1, hw1, sz1, bel1, hA⟩ := newm w a
  obtain ⟨w2, hw2, sz2, bel2, hB⟩ := newm w1 b
  rw [sz1] at hB
  have A2 := hide (hA.below bel2)
  have B2 := hide hB
  have bel02 : Below w.heap.size w w2 := bel1.trans (bel2.mono (by omega))
  have IA := hide (ha.below bel02)
  have IB := hide (hb.below bel02)
  have FA := hide fa
  have FB := hide fb
  obtain ⟨c0, c1, c2, c3, c4, c5, c6, c7⟩ := A2.out.ei
  obtain ⟨d0, d1, d2, d3, d4, d5, d6, d7⟩ := B2.out.ei
  have q1 := two_ints (x := a.k) (y := b.k) (ans := ans) fun h => NO.out fun e => h (congrArg Mm.Msg.k e)
  have q2 := two_ints (x := a.e) (y := b.e) (ans := ans) fun h => NO.out fun e => h (congrArg Mm.Msg.e e)
  have q3 := two_ints (x := a.r) (y := b.r) (ans := ans) fun h => NO.out fun e => h (congrArg Mm.Msg.r e)
  have q4 := two_ints (x := a.n) (y := b.n) (ans := ans) fun h => NO.out fun e => h (congrArg Mm.Msg.n e)
  have q5 := two_ints (x := a.f) (y := b.f) (ans := ans) fun h => NO.out fun e => h (congrArg Mm.Msg.f e)
  have q6 := two_ints (x := a.p) (y := b.p) (ans := ans) fun h => NO.out fun e => h (congrArg Mm.Msg.p e)
  obtain ⟨ds, hds⟩ : ∃ x, decide (a.ss = b.ss) = x := ⟨_, rfl⟩
  have q7 : Hid (ds = false → ans = false) := hide fun h => NO.out fun e => by
    rw [h] at hds
    exact of_decide_eq_false hds (congrArg Mm.Msg.ss e)
  have DS := hide hds
  clear ha hb fa fb hA hB bel1 bel2 hds
  go_enter Try.func23, Try.ntmps23
  rcases q1 with q1 | ⟨q1, rfl⟩
  rotate_left
  · go_wp2
    go_ret
    exact ⟨rfl, bel02⟩
  rcases q2 with q2 | ⟨q2, rfl⟩
  rotate_left
  · go_wp2
    go_ret
    exact ⟨rfl, bel02⟩
  rcases q3 with q3 | ⟨q3, rfl⟩
  rotate_left
  · go_wp2
    go_ret
    exact ⟨rfl, bel02⟩
  rcases q4 with q4 | ⟨q4, rfl⟩
  rotate_left
  · go_wp2
    go_ret
    exact ⟨rfl, bel02⟩
  go_wp2_with fail
  refine (sameS_quiet _ _ a.ss b.ss _ IA.out.s IB.out.s FA.out.ls FB.out.ls).mono ?_
  rintro E w3 ⟨rfl, m, rfl⟩
  rw [DS.out]
  have bel3 : Below w2.heap.size w2 (w2.drewN m) := below_drewN (Below.refl _ _) m
  generalize w2.drewN m = w3 at *
  have sz3 := bel3.size
  have bel03 := bel02.trans (bel3.mono (by omega))
  cases ds
  · obtain rfl := q7.out rfl
    go_wp2
    go_ret
    exact ⟨rfl, bel03⟩
  · clear c0 c1 c2 c3 c4 c5 c6 c7 d0 d1 d2 d3 d4 d5 d6 d7 hw1 hw2
    obtain ⟨c0, c1, c2, c3, c4, c5, c6, c7⟩ := (A2.out.below bel3).ei
    obtain ⟨d0, d1, d2, d3, d4, d5, d6, d7⟩ := (B2.out.below bel3).ei
    rcases q5 with q5 | ⟨q5, rfl⟩
    rotate_left
    · go_wp2
      go_ret
      exact ⟨rfl, bel03⟩
    rcases q6 with q6 | ⟨q6, rfl⟩
    rotate_left
    · go_wp2
      go_ret
      exact ⟨rfl, bel03⟩
    have hs : ans = sameV (cvs a.cs) (cvs b.cs) := by
      rw [← HA.out]
      exact smM_cs (a := a.m) (b := b.m) q1 q2 q3 q4 q5 q6 DS.out
    go_wp2_with fail
    refine (sameCs_any _ _ a.cs b.cs _ (IA.out.c.below bel3) (IB.out.c.below bel3) FA.out.fc FB.out.fc FA.out.lc FB.out.lc).mono ?_
    rintro E w4 ⟨rfl, bel4⟩
    have bel04 := bel03.trans (bel4.mono (by omega))
    rw [← hs]
    clear hs
    go_wp2
    go_ret
    exact ⟨rfl, bel04⟩

end Go.Proofs.Ytjaiemdefngbbaa
