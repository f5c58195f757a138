/- The contract of the document's Same of messages. -/
import Derived.Test.YtjaiemdefngbbaaXd
namespace Go.Proofs.Ytjaiemdefngbbaa
open Go.RowKit
set_option linter.unusedVariables false

theorem two_nes {x y : Int} {ans : Bool} (h : x ≠ y → ans = false) : ((x != y) = false ∧ (x == y) = true) ∨ ((x != y) = true ∧ ans = false) := by
  by_cases e : x = y
  · exact .inl (by simp [e])
  · exact .inr ⟨by simpa using e, h e⟩

set_option maxHeartbeats 2000000 in
theorem msameR_any (a b : Mw) (w : World) (ha : IsM w a) (hb : IsM w b) (fa : FitM a) (fb : FitM b) :
    Calls Try.prog 18 #[mv a, mv b] w fun E w' => E = .returned (.bool (smM a.m b.m)) ∧ Below w.heap.size w w' := by
  obtain ⟨ans, hans⟩ : ∃ x, smM a.m b.m = x := ⟨_, rfl⟩
  rw [hans]
  have HA := hide hans
  have NO : Hid (a.m ≠ b.m → ans = false) := hide fun h => by rw [← HA.out]; exact smM_no h
  clear hans
  unfold mv
  obtain ⟨w1, hw1, sz1, bel1, hA⟩ := newm w a
  obtain ⟨w2, hw2, sz2, bel2, hB⟩ := newm w1 b
  rw [sz1] at hB
  have A2 := hide (hA.below bel2)
  have B2 := hide hB
  have bel02 : Below w.heap.size w w2 := bel1.trans (bel2.mono (by omega))
  have IA := hide (ha.below bel02)
  have IB := hide (hb.below bel02)
  have FA := hide fa
  have FB := hide fb
  obtain ⟨c0, c1, c2, c3, c4, c5, c6, c7⟩ := A2.out.ei
  obtain ⟨d0, d1, d2, d3, d4, d5, d6, d7⟩ := B2.out.ei
  have q1 := two_nes (x := a.k) (y := b.k) (ans := ans) fun h => NO.out fun e => h (congrArg Mm.Msg.k e)
  have q2 := two_nes (x := a.e) (y := b.e) (ans := ans) fun h => NO.out fun e => h (congrArg Mm.Msg.e e)
  have q3 := two_nes (x := a.r) (y := b.r) (ans := ans) fun h => NO.out fun e => h (congrArg Mm.Msg.r e)
  have q4 := two_nes (x := a.n) (y := b.n) (ans := ans) fun h => NO.out fun e => h (congrArg Mm.Msg.n e)
  have q5 := two_nes (x := a.f) (y := b.f) (ans := ans) fun h => NO.out fun e => h (congrArg Mm.Msg.f e)
  have q6 := two_nes (x := a.p) (y := b.p) (ans := ans) fun h => NO.out fun e => h (congrArg Mm.Msg.p e)
  obtain ⟨ds, hds⟩ : ∃ x, decide (a.ss = b.ss) = x := ⟨_, rfl⟩
  have q7 : Hid (ds = false → ans = false) := hide fun h => NO.out fun e => by
    rw [h] at hds
    exact of_decide_eq_false hds (congrArg Mm.Msg.ss e)
  have DS := hide hds
  have q8 : ((a.ss.length : Int) != (b.ss.length : Int)) = false ∧ a.ss.length = b.ss.length ∨ ((a.ss.length : Int) != (b.ss.length : Int)) = true ∧ ans = false := by
    by_cases e : a.ss.length = b.ss.length
    · exact .inl ⟨by simp; omega, e⟩
    · exact .inr ⟨by simp; omega, NO.out fun h => e (congrArg (fun m => (Mm.Msg.ss m).length) h)⟩
  have hla := fa.ls
  have hlb := fb.ls
  obtain ⟨av, ac, hav, _, _⟩ := IA.out.s.shape
  obtain ⟨bv, bc, hbv, _, _⟩ := IB.out.s.shape
  have RA : Hid (0 < a.ss.length → ∃ g o c, a.vs = .slice (some ⟨g, o, none⟩) a.ss.length c ∧ ∀ (i : Nat) (s : Sm.S), a.ss[i]? = some s → w2.cell? ⟨g, o + i * 2, none⟩ = some (.int .i64 s.1) ∧ w2.cell? ⟨g, o + i * 2 + 1, none⟩ = some (.int .i64 s.2)) := hide fun h => by
    obtain ⟨g, o, c, h1, _, _, _, h2⟩ := rowS_full IA.out.s h
    exact ⟨g, o, c, h1, h2⟩
  have RB : Hid (0 < b.ss.length → ∃ g o c, b.vs = .slice (some ⟨g, o, none⟩) b.ss.length c ∧ ∀ (i : Nat) (s : Sm.S), b.ss[i]? = some s → w2.cell? ⟨g, o + i * 2, none⟩ = some (.int .i64 s.1) ∧ w2.cell? ⟨g, o + i * 2 + 1, none⟩ = some (.int .i64 s.2)) := hide fun h => by
    obtain ⟨g, o, c, h1, _, _, _, h2⟩ := rowS_full IB.out.s h
    exact ⟨g, o, c, h1, h2⟩
  rw [hav] at RA c4
  rw [hbv] at RB d4
  have HAV := hide hav
  have HBV := hide hbv
  have hnq := fun (o q : Sm.S) => Try.neqS o.1 o.2 q.1 q.2
  have hgd := Try.guardS
  rw [hav] at hw1
  rw [hbv] at hw2
  clear ha hb fa fb hA hB bel1 bel2 hds hav hbv
  rw [HAV.out, HBV.out]
  go_enter Try.func18, Try.ntmps18
  rcases q1 with ⟨q1, q1'⟩ | ⟨q1, rfl⟩
  rotate_left
  · go_wp2
    go_ret
    exact ⟨rfl, bel02⟩
  rcases q2 with ⟨q2, q2'⟩ | ⟨q2, rfl⟩
  rotate_left
  · go_wp2
    go_ret
    exact ⟨rfl, bel02⟩
  rcases q3 with ⟨q3, q3'⟩ | ⟨q3, rfl⟩
  rotate_left
  · go_wp2
    go_ret
    exact ⟨rfl, bel02⟩
  rcases q4 with ⟨q4, q4'⟩ | ⟨q4, rfl⟩
  rotate_left
  · go_wp2
    go_ret
    exact ⟨rfl, bel02⟩
  rcases q5 with ⟨q5, q5'⟩ | ⟨q5, rfl⟩
  rotate_left
  · go_wp2
    go_ret
    exact ⟨rfl, bel02⟩
  rcases q6 with ⟨q6, q6'⟩ | ⟨q6, rfl⟩
  rotate_left
  · go_wp2
    go_ret
    exact ⟨rfl, bel02⟩
  generalize hn : a.ss.length = n at *
  generalize hm : b.ss.length = m at *
  have HN := hide hn
  have HM := hide hm
  clear hn hm
  rcases q8 with ⟨q8, q8'⟩ | ⟨q8, rfl⟩
  rotate_left
  · go_wp2
    go_ret
    exact ⟨rfl, bel02⟩
  have HQ8 := hide q8'
  clear q8'
  go_wp2
  go_loopw [5] (fun i wr => ∃ (k : Nat), k ≤ n ∧ i = .int .i64 k ∧ Hid (a.ss.take k = b.ss.take k) ∧ ∃ m, wr = w2.drewN m) (fun i _ => n - (intOf i).toNat)
  case atStart => exact ⟨0, by omega, rfl, hide rfl, 0, rfl⟩
  case round =>
    obtain ⟨k, hk, rfl, HT, mm, rfl⟩ := hrel
    by_cases hlt : k < n
    · obtain ⟨b1, o1, x1, hv1, hc1⟩ := RA.out (by omega)
      obtain ⟨b2, o2, x2, hv2, hc2⟩ := RB.out (by have := HQ8.out; omega)
      simp only [Value.slice.injEq, true_and] at hv1 hv2
      obtain ⟨rfl, rfl⟩ := hv1
      obtain ⟨rfl, rfl⟩ := hv2
      obtain ⟨o, ho⟩ := at_of (l := a.ss) (k := k) (by have := HN.out; omega)
      obtain ⟨q, hq⟩ := at_of (l := b.ss) (k := k) (by have := HM.out; have := HQ8.out; omega)
      obtain ⟨y0, y1⟩ := hc1 k o ho
      obtain ⟨z0, z1⟩ := hc2 k q hq
      have hlt' : (k : Int) < n := by omega
      have hlt2 : (k : Int) < m := by have := HQ8.out; omega
      have HO := hide ho
      have HQ := hide hq
      have hoq := hnq o q
      clear ho hq hc1 hc2 hnq
      by_cases h1 : o = q
      · have HT2 : Hid (a.ss.take (k + 1) = b.ss.take (k + 1)) := hide (by
          rw [List.take_add_one, List.take_add_one, HT.out, HO.out, HQ.out, h1])
        rw [show ((o.1 == q.1) && (o.2 == q.2)) = true by simp [h1]] at hoq
        clear h1
        go_wp2
        go_quiet (fail)
        go_wp2
        go_roundw
        case rel => exact ⟨k + 1, by omega, by go_num, HT2, _, rfl⟩
        case measure => simp [intOf]; omega
      · have hfo : ans = false := NO.out fun e => by
          have h3 := HO.out
          rw [show a.ss = b.ss from congrArg Mm.Msg.ss e, HQ.out] at h3
          exact h1 (by rw [Option.some.inj h3])
        subst hfo
        rw [show ((o.1 == q.1) && (o.2 == q.2)) = false by
          by_cases e1 : o.1 = q.1
          · have : o.2 ≠ q.2 := fun e2 => h1 (Prod.ext e1 e2)
            simp [this]
          · simp [e1]] at hoq
        clear h1 HA NO
        go_wp2
        go_quiet (fail)
        go_wp2
        go_ret
        exact ⟨rfl, below_drewN (below_drewN bel02 _) _⟩
    · have hlt' : ¬ (k : Int) < n := by omega
      have hss : Hid (a.ss = b.ss) := hide (by
        have h1 := HT.out
        rw [List.take_of_length_le (by have := HN.out; omega), List.take_of_length_le (by have := HM.out; have := HQ8.out; omega)] at h1
        exact h1)
      have hs : Hid (ans = sameV (cvs a.cs) (cvs b.cs)) := hide (by
        rw [← HA.out]
        exact smM_cs (a := a.m) (b := b.m) q1' q2' q3' q4' q5' q6' (decide_eq_true hss.out))
      have bel3 : Below w2.heap.size w2 (w2.drewN mm) := below_drewN (Below.refl _ _) mm
      go_wp2_with fail
      refine (samesR_any _ _ a.cs b.cs _ (IA.out.c.below bel3) (IB.out.c.below bel3) FA.out.fc FB.out.fc FA.out.lc FB.out.lc).mono ?_
      rintro E w4 ⟨rfl, bel4⟩
      have bel04 := (bel02.trans (bel3.mono (by omega))).trans (bel4.mono (by simp; omega))
      rw [← hs.out]
      go_wp2
      go_ret
      exact ⟨rfl, bel04⟩

end Go.Proofs.Ytjaiemdefngbbaa
