/- The contract of the document's Check of starts. -/
import Derived.Test.YtjaiemdefngbbaaA3
namespace Go.Proofs.Ytjaiemdefngbbaa
open Go.RowKit
set_option linter.unusedVariables false

/-- What the document's loop knows at the place k. -/
def CkI (l : List Sm.S) (en : Int) (k : Nat) : Prop := k = 0 ∨ ∃ (j : Nat) (s : Sm.S), k = j + 1 ∧ l[j]? = some s ∧ 0 < s.1 ∧ (l.map Prod.snd).headD 1 = 1 ∧ (Sm.Up en 0 0 l ↔ Sm.Up en s.1 s.2 (l.drop k))

set_option maxRecDepth 100000 in
set_option maxHeartbeats 4000000 in
theorem scheckR_any (v : Value) (l : List Sm.S) (en : Int) (w : World) (h : RowS w v l) (hl : l.length ≤ 140737488355328) :
    Calls Try.prog 70 #[v, .int .i64 en] w fun E w' => E = .returned (.int .i64 (Sm.chk l en)) ∧ ∃ m, w' = w.drewN m := by
  obtain ⟨ans, hans⟩ : ∃ r, Sm.chk l en = r := ⟨_, rfl⟩
  rw [hans]
  have HA := hide hans
  clear hans
  have NO : Hid ((Sm.Ok l en → False) → ans = 5) := hide fun h => by rw [← HA.out]; exact Sm.chk_no h
  by_cases h3 : ¬ (l.length = 0 ↔ en = 0)
  · obtain ⟨ao, cap, rfl, _, _⟩ := h.shape
    generalize hn : l.length = n at *
    obtain rfl := NO.out fun h => h3 (by rw [← hn]; exact h.2.2.1)
    have hq := one_zero h3
    clear HA NO h3 h hl hn
    go_enter Try.func70, Try.ntmps70
    by_cases h1 : en < 0
    · go_wp2
      go_ret
      exact ⟨rfl, 0, rfl⟩
    by_cases h2 : (1048576 : Int) < en
    · go_wp2
      go_ret
      exact ⟨rfl, 0, rfl⟩
    rcases hq with ⟨n0, e0⟩ | ⟨n0, e0⟩ <;> (go_wp2; go_ret; exact ⟨rfl, 0, rfl⟩)
  have h3 : l.length = 0 ↔ en = 0 := Classical.not_not.1 h3
  have HI := hide h3
  obtain ⟨bb, n0, e0⟩ := both_zero h3
  clear h3
  by_cases h1 : en < 0
  · obtain ⟨ao, cap, rfl, _, _⟩ := h.shape
    generalize hn : l.length = n at *
    obtain rfl := NO.out fun h => by have := h.1; omega
    clear HA NO h hl hn HI
    go_enter Try.func70, Try.ntmps70
    go_wp2
    go_ret
    exact ⟨rfl, 0, rfl⟩
  by_cases h2 : (1048576 : Int) < en
  · obtain ⟨ao, cap, rfl, _, _⟩ := h.shape
    generalize hn : l.length = n at *
    obtain rfl := NO.out fun h => by have := h.2.1; omega
    clear HA NO h hl hn HI
    go_enter Try.func70, Try.ntmps70
    go_wp2
    go_ret
    exact ⟨rfl, 0, rfl⟩
  by_cases hz : l.length = 0
  · have : l = [] := List.eq_nil_of_length_eq_zero hz
    subst this
    have he : en = 0 := HI.out.1 rfl
    subst he
    obtain ⟨ao, cap, rfl, _, _⟩ := h.shape
    have hfo := HA.out
    rw [Sm.chk_ok (l := []) (en := 0) ⟨by omega, by omega, by simp, trivial, rfl⟩] at hfo
    subst hfo
    simp only [List.length_nil]
    clear HA NO h hl hz HI n0 e0
    go_enter Try.func70, Try.ntmps70
    go_wp2
    go_loopw [5] (fun iv wr => iv = .int .i64 0 ∧ wr = w) (fun _ _ => 0)
    case atStart => exact ⟨rfl, rfl⟩
    case round =>
      obtain ⟨rfl, rfl⟩ := hrel
      go_wp2
      go_ret
      exact ⟨rfl, 0, rfl⟩
  obtain ⟨b, off, cap, hvl, _, _, hB, hc⟩ := rowS_full h (by omega)
  subst hvl
  have HC := hide hc
  generalize hn : l.length = n at *
  have HN := hide hn
  clear h hc hn
  go_enter Try.func70, Try.ntmps70
  go_wp2
  clear n0 e0
  go_loopw [5] (fun iv wr => ∃ (k : Nat), k ≤ n ∧ iv = .int .i64 k ∧ Hid (CkI l en k) ∧ ∃ m, wr = w.drewN m) (fun iv _ => n - (intOf iv).toNat)
  case atStart => exact ⟨0, by omega, rfl, hide (.inl rfl), 0, rfl⟩
  case round =>
    obtain ⟨k, hk, rfl, HT, mm, rfl⟩ := hrel
    by_cases hlt : k < n
    · obtain ⟨s, hs⟩ := at_of (l := l) (k := k) (by have := HN.out; omega)
      obtain ⟨d0, d1⟩ := HC.out k s hs
      have hlt' : (k : Int) < n := by omega
      rcases HT.out with hk0 | ⟨j, t, hkj, ht, t0, th, tu⟩
      · have k0 : ((k : Int) == 0) = true := by simp [hk0]
        have k1 : ¬ (0 : Int) < k := by omega
        have HK := hide hk0
        rw [hk0] at hs
        have HU := hide (Sm.up_drop (en := en) (e := 0) (f := 0) hs)
        rw [List.drop_zero] at HU
        have HH := hide (head_at hs)
        have HS := hide hs
        clear hs HT hk0
        by_cases hg : 1 ≤ s.1 ∧ s.1 ≤ 1048576 ∧ s.2 ≤ en ∧ s.2 = 1
        · have p1 : ¬ s.1 < 1 := by omega
          have p2 : ¬ (1048576 : Int) < s.1 := by omega
          have p3 : ¬ en < s.2 := by omega
          have p4 : (s.2 != 1) = false := by simpa using hg.2.2.2
          have HT2 : Hid (CkI l en 1) := hide (.inr ⟨0, s, rfl, HS.out, by omega, by rw [HH.out]; exact hg.2.2.2, by
            rw [HU.out]
            constructor
            · rintro ⟨_, _, _, _, h⟩; exact h
            · intro h; exact ⟨by omega, by omega, by omega, by omega, h⟩⟩)
          clear hg HU HH HS
          go_wp2
          have r1 : ¬ s.1 < 1 := by omega
          have r2 : ¬ (1048576 : Int) < s.1 := by omega
          have r3 : ¬ en < s.2 := by omega
          have r5 : ¬ 0 < k := by omega
          go_big_quiet (fail)
          go_wp2
          go_roundw
          case rel => exact ⟨1, by omega, by rw [HK.out]; rfl, HT2, _, rfl⟩
          case measure => simp [intOf]; omega
        · obtain rfl := NO.out fun h => by
            have h5 := HU.out.1 h.2.2.2.1
            have h6 := h.2.2.2.2
            rw [HH.out] at h6
            omega
          have hq : Hid (s.1 < 1 ∨ (¬ s.1 < 1 ∧ (1048576 : Int) < s.1) ∨ (¬ s.1 < 1 ∧ ¬ (1048576 : Int) < s.1 ∧ en < s.2) ∨ (¬ s.1 < 1 ∧ ¬ (1048576 : Int) < s.1 ∧ ¬ en < s.2 ∧ (s.2 != 1) = true)) := hide (by
            have : (s.2 != 1) = true ↔ s.2 ≠ 1 := by simp
            rw [this]
            omega)
          clear hg HU HH HS HA NO
          go_wp2
          have r5 : ¬ 0 < k := by omega
          rcases hq.out with p | ⟨p1, p⟩ | ⟨p1, p2, p⟩ | ⟨p1, p2, p3, p⟩
          · go_big_quiet (fail)
            go_wp2
            go_ret
            exact ⟨rfl, _, by first | rfl | exact World.drewN_drewN _ _ _⟩
          · have r1 : ¬ s.1 < 1 := by omega
            go_big_quiet (fail)
            go_wp2
            go_ret
            exact ⟨rfl, _, by first | rfl | exact World.drewN_drewN _ _ _⟩
          · have r1 : ¬ s.1 < 1 := by omega
            have r2 : ¬ (1048576 : Int) < s.1 := by omega
            go_big_quiet (fail)
            go_wp2
            go_ret
            exact ⟨rfl, _, by first | rfl | exact World.drewN_drewN _ _ _⟩
          · have r1 : ¬ s.1 < 1 := by omega
            have r2 : ¬ (1048576 : Int) < s.1 := by omega
            have r3 : ¬ en < s.2 := by omega
            go_big_quiet (fail)
            go_wp2
            go_ret
            exact ⟨rfl, _, by first | rfl | exact World.drewN_drewN _ _ _⟩
      · obtain ⟨u0, u1⟩ := HC.out j t ht
        have HU := hide (tu.trans (Sm.up_drop (en := en) (e := t.1) (f := t.2) hs))
        have HH := hide th
        have HS := hide hs
        have HK := hide hkj
        have k0 : ((k : Int) == 0) = false := by simp; omega
        have k1 : (0 : Int) < k := by omega
        have hsub : (k : Int) - 1 = (j : Int) := by omega
        have hjn : (j : Int) < n := by omega
        clear hs HT tu th ht hkj
        by_cases hg : t.1 < s.1 ∧ s.1 ≤ 1048576 ∧ t.2 < s.2 ∧ s.2 ≤ en
        · have p1 : ¬ s.1 < 1 := by omega
          have p2 : ¬ (1048576 : Int) < s.1 := by omega
          have p3 : ¬ en < s.2 := by omega
          have p4 : ¬ s.1 ≤ t.1 := by omega
          have p5 : ¬ s.2 ≤ t.2 := by omega
          have HT2 : Hid (CkI l en (k + 1)) := hide (.inr ⟨k, s, rfl, HS.out, by omega, HH.out, by
            rw [HU.out]
            constructor
            · rintro ⟨_, _, _, _, h⟩; exact h
            · intro h; exact ⟨hg.1, hg.2.1, hg.2.2.1, hg.2.2.2, h⟩⟩)
          clear hg HU HH HS
          go_wp2
          have r1 : ¬ s.1 < 1 := by omega
          have r2 : ¬ (1048576 : Int) < s.1 := by omega
          have r3 : ¬ en < s.2 := by omega
          have r5 : 0 < k := by omega
          have r6 : ¬ s.1 ≤ t.1 := by omega
          have r7 : ¬ s.2 ≤ t.2 := by omega
          go_big_quiet (fail)
          go_wp2
          go_roundw
          case rel => exact ⟨k + 1, by omega, by go_num, HT2, _, rfl⟩
          case measure => simp [intOf]; omega
        · obtain rfl := NO.out fun h => by
            have h5 := HU.out.1 h.2.2.2.1
            omega
          have hq : Hid (s.1 < 1 ∨ (¬ s.1 < 1 ∧ (1048576 : Int) < s.1) ∨ (¬ s.1 < 1 ∧ ¬ (1048576 : Int) < s.1 ∧ en < s.2) ∨ (¬ s.1 < 1 ∧ ¬ (1048576 : Int) < s.1 ∧ ¬ en < s.2 ∧ s.1 ≤ t.1) ∨ (¬ s.1 < 1 ∧ ¬ (1048576 : Int) < s.1 ∧ ¬ en < s.2 ∧ ¬ s.1 ≤ t.1 ∧ s.2 ≤ t.2)) := hide (by omega)
          clear hg HU HH HS HA NO
          go_wp2
          have r5 : 0 < k := by omega
          rcases hq.out with p | ⟨p1, p⟩ | ⟨p1, p2, p⟩ | ⟨p1, p2, p3, p⟩ | ⟨p1, p2, p3, p4, p⟩
          · go_big_quiet (fail)
            go_wp2
            go_ret
            exact ⟨rfl, _, by first | rfl | exact World.drewN_drewN _ _ _⟩
          · have r1 : ¬ s.1 < 1 := by omega
            go_big_quiet (fail)
            go_wp2
            go_ret
            exact ⟨rfl, _, by first | rfl | exact World.drewN_drewN _ _ _⟩
          · have r1 : ¬ s.1 < 1 := by omega
            have r2 : ¬ (1048576 : Int) < s.1 := by omega
            go_big_quiet (fail)
            go_wp2
            go_ret
            exact ⟨rfl, _, by first | rfl | exact World.drewN_drewN _ _ _⟩
          · have r1 : ¬ s.1 < 1 := by omega
            have r2 : ¬ (1048576 : Int) < s.1 := by omega
            have r3 : ¬ en < s.2 := by omega
            go_big_quiet (fail)
            go_wp2
            go_ret
            exact ⟨rfl, _, by first | rfl | exact World.drewN_drewN _ _ _⟩
          · have r1 : ¬ s.1 < 1 := by omega
            have r2 : ¬ (1048576 : Int) < s.1 := by omega
            have r3 : ¬ en < s.2 := by omega
            have r6 : ¬ s.1 ≤ t.1 := by omega
            go_big_quiet (fail)
            go_wp2
            go_ret
            exact ⟨rfl, _, by first | rfl | exact World.drewN_drewN _ _ _⟩
    · have hlt' : ¬ (k : Int) < n := by omega
      have hfo := HA.out
      have hok : Sm.Ok l en := by
        rcases HT.out with h0 | ⟨j, t, rfl, ht, t0, th, tu⟩
        · omega
        · exact ⟨by omega, by omega, by rw [HN.out]; exact HI.out, tu.2 (by rw [List.drop_of_length_le (by have := HN.out; omega)]; trivial), th⟩
      rw [Sm.chk_ok hok] at hfo
      subst hfo
      clear hok HA NO HT
      go_wp2
      go_ret
      exact ⟨rfl, _, rfl⟩

end Go.Proofs.Ytjaiemdefngbbaa
