/- Texts of one layer, one behind the other. -/
import Derived.Test.YtfnaeblbodfekaaG7
import Derived.Test.YtfnaeblbodfekaaGB
/- The contract of the document's Check of starts. -/
namespace Go.Proofs.Ytfnaeblbodfekaa
open Go.RowKit
set_option linter.unusedVariables false

/-- What the document's loop knows at the place k. -/
def CkI (l : List Sm.S) (en : Int) (k : Nat) : Prop := k = 0 ∨ ∃ (j : Nat) (s : Sm.S), k = j + 1 ∧ l[j]? = some s ∧ 0 < s.1 ∧ (l.map Prod.snd).headD 1 = 1 ∧ (Sm.Up en 0 0 l ↔ Sm.Up en s.1 s.2 (l.drop k))

set_option maxRecDepth 100000 in
set_option maxHeartbeats 4000000 in
theorem scheckR_any (v : Value) (l : List Sm.S) (en : Int) (w : World) (h : RowS w v l) (hl : l.length ≤ 140737488355328) :
    Calls Try.prog 68 #[v, .int .i64 en] w fun E w' => E = .returned (.int .i64 (Sm.chk l en)) ∧ ∃ m, w' = w.drewN m := by
  obtain ⟨ans, hans⟩ : ∃ r, Sm.chk l en = r := ⟨_, rfl⟩
  rw [hans]
  have HA := hide hans
  clear hans
  have NO : Hid ((Sm.Ok l en → False) → ans = 5) := hide fun h => by rw [← HA.out]; exact Sm.chk_no h
  by_cases h3 : ¬ (l.length = 0 ↔ en = 0)
  · obtain ⟨ao, cap, rfl, _, _⟩ := h.shape
    generalize hn : l.length = n at *
    obtain rfl := NO.out fun h => h3 (by rw [← hn]; exact h.2.2.1)
    have hq := one_zero h3
    clear HA NO h3 h hl hn
    go_enter Try.func68, Try.ntmps68
    by_cases h1 : en < 0
    · go_wp2
      go_ret
      exact ⟨rfl, 0, rfl⟩
    by_cases h2 : (1048576 : Int) < en
    · go_wp2
      go_ret
      exact ⟨rfl, 0, rfl⟩
    rcases hq with ⟨n0, e0⟩ | ⟨n0, e0⟩ <;> (go_wp2; go_ret; exact ⟨rfl, 0, rfl⟩)
  have h3 : l.length = 0 ↔ en = 0 := Classical.not_not.1 h3
  have HI := hide h3
  obtain ⟨bb, n0, e0⟩ := both_zero h3
  clear h3
  by_cases h1 : en < 0
  · obtain ⟨ao, cap, rfl, _, _⟩ := h.shape
    generalize hn : l.length = n at *
    obtain rfl := NO.out fun h => by have := h.1; omega
    clear HA NO h hl hn HI
    go_enter Try.func68, Try.ntmps68
    go_wp2
    go_ret
    exact ⟨rfl, 0, rfl⟩
  by_cases h2 : (1048576 : Int) < en
  · obtain ⟨ao, cap, rfl, _, _⟩ := h.shape
    generalize hn : l.length = n at *
    obtain rfl := NO.out fun h => by have := h.2.1; omega
    clear HA NO h hl hn HI
    go_enter Try.func68, Try.ntmps68
    go_wp2
    go_ret
    exact ⟨rfl, 0, rfl⟩
  by_cases hz : l.length = 0
  · have : l = [] := List.eq_nil_of_length_eq_zero hz
    subst this
    have he : en = 0 := HI.out.1 rfl
    subst he
    obtain ⟨ao, cap, rfl, _, _⟩ := h.shape
    have hfo := HA.out
    rw [Sm.chk_ok (l := []) (en := 0) ⟨by omega, by omega, by simp, trivial, rfl⟩] at hfo
    subst hfo
    simp only [List.length_nil]
    clear HA NO h hl hz HI n0 e0
    go_enter Try.func68, Try.ntmps68
    go_wp2
    go_loopw [5] (fun iv wr => iv = .int .i64 0 ∧ wr = w) (fun _ _ => 0)
    case atStart => exact ⟨rfl, rfl⟩
    case round =>
      obtain ⟨rfl, rfl⟩ := hrel
      go_wp2
      go_ret
      exact ⟨rfl, 0, rfl⟩
  obtain ⟨b, off, cap, hvl, _, _, hB, hc⟩ := rowS_full h (by omega)
  subst hvl
  have HC := hide hc
  generalize hn : l.length = n at *
  have HN := hide hn
  clear h hc hn
  go_enter Try.func68, Try.ntmps68
  go_wp2
  clear n0 e0
  go_loopw [5] (fun iv wr => ∃ (k : Nat), k ≤ n ∧ iv = .int .i64 k ∧ Hid (CkI l en k) ∧ ∃ m, wr = w.drewN m) (fun iv _ => n - (intOf iv).toNat)
  case atStart => exact ⟨0, by omega, rfl, hide (.inl rfl), 0, rfl⟩
  case round =>
    obtain ⟨k, hk, rfl, HT, mm, rfl⟩ := hrel
    by_cases hlt : k < n
    · obtain ⟨s, hs⟩ := at_of (l := l) (k := k) (by have := HN.out; omega)
      obtain ⟨d0, d1⟩ := HC.out k s hs
      have hlt' : (k : Int) < n := by omega
      rcases HT.out with hk0 | ⟨j, t, hkj, ht, t0, th, tu⟩
      · have k0 : ((k : Int) == 0) = true := by simp [hk0]
        have k1 : ¬ (0 : Int) < k := by omega
        have HK := hide hk0
        rw [hk0] at hs
        have HU := hide (Sm.up_drop (en := en) (e := 0) (f := 0) hs)
        rw [List.drop_zero] at HU
        have HH := hide (head_at hs)
        have HS := hide hs
        clear hs HT hk0
        by_cases hg : 1 ≤ s.1 ∧ s.1 ≤ 1048576 ∧ s.2 ≤ en ∧ s.2 = 1
        · have p1 : ¬ s.1 < 1 := by omega
          have p2 : ¬ (1048576 : Int) < s.1 := by omega
          have p3 : ¬ en < s.2 := by omega
          have p4 : (s.2 != 1) = false := by simpa using hg.2.2.2
          have HT2 : Hid (CkI l en 1) := hide (.inr ⟨0, s, rfl, HS.out, by omega, by rw [HH.out]; exact hg.2.2.2, by
            rw [HU.out]
            constructor
            · rintro ⟨_, _, _, _, h⟩; exact h
            · intro h; exact ⟨by omega, by omega, by omega, by omega, h⟩⟩)
          clear hg HU HH HS
          go_wp2
          have r1 : ¬ s.1 < 1 := by omega
          have r2 : ¬ (1048576 : Int) < s.1 := by omega
          have r3 : ¬ en < s.2 := by omega
          have r5 : ¬ 0 < k := by omega
          go_big_quiet (fail)
          go_wp2
          go_roundw
          case rel => exact ⟨1, by omega, by rw [HK.out]; rfl, HT2, _, rfl⟩
          case measure => simp [intOf]; omega
        · obtain rfl := NO.out fun h => by
            have h5 := HU.out.1 h.2.2.2.1
            have h6 := h.2.2.2.2
            rw [HH.out] at h6
            omega
          have hq : Hid (s.1 < 1 ∨ (¬ s.1 < 1 ∧ (1048576 : Int) < s.1) ∨ (¬ s.1 < 1 ∧ ¬ (1048576 : Int) < s.1 ∧ en < s.2) ∨ (¬ s.1 < 1 ∧ ¬ (1048576 : Int) < s.1 ∧ ¬ en < s.2 ∧ (s.2 != 1) = true)) := hide (by
            have : (s.2 != 1) = true ↔ s.2 ≠ 1 := by simp
            rw [this]
            omega)
          clear hg HU HH HS HA NO
          go_wp2
          have r5 : ¬ 0 < k := by omega
          rcases hq.out with p | ⟨p1, p⟩ | ⟨p1, p2, p⟩ | ⟨p1, p2, p3, p⟩
          · go_big_quiet (fail)
            go_wp2
            go_ret
            exact ⟨rfl, _, by first | rfl | exact World.drewN_drewN _ _ _⟩
          · have r1 : ¬ s.1 < 1 := by omega
            go_big_quiet (fail)
            go_wp2
            go_ret
            exact ⟨rfl, _, by first | rfl | exact World.drewN_drewN _ _ _⟩
          · have r1 : ¬ s.1 < 1 := by omega
            have r2 : ¬ (1048576 : Int) < s.1 := by omega
            go_big_quiet (fail)
            go_wp2
            go_ret
            exact ⟨rfl, _, by first | rfl | exact World.drewN_drewN _ _ _⟩
          · have r1 : ¬ s.1 < 1 := by omega
            have r2 : ¬ (1048576 : Int) < s.1 := by omega
            have r3 : ¬ en < s.2 := by omega
            go_big_quiet (fail)
            go_wp2
            go_ret
            exact ⟨rfl, _, by first | rfl | exact World.drewN_drewN _ _ _⟩
      · obtain ⟨u0, u1⟩ := HC.out j t ht
        have HU := hide (tu.trans (Sm.up_drop (en := en) (e := t.1) (f := t.2) hs))
        have HH := hide th
        have HS := hide hs
        have HK := hide hkj
        have k0 : ((k : Int) == 0) = false := by simp; omega
        have k1 : (0 : Int) < k := by omega
        have hsub : (k : Int) - 1 = (j : Int) := by omega
        have hjn : (j : Int) < n := by omega
        clear hs HT tu th ht hkj
        by_cases hg : t.1 < s.1 ∧ s.1 ≤ 1048576 ∧ t.2 < s.2 ∧ s.2 ≤ en
        · have p1 : ¬ s.1 < 1 := by omega
          have p2 : ¬ (1048576 : Int) < s.1 := by omega
          have p3 : ¬ en < s.2 := by omega
          have p4 : ¬ s.1 ≤ t.1 := by omega
          have p5 : ¬ s.2 ≤ t.2 := by omega
          have HT2 : Hid (CkI l en (k + 1)) := hide (.inr ⟨k, s, rfl, HS.out, by omega, HH.out, by
            rw [HU.out]
            constructor
            · rintro ⟨_, _, _, _, h⟩; exact h
            · intro h; exact ⟨hg.1, hg.2.1, hg.2.2.1, hg.2.2.2, h⟩⟩)
          clear hg HU HH HS
          go_wp2
          have r1 : ¬ s.1 < 1 := by omega
          have r2 : ¬ (1048576 : Int) < s.1 := by omega
          have r3 : ¬ en < s.2 := by omega
          have r5 : 0 < k := by omega
          have r6 : ¬ s.1 ≤ t.1 := by omega
          have r7 : ¬ s.2 ≤ t.2 := by omega
          go_big_quiet (fail)
          go_wp2
          go_roundw
          case rel => exact ⟨k + 1, by omega, by go_num, HT2, _, rfl⟩
          case measure => simp [intOf]; omega
        · obtain rfl := NO.out fun h => by
            have h5 := HU.out.1 h.2.2.2.1
            omega
          have hq : Hid (s.1 < 1 ∨ (¬ s.1 < 1 ∧ (1048576 : Int) < s.1) ∨ (¬ s.1 < 1 ∧ ¬ (1048576 : Int) < s.1 ∧ en < s.2) ∨ (¬ s.1 < 1 ∧ ¬ (1048576 : Int) < s.1 ∧ ¬ en < s.2 ∧ s.1 ≤ t.1) ∨ (¬ s.1 < 1 ∧ ¬ (1048576 : Int) < s.1 ∧ ¬ en < s.2 ∧ ¬ s.1 ≤ t.1 ∧ s.2 ≤ t.2)) := hide (by omega)
          clear hg HU HH HS HA NO
          go_wp2
          have r5 : 0 < k := by omega
          rcases hq.out with p | ⟨p1, p⟩ | ⟨p1, p2, p⟩ | ⟨p1, p2, p3, p⟩ | ⟨p1, p2, p3, p4, p⟩
          · go_big_quiet (fail)
            go_wp2
            go_ret
            exact ⟨rfl, _, by first | rfl | exact World.drewN_drewN _ _ _⟩
          · have r1 : ¬ s.1 < 1 := by omega
            go_big_quiet (fail)
            go_wp2
            go_ret
            exact ⟨rfl, _, by first | rfl | exact World.drewN_drewN _ _ _⟩
          · have r1 : ¬ s.1 < 1 := by omega
            have r2 : ¬ (1048576 : Int) < s.1 := by omega
            go_big_quiet (fail)
            go_wp2
            go_ret
            exact ⟨rfl, _, by first | rfl | exact World.drewN_drewN _ _ _⟩
          · have r1 : ¬ s.1 < 1 := by omega
            have r2 : ¬ (1048576 : Int) < s.1 := by omega
            have r3 : ¬ en < s.2 := by omega
            go_big_quiet (fail)
            go_wp2
            go_ret
            exact ⟨rfl, _, by first | rfl | exact World.drewN_drewN _ _ _⟩
          · have r1 : ¬ s.1 < 1 := by omega
            have r2 : ¬ (1048576 : Int) < s.1 := by omega
            have r3 : ¬ en < s.2 := by omega
            have r6 : ¬ s.1 ≤ t.1 := by omega
            go_big_quiet (fail)
            go_wp2
            go_ret
            exact ⟨rfl, _, by first | rfl | exact World.drewN_drewN _ _ _⟩
    · have hlt' : ¬ (k : Int) < n := by omega
      have hfo := HA.out
      have hok : Sm.Ok l en := by
        rcases HT.out with h0 | ⟨j, t, rfl, ht, t0, th, tu⟩
        · omega
        · exact ⟨by omega, by omega, by rw [HN.out]; exact HI.out, tu.2 (by rw [List.drop_of_length_le (by have := HN.out; omega)]; trivial), th⟩
      rw [Sm.chk_ok hok] at hfo
      subst hfo
      clear hok HA NO HT
      go_wp2
      go_ret
      exact ⟨rfl, _, rfl⟩

end Go.Proofs.Ytfnaeblbodfekaa

/- The contracts of the document's Check: plain, hello, shipped. -/
namespace Go.Proofs.Ytfnaeblbodfekaa
open Go.RowKit
set_option linter.unusedVariables false

/-- What plain asks. -/
def PlnP (m : Mw) : Prop := m.r = 0 ∧ m.n = 0 ∧ m.ss = [] ∧ m.f = 0 ∧ m.p = 0 ∧ m.cs = []

theorem two_zero {x : Int} {ans : Bool} (h : x ≠ 0 → ans = false) : ((x == 0) = true ∧ x = 0) ∨ ((x == 0) = false ∧ ans = false) := by
  by_cases e : x = 0
  · exact .inl ⟨by simp [e], e⟩
  · exact .inr ⟨by simpa using e, h e⟩

set_option maxHeartbeats 1000000 in
theorem plain_any (m : Mw) (ans : Bool) (w : World) (hi : IsM w m) (h : Yes ans (PlnP m)) :
    Calls Try.prog 57 #[mv m] w fun E w' => E = .returned (.bool ans) ∧ Below w.heap.size w w' := by
  have HD : Hid (Yes ans (PlnP m)) := hide h
  obtain ⟨ao, cap, hvs, _, _⟩ := hi.s.shape
  obtain ⟨ao2, cap2, hvc, _, _⟩ := hi.c.1.shape
  rw [mv_eq hvs hvc]
  obtain ⟨w1, hw1, sz1, bel1, hA⟩ := newm' w m hvs hvc
  obtain ⟨c0, c1, c2, c3, c4, c5, c6, c7⟩ := hA.ei' hvs hvc
  have q1 := two_zero (x := m.r) (ans := ans) fun k => HD.out.no fun p => k p.1
  have q2 := two_zero (x := m.n) (ans := ans) fun k => HD.out.no fun p => k p.2.1
  have q3 := two_zero (x := (m.ss.length : Int)) (ans := ans) fun k => HD.out.no fun p => k (by rw [p.2.2.1]; rfl)
  have q4 := two_zero (x := m.f) (ans := ans) fun k => HD.out.no fun p => k p.2.2.2.1
  have q5 := two_zero (x := m.p) (ans := ans) fun k => HD.out.no fun p => k p.2.2.2.2.1
  have q6 := two_zero (x := (m.cs.length : Int)) (ans := ans) fun k => HD.out.no fun p => k (by rw [p.2.2.2.2.2]; rfl)
  have YS : Hid (m.r = 0 → m.n = 0 → (m.ss.length : Int) = 0 → m.f = 0 → m.p = 0 → (m.cs.length : Int) = 0 → ans = true) := hide fun h1 h2 h3 h4 h5 h6 => HD.out.yes ⟨h1, h2, List.eq_nil_of_length_eq_zero (by omega), h4, h5, List.eq_nil_of_length_eq_zero (by omega)⟩
  clear h hi hA hvs hvc
  generalize m.ss.length = n1 at *
  generalize m.cs.length = n2 at *
  go_enter Try.func57, Try.ntmps57
  rcases q1 with ⟨q1, g1⟩ | ⟨q1, rfl⟩
  rotate_left
  · go_wp2
    go_ret
    exact ⟨rfl, bel1⟩
  rcases q2 with ⟨q2, g2⟩ | ⟨q2, rfl⟩
  rotate_left
  · clear g1
    go_wp2
    go_ret
    exact ⟨rfl, bel1⟩
  rcases q3 with ⟨q3, g3⟩ | ⟨q3, rfl⟩
  rotate_left
  · clear g1 g2
    go_wp2
    go_ret
    exact ⟨rfl, bel1⟩
  rcases q4 with ⟨q4, g4⟩ | ⟨q4, rfl⟩
  rotate_left
  · clear g1 g2 g3
    go_wp2
    go_ret
    exact ⟨rfl, bel1⟩
  rcases q5 with ⟨q5, g5⟩ | ⟨q5, rfl⟩
  rotate_left
  · clear g1 g2 g3 g4
    go_wp2
    go_ret
    exact ⟨rfl, bel1⟩
  rcases q6 with ⟨q6, g6⟩ | ⟨q6, rfl⟩
  rotate_left
  · clear g1 g2 g3 g4 g5
    go_wp2
    go_ret
    exact ⟨rfl, bel1⟩
  obtain rfl := YS.out g1 g2 g3 g4 g5 g6
  clear g1 g2 g3 g4 g5 g6
  go_wp2
  go_ret
  exact ⟨rfl, bel1⟩

/-- What of a message plain is asked. -/
def pl1 (m : Mw) : Mw := ⟨0, 0, 0, 0, .slice none 0 0, [], m.f, m.p, m.vc, m.cs⟩
def pl2 (m : Mw) : Mw := ⟨0, 0, m.r, m.n, m.vs, m.ss, 0, 0, .slice none 0 0, []⟩
def pl3 (m : Mw) : Mw := ⟨0, 0, m.r, 0, m.vs, m.ss, m.f, m.p, m.vc, m.cs⟩

theorem pl1_is {w : World} {m : Mw} (h : IsM w m) : IsM w (pl1 m) := ⟨RowG.nil _ _, h.c⟩
theorem pl2_is {w : World} {m : Mw} (h : IsM w m) : IsM w (pl2 m) := ⟨h.s, IsC.nil _⟩
theorem pl3_is {w : World} {m : Mw} (h : IsM w m) : IsM w (pl3 m) := ⟨h.s, h.c⟩

theorem cvs_nil {r : List Cw} : cvs r = [] ↔ r = [] := ⟨nil_cvs, fun h => by rw [h]; rfl⟩

/-- What the document's hello asks, whatever the epoch. -/
def HelQ (m : Mw) : Prop := 1 ≤ m.r ∧ m.r ≤ 3 ∧ Sm.Ok m.ss m.n ∧ (m.ss ≠ [] → Sm.lst m.ss ≤ m.e)

theorem hel_iff {m : Mw} (he : 0 ≤ m.e) : Mm.Hel m.m ↔ HelQ m ∧ PlnP (pl1 m) := by
  constructor
  · rintro ⟨a1, a2, a3, a4, a5, a6, a7⟩
    exact ⟨⟨a1, a2, a3, fun _ => a4⟩, rfl, rfl, rfl, a5, a6, cvs_nil.1 a7⟩
  · rintro ⟨⟨a1, a2, a3, a4⟩, _, _, _, a5, a6, a7⟩
    refine ⟨a1, a2, a3, ?_, a5, a6, cvs_nil.2 a7⟩
    by_cases hs : m.ss = []
    · show Sm.lst m.ss ≤ m.e
      rw [hs]
      exact he
    · exact a4 hs

theorem shp_iff {m : Mw} : Mm.Shp m.m ↔ ShpP m ∧ PlnP (pl2 m) := by
  constructor
  · rintro ⟨a1, a2, a3, a4, a5, a6, a7, a8, a9, a10, a11⟩
    exact ⟨⟨a1, a2, a3, a4, a5, by have := a6; simp only [Mw.m, cvs_length] at this; exact this, a7, a8⟩, a9, a10, a11, rfl, rfl, rfl⟩
  · rintro ⟨⟨a1, a2, a3, a4, a5, a6, a7, a8⟩, a9, a10, a11, _⟩
    exact ⟨a1, a2, a3, a4, a5, by simp only [Mw.m, cvs_length]; exact a6, a7, a8, a9, a10, a11⟩

theorem ack_iff {m : Mw} : Mm.Ack m.m ↔ (0 ≤ m.n ∧ m.n ≤ 1048576) ∧ PlnP (pl3 m) := by
  constructor
  · rintro ⟨a1, a2, a3, a4, a5, a6, a7⟩
    exact ⟨⟨a1, a2⟩, a3, rfl, a4, a5, a6, cvs_nil.1 a7⟩
  · rintro ⟨⟨a1, a2⟩, a3, _, a4, a5, a6, a7⟩
    exact ⟨a1, a2, a3, a4, a5, a6, cvs_nil.2 a7⟩

set_option maxRecDepth 100000 in
set_option maxHeartbeats 2000000 in
theorem helloR_any (m : Mw) (ans : Bool) (w : World) (hi : IsM w m) (hf : FitM m) (h : Yes ans (HelQ m ∧ PlnP (pl1 m))) :
    Calls Try.prog 55 #[mv m] w fun E w' => E = .returned (.bool ans) ∧ Below w.heap.size w w' := by
  have HD : Hid (Yes ans (HelQ m ∧ PlnP (pl1 m))) := hide h
  have NO : Hid (¬ HelQ m → ans = false) := hide fun k => HD.out.no fun p => k p.1
  have YE : Hid (HelQ m → Yes ans (PlnP (pl1 m))) := hide fun k => HD.out.trans ⟨fun p => p.2, fun p => ⟨k, p⟩⟩
  obtain ⟨ao, cap, hvs, _, _⟩ := hi.s.shape
  obtain ⟨ao2, cap2, hvc, _, _⟩ := hi.c.1.shape
  rw [mv_eq hvs hvc]
  obtain ⟨w1, hw1, sz1, bel1, hA⟩ := newm' w m hvs hvc
  have A1 := hide hA
  obtain ⟨c0, c1, c2, c3, c4, c5, c6, c7⟩ := hA.ei' hvs hvc
  have HVS := hide hvs
  have HVC := hide hvc
  have HI := hide hi
  have hl := hf.ls
  have X := hide (fun (W : World) (k : RowS W m.vs m.ss) => scheckR_any m.vs m.ss m.n W k hl)
  obtain ⟨ck, hck⟩ : ∃ c, Sm.chk m.ss m.n = c := ⟨_, rfl⟩
  rw [hck] at X
  have HC := hide hck
  have I1 := hide (hi.s.below bel1)
  have RW : Hid (0 < m.ss.length → ∃ b o c, (.slice ao m.ss.length cap : Value) = .slice (some ⟨b, o, none⟩) m.ss.length c ∧ b < w.heap.size ∧ ∀ (i : Nat) (s : Sm.S), m.ss[i]? = some s → w.cell? ⟨b, o + i * 2, none⟩ = some (.int .i64 s.1) ∧ w.cell? ⟨b, o + i * 2 + 1, none⟩ = some (.int .i64 s.2)) := hide fun h => by
    obtain ⟨b, o, c, h1, _, _, h2, h3⟩ := rowS_full HI.out.s h
    exact ⟨b, o, c, by rw [← HVS.out]; exact h1, h2, h3⟩
  rw [hvs] at X I1
  clear h hck hA hi hf hvs hvc
  generalize hn : m.ss.length = n at *
  have HN := hide hn
  clear hn
  go_enter Try.func55, Try.ntmps55
  by_cases h1 : m.r < 1
  · obtain rfl := NO.out fun k => by have := k.1; omega
    go_wp2
    go_ret
    exact ⟨rfl, bel1⟩
  by_cases h2 : 3 < m.r
  · obtain rfl := NO.out fun k => by have := k.2.1; omega
    go_wp2
    go_ret
    exact ⟨rfl, bel1⟩
  go_wp2_with fail
  refine (X.out _ I1.out).mono ?_
  rintro E w2 ⟨rfl, mm, rfl⟩
  have bel2 : Below w1.heap.size w1 (w1.drewN mm) := below_drewN (Below.refl _ _) mm
  generalize w1.drewN mm = w2 at *
  have sz2 := bel2.size
  have bel02 := bel1.trans (bel2.mono (by omega))
  clear c0 c1 c2 c3 c4 c5 c6 c7 hw1
  by_cases h3 : ck = 0
  · subst h3
    have HOK := hide (Sm.chk_zero.1 HC.out)
    obtain ⟨c0, c1, c2, c3, c4, c5, c6, c7⟩ := (A1.out.below bel2).ei' HVS.out HVC.out
    have XP := hide (fun (an : Bool) (W : World) (k : IsM W (pl1 m)) (hy : Yes an (PlnP (pl1 m))) => plain_any (pl1 m) an W k hy)
    rw [mv_eq (m := pl1 m) (a := .slice none 0 0) (b := .slice ao2 m.cs.length cap2) rfl HVC.out] at XP
    by_cases hz : n = 0
    · have hn' : m.ss = [] := List.eq_nil_of_length_eq_zero (by have := HN.out; omega)
      have hy := YE.out ⟨by omega, by omega, HOK.out, fun k => absurd hn' k⟩
      have HY := hide hy
      have hz' : ¬ (0 : Int) < n := by omega
      clear hn' hy hz
      go_wp2
      have hz' : ¬ (0 : Int) < n := by omega
      have hz2 : ¬ 0 < n := by omega
      go_big_quiet (fail)
      go_wp2_with fail
      refine (XP.out ans _ (pl1_is (HI.out.below (below_drewN bel02 _))) HY.out).mono ?_
      rintro E w3 ⟨rfl, bel3⟩
      have bel03 : Below w.heap.size w w3 := (below_drewN bel02 _).trans (bel3.mono (by simp; omega))
      go_wp2
      go_ret
      exact ⟨rfl, bel03⟩
    · obtain ⟨b, off, cap', hv', hB', hc⟩ := RW.out (by omega)
      simp only [Value.slice.injEq, true_and] at hv'
      obtain ⟨rfl, rfl⟩ := hv'
      obtain ⟨s, hs⟩ := at_of (l := m.ss) (k := n - 1) (by have := HN.out; omega)
      obtain ⟨g0, g1⟩ := hc _ _ hs
      have d0 := (bel02.cell (p := ⟨b, off + (n - 1) * 2, none⟩) hB').trans g0
      have hla : Sm.lst m.ss = s.1 := Sm.lst_at (by rw [HN.out]; exact hs)
      obtain ⟨k, hk⟩ : ∃ k, n - 1 = k := ⟨_, rfl⟩
      rw [hk] at d0
      have hp0 : (0 : Int) < (n : Int) := by omega
      have hsub : (n : Int) - 1 = (k : Int) := by omega
      have hk1 : (k : Int) < (n : Int) := by omega
      clear hc hs g0 g1 hk
      by_cases hx : s.1 ≤ m.e
      · have HY := hide (YE.out ⟨by omega, by omega, HOK.out, fun _ => by rw [hla]; exact hx⟩)
        have hx' : ¬ m.e < s.1 := by omega
        clear hla hx hz
        go_wp2
        have hk1 : (k : Int) < (n : Int) := by omega
        have hx' : ¬ m.e < s.1 := by omega
        have hp0 : (0 : Int) < (n : Int) := by omega
        have hp1 : 0 < n := by omega
        go_big_quiet (fail)
        go_wp2_with fail
        refine (XP.out ans _ (pl1_is (HI.out.below (below_drewN bel02 _))) HY.out).mono ?_
        rintro E w3 ⟨rfl, bel3⟩
        have bel03 : Below w.heap.size w w3 := (below_drewN bel02 _).trans (bel3.mono (by simp; omega))
        go_wp2
        go_ret
        exact ⟨rfl, bel03⟩
      · obtain rfl := NO.out fun k => hx (by have := k.2.2.2 (fun e => hz (by rw [← HN.out, e]; rfl)); rw [hla] at this; exact this)
        have hx' : m.e < s.1 := by omega
        clear hla hx hz
        go_wp2
        have hk1 : (k : Int) < (n : Int) := by omega
        have hx' : m.e < s.1 := by omega
        have hp0 : (0 : Int) < (n : Int) := by omega
        have hp1 : 0 < n := by omega
        go_big_quiet (fail)
        go_wp2
        go_ret
        exact ⟨rfl, below_drewN bel02 _⟩
  · have h3' : (ck != 0) = true := by simpa using h3
    obtain rfl := NO.out fun k => h3 (by rw [← HC.out]; exact Sm.chk_zero.2 k.2.2.1)
    clear h3
    go_wp2
    go_ret
    exact ⟨rfl, bel02⟩

end Go.Proofs.Ytfnaeblbodfekaa

/- The contracts of the document's Check: shipped, Check. -/
namespace Go.Proofs.Ytfnaeblbodfekaa
open Go.RowKit
set_option linter.unusedVariables false

theorem Try.eqlF' (a b c d : Int) (w : World) : (binOp .eql 46 (.agg #[.int .i64 a, .int .i64 b]) (.agg #[.int .i64 c, .int .i64 d])).run Try.prog w = .ok (.bool ((a == c) && (b == d))) w := by
  rw [run_eql_struct, run_equalIn_agg w 9999 46 _ _ (by kernel_rfl) (by kernel_rfl)]
  unfold Program.fieldsOf
  rw [Try.underlying46]
  simp [Op.eqFields, go_sem, Try.underlying24, Try.underlying3]
  by_cases h1 : a = c <;> by_cases h2 : b = d <;> simp [h1, h2]

set_option maxRecDepth 100000 in
set_option maxHeartbeats 2000000 in
theorem shippedR_any (m : Mw) (ans : Bool) (w : World) (hi : IsM w m) (hf : FitM m) (h : Yes ans (Mm.Shp m.m)) :
    Calls Try.prog 56 #[mv m] w fun E w' => E = .returned (.bool ans) ∧ Below w.heap.size w w' := by
  have HD : Hid (Yes ans (Mm.Shp m.m)) := hide h
  have NO : Hid (¬ ShpP m → ans = false) := hide fun k => HD.out.no fun p => k (shp_iff.1 p).1
  have YE : Hid (ShpP m → Yes ans (PlnP (pl2 m))) := hide fun k => HD.out.trans (shp_iff.trans ⟨fun p => p.2, fun p => ⟨k, p⟩⟩)
  obtain ⟨ao, cap, hvs, _, _⟩ := hi.s.shape
  obtain ⟨ao2, cap2, hvc, _, _⟩ := hi.c.1.shape
  rw [mv_eq hvs hvc]
  obtain ⟨w1, hw1, sz1, bel1, hA⟩ := newm' w m hvs hvc
  have A1 : Hid (∀ W, Below w1.heap.size w1 W → Ei W w.heap.size (.int .i64 m.k) (.int .i64 m.e) (.int .u8 m.r) (.int .i64 m.n) (.slice ao m.ss.length cap) (.int .i64 m.f) (.int .i64 m.p) (.slice ao2 m.cs.length cap2)) := hide fun W hb => (hA.below hb).ei' hvs hvc
  obtain ⟨c0, c1, c2, c3, c4, c5, c6, c7⟩ := hA.ei' hvs hvc
  have HI := hide hi
  have hl := hf.lc
  have HF := hide hf.fc
  have ff := hf.f
  have X := hide (fun (W : World) (k : IsC W m.vc m.cs) => cfolR_any m.p (m.f - 1) m.vc m.cs W k HF.out hl)
  have XP := hide (fun (an : Bool) (W : World) (k : IsM W (pl2 m)) (hy : Yes an (PlnP (pl2 m))) => plain_any (pl2 m) an W k hy)
  rw [mv_eq (m := pl2 m) (a := .slice ao m.ss.length cap) (b := .slice none 0 0) hvs rfl] at XP
  have C := hide (isC_cells hi.c)
  have I1 : Hid (∀ W, Below w1.heap.size w1 W → IsC W m.vc m.cs) := hide fun W hb => (HI.out.c.below bel1).below hb
  rw [hvc] at X C I1
  clear h hA hi hf hvs hvc
  generalize hn : m.cs.length = n at *
  have HN := hide hn
  clear hn
  go_enter Try.func56, Try.ntmps56
  by_cases h1 : m.f < 1
  · obtain rfl := NO.out fun k => by have := k.1; omega
    go_wp2
    go_ret
    exact ⟨rfl, bel1⟩
  by_cases h2 : 1048576 < m.f
  · obtain rfl := NO.out fun k => by have := k.2.1; omega
    go_wp2
    go_ret
    exact ⟨rfl, bel1⟩
  by_cases h3 : m.p < 0
  · obtain rfl := NO.out fun k => by have := k.2.2.1; omega
    go_wp2
    go_ret
    exact ⟨rfl, bel1⟩
  by_cases h4 : m.e < m.p
  · obtain rfl := NO.out fun k => by have := k.2.2.2.1; omega
    go_wp2
    go_ret
    exact ⟨rfl, bel1⟩
  rcases beq_two m.p m.f 0 1 with ⟨hbb, bb, q1, q2⟩ | ⟨hbb, bb, q1, q2⟩
  rotate_left
  · obtain rfl := NO.out fun k => hbb k.2.2.2.2.1
    clear hbb
    cases bb
    · have q3 : (m.f == 1) = true := q2
      clear q2
      go_wp2
      go_ret
      exact ⟨rfl, bel1⟩
    · have q3 : (m.f == 1) = false := q2
      clear q2
      go_wp2
      go_ret
      exact ⟨rfl, bel1⟩
  have HB := hide hbb
  have hbn : (bb != bb) = false := by simp
  clear hbb
  by_cases h5 : 4 < n
  · obtain rfl := NO.out fun k => by have := k.2.2.2.2.2.1; have := HN.out; omega
    clear X XP
    have h5' : (4 : Int) < n := by omega
    go_wp2
    go_ret
    exact ⟨rfl, bel1⟩
  have h5' : ¬ (4 : Int) < n := by omega
  go_wp2
  go_loopw [3] (fun i wr => ∃ (k : Nat), k ≤ n ∧ i = .int .i64 k ∧ Hid (∀ (j : Nat) (c : Cw), j < k → m.cs[j]? = some c → c.e ≤ m.e) ∧ ∃ mm, wr = w1.drewN mm) (fun i _ => n - (intOf i).toNat)
  case atStart => exact ⟨0, by omega, rfl, hide (fun j c hj => by omega), 0, rfl⟩
  case round =>
    obtain ⟨k, hk, rfl, HT, mm, rfl⟩ := hrel
    by_cases hlt : k < n
    · obtain ⟨b1, o1, x1, hv1, hB1, hc1⟩ := C.out (by have := HN.out; omega)
      simp only [Value.slice.injEq, true_and] at hv1
      obtain ⟨rfl, rfl⟩ := hv1
      obtain ⟨s, hs⟩ := at_of (l := m.cs) (k := k) (by have := HN.out; omega)
      obtain ⟨g0, _, _⟩ := hc1 k s hs
      have d0 := (bel1.cell (p := ⟨b1, o1 + k * 3, none⟩) hB1).trans g0
      have hlt' : (k : Int) < n := by omega
      have HS := hide hs
      clear hs hc1 g0
      by_cases hx : s.e ≤ m.e
      · have hx' : ¬ m.e < s.e := by omega
        have HT2 : Hid (∀ (j : Nat) (c : Cw), j < k + 1 → m.cs[j]? = some c → c.e ≤ m.e) := hide fun j c hj hc => by
          rcases Nat.lt_or_ge j k with g | g
          · exact HT.out j c g hc
          · have : j = k := by omega
            subst this
            rw [HS.out] at hc
            have := Option.some.inj hc
            subst this
            omega
        clear hx
        go_wp2
        have hx' : ¬ m.e < s.e := by omega
        go_quiet (fail)
        go_wp2
        go_roundw
        case rel => exact ⟨k + 1, by omega, by go_num, HT2, _, rfl⟩
        case measure => simp [intOf]; omega
      · obtain rfl := NO.out fun p => hx (p.2.2.2.2.2.2.1 s.c (by unfold cvs; exact List.mem_map_of_mem (List.mem_of_getElem? HS.out)))
        have hx' : m.e < s.e := by omega
        clear hx
        go_wp2
        have hx' : m.e < s.e := by omega
        go_quiet (fail)
        go_wp2
        go_ret
        exact ⟨rfl, below_drewN (below_drewN bel1 _) _⟩
    · have hlt' : ¬ (k : Int) < n := by omega
      have HALL : Hid (∀ c ∈ cvs m.cs, c.e ≤ m.e) := hide fun c hc => by
        unfold cvs at hc
        obtain ⟨d, hd, rfl⟩ := List.mem_map.1 hc
        obtain ⟨j, hj⟩ := List.getElem?_of_mem hd
        exact HT.out j d (by have := (List.getElem?_eq_some_iff.1 hj).1; have := HN.out; omega) hj
      have bel2 : Below w1.heap.size w1 (w1.drewN mm) := below_drewN (Below.refl _ _) mm
      have bel0 : Below w.heap.size w (w1.drewN mm) := below_drewN bel1 mm
      go_wp2_with fail
      refine (X.out _ (I1.out _ bel2)).mono ?_
      rintro E w3 ⟨rfl, bel3⟩
      have sz3 := bel3.size
      have bel13 : Below w1.heap.size w1 w3 := bel2.trans (bel3.mono (by simp))
      have bel03 := bel1.trans (bel13.mono (by omega))
      have sz3 : w.heap.size + 1 ≤ w3.heap.size := by have : (w1.drewN mm).heap.size = w1.heap.size := rfl; omega
      clear c0 c1 c2 c3 c4 c5 c6 c7 hw1 X
      obtain ⟨c0, c1, c2, c3, c4, c5, c6, c7⟩ := A1.out _ bel13
      have hft := fol_two (cvs m.cs) m.p (m.f - 1)
      have hgd := Try.guardF
      unfold flv
      rcases hft with ⟨hg, hfo⟩ | ⟨hg, hfo⟩
      rotate_left
      · obtain rfl := NO.out fun k => hg k.2.2.2.2.2.2.2
        have hnq := Try.eqlF' (Cm.fol m.p (m.f - 1) 0 (cvs m.cs)).1 (Cm.fol m.p (m.f - 1) 0 (cvs m.cs)).2 0 0
        rw [show ((Cm.fol m.p (m.f - 1) 0 (cvs m.cs)).1 == 0 && (Cm.fol m.p (m.f - 1) 0 (cvs m.cs)).2 == 0) = false by simp [hfo]] at hnq
        generalize (Cm.fol m.p (m.f - 1) 0 (cvs m.cs)).1 = x1 at *
        generalize (Cm.fol m.p (m.f - 1) 0 (cvs m.cs)).2 = x2 at *
        clear hg hfo
        go_wp2
        go_ret
        exact ⟨rfl, bel03⟩
      rw [hfo]
      have hnq := Try.eqlF' 0 0 0 0
      rw [show ((0 : Int) == 0 && (0 : Int) == 0) = true from rfl] at hnq
      have HY := hide (YE.out ⟨by omega, by omega, by omega, by omega, HB.out, by have := HN.out; omega, HALL.out, hg⟩)
      clear hfo hg
      go_wp2_with fail
      refine (XP.out ans _ (pl2_is (HI.out.below bel03)) HY.out).mono ?_
      rintro E w4 ⟨rfl, bel4⟩
      have bel04 := bel03.trans (bel4.mono (by omega))
      go_wp2
      go_ret
      exact ⟨rfl, bel04⟩

set_option maxRecDepth 100000 in
set_option maxHeartbeats 2000000 in
theorem mcheckR_any (m : Mw) (c : Int) (w : World) (hi : IsM w m) (hf : FitM m) (hc : Mm.Ck m.m c) :
    Calls Try.prog 33 #[mv m] w fun E w' => E = .returned (.int .i64 c) ∧ Below w.heap.size w w' := by
  have HC := hide hc
  have NO : Hid (¬ Mm.Ok m.m → c = 2) := hide fun h => by
    rcases HC.out with ⟨_, k⟩ | ⟨e, _⟩
    · exact absurd k h
    · exact e
  have YE : Hid (Mm.Ok m.m → c = 0) := hide fun h => by
    rcases HC.out with ⟨e, _⟩ | ⟨_, k⟩
    · exact e
    · exact absurd h k
  obtain ⟨ao, cap, hvs, _, _⟩ := hi.s.shape
  obtain ⟨ao2, cap2, hvc, _, _⟩ := hi.c.1.shape
  rw [mv_eq hvs hvc]
  obtain ⟨w1, hw1, sz1, bel1, hA⟩ := newm' w m hvs hvc
  have A1 : Hid (∀ W, Below w1.heap.size w1 W → Ei W w.heap.size (.int .i64 m.k) (.int .i64 m.e) (.int .u8 m.r) (.int .i64 m.n) (.slice ao m.ss.length cap) (.int .i64 m.f) (.int .i64 m.p) (.slice ao2 m.cs.length cap2)) := hide fun W hb => (hA.below hb).ei' hvs hvc
  obtain ⟨c0, c1, c2, c3, c4, c5, c6, c7⟩ := hA.ei' hvs hvc
  have HI := hide hi
  have HF := hide hf
  have XV : Hid (mv m = .agg #[.int .i64 m.k, .int .i64 m.e, .int .u8 m.r, .int .i64 m.n, .slice ao m.ss.length cap, .int .i64 m.f, .int .i64 m.p, .slice ao2 m.cs.length cap2]) := hide (mv_eq hvs hvc)
  have XP := hide (fun (an : Bool) (W : World) (k : IsM W (pl3 m)) (hy : Yes an (PlnP (pl3 m))) => plain_any (pl3 m) an W k hy)
  rw [mv_eq (m := pl3 m) (a := .slice ao m.ss.length cap) (b := .slice ao2 m.cs.length cap2) hvs hvc] at XP
  clear hc hA hi hf hvs hvc
  go_enter Try.func33, Try.ntmps33
  by_cases k1 : m.k = 1
  · have k1' : (m.k == 1) = true := by simp [k1]
    obtain ⟨ans, hy⟩ := yes_of (HelQ m ∧ PlnP (pl1 m))
    have X := helloR_any m ans w1 (HI.out.below bel1) HF.out hy
    rw [XV.out] at X
    have HX := hide X
    have HK : Hid (Mm.Ok m.m ↔ 1 ≤ m.e ∧ m.e ≤ 1048576 ∧ ans = true) := hide (by
      constructor
      · intro h
        have h1 : 1 ≤ m.e := h.1
        refine ⟨h.1, h.2.1, hy.2 ((hel_iff (by omega)).1 ?_)⟩
        rcases h.2.2 with ⟨_, k⟩ | ⟨k, _⟩ | ⟨k, _⟩
        · exact k
        · have : m.k = 2 := k; omega
        · have : m.k = 3 := k; omega
      · rintro ⟨h1, h2, h3⟩
        exact ⟨h1, h2, .inl ⟨k1, (hel_iff (by omega)).2 (hy.1 h3)⟩⟩)
    clear X hy k1
    go_wp2_with fail
    refine HX.out.mono ?_
    rintro E w2 ⟨rfl, bel2⟩
    have bel02 := bel1.trans (bel2.mono (by omega))
    clear c0 c1 c2 c3 c4 c5 c6 c7 hw1
    obtain ⟨c0, c1, c2, c3, c4, c5, c6, c7⟩ := A1.out _ bel2
    cases ans
    · obtain rfl := NO.out fun k => by have := (HK.out.1 k).2.2; simp at this
      go_wp2
      go_ret
      exact ⟨rfl, bel02⟩
    · by_cases h1 : m.e < 1
      · obtain rfl := NO.out fun k => by have := (HK.out.1 k).1; omega
        go_wp2
        go_ret
        exact ⟨rfl, bel02⟩
      · by_cases h2 : 1048576 < m.e
        · obtain rfl := NO.out fun k => by have := (HK.out.1 k).2.1; omega
          go_wp2
          go_ret
          exact ⟨rfl, bel02⟩
        · obtain rfl := YE.out (HK.out.2 ⟨by omega, by omega, rfl⟩)
          go_wp2
          go_ret
          exact ⟨rfl, bel02⟩
  have k1' : (m.k == 1) = false := by simpa using k1
  by_cases k2 : m.k = 2
  · have k2' : (m.k == 2) = true := by simp [k2]
    obtain ⟨ans, hy⟩ := yes_of (Mm.Shp m.m)
    have X := shippedR_any m ans w1 (HI.out.below bel1) HF.out hy
    rw [XV.out] at X
    have HX := hide X
    have HK : Hid (Mm.Ok m.m ↔ 1 ≤ m.e ∧ m.e ≤ 1048576 ∧ ans = true) := hide (by
      constructor
      · intro h
        refine ⟨h.1, h.2.1, hy.2 ?_⟩
        rcases h.2.2 with ⟨k, _⟩ | ⟨_, k⟩ | ⟨k, _⟩
        · have : m.k = 1 := k; omega
        · exact k
        · have : m.k = 3 := k; omega
      · rintro ⟨h1, h2, h3⟩
        exact ⟨h1, h2, .inr (.inl ⟨k2, hy.1 h3⟩)⟩)
    clear X hy k1 k2
    go_wp2_with fail
    refine HX.out.mono ?_
    rintro E w2 ⟨rfl, bel2⟩
    have bel02 := bel1.trans (bel2.mono (by omega))
    clear c0 c1 c2 c3 c4 c5 c6 c7 hw1
    obtain ⟨c0, c1, c2, c3, c4, c5, c6, c7⟩ := A1.out _ bel2
    cases ans
    · obtain rfl := NO.out fun k => by have := (HK.out.1 k).2.2; simp at this
      go_wp2
      go_ret
      exact ⟨rfl, bel02⟩
    · by_cases h1 : m.e < 1
      · obtain rfl := NO.out fun k => by have := (HK.out.1 k).1; omega
        go_wp2
        go_ret
        exact ⟨rfl, bel02⟩
      · by_cases h2 : 1048576 < m.e
        · obtain rfl := NO.out fun k => by have := (HK.out.1 k).2.1; omega
          go_wp2
          go_ret
          exact ⟨rfl, bel02⟩
        · obtain rfl := YE.out (HK.out.2 ⟨by omega, by omega, rfl⟩)
          go_wp2
          go_ret
          exact ⟨rfl, bel02⟩
  have k2' : (m.k == 2) = false := by simpa using k2
  by_cases k3 : m.k = 3
  · have k3' : (m.k == 3) = true := by simp [k3]
    by_cases p1 : 0 ≤ m.n
    · by_cases p2 : m.n ≤ 1048576
      · obtain ⟨ans, hy⟩ := yes_of (PlnP (pl3 m))
        have HX := hide (XP.out ans w1 (pl3_is (HI.out.below bel1)) hy)
        have HK : Hid (Mm.Ok m.m ↔ 1 ≤ m.e ∧ m.e ≤ 1048576 ∧ ans = true) := hide (by
          constructor
          · intro h
            refine ⟨h.1, h.2.1, hy.2 ?_⟩
            rcases h.2.2 with ⟨k, _⟩ | ⟨k, _⟩ | ⟨_, k⟩
            · have : m.k = 1 := k; omega
            · have : m.k = 2 := k; omega
            · exact (ack_iff.1 k).2
          · rintro ⟨h1, h2, h3⟩
            exact ⟨h1, h2, .inr (.inr ⟨k3, ack_iff.2 ⟨⟨p1, p2⟩, hy.1 h3⟩⟩)⟩)
        clear hy k1 k2 k3
        go_wp2_with fail
        refine HX.out.mono ?_
        rintro E w2 ⟨rfl, bel2⟩
        have bel02 := bel1.trans (bel2.mono (by omega))
        clear c0 c1 c2 c3 c4 c5 c6 c7 hw1
        obtain ⟨c0, c1, c2, c3, c4, c5, c6, c7⟩ := A1.out _ bel2
        cases ans
        · obtain rfl := NO.out fun k => by have := (HK.out.1 k).2.2; simp at this
          go_wp2
          go_ret
          exact ⟨rfl, bel02⟩
        · by_cases h1 : m.e < 1
          · obtain rfl := NO.out fun k => by have := (HK.out.1 k).1; omega
            go_wp2
            go_ret
            exact ⟨rfl, bel02⟩
          · by_cases h2 : 1048576 < m.e
            · obtain rfl := NO.out fun k => by have := (HK.out.1 k).2.1; omega
              go_wp2
              go_ret
              exact ⟨rfl, bel02⟩
            · obtain rfl := YE.out (HK.out.2 ⟨by omega, by omega, rfl⟩)
              go_wp2
              go_ret
              exact ⟨rfl, bel02⟩
      · obtain rfl := NO.out fun h => by
          rcases h.2.2 with ⟨k, _⟩ | ⟨k, _⟩ | ⟨_, k⟩
          · have : m.k = 1 := k; omega
          · have : m.k = 2 := k; omega
          · exact p2 (ack_iff.1 k).1.2
        have p3 : (1048576 : Int) < m.n := by omega
        clear k1 k2 k3
        go_wp2
        go_ret
        exact ⟨rfl, bel1⟩
    · obtain rfl := NO.out fun h => by
        rcases h.2.2 with ⟨k, _⟩ | ⟨k, _⟩ | ⟨_, k⟩
        · have : m.k = 1 := k; omega
        · have : m.k = 2 := k; omega
        · exact p1 (ack_iff.1 k).1.1
      have p3 : m.n < 0 := by omega
      clear k1 k2 k3
      go_wp2
      go_ret
      exact ⟨rfl, bel1⟩
  have k3' : (m.k == 3) = false := by simpa using k3
  obtain rfl := NO.out fun h => by
    rcases h.2.2 with ⟨k, _⟩ | ⟨k, _⟩ | ⟨k, _⟩
    · exact k1 k
    · exact k2 k
    · exact k3 k
  clear k1 k2 k3
  go_wp2
  go_ret
  exact ⟨rfl, bel1⟩

end Go.Proofs.Ytfnaeblbodfekaa
