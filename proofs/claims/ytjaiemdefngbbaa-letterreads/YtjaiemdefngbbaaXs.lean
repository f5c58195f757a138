/- The contracts of the document's Check: plain, hello, shipped. -/
import Derived.Test.YtjaiemdefngbbaaXh
import Derived.Test.YtjaiemdefngbbaaSx
namespace Go.Proofs.Ytjaiemdefngbbaa
open Go.RowKit
set_option linter.unusedVariables false

/-- What plain asks. -/
def PlnP (m : Mw) : Prop := m.r = 0 ∧ m.n = 0 ∧ m.ss = [] ∧ m.f = 0 ∧ m.p = 0 ∧ m.cs = []

theorem two_zero {x : Int} {ans : Bool} (h : x ≠ 0 → ans = false) : ((x == 0) = true ∧ x = 0) ∨ ((x == 0) = false ∧ ans = false) := by
  by_cases e : x = 0
  · exact .inl ⟨by simp [e], e⟩
  · exact .inr ⟨by simpa using e, h e⟩

set_option maxHeartbeats 1000000 in
theorem plain_any (m : Mw) (ans : Bool) (w : World) (hi : IsM w m) (h : Yes ans (PlnP m)) :
    Calls Try.prog 38 #[mv m] w fun E w' => E = .returned (.bool ans) ∧ Below w.heap.size w w' := by
  have HD : Hid (Yes ans (PlnP m)) := hide h
  obtain ⟨ao, cap, hvs, _, _⟩ := hi.s.shape
  obtain ⟨ao2, cap2, hvc, _, _⟩ := hi.c.1.shape
  rw [mv_eq hvs hvc]
  obtain ⟨w1, hw1, sz1, bel1, hA⟩ := newm' w m hvs hvc
  obtain ⟨c0, c1, c2, c3, c4, c5, c6, c7⟩ := hA.ei' hvs hvc
  have q1 := two_zero (x := m.r) (ans := ans) fun k => HD.out.no fun p => k p.1
  have q2 := two_zero (x := m.n) (ans := ans) fun k => HD.out.no fun p => k p.2.1
  have q3 := two_zero (x := (m.ss.length : Int)) (ans := ans) fun k => HD.out.no fun p => k (by rw [p.2.2.1]; rfl)
  have q4 := two_zero (x := m.f) (ans := ans) fun k => HD.out.no fun p => k p.2.2.2.1
  have q5 := two_zero (x := m.p) (ans := ans) fun k => HD.out.no fun p => k p.2.2.2.2.1
  have q6 := two_zero (x := (m.cs.length : Int)) (ans := ans) fun k => HD.out.no fun p => k (by rw [p.2.2.2.2.2]; rfl)
  have YS : Hid (m.r = 0 → m.n = 0 → (m.ss.length : Int) = 0 → m.f = 0 → m.p = 0 → (m.cs.length : Int) = 0 → ans = true) := hide fun h1 h2 h3 h4 h5 h6 => HD.out.yes ⟨h1, h2, List.eq_nil_of_length_eq_zero (by omega), h4, h5, List.eq_nil_of_length_eq_zero (by omega)⟩
  clear h hi hA hvs hvc
  generalize m.ss.length = n1 at *
  generalize m.cs.length = n2 at *
  go_enter Try.func38, Try.ntmps38
  rcases q1 with ⟨q1, g1⟩ | ⟨q1, rfl⟩
  rotate_left
  · go_wp2
    go_ret
    exact ⟨rfl, bel1⟩
  rcases q2 with ⟨q2, g2⟩ | ⟨q2, rfl⟩
  rotate_left
  · clear g1
    go_wp2
    go_ret
    exact ⟨rfl, bel1⟩
  rcases q3 with ⟨q3, g3⟩ | ⟨q3, rfl⟩
  rotate_left
  · clear g1 g2
    go_wp2
    go_ret
    exact ⟨rfl, bel1⟩
  rcases q4 with ⟨q4, g4⟩ | ⟨q4, rfl⟩
  rotate_left
  · clear g1 g2 g3
    go_wp2
    go_ret
    exact ⟨rfl, bel1⟩
  rcases q5 with ⟨q5, g5⟩ | ⟨q5, rfl⟩
  rotate_left
  · clear g1 g2 g3 g4
    go_wp2
    go_ret
    exact ⟨rfl, bel1⟩
  rcases q6 with ⟨q6, g6⟩ | ⟨q6, rfl⟩
  rotate_left
  · clear g1 g2 g3 g4 g5
    go_wp2
    go_ret
    exact ⟨rfl, bel1⟩
  obtain rfl := YS.out g1 g2 g3 g4 g5 g6
  clear g1 g2 g3 g4 g5 g6
  go_wp2
  go_ret
  exact ⟨rfl, bel1⟩

/-- What of a message plain is asked. -/
def pl1 (m : Mw) : Mw := ⟨0, 0, 0, 0, .slice none 0 0, [], m.f, m.p, m.vc, m.cs⟩
def pl2 (m : Mw) : Mw := ⟨0, 0, m.r, m.n, m.vs, m.ss, 0, 0, .slice none 0 0, []⟩
def pl3 (m : Mw) : Mw := ⟨0, 0, m.r, 0, m.vs, m.ss, m.f, m.p, m.vc, m.cs⟩

theorem pl1_is {w : World} {m : Mw} (h : IsM w m) : IsM w (pl1 m) := ⟨RowG.nil _ _, h.c⟩
theorem pl2_is {w : World} {m : Mw} (h : IsM w m) : IsM w (pl2 m) := ⟨h.s, IsC.nil _⟩
theorem pl3_is {w : World} {m : Mw} (h : IsM w m) : IsM w (pl3 m) := ⟨h.s, h.c⟩

theorem cvs_nil {r : List Cw} : cvs r = [] ↔ r = [] := ⟨nil_cvs, fun h => by rw [h]; rfl⟩

/-- What the document's hello asks, whatever the epoch. -/
def HelQ (m : Mw) : Prop := 1 ≤ m.r ∧ m.r ≤ 3 ∧ Sm.Ok m.ss m.n ∧ (m.ss ≠ [] → Sm.lst m.ss ≤ m.e)

theorem hel_iff {m : Mw} (he : 0 ≤ m.e) : Mm.Hel m.m ↔ HelQ m ∧ PlnP (pl1 m) := by
  constructor
  · rintro ⟨a1, a2, a3, a4, a5, a6, a7⟩
    exact ⟨⟨a1, a2, a3, fun _ => a4⟩, rfl, rfl, rfl, a5, a6, cvs_nil.1 a7⟩
  · rintro ⟨⟨a1, a2, a3, a4⟩, _, _, _, a5, a6, a7⟩
    refine ⟨a1, a2, a3, ?_, a5, a6, cvs_nil.2 a7⟩
    by_cases hs : m.ss = []
    · show Sm.lst m.ss ≤ m.e
      rw [hs]
      exact he
    · exact a4 hs

theorem shp_iff {m : Mw} : Mm.Shp m.m ↔ ShpP m ∧ PlnP (pl2 m) := by
  constructor
  · rintro ⟨a1, a2, a3, a4, a5, a6, a7, a8, a9, a10, a11⟩
    exact ⟨⟨a1, a2, a3, a4, a5, by have := a6; simp only [Mw.m, cvs_length] at this; exact this, a7, a8⟩, a9, a10, a11, rfl, rfl, rfl⟩
  · rintro ⟨⟨a1, a2, a3, a4, a5, a6, a7, a8⟩, a9, a10, a11, _⟩
    exact ⟨a1, a2, a3, a4, a5, by simp only [Mw.m, cvs_length]; exact a6, a7, a8, a9, a10, a11⟩

theorem ack_iff {m : Mw} : Mm.Ack m.m ↔ (0 ≤ m.n ∧ m.n ≤ 1048576) ∧ PlnP (pl3 m) := by
  constructor
  · rintro ⟨a1, a2, a3, a4, a5, a6, a7⟩
    exact ⟨⟨a1, a2⟩, a3, rfl, a4, a5, a6, cvs_nil.1 a7⟩
  · rintro ⟨⟨a1, a2⟩, a3, _, a4, a5, a6, a7⟩
    exact ⟨a1, a2, a3, a4, a5, a6, cvs_nil.2 a7⟩

set_option maxRecDepth 100000 in
set_option maxHeartbeats 2000000 in
theorem helloR_any (m : Mw) (ans : Bool) (w : World) (hi : IsM w m) (hf : FitM m) (h : Yes ans (HelQ m ∧ PlnP (pl1 m))) :
    Calls Try.prog 36 #[mv m] w fun E w' => E = .returned (.bool ans) ∧ Below w.heap.size w w' := by
  have HD : Hid (Yes ans (HelQ m ∧ PlnP (pl1 m))) := hide h
  have NO : Hid (¬ HelQ m → ans = false) := hide fun k => HD.out.no fun p => k p.1
  have YE : Hid (HelQ m → Yes ans (PlnP (pl1 m))) := hide fun k => HD.out.trans ⟨fun p => p.2, fun p => ⟨k, p⟩⟩
  obtain ⟨ao, cap, hvs, _, _⟩ := hi.s.shape
  obtain ⟨ao2, cap2, hvc, _, _⟩ := hi.c.1.shape
  rw [mv_eq hvs hvc]
  obtain ⟨w1, hw1, sz1, bel1, hA⟩ := newm' w m hvs hvc
  have A1 := hide hA
  obtain ⟨c0, c1, c2, c3, c4, c5, c6, c7⟩ := hA.ei' hvs hvc
  have HVS := hide hvs
  have HVC := hide hvc
  have HI := hide hi
  have hl := hf.ls
  have X := hide (fun (W : World) (k : RowS W m.vs m.ss) => scheckR_any m.vs m.ss m.n W k hl)
  obtain ⟨ck, hck⟩ : ∃ c, Sm.chk m.ss m.n = c := ⟨_, rfl⟩
  rw [hck] at X
  have HC := hide hck
  have I1 := hide (hi.s.below bel1)
  have RW : Hid (0 < m.ss.length → ∃ b o c, (.slice ao m.ss.length cap : Value) = .slice (some ⟨b, o, none⟩) m.ss.length c ∧ b < w.heap.size ∧ ∀ (i : Nat) (s : Sm.S), m.ss[i]? = some s → w.cell? ⟨b, o + i * 2, none⟩ = some (.int .i64 s.1) ∧ w.cell? ⟨b, o + i * 2 + 1, none⟩ = some (.int .i64 s.2)) := hide fun h => by
    obtain ⟨b, o, c, h1, _, _, h2, h3⟩ := rowS_full HI.out.s h
    exact ⟨b, o, c, by rw [← HVS.out]; exact h1, h2, h3⟩
  rw [hvs] at X I1
  clear h hck hA hi hf hvs hvc
  generalize hn : m.ss.length = n at *
  have HN := hide hn
  clear hn
  go_enter Try.func36, Try.ntmps36
  by_cases h1 : m.r < 1
  · obtain rfl := NO.out fun k => by have := k.1; omega
    go_wp2
    go_ret
    exact ⟨rfl, bel1⟩
  by_cases h2 : 3 < m.r
  · obtain rfl := NO.out fun k => by have := k.2.1; omega
    go_wp2
    go_ret
    exact ⟨rfl, bel1⟩
  go_wp2_with fail
  refine (X.out _ I1.out).mono ?_
  rintro E w2 ⟨rfl, mm, rfl⟩
  have bel2 : Below w1.heap.size w1 (w1.drewN mm) := below_drewN (Below.refl _ _) mm
  generalize w1.drewN mm = w2 at *
  have sz2 := bel2.size
  have bel02 := bel1.trans (bel2.mono (by omega))
  clear c0 c1 c2 c3 c4 c5 c6 c7 hw1
  by_cases h3 : ck = 0
  · subst h3
    have HOK := hide (Sm.chk_zero.1 HC.out)
    obtain ⟨c0, c1, c2, c3, c4, c5, c6, c7⟩ := (A1.out.below bel2).ei' HVS.out HVC.out
    have XP := hide (fun (an : Bool) (W : World) (k : IsM W (pl1 m)) (hy : Yes an (PlnP (pl1 m))) => plain_any (pl1 m) an W k hy)
    rw [mv_eq (m := pl1 m) (a := .slice none 0 0) (b := .slice ao2 m.cs.length cap2) rfl HVC.out] at XP
    by_cases hz : n = 0
    · have hn' : m.ss = [] := List.eq_nil_of_length_eq_zero (by have := HN.out; omega)
      have hy := YE.out ⟨by omega, by omega, HOK.out, fun k => absurd hn' k⟩
      have HY := hide hy
      have hz' : ¬ (0 : Int) < n := by omega
      clear hn' hy hz
      go_wp2
      have hz' : ¬ (0 : Int) < n := by omega
      have hz2 : ¬ 0 < n := by omega
      go_big_quiet (fail)
      go_wp2_with fail
      refine (XP.out ans _ (pl1_is (HI.out.below (below_drewN bel02 _))) HY.out).mono ?_
      rintro E w3 ⟨rfl, bel3⟩
      have bel03 : Below w.heap.size w w3 := (below_drewN bel02 _).trans (bel3.mono (by simp; omega))
      go_wp2
      go_ret
      exact ⟨rfl, bel03⟩
    · obtain ⟨b, off, cap', hv', hB', hc⟩ := RW.out (by omega)
      simp only [Value.slice.injEq, true_and] at hv'
      obtain ⟨rfl, rfl⟩ := hv'
      obtain ⟨s, hs⟩ := at_of (l := m.ss) (k := n - 1) (by have := HN.out; omega)
      obtain ⟨g0, g1⟩ := hc _ _ hs
      have d0 := (bel02.cell (p := ⟨b, off + (n - 1) * 2, none⟩) hB').trans g0
      have hla : Sm.lst m.ss = s.1 := Sm.lst_at (by rw [HN.out]; exact hs)
      obtain ⟨k, hk⟩ : ∃ k, n - 1 = k := ⟨_, rfl⟩
      rw [hk] at d0
      have hp0 : (0 : Int) < (n : Int) := by omega
      have hsub : (n : Int) - 1 = (k : Int) := by omega
      have hk1 : (k : Int) < (n : Int) := by omega
      clear hc hs g0 g1 hk
      by_cases hx : s.1 ≤ m.e
      · have HY := hide (YE.out ⟨by omega, by omega, HOK.out, fun _ => by rw [hla]; exact hx⟩)
        have hx' : ¬ m.e < s.1 := by omega
        clear hla hx hz
        go_wp2
        have hk1 : (k : Int) < (n : Int) := by omega
        have hx' : ¬ m.e < s.1 := by omega
        have hp0 : (0 : Int) < (n : Int) := by omega
        have hp1 : 0 < n := by omega
        go_big_quiet (fail)
        go_wp2_with fail
        refine (XP.out ans _ (pl1_is (HI.out.below (below_drewN bel02 _))) HY.out).mono ?_
        rintro E w3 ⟨rfl, bel3⟩
        have bel03 : Below w.heap.size w w3 := (below_drewN bel02 _).trans (bel3.mono (by simp; omega))
        go_wp2
        go_ret
        exact ⟨rfl, bel03⟩
      · obtain rfl := NO.out fun k => hx (by have := k.2.2.2 (fun e => hz (by rw [← HN.out, e]; rfl)); rw [hla] at this; exact this)
        have hx' : m.e < s.1 := by omega
        clear hla hx hz
        go_wp2
        have hk1 : (k : Int) < (n : Int) := by omega
        have hx' : m.e < s.1 := by omega
        have hp0 : (0 : Int) < (n : Int) := by omega
        have hp1 : 0 < n := by omega
        go_big_quiet (fail)
        go_wp2
        go_ret
        exact ⟨rfl, below_drewN bel02 _⟩
  · have h3' : (ck != 0) = true := by simpa using h3
    obtain rfl := NO.out fun k => h3 (by rw [← HC.out]; exact Sm.chk_zero.2 k.2.2.1)
    clear h3
    go_wp2
    go_ret
    exact ⟨rfl, bel02⟩

end Go.Proofs.Ytjaiemdefngbbaa
