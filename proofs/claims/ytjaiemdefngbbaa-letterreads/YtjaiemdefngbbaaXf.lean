/- The contracts of helloMayBe and shipMayBe (the program's). -/
import Derived.Test.YtjaiemdefngbbaaXe
namespace Go.Proofs.Ytjaiemdefngbbaa
open Go.RowKit
set_option linter.unusedVariables false

/-- What helloMayBe asks. -/
def HelP (m : Mw) : Prop := 1 ≤ m.r ∧ m.r ≤ 3 ∧ Sm.Ok m.ss m.n ∧ Sm.lst m.ss ≤ m.e
/-- What shipMayBe asks. -/
def ShpP (m : Mw) : Prop := 1 ≤ m.f ∧ m.f ≤ 1048576 ∧ 0 ≤ m.p ∧ m.p ≤ m.e ∧ (m.p = 0 ↔ m.f = 1) ∧ m.cs.length ≤ 4 ∧ (∀ c ∈ cvs m.cs, c.e ≤ m.e) ∧ Cm.Good m.p (m.f - 1) (cvs m.cs)

/-- An answer and what it says. -/
def Yes (ans : Bool) (p : Prop) : Prop := ans = true ↔ p
theorem Yes.no {ans : Bool} {p : Prop} (h : Yes ans p) (hp : ¬ p) : ans = false := by
  cases ans
  · rfl
  · exact absurd (h.1 rfl) hp
theorem Yes.yes {ans : Bool} {p : Prop} (h : Yes ans p) (hp : p) : ans = true := h.2 hp
theorem yes_of (p : Prop) : ∃ ans, Yes ans p := by
  by_cases h : p
  · exact ⟨true, by simp [Yes, h]⟩
  · exact ⟨false, by simp [Yes, h]⟩
theorem Yes.dec {ans : Bool} {p q : Prop} [d : Decidable q] (h : Yes ans p) (h1 : q → p) (h2 : p → q) : ans = decide q := by
  by_cases hp : q
  · rw [h.yes (h1 hp), decide_eq_true hp]
  · rw [h.no fun k => hp (h2 k), decide_eq_false hp]

set_option maxHeartbeats 2000000 in
theorem helloMayBe_any (m : Mw) (ans : Bool) (w : World) (hi : IsM w m) (hf : FitM m) (he : 0 ≤ m.e) (h : Yes ans (HelP m)) :
    Calls Try.prog 59 #[mv m] w fun E w' => E = .returned (.bool ans) ∧ Below w.heap.size w w' := by
  have NO : Hid (¬ HelP m → ans = false) := hide fun k => h.no k
  have YE : Hid (HelP m → ans = true) := hide fun k => h.yes k
  have HD : Hid (Yes ans (HelP m)) := hide h
  unfold mv
  obtain ⟨w1, hw1, sz1, bel1, hA⟩ := newm w m
  have A1 := hide hA
  obtain ⟨c0, c1, c2, c3, c4, c5, c6, c7⟩ := hA.ei
  have i1 := hide (hi.s.below bel1)
  have hl := hf.ls
  have X := hide (fun (W : World) (k : RowS W m.vs m.ss) => scheck_any m.vs m.ss m.n W k hl)
  obtain ⟨ck, hck⟩ : ∃ c, Sm.chk m.ss m.n = c := ⟨_, rfl⟩
  rw [hck] at X
  have HC := hide hck
  clear hck h hA hi
  go_enter Try.func59, Try.ntmps59
  by_cases h1 : m.r < 1
  · obtain rfl := NO.out fun k => by have := k.1; omega
    go_wp2
    go_ret
    exact ⟨rfl, bel1⟩
  by_cases h2 : 3 < m.r
  · obtain rfl := NO.out fun k => by have := k.2.1; omega
    go_wp2
    go_ret
    exact ⟨rfl, bel1⟩
  go_wp2_with fail
  refine (X.out _ i1.out).mono ?_
  rintro E w2 ⟨rfl, bel2⟩
  have sz2 := bel2.size
  have bel02 := bel1.trans (bel2.mono (by omega))
  clear c0 c1 c2 c3 c4 c5 c6 c7
  by_cases h3 : ck = 0
  · subst h3
    have hok := Sm.chk_zero.1 HC.out
    have HOK := hide hok
    clear hok
    obtain ⟨c0, c1, c2, c3, c4, c5, c6, c7⟩ := (A1.out.below bel2).ei
    have i2 := i1.out.below bel2
    by_cases hz : m.ss.length = 0
    · have hn : m.ss = [] := List.eq_nil_of_length_eq_zero hz
      obtain rfl := YE.out ⟨by omega, by omega, HOK.out, by rw [hn]; exact he⟩
      obtain ⟨ao, cap, hv, _, _⟩ := i2.shape
      rw [hv, hz] at c4
      clear hn hz hv i2 hw1
      go_wp2
      go_quiet (fail)
      go_wp2
      go_ret
      exact ⟨rfl, below_drewN bel02 _⟩
    · obtain ⟨b, off, cap, hv, _, _, hB, hc⟩ := rowS_full i2 (by omega)
      obtain ⟨s, hs⟩ := at_of (l := m.ss) (k := m.ss.length - 1) (by omega)
      obtain ⟨d0, d1⟩ := hc _ _ hs
      have hq : ans = decide (s.1 ≤ m.e) := HD.out.dec (fun hx => ⟨by omega, by omega, HOK.out, by rw [Sm.lst_at hs]; exact hx⟩) (fun k => by have := k.2.2.2; rw [Sm.lst_at hs] at this; exact this)
      subst hq
      rw [hv] at c4
      generalize hn : m.ss.length = n at *
      obtain ⟨k, hk⟩ : ∃ k, n - 1 = k := ⟨_, rfl⟩
      rw [hk] at d0 d1
      have hne : ((n : Int) == 0) = false := by simp; omega
      have hsub : (n : Int) - 1 = (k : Int) := by omega
      have hk1 : (k : Int) < (n : Int) := by omega
      clear hv hc hs hn hz NO YE HD i2 hw1 X HC HOK hk
      go_wp2
      have hk1 : (k : Int) < (n : Int) := by omega
      go_big_quiet (fail)
      go_wp2
      go_ret
      exact ⟨rfl, below_drewN bel02 _⟩
  · have h3' : (ck != 0) = true := by simpa using h3
    obtain rfl := NO.out fun k => h3 (by rw [← HC.out]; exact Sm.chk_zero.2 k.2.2.1)
    clear h3
    go_wp2
    go_ret
    exact ⟨rfl, bel02⟩

/-- Epochs of commits that follow never fall. -/
theorem good_le : ∀ (l : List Cm.Cv) (ep nu : Int), Cm.Good ep nu l → ep ≤ Cm.lastE ep l ∧ ∀ c ∈ l, c.e ≤ Cm.lastE ep l
  | [], ep, nu, _ => ⟨Int.le_refl _, fun c hc => by simp at hc⟩
  | c :: r, ep, nu, ⟨h1, h2, h3, h4⟩ => by
    obtain ⟨g1, g2⟩ := good_le r c.e c.n h4
    refine ⟨Int.le_trans h3 g1, fun d hd => ?_⟩
    rcases List.mem_cons.1 hd with rfl | hd
    · exact g1
    · exact g2 d hd

theorem last_of : ∀ (l : List Cm.Cv) (ep : Int) (c : Cm.Cv), l[l.length - 1]? = some c → Cm.lastE ep l = c.e
  | [], _, _, h => by simp at h
  | [x], ep, c, h => by simp at h; subst h; rfl
  | x :: y :: r, ep, c, h => by
    have := last_of (y :: r) x.e c (by simpa using h)
    exact this

theorem bool_ne {x y : Bool} (p q : Prop) (hx : Yes x p) (hy : Yes y q) (h : p ↔ q) : (x != y) = false := by
  have : x = y := by
    cases x <;> cases y <;> simp_all [Yes]
  simp [this]

theorem bool_ne' {x y : Bool} (p q : Prop) (hx : Yes x p) (hy : Yes y q) (h : ¬ (p ↔ q)) : (x != y) = true := by
  cases x <;> cases y <;> simp_all [Yes]

theorem beq_two (x y : Int) (z u : Int) : ((x = z ↔ y = u) ∧ ∃ b, (x == z) = b ∧ (y == u) = b) ∨ (¬ (x = z ↔ y = u) ∧ ∃ b, (x == z) = b ∧ (y == u) = !b) := by
  by_cases h1 : x = z <;> by_cases h2 : y = u
  · exact .inl ⟨by simp [h1, h2], true, by simp [h1], by simp [h2]⟩
  · exact .inr ⟨by simp [h1, h2], true, by simp [h1], by simpa using h2⟩
  · exact .inr ⟨by simp [h1, h2], false, by simpa using h1, by simp [h2]⟩
  · exact .inl ⟨by simp [h1, h2], false, by simpa using h1, by simpa using h2⟩

end Go.Proofs.Ytjaiemdefngbbaa
