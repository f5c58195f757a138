/- The walk of the law VarintBack: it returns true. -/
import Derived.Test.YtgffjdkcoijniaaReadsWalk
namespace Go.Proofs.Ytgffjdkcoijniaa
open Go.RowKit
set_option linter.unusedVariables false

theorem Is.cut {k : IntKind} {w : World} {ad : Addr} {cap : Nat} {zs : List Int} (h : Is k w (.slice (some ad) zs.length cap) zs) (m : Nat) (hm : m ≤ zs.length) : Is k w (.slice (some ad) m cap) (zs.take m) := by
  have hl : (zs.take m).length = m := by rw [List.length_take]; omega
  refine ⟨fun z hz => h.1 z (List.mem_of_mem_take hz), ?_⟩
  rcases h.2 with ⟨hv, _⟩ | ⟨ad', cap', hv, h1, h2, hc⟩
  · cases hv
  · simp at hv
    obtain ⟨rfl, rfl⟩ := hv
    refine .inr ⟨ad, cap, by rw [hl], by omega, h2, fun i hi => ?_⟩
    rw [hl] at hi
    rw [hc i (by omega)]
    simp [List.getD, hi]

theorem Is.drewN {k : IntKind} {w : World} {v : Value} {zs : List Int} (h : Is k w v zs) (n : Nat) : Is k (w.drewN n) v zs := h.below (below_drewN (Below.refl _ _) n)

theorem same_bool (va vb : Value) (xs ys : List Int) (r : Bool) (w : World) (ha : Is .u8 w va xs) (hb : Is .u8 w vb ys) (hl : xs.length ≤ 140737488355328) (hl' : ys.length ≤ 140737488355328) (hr : decide (xs = ys) = r) :
    Calls Try.prog 8 #[va, vb] w fun e w' => e = .returned (.bool r) ∧ ∃ m, w' = w.drewN m := by
  subst hr
  exact same_quiet va vb xs ys w ha hb hl hl'

theorem back_cut (x y : Int) (hx : 0 ≤ x) (hy : 0 ≤ y) : decide ((Vm.enc x.toNat).take (min (Vm.enc x.toNat).length (Vm.enc y.toNat).length) = (Vm.enc y.toNat).take (min (Vm.enc x.toNat).length (Vm.enc y.toNat).length)) = (x == y) := by
  rw [Bool.eq_iff_iff, decide_eq_true_iff, ← Vm.enc_cut]
  simp
  omega

set_option maxHeartbeats 800000 in
theorem varintBack_walk (x y : Int) (vm : Value) (ms : List Int) (w : World) (hx : (Lit.int .u64 x).wf = true) (hy : (Lit.int .u64 y).wf = true) (hb : Is .u8 w vm ms) (hl : ms.length * 1 ≤ 140737488351232) :
    Calls Try.prog 6 #[.int .u64 x, .int .u64 y, vm] w fun e w' => e = .returned (.bool true) ∧ Below w.heap.size w w' := by
  have hx := bounds_u64 hx
  have hy := bounds_u64 hy
  have hsx := Vm.sz_le10 (x := x.toNat) (by omega)
  have hsy := Vm.sz_le10 (x := y.toNat) (by omega)
  have hsx0 := Vm.sz_pos x.toNat
  have hsy0 := Vm.sz_pos y.toNat
  go_enter Try.func6, Try.ntmps6
  go_wp2_with fail
  refine (lives_yes _).mono ?_
  rintro E w1 ⟨rfl, bel1⟩
  go_wp2_with fail
  refine (app_any _ [] x _ (Is.nil _ _) (by simp) (by omega) (by omega)).mono ?_
  rintro E w2 ⟨va, rfl, own2, bel2⟩
  rw [List.nil_append] at own2
  have bel3 := bel1.trans (bel2.mono bel1.size)
  clear bel1 bel2
  go_wp2_with fail
  refine (app_any _ [] y _ (Is.nil _ _) (by simp) (by omega) (by omega)).mono ?_
  rintro E w3 ⟨vy, rfl, own3, bel4⟩
  rw [List.nil_append] at own3
  have own2' := own2.below bel4
  have bel5 := bel3.trans (bel4.mono bel3.size)
  clear bel3 bel4 own2
  go_wp2_with fail
  refine (copy_any _ _ _ own2'.is (by unfold Vm.sz at hsx; omega)).mono ?_
  rintro E w4 ⟨vc, rfl, own4, bel6⟩
  have ism := hb.below (bel5.trans (bel6.mono bel5.size))
  have hs6 := bel6.size
  have hlx : (Vm.enc x.toNat).length ≤ 10 := hsx
  go_wp2_with (at_builtin; refine wpList_append_is rfl (.tmp 21) (.tmp 22) 24 rfl .u8 5 w3.heap.size 1 Try.underlying24 Try.info5 (by decide) _ _ rfl own4 _ ms rfl ism (by omega) hs6 ?_)
  intro vd w5 own6 bel7 _
  have bel8 := bel6.trans bel7
  have own7 := own2'.below bel8
  have own8 := own3.below bel8
  have bel9 := bel5.trans (bel8.mono bel5.size)
  have hR : Vm.Res (Vm.enc x.toNat ++ ms) x (Vm.sz x.toNat) 0 := .inl ⟨x.toNat, by omega, List.prefix_append _ _, by omega, rfl, rfl⟩
  clear own2' own3 own4 ism bel5 bel6 bel7 bel8
  go_wp2_with fail
  refine (read_any _ _ _ _ _ _ own6.is (by simp; omega) hR).mono ?_
  rintro E w6 ⟨rfl, rfl⟩
  obtain ⟨b1, o1, c1, hv1, hc1, hm1, _, _⟩ := own7.is.full hsx0
  obtain ⟨b2, o2, c2, hv2, hc2, hm2, _, _⟩ := own8.is.full hsy0
  subst hv1 hv2
  have is7 := own7.is
  have is8 := own8.is
  clear own6 own7 own8 hR
  have q1 : (x != x) = false := by simp
  have q2 : ((0 : Int) != 0) = false := by simp
  have q3 : ((Vm.sz x.toNat : Int) != ((Vm.enc x.toNat).length : Int)) = false := by simp [Vm.sz]
  have q4 : ((Vm.sz x.toNat : Int) != (Vm.sz x.toNat : Int)) = false := by simp
  go_wp2_with fail
  refine (size_any x _ (by omega) (by omega)).mono ?_
  rintro E w7 ⟨rfl, rfl⟩
  have hmono := Vm.sz_mono y.toNat x.toNat
  have HM := hide hmono
  clear hmono
  have hR := back_cut x y hx.1 hy.1
  have HR := hide hR
  clear hR q1 q2 q3 q4
  by_cases hle : (Vm.enc x.toNat).length ≤ (Vm.enc y.toNat).length
  · have i1 := is7.cut (Vm.enc x.toNat).length (Nat.le_refl _)
    have i2 := is8.cut (Vm.enc x.toNat).length hle
    have HE : Hid (decide ((Vm.enc x.toNat).take (Vm.enc x.toNat).length = (Vm.enc y.toNat).take (Vm.enc x.toNat).length) = (x == y)) := by have := HR.out; rw [Nat.min_eq_left hle] at this; exact this
    by_cases hxy : x < y
    · have hmn : Vm.sz x.toNat ≤ Vm.sz y.toNat := HM.out (by omega)
      go_wp2_with fail
      refine (size_any x _ (by omega) (by omega)).mono ?_
      rintro E w7 ⟨rfl, rfl⟩
      go_wp2_with fail
      refine (size_any y _ (by omega) (by omega)).mono ?_
      rintro E w7 ⟨rfl, rfl⟩
      go_wp2_with fail
      go_quiet ((go_at_call 8; refine Calls.quiet_of (same_bool _ _ _ _ (x == y) _ (i1.drewN _) (i2.drewN _) (by rw [List.length_take]; omega) (by rw [List.length_take]; omega) HE.out)))
      go_wp2
      go_ret
      exact ⟨by simp, below_drewN bel9 _⟩
    · go_wp2_with fail
      go_quiet ((go_at_call 8; refine Calls.quiet_of (same_bool _ _ _ _ (x == y) _ (i1.drewN _) (i2.drewN _) (by rw [List.length_take]; omega) (by rw [List.length_take]; omega) HE.out)))
      go_wp2
      go_ret
      exact ⟨by simp, below_drewN bel9 _⟩
  · have i1 := is7.cut (Vm.enc y.toNat).length (by omega)
    have i2 := is8.cut (Vm.enc y.toNat).length (Nat.le_refl _)
    have HE : Hid (decide ((Vm.enc x.toNat).take (Vm.enc y.toNat).length = (Vm.enc y.toNat).take (Vm.enc y.toNat).length) = (x == y)) := by have := HR.out; rw [Nat.min_eq_right (by omega)] at this; exact this
    have hxy : ¬ x < y := by
      intro h
      have := HM.out (by omega)
      unfold Vm.sz at this
      omega
    go_wp2_with fail
    go_quiet ((go_at_call 8; refine Calls.quiet_of (same_bool _ _ _ _ (x == y) _ (i1.drewN _) (i2.drewN _) (by rw [List.length_take]; omega) (by rw [List.length_take]; omega) HE.out)))
    go_wp2
    go_ret
    exact ⟨by simp, below_drewN bel9 _⟩

end Go.Proofs.Ytgffjdkcoijniaa
