/- The walk of the law VarintAppends: it returns true. -/
import Derived.Test.YtgffjdkcoijniaaApart
namespace Go.Proofs.Ytgffjdkcoijniaa
open Go.RowKit
set_option linter.unusedVariables false

/-- Three lists in a table. -/
def tri {α : Type} (a b c : α) : Nat → α | 0 => a | 1 => b | _ => c

theorem lists_three {base : Nat} {w : World} {va vc vf : Value} {za zc zf : List Int} {s1 s2 : Nat} (ha : Own .u8 5 s1 w va za) (hc : Own .u8 5 s2 w vc zc) (hf : Own .u8 5 base w vf zf)
    (h1 : ∀ b, vf.ownBlock = some b → b < s1) (h2 : ∀ b, va.ownBlock = some b → b < s2) (hb1 : base ≤ s1) (h12 : s1 ≤ s2) (la : za.length ≤ 140737488355328) (lc : zc.length ≤ 140737488355328) (lf : zf.length ≤ 140737488355328) :
    Lists 3 w.heap.size base (w.alloc (.cells #[va, vc, vf] 24)) (tri va vc vf) (tri za zc zf) := by
  have bel : Below w.heap.size w (w.alloc (.cells #[va, vc, vf] 24)) := (Below.refl _ _).alloc (Nat.le_refl _) _
  have ha' := (ha.below bel).rebase (by omega : base ≤ s1)
  have hc' := (hc.below bel).rebase (by omega : base ≤ s2)
  have hf' := hf.below bel
  have three : ∀ i, i < 3 → i = 0 ∨ i = 1 ∨ i = 2 := by omega
  have ba := ha.block
  have bc := hc.block
  have bf := hf.block
  refine ⟨fun i hi => ?_, fun i hi => ?_, fun i j hi hj hne => ?_, fun i hi => ?_, fun i hi => ?_⟩
  · rcases three i hi with rfl | rfl | rfl <;> simp [tri]
  · rcases three i hi with rfl | rfl | rfl
    · exact ha'
    · exact hc'
    · exact hf'
  · have key : ∀ u v : Value, (∀ b d, u.ownBlock = some b → v.ownBlock = some d → b ≠ d) → u.ownBlock = none ∨ u.ownBlock ≠ v.ownBlock := by
      intro u v h
      cases hu : u.ownBlock with
      | none => exact .inl rfl
      | some b => exact .inr fun e => h b b hu e.symm rfl
    rcases three i hi with rfl | rfl | rfl <;> rcases three j hj with rfl | rfl | rfl <;> first | exact absurd rfl hne | skip
    all_goals
      refine key _ _ fun b d hb hd => ?_
      simp only [tri] at hb hd
    · have := h2 b hb; have := bc d hd; omega
    · have := ba b hb; have := h1 d hd; omega
    · have := bc b hb; have := h2 d hd; omega
    · have := bc b hb; have := h1 d hd; omega
    · have := h1 b hb; have := ba d hd; omega
    · have := h1 b hb; have := bc d hd; omega
  · intro e
    rcases three i hi with rfl | rfl | rfl
    · have := ba _ e; omega
    · have := bc _ e; omega
    · have := bf _ e; omega
  · rcases three i hi with rfl | rfl | rfl
    · exact la
    · exact lc
    · exact lf

theorem Is.form {k : IntKind} {w : World} {v : Value} {zs : List Int} (h : Is k w v zs) : ∃ ao n c, v = .slice ao n c := by
  obtain ⟨ao, c, hv, _, _⟩ := h.shape
  exact ⟨ao, _, c, hv⟩

set_option maxHeartbeats 800000 in
theorem varintAppends_walk (vb : Value) (bs : List Int) (x : Int) (w : World) (hb : Is .u8 w vb bs) (hl : bs.length * 1 ≤ 140737488351232) (hx : (Lit.int .u64 x).wf = true) :
    Calls Try.prog 4 #[vb, .int .u64 x] w fun e w' => e = .returned (.bool true) ∧ Below w.heap.size w w' := by
  have hx := bounds_u64 hx
  have hsx := Vm.sz_le10 (x := x.toNat) (by omega)
  have hlx : (bs ++ Vm.enc x.toNat).length ≤ 140737488355328 := by rw [List.length_append]; unfold Vm.sz at hsx; omega
  have hlf : (bs ++ ([201, 202, 203] : List Int)).length ≤ 140737488355328 := by simp; omega
  obtain ⟨ao, cap, rfl, _, _⟩ := hb.shape
  go_enter Try.func4, Try.ntmps4
  go_wp2_with (go_at_call 14; refine (lent_any _ _ _ hb (by omega)).mono ?_; rintro E w1 ⟨v1, rfl, own1, bel1⟩; obtain ⟨b1, c1, rfl, hc1, hc1', _, hB1, is1⟩ := own1.front (by simp))
  refine (app_any _ bs x _ is1 (by omega) (by omega) (by omega)).mono ?_
  rintro E w2 ⟨va, rfl, own2, bel2⟩
  have is2 := is1.below bel2
  have own1' := own1.below bel2
  go_wp2_with fail
  refine (app_any _ bs x _ is2 (by omega) (by omega) (by omega)).mono ?_
  rintro E w3 ⟨vc, rfl, own3, bel3⟩
  have own2' := own2.below bel3
  have own1'' := own1'.below bel3
  have bel4 := (bel1.trans (bel2.mono bel1.size)).trans (bel3.mono (Nat.le_trans bel1.size bel2.size))
  have hs1 := bel1.size
  have hs2 := bel2.size
  have hs3 := bel3.size
  have hb2 := own2.block
  have HB2 := hide hb2
  clear own1 own2 own1' is1 is2 bel1 bel2 bel3 hb2
  obtain ⟨aa, na, ca, hva⟩ := own2'.is.form
  obtain ⟨ac, nc, cc, hvc⟩ := own3.is.form
  subst hva hvc
  go_wp2_with fail
  refine (lives_yes _).mono ?_
  rintro E w4 ⟨rfl, bel5⟩
  go_wp2_with fail
  refine (appR_any _ bs x _ (hb.below (bel4.trans (bel5.mono bel4.size))) (by omega) (by omega) (by omega)).mono ?_
  rintro E w5 ⟨vr, rfl, ownr, bel6⟩
  have bel7 := bel5.trans (bel6.mono bel5.size)
  go_wp2_with fail
  refine (same_yes _ _ _ _ _ (own2'.below bel7).is ownr.is hlx rfl).mono ?_
  rintro E w6 ⟨rfl, bel8⟩
  have bel9 := bel7.trans (bel8.mono bel7.size)
  clear bel5 bel6 bel7 bel8 ownr
  go_wp2_with fail
  refine (size_any x _ (by omega) (by omega)).mono ?_
  rintro E w7 ⟨rfl, rfl⟩
  go_wp2_with fail
  refine (sizeR_any x _ (by omega) (by omega)).mono ?_
  rintro E w7 ⟨rfl, rfl⟩
  have q1 : ((Vm.sz x.toNat : Int) == (Vm.sz x.toNat : Int)) = true := by simp
  go_wp2_with fail
  refine (kept_yes _ _ bs _ _ (own1''.below bel9).is (hb.below (bel4.trans (bel9.mono bel4.size))) (by omega) rfl).mono ?_
  rintro E w8 ⟨rfl, bel10⟩
  have bel11 := bel9.trans (bel10.mono bel9.size)
  rw [show ([201, 202, 203] : List Int).length = 3 from rfl] at own1''
  have L := lists_three (own2'.below bel11) (own3.below bel11) (own1''.below bel11) (by intro b hb; simp only [Value.ownBlock, Option.some.injEq] at hb; omega) (fun b hb => (HB2.out b hb).2) hs1 hs2 hlx hlx hlf
  have HL := hide L
  have bel12 := bel4.trans (bel11.mono bel4.size)
  have hs8 := bel12.size
  clear L bel9 bel10 bel11 own1'' own2' own3 bel4
  go_wp2_with fail
  refine (apart_yes 3 _ 3 w.heap.size _ _ _ (by omega) (by omega) (by simp; omega) HL.out (by omega)).mono ?_
  rintro E w9 ⟨rfl, bel13⟩
  go_wp2
  go_ret
  exact ⟨rfl, (bel12.alloc hs8 _).trans bel13⟩

end Go.Proofs.Ytgffjdkcoijniaa
