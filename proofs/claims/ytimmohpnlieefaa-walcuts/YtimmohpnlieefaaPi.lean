/- The program's disk: Cut. -/
import Derived.Test.YtimmohpnlieefaaPg
namespace Go.Proofs.Ytimmohpnlieefaa
open Go.RowKit Go.Shelf
set_option linter.unusedVariables false

set_option maxRecDepth 20000 in
set_option maxHeartbeats 4000000 in
theorem cut_any (p : Nat) (F : Nat → Prop) (w : World) (st : Dm.Ds) (file len : Int) (h : Pk p F w st) (hsz : ∀ f, (st.sure f).length + Dm.bulk st.wait ≤ 140737488355000) (hlen : st.wait.length ≤ 1000000) (hl : st.left ≤ 9223372036854775807) (hc : st.count < 9223372036854775807) :
    Calls Try.prog 50 #[.pointer (some ⟨p, 0, none⟩), .int .i64 file, .int .i64 len] w fun E w' => E = .returned (.int .i64 (Dm.cutD st file len).1) ∧ PStep p F w w' (Dm.cutD st file len).2 := by
  have HA := hide (refuses_any p F w st h)
  have HF := hide (isfile_any file w)
  have HK := hide h
  unfold Dm.cutD
  cases hon : st.on
  · rw [if_pos rfl]
    have hk := ask_off hon
    clear hon h
    go_enter Try.func50, Try.ntmps50
    go_wp2_with fail
    refine HA.out.mono ?_
    rintro E w1 ⟨rfl, rfl⟩
    rw [hk]
    go_wp2
    go_ret
    exact ⟨rfl, PStep.same HK.out (Below.refl _ _)⟩
  · rw [if_neg (by simp)]
    have hk := ask_on hon
    cases hin : Dm.inF file
    · rw [if_pos rfl]
      rw [hin] at HF
      clear hon h hin
      go_enter Try.func50, Try.ntmps50
      go_wp2_with fail
      refine HA.out.mono ?_
      rintro E w1 ⟨rfl, rfl⟩
      rw [hk]
      go_wp2_with fail
      refine HF.out.mono ?_
      rintro E w1 ⟨rfl, rfl⟩
      go_wp2
      go_ret
      exact ⟨rfl, PStep.same HK.out (Below.refl _ _)⟩
    · rw [if_neg (by simp)]
      rw [hin] at HF
      obtain ⟨f, hf, rfl⟩ := inF_nat hin
      rw [Int.toNat_natCast]
      by_cases hneg : len < 0
      · rw [if_pos (.inl hneg)]
        clear hon h hin
        go_enter Try.func50, Try.ntmps50
        go_wp2_with fail
        refine HA.out.mono ?_
        rintro E w1 ⟨rfl, rfl⟩
        rw [hk]
        go_wp2_with fail
        refine HF.out.mono ?_
        rintro E w1 ⟨rfl, rfl⟩
        go_wp2
        go_ret
        exact ⟨rfl, PStep.same HK.out (Below.refl _ _)⟩
      · obtain ⟨l, rfl⟩ : ∃ l : Nat, len = l := ⟨len.toNat, by omega⟩
        have hhl := Dm.hold_len st.wait (st.sure f) f
        have hszf := hsz f
        have HH := hide (held_any p F w st f h hf hszf hlen)
        by_cases hbig : (Dm.hold f (st.sure f) st.wait).length < l
        · rw [if_pos (.inr (by omega))]
          have hgt : ((Dm.hold f (st.sure f) st.wait).length : Int) < (l : Int) := by omega
          obtain ⟨H, hH⟩ : ∃ H, H = Dm.hold f (st.sure f) st.wait := ⟨_, rfl⟩
          rw [← hH] at HH hgt
          clear hon h hin hbig hhl hH
          go_enter Try.func50, Try.ntmps50
          go_wp2_with fail
          refine HA.out.mono ?_
          rintro E w1 ⟨rfl, rfl⟩
          rw [hk]
          go_wp2_with fail
          refine HF.out.mono ?_
          rintro E w1 ⟨rfl, rfl⟩
          go_wp2_with fail
          refine HH.out.mono ?_
          rintro E w2 ⟨v2, rfl, own2, bel2⟩
          obtain ⟨a2, k2, hv2, _, _⟩ := own2.is.shape
          subst hv2
          go_wp2
          go_ret
          exact ⟨rfl, PStep.same HK.out bel2⟩
        · rw [if_neg (by omega), pair_if]
          have hgt : ¬ ((Dm.hold f (st.sure f) st.wait).length : Int) < (l : Int) := by omega
          have HD : Hid (∀ w2, Below w.heap.size w w2 → Calls Try.prog 80 #[.pointer (some ⟨p, 0, none⟩), .agg #[.int .i64 1, .int .i64 f, .slice none 0 0, .int .i64 l]] w2 fun E w' => E = .returned (.int .i64 (if Dm.off st then 6 else 0)) ∧ PStep p F w w' (if Dm.off st then Dm.dark st else Dm.push (Dm.burn st) ⟨f, true, l, []⟩)) := hide fun w2 hb => by
            refine (dopush_any p F w2 st ⟨f, true, l, .slice none 0 0, []⟩ (h.below hb) (Byt.nil _ _) (fun b hb => by simp [Value.ownBlock] at hb) ⟨hf, fun _ => by rw [← Dm.hold_dof]; show l ≤ (Dm.hold f (st.sure f) st.wait).length; omega, fun hc => by simp [Rv.r] at hc⟩ hlen hl hc).mono ?_
            rintro E w' ⟨rfl, J⟩
            exact ⟨rfl, (PStep.of_do J rfl).pre hb⟩
          obtain ⟨H, hH⟩ : ∃ H, H = Dm.hold f (st.sure f) st.wait := ⟨_, rfl⟩
          rw [← hH] at HH hgt
          have hneg' : ¬ (l : Int) < 0 := hneg
          rw [Int.toNat_natCast]
          generalize (if Dm.off st = true then (6 : Int) else 0) = e at HD ⊢
          generalize (if Dm.off st = true then Dm.dark st else Dm.push (Dm.burn st) ⟨f, true, l, []⟩) = st' at HD ⊢
          clear hon h hin hbig hhl hH hneg
          go_enter Try.func50, Try.ntmps50
          go_wp2_with fail
          refine HA.out.mono ?_
          rintro E w1 ⟨rfl, rfl⟩
          rw [hk]
          go_wp2_with fail
          refine HF.out.mono ?_
          rintro E w1 ⟨rfl, rfl⟩
          go_wp2_with fail
          refine HH.out.mono ?_
          rintro E w2 ⟨v2, rfl, own2, bel2⟩
          obtain ⟨a2, k2, hv2, _, _⟩ := own2.is.shape
          subst hv2
          go_wp2_with fail
          refine (HD.out w2 bel2).mono ?_
          rintro E w3 ⟨rfl, J⟩
          have J := hide J
          go_wp2
          go_ret
          exact ⟨rfl, J.out⟩

end Go.Proofs.Ytimmohpnlieefaa
