/- The contract of the document's Grown of starts. -/
import Derived.Test.YtklpbcdkgjoheaaSu
namespace Go.Proofs.Ytklpbcdkgjoheaa
open Go.RowKit
set_option linter.unusedVariables false

set_option maxRecDepth 100000 in
set_option maxHeartbeats 4000000 in
theorem grownR_any (vl : Value) (l : List Sm.S) (en e n : Int) (vo : Value) (o : List Bm.Ov) (w : World) (h : RowS w vl l) (hl : l.length ≤ 1000000) (ho : IsO w vo o) (hf : FitO o) (hol : o.length * 40 ≤ 140737488351232) :
    Calls Try.prog 27 #[vl, .int .i64 en, cmv e n vo] w fun E w' => ∃ v, E = .returned (.tuple #[v, .int .i64 (grE l en e n o)]) ∧ OwnS w.heap.size w' v (grL l en e n o) ∧ Below w.heap.size w w' := by
  unfold cmv
  obtain ⟨ao, cap, hvo, hcap, hcm⟩ := ho.shape
  subst hvo
  obtain ⟨w1, hw1, sz1, bel1, hB⟩ := blk_step w #[.int .i64 e, .int .i64 n, .slice ao o.length cap] 40
  have X := hide (scheckR_any vl l en w1 (h.below bel1) (by omega))
  have HL := hide h
  have HO := hide ho
  have HBK := hide hB
  clear h ho hB
  by_cases h0 : Sm.chk l en = 0
  · have hok := Sm.chk_zero.1 h0
    have hgE : grE l en e n o = (Cm.fol (Sm.lst l) en 0 [⟨e, n, o⟩]).1 := by unfold grE; rw [if_pos h0]
    have F1 : Hid (Cm.chk e n o ≠ 0 → grE l en e n o = Cm.chk e n o ∧ grL l en e n o = []) := hide fun hck => by
      have : grE l en e n o = Cm.chk e n o := by rw [hgE, Cm.fol_bad (c := ⟨e, n, o⟩) hck]
      exact ⟨this, by unfold grL; rw [if_neg (by rw [this]; exact hck)]⟩
    have F2 : Hid (Cm.chk e n o = 0 → (n - 1 ≠ en ∨ e < Sm.lst l) → grE l en e n o = 15 ∧ grL l en e n o = []) := hide fun hck hq => by
      have : grE l en e n o = 15 := by rw [hgE, Cm.fol_off (c := ⟨e, n, o⟩) hck hq]
      exact ⟨this, by unfold grL; rw [if_neg (by rw [this]; decide)]⟩
    have F3 : Hid (Cm.chk e n o = 0 → ¬ (n - 1 ≠ en ∨ e < Sm.lst l) → grE l en e n o = 0 ∧ grL l en e n o = Sm.grw l e n) := hide fun hck hq => by
      have : grE l en e n o = 0 := by rw [hgE, Cm.fol_on (c := ⟨e, n, o⟩) hck hq]; rfl
      exact ⟨this, by unfold grL; rw [if_pos this]⟩
    generalize grE l en e n o = gE at *
    generalize grL l en e n o = gL at *
    clear hgE
    have HEP := hide (fun wx (hx : RowS wx vl l) => epoR_any vl l en wx hx (by omega))
    rw [Sm.epo_end hok] at HEP
    rw [h0] at X
    clear h0 hok
    go_enter Try.func27, Try.ntmps27
    go_wp2_with fail
    refine X.out.mono ?_
    rintro E w2' ⟨rfl, mm, hw2⟩
    obtain ⟨w2, h2⟩ : ∃ x, x = w2' := ⟨_, rfl⟩
    have bel12 : Below w1.heap.size w1 w2 := by rw [h2, hw2]; exact below_drewN (Below.refl _ _) mm
    rw [← h2]
    clear h2 hw2
    have s2 := bel12.size
    have bel02 : Below w.heap.size w w2 := bel1.trans (bel12.mono (by omega))
    have hB2 := (bel12.block w.heap.size (by omega)).trans HBK.out
    have a0 := blk_cell hB2 0 rfl
    have a1 := blk_cell hB2 1 rfl
    have a2 := blk_cell hB2 2 rfl
    have HB2 := hide hB2
    have CK := hide (ccheckR_any e n _ o w2 (HO.out.below bel02) hf (by omega))
    unfold cmv at CK
    clear X bel12 HBK hB2 HO bel1
    go_wp2_with fail
    refine CK.out.mono ?_
    rintro E w3 ⟨rfl, bel3⟩
    have s3 := bel3.size
    have bel03 : Below w.heap.size w w3 := bel02.trans (bel3.mono (by omega))
    have H3 := hide (HL.out.below bel03)
    have hB3 := (bel3.block w.heap.size (by omega)).trans HB2.out
    have c0 := blk_cell hB3 0 rfl
    have c1 := blk_cell hB3 1 rfl
    clear CK HB2 a0 a1 a2 bel3 bel02 hB3 HL
    by_cases hck : Cm.chk e n o = 0
    · obtain ⟨b1, b2, b3, b4, _⟩ := Cm.chk_zero hck
      rw [hck]
      go_wp2_with fail
      refine (HEP.out w3 H3.out).mono ?_
      rintro E w4 ⟨rfl, h4⟩
      subst h4
      by_cases hq : n - 1 ≠ en ∨ e < Sm.lst l
      · obtain ⟨rfl, rfl⟩ := F2.out hck hq
        generalize Sm.lst l = ls at *
        clear F1 F2 F3 HEP hck
        by_cases hq1 : n - 1 = en
        · have q1 : (n - 1 != en) = false := by simpa using hq1
          have q2 : e < ls := by omega
          clear hq hq1
          go_wp2
          go_ret2
          exact ⟨_, rfl, OwnG.nil _ _ _ _ _, bel03⟩
        · have q1 : (n - 1 != en) = true := by simpa using hq1
          clear hq hq1
          go_wp2
          go_ret2
          exact ⟨_, rfl, OwnG.nil _ _ _ _ _, bel03⟩
      · obtain ⟨rfl, hgL⟩ := F3.out hck hq
        have GL := hide hgL
        have q1 : (n - 1 != en) = false := by simp; omega
        have q2 : ¬ e < Sm.lst l := by omega
        have HLL : Hid ((([] : List Sm.S).length + l.length) * 16 ≤ 140737488355328) := hide (by simp; omega)
        have HLM : Hid ((l.length + [((e, n) : Sm.S)].length) * 16 ≤ 140737488355328) := hide (by simp; omega)
        have GA : Hid (Sm.lst l < e → l ++ [(e, n)] = gL) := hide fun h => by rw [GL.out]; unfold Sm.grw; rw [if_neg (by omega)]
        have GS : Hid (¬ Sm.lst l < e → l = gL) := hide fun h => by rw [GL.out]; unfold Sm.grw; rw [if_pos (by omega)]
        clear GL
        generalize Sm.lst l = ls at *
        have hq1 : ¬ (n - 1 ≠ en) := fun h => hq (.inl h)
        clear F1 F2 F3 HEP hck hq hq1 hgL
        go_wp2_with (at_builtin; refine wpList_append_sts rfl (.tmp 36) (.tmp 37) rfl w4.heap.size _ [] rfl (OwnG.nil _ _ _ _ _) _ l rfl H3.out HLL.out (Nat.le_refl _) ?_)
        intro v5 w5 own5 bel5 _
        have s5 := bel5.size
        have d0 := (bel5.cell (p := ⟨w.heap.size, 0, none⟩) (by show w.heap.size < _; omega)).trans c0
        have d1 := (bel5.cell (p := ⟨w.heap.size, 1, none⟩) (by show w.heap.size < _; omega)).trans c1
        have bel05 : Below w.heap.size w w5 := bel03.trans (bel5.mono (by omega))
        clear c0 c1 bel03 bel5 H3 HLL
        by_cases hgt : ls < e
        · have HT := hide (GA.out hgt)
          obtain ⟨w6, hw6, sz6, bel6, own6⟩ := sts_step w5 #[.int .i64 e, .int .i64 n] 1 [(e, n)] rfl rfl (by simp [maxLen])
          have own5' := ownS_below own5 bel6
          have bel06 := bel05.trans (bel6.mono (by omega))
          have own6r := own6.row
          clear GA GS own5 own6 bel6 bel05
          go_wp2_with (at_builtin; refine wpList_append_sts rfl (.tmp 43) (.tmp 49) rfl w4.heap.size _ l rfl own5' _ [(e, n)] rfl own6r HLM.out (by omega) ?_)
          intro v7 w7 own7 bel7 _
          rw [HT.out] at own7
          have ownF := ownS_rebase (base' := w.heap.size) own7 (by omega)
          have bel07 := bel06.trans (bel7.mono (by omega))
          clear own5' own6r own7 bel7 HT HLM
          go_wp2
          go_ret2
          exact ⟨_, rfl, ownF, bel07⟩
        · rw [GS.out (by omega)] at own5
          have ownF := ownS_rebase (base' := w.heap.size) own5 (by omega)
          clear GA GS own5
          go_wp2
          go_ret2
          exact ⟨_, rfl, ownF, bel05⟩
    · have hne : (Cm.chk e n o != 0) = true := by simpa using hck
      obtain ⟨hgx, rfl⟩ := F1.out hck
      rw [← hgx] at hne ⊢
      clear F1 F2 F3 HEP hck hgx
      go_wp2
      go_ret2
      exact ⟨_, rfl, OwnG.nil _ _ _ _ _, bel03⟩
  · have h5 : Sm.chk l en = 5 := Sm.chk_no fun k => h0 (Sm.chk_ok k)
    have hgE : grE l en e n o = 5 := by unfold grE; rw [if_neg h0, h5]
    have hgL : grL l en e n o = [] := by unfold grL; rw [if_neg (by rw [hgE]; decide)]
    rw [hgE, hgL]
    rw [h5] at X
    clear h0 h5 hgE hgL HBK HL HO
    go_enter Try.func27, Try.ntmps27
    go_wp2_with fail
    refine X.out.mono ?_
    rintro E w2 ⟨rfl, mm, rfl⟩
    go_wp2
    go_ret2
    exact ⟨_, rfl, OwnG.nil _ _ _ _ _, below_drewN bel1 _⟩

end Go.Proofs.Ytklpbcdkgjoheaa
