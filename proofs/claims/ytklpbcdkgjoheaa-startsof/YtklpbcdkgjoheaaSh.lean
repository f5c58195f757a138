/- The contract of starts' Grown. -/
import Derived.Test.YtklpbcdkgjoheaaSg
import Derived.Deep.CutRange
namespace Go.Proofs.Ytklpbcdkgjoheaa
open Go.RowKit
set_option linter.unusedVariables false

/-- What Grown comes to: the error, the starts. -/
def grE (l : List Sm.S) (en e n : Int) (o : List Bm.Ov) : Int := if Sm.chk l en = 0 then (Cm.fol (Sm.lst l) en 0 [⟨e, n, o⟩]).1 else Sm.chk l en
def grL (l : List Sm.S) (en e n : Int) (o : List Bm.Ov) : List Sm.S := if grE l en e n o = 0 then Sm.grw l e n else []

theorem IsC.one {e n : Int} {v : Value} {o : List Bm.Ov} {w : World} {g : Nat} {e' : TypeId} {base : Nat} (h : OwnR e' base w (.slice (some ⟨g, 0, none⟩) 1 1) [⟨e, n, v, o⟩]) (hv : IsO w v o) (he : In64 e) (hn : In64 n) : IsC w (.slice (some ⟨g, 0, none⟩) 1 1) [⟨e, n, v, o⟩] :=
  ⟨h.row, fun c hc => by rw [List.mem_singleton.1 hc]; exact ⟨hv, he, hn⟩⟩

theorem FitC.one {e n : Int} {v : Value} {o : List Bm.Ov} (hf : FitO o) (hl : o.length * 40 ≤ 140737488351232) : FitC [⟨e, n, v, o⟩] := fun c hc => by rw [List.mem_singleton.1 hc]; exact ⟨hf, hl⟩

theorem one_row {w : World} {a : Nat} {e n : Int} {v : Value} {o : List Bm.Ov} {t : TypeId} (h : w.heap[a]? = some (.cells #[.int .i64 e, .int .i64 n, v] t (0, 0))) : RowC w (.slice (some ⟨a, 0, none⟩) 1 1) [⟨e, n, v, o⟩] := by
  refine .inr ⟨⟨a, 0, none⟩, 1, rfl, by simp, by simp [maxLen], fun j u hj => ?_⟩
  rw [add_at]
  simp only [ccells, ccell, List.append_nil] at hj
  match j, hj with
  | 0, hj => simp at hj; subst hj; exact blk_cell h 0 rfl
  | 1, hj => simp at hj; subst hj; exact blk_cell h 1 rfl
  | 2, hj => simp at hj; subst hj; exact blk_cell h 2 rfl
  | k + 3, hj => simp at hj

set_option maxRecDepth 100000 in
set_option maxHeartbeats 4000000 in
theorem grown_any (vl : Value) (l : List Sm.S) (en e n : Int) (vo : Value) (o : List Bm.Ov) (w : World) (h : RowS w vl l) (hl : l.length ≤ 1000000) (ho : IsO w vo o) (hf : FitO o) (hol : o.length * 40 ≤ 140737488351232) (he : In64 e) (hn : In64 n) :
    Calls Try.prog 26 #[vl, .int .i64 en, cmv e n vo] w fun E w' => ∃ v, E = .returned (.tuple #[v, .int .i64 (grE l en e n o)]) ∧ OwnS w.heap.size w' v (grL l en e n o) ∧ Below w.heap.size w w' := by
  unfold cmv
  obtain ⟨ao, cap, hvo, hcap, hcm⟩ := ho.shape
  subst hvo
  obtain ⟨w1, hw1, sz1, bel1, hB⟩ := blk_step w #[.int .i64 e, .int .i64 n, .slice ao o.length cap] 40
  have X := hide (scheck_any vl l en w1 (h.below bel1) (by omega))
  have HL := hide h
  have HO := hide ho
  have HBK := hide hB
  have c0 := blk_cell hB 0 rfl
  have c1 := blk_cell hB 1 rfl
  have c2 := blk_cell hB 2 rfl
  clear h ho hB
  by_cases h0 : Sm.chk l en = 0
  · have hgE : grE l en e n o = (Cm.fol (Sm.lst l) en 0 [⟨e, n, o⟩]).1 := by unfold grE; rw [if_pos h0]
    rw [h0] at X
    have HG1 : Hid (grE l en e n o = 0 → grL l en e n o = Sm.grw l e n) := hide fun h => by unfold grL; rw [if_pos h]
    have HG2 : Hid (grE l en e n o ≠ 0 → grL l en e n o = []) := hide fun h => by unfold grL; rw [if_neg h]
    obtain ⟨fl, hfl⟩ : ∃ f, Cm.fol (Sm.lst l) en 0 [⟨e, n, o⟩] = f := ⟨_, rfl⟩
    rw [hfl] at hgE
    obtain ⟨fe, fp⟩ := fl
    simp only at hgE
    rw [hgE] at HG1 HG2 ⊢
    have HF : Hid (Cm.fol (Sm.lst l) en 0 (cvs [⟨e, n, .slice ao o.length cap, o⟩]) = (fe, fp)) := hide hfl
    clear hfl hgE h0
    have HLW := hide (fun wx (hx : RowS wx vl l) => lastE_any vl l wx hx (by omega))
    generalize Sm.lst l = ls at *
    go_enter Try.func26, Try.ntmps26
    go_wp2_with fail
    refine X.out.mono ?_
    rintro E w2 ⟨rfl, bel2⟩
    have s2 := bel2.size
    have bel02 : Below w.heap.size w w2 := bel1.trans (bel2.mono (by omega))
    have hB2 := (bel2.block w.heap.size (by omega)).trans HBK.out
    have a0 := blk_cell hB2 0 rfl
    have a1 := blk_cell hB2 1 rfl
    have a2 := blk_cell hB2 2 rfl
    have H2 := hide (HL.out.below bel02)
    have O2 := hide (HO.out.below bel02)
    have HB2 := hide hB2
    obtain ⟨wk, hwc, szc, belc, hc1⟩ := blk_step w2 #[.int .i64 e, .int .i64 n, .slice ao o.length cap] 40
    obtain ⟨wcf, hwcf, szcf, belcf, hf1⟩ := blk_step wk #[.int .i64 0, .int .i64 0] 44
    obtain ⟨wf, hwf, szf, belf, hf2⟩ := blk_step w2 #[.int .i64 0, .int .i64 0] 44
    obtain ⟨wfc, hwfc, szfc, belfc, hc2⟩ := blk_step wf #[.int .i64 e, .int .i64 n, .slice ao o.length cap] 40
    rw [szc] at hf1
    rw [szf] at hc2
    have hc1' := (belcf.block w2.heap.size (by omega)).trans hc1
    have hf2' := (belfc.block w2.heap.size (by omega)).trans hf2
    have b1 : Below w2.heap.size w2 wk := belc
    have b2 : Below w2.heap.size w2 wcf := b1.trans (belcf.mono (by omega))
    have b3 : Below w2.heap.size w2 wfc := belf.trans (belfc.mono (by omega))
    have FB : ∀ (W : World) (a : Nat), Below w2.heap.size w2 W → W.heap[a]? = some (.cells #[.int .i64 e, .int .i64 n, .slice ao o.length cap] 40 (0, 0)) →
        Calls Try.prog 42 #[.int .i64 ls, .int .i64 en, .slice (some ⟨a, 0, none⟩) 1 1] W fun E w' => E = .returned (.agg #[.int .i64 fe, .int .i64 fp]) ∧ Below W.heap.size W w' := fun W a hW ha => by
      have hc := cfol_any ls en _ [⟨e, n, .slice ao o.length cap, o⟩] W ⟨one_row ha, fun c hc => by rw [List.mem_singleton.1 hc]; exact ⟨O2.out.below hW, he, hn⟩⟩ (FitC.one hf hol) (by simp)
      rw [HF.out] at hc
      exact hc
    have b4 : Below w2.heap.size w2 wf := belf
    have KC : Hid (∀ W, Below w2.heap.size w2 W → W.cell? ⟨w.heap.size, 0, none⟩ = some (.int .i64 e) ∧ W.cell? ⟨w.heap.size, 1, none⟩ = some (.int .i64 n) ∧ W.cell? ⟨w.heap.size, 2, none⟩ = some (.slice ao o.length cap)) := hide fun W hW => by
      have hB6 := (hW.block w.heap.size (by omega)).trans HB2.out
      exact ⟨blk_cell hB6 0 rfl, blk_cell hB6 1 rfl, blk_cell hB6 2 rfl⟩
    have Y1 := hide (FB wcf.drew w2.heap.size b2.drew hc1')
    have Y2 := hide (FB wk.drew w2.heap.size b1.drew hc1)
    have Y3 := hide (FB wfc.drew (w2.heap.size + 1) b3.drew hc2)
    have F1 := hide hf1
    have F3 := hide hf2'
    clear X hB2 bel1 bel2 c0 c1 c2 HBK HL HO O2 HF hf hol he hn FB hc1 hc2 hf1 hf2 hc1' hf2' belc belcf belf belfc
    go_wp2_with fail
    go_cut [9] from 16 to 21 (fun v9 wx => ∃ R, v9 = .pointer (some ⟨R, 0, none⟩) ∧ wx.cell? ⟨R, 0, none⟩ = some (.int .i64 fe) ∧ Below w2.heap.size w2 wx)
    case first =>
      go_region_held3 (fun w' => w'.cell? ⟨w.heap.size, 0, none⟩ = some (.int .i64 e) ∧ w'.cell? ⟨w.heap.size, 1, none⟩ = some (.int .i64 n) ∧ w'.cell? ⟨w.heap.size, 2, none⟩ = some (.slice ao o.length cap)) (first | exact ⟨a0, a1, a2⟩ | exact ⟨d0, d1, d2⟩ | exact KC.out _ b1.drew | exact KC.out _ b2.drew | exact KC.out _ b3.drew | exact KC.out _ b4.drew | go_keep)
        (first
        | (go_at_call 33; refine (HLW.out _ ?_).mono ?_; (first | exact rowS_drewN H2.out 1 | exact rowS_drewN (H2.out.below b4) 1 | exact rowS_drewN (H2.out.below b1) 1 | exact rowS_drewN (H2.out.below b2) 1 | exact rowS_drewN (H2.out.below b3) 1); rintro E w3 ⟨rfl, rfl⟩)
        | (go_at_call 42; guard_target =~ Calls _ _ _ wcf.drew _; refine Y1.out.mono ?_; rintro E w5 ⟨rfl, bel5'⟩; have bel5 : Below wcf.heap.size wcf w5 := ((Below.refl _ _).drew).trans bel5'; have s5 := bel5.size; have bel25 : Below w2.heap.size w2 w5 := b2.trans (bel5.mono (by omega)); have hF5 := (bel5.block (w2.heap.size + 1) (by omega)).trans F1.out; obtain ⟨w6, hw6, bV, gV, ⟨x0, x1⟩, ⟨f0, f1⟩, ⟨q0, q1⟩⟩ := res_two hF5 (.int .i64 fe) (.int .i64 fp); have belx : Below w2.heap.size w2 w6 := below_put bel25 gV (by omega) (by omega); have hB5 := (bel25.block w.heap.size (by omega)).trans HB2.out; have a0 := blk_cell hB5 0 rfl; have a1 := blk_cell hB5 1 rfl; have a2 := blk_cell hB5 2 rfl; have hB6 := (belx.block w.heap.size (by omega)).trans HB2.out; have d0 := blk_cell hB6 0 rfl; have d1 := blk_cell hB6 1 rfl; have d2 := blk_cell hB6 2 rfl; have QQ := hide q0; have BX := hide belx; clear hF5 hB5 hB6 bel5 bel5' bel25 bV gV belx)
        | (go_at_call 42; guard_target =~ Calls _ _ _ wfc.drew _; refine Y3.out.mono ?_; rintro E w5 ⟨rfl, bel5'⟩; have bel5 : Below wfc.heap.size wfc w5 := ((Below.refl _ _).drew).trans bel5'; have s5 := bel5.size; have bel25 : Below w2.heap.size w2 w5 := b3.trans (bel5.mono (by omega)); have hF5 := (bel5.block w2.heap.size (by omega)).trans F3.out; obtain ⟨w6, hw6, bV, gV, ⟨x0, x1⟩, ⟨f0, f1⟩, ⟨q0, q1⟩⟩ := res_two hF5 (.int .i64 fe) (.int .i64 fp); have belx : Below w2.heap.size w2 w6 := below_put bel25 gV (by omega) (by omega); have hB5 := (bel25.block w.heap.size (by omega)).trans HB2.out; have a0 := blk_cell hB5 0 rfl; have a1 := blk_cell hB5 1 rfl; have a2 := blk_cell hB5 2 rfl; have hB6 := (belx.block w.heap.size (by omega)).trans HB2.out; have d0 := blk_cell hB6 0 rfl; have d1 := blk_cell hB6 1 rfl; have d2 := blk_cell hB6 2 rfl; have QQ := hide q0; have BX := hide belx; clear hF5 hB5 hB6 bel5 bel5' bel25 bV gV belx)
        | (go_at_call 42; guard_target =~ Calls _ _ _ wk.drew _; refine Y2.out.mono ?_; rintro E w5 ⟨rfl, bel5'⟩; have bel5 : Below wk.heap.size wk w5 := ((Below.refl _ _).drew).trans bel5'; have s5 := bel5.size; have bel25 : Below w2.heap.size w2 w5 := b1.trans (bel5.mono (by omega)); obtain ⟨w6, hw6, hw6', sz6, bel6, hF6, q0, q1⟩ := new_two w5 44 (.int .i64 0) (.int .i64 0) (.int .i64 fe) (.int .i64 fp); have belx : Below w2.heap.size w2 w6 := bel25.trans (bel6.mono (by omega)); have hB5 := (bel25.block w.heap.size (by omega)).trans HB2.out; have a0 := blk_cell hB5 0 rfl; have a1 := blk_cell hB5 1 rfl; have a2 := blk_cell hB5 2 rfl; have hB6 := (belx.block w.heap.size (by omega)).trans HB2.out; have d0 := blk_cell hB6 0 rfl; have d1 := blk_cell hB6 1 rfl; have d2 := blk_cell hB6 2 rfl; have QQ := hide q0; have BX := hide belx; clear hB5 hB6 bel5 bel5' bel25 bel6 hF6 belx))
      all_goals
        go_wp2_with fail
        go_meet
        exact ⟨_, rfl, QQ.out, BX.out⟩
    case rest =>
      obtain ⟨R, rfl, q0, bel26⟩ := hcut
      obtain ⟨w6, hw6⟩ : ∃ x, wc = x := ⟨_, rfl⟩
      rw [hw6] at q0 bel26 ⊢
      have bel06 : Below w.heap.size w w6 := bel02.trans (bel26.mono (by omega))
      have H6 := hide (H2.out.below bel26)
      obtain ⟨d0, d1, d2⟩ := KC.out _ bel26
      have KC6 : Hid (∀ W, Below w6.heap.size w6 W → W.cell? ⟨w.heap.size, 0, none⟩ = some (.int .i64 e) ∧ W.cell? ⟨w.heap.size, 1, none⟩ = some (.int .i64 n) ∧ W.cell? ⟨w.heap.size, 2, none⟩ = some (.slice ao o.length cap)) := hide fun W hW => KC.out W (bel26.trans (hW.mono bel26.size))
      have s6 := bel06.size
      have HL16 : Hid (l.length * 16 ≤ 140737488355328) := hide (by omega)
      have HL17 : Hid ((l.length + 1) * 16 ≤ 140737488355328) := hide (by omega)
      clear hw6 Y1 Y2 Y3 F1 F3 H2 HB2 a0 a1 a2 bel26 hwc hwcf hwf hwfc b1 b2 b3 b4 szc szcf szf szfc KC HLW bel02 hl
      by_cases hfe : fe = 0
      · have HO := hide (HG1.out hfe)
        subst hfe
        clear HG1 HG2
        go_wp2_with fail
        go_region_held3 (fun w' => w'.cell? ⟨w.heap.size, 0, none⟩ = some (.int .i64 e) ∧ w'.cell? ⟨w.heap.size, 1, none⟩ = some (.int .i64 n) ∧ w'.cell? ⟨w.heap.size, 2, none⟩ = some (.slice ao o.length cap)) (first | exact ⟨d0, d1, d2⟩ | exact ⟨g0, g1, g2⟩ | exact ⟨i0, i1, i2⟩ | go_keep)
          (first
          | (go_at_call 38; refine (sclone_any vl l _ (rowS_drewN H6.out 1) HL16.out).mono ?_; rintro E w7 ⟨v7, rfl, own7', bel7'⟩; have own7 : OwnS w6.heap.size w7 v7 l := own7'; have bel7 : Below w6.heap.size w6 w7 := ((Below.refl _ _).drew).trans bel7'; have s7 := bel7.size; obtain ⟨g0, g1, g2⟩ := KC6.out _ bel7; clear own7' bel7')
          | (go_at_call 43; refine (grow_any w6.heap.size _ l e n ao o.length cap _ own7 HL17.out s7).mono ?_; rintro E w8 ⟨v8, rfl, own8, bel8⟩; obtain ⟨i0, i1, i2⟩ := KC6.out _ (bel7.trans bel8)))
        go_wp2
        go_ret2
        refine ⟨_, rfl, ?_, ?_⟩
        · rw [HO.out]
          exact ownS_rebase own8 (by omega)
        · exact (bel06.trans (bel7.mono (by omega))).trans (bel8.mono (by omega))
      · have hfe' : (fe != 0) = true := by simpa using hfe
        have HO := hide (HG2.out hfe)
        clear HG1 HG2
        go_wp2
        go_quiet (fail)
        go_wp2
        go_ret2
        exact ⟨_, rfl, by rw [HO.out]; exact OwnG.nil _ _ _ _ _, below_drewN bel06 _⟩
  · have h5 : Sm.chk l en = 5 := Sm.chk_no fun k => h0 (Sm.chk_ok k)
    have hgE : grE l en e n o = 5 := by unfold grE; rw [if_neg h0, h5]
    have hgL : grL l en e n o = [] := by unfold grL; rw [if_neg (by rw [hgE]; decide)]
    rw [hgE, hgL]
    rw [h5] at X
    clear h0 h5 hgE hgL c0 c1 c2 HBK HL HO
    go_enter Try.func26, Try.ntmps26
    go_wp2_with fail
    refine X.out.mono ?_
    rintro E w2 ⟨rfl, bel2⟩
    go_wp2
    go_ret2
    exact ⟨_, rfl, OwnG.nil _ _ _ _ _, bel1.trans (bel2.mono (by omega))⟩

end Go.Proofs.Ytklpbcdkgjoheaa
