/- The document's Append. -/
import Derived.Test.YtmkpaedemjiboaaGreatB8
import Derived.Test.YtmkpaedemjiboaaGreatB9
namespace Go.Proofs.YtmkpaedemjiboaaGreat
open Go.RowKit
set_option linter.unusedVariables false

theorem Tryz.enters89 : ∀ args w, (callFunc 89 args).run Tryz.prog w = .ok (.enter 89 args) w := enters_of Tryz.func89 (by kernel_rfl) rfl

set_option maxRecDepth 20000 in
set_option maxHeartbeats 4000000 in
theorem appendX_any (p q : Nat) (F : Nat → Prop) (w : World) (s : Wl.Ws) (c : Cw) (h : XX p q F w s) (hs : WBig s) (hi : IsO w c.v c.l) (hf : FitO c.l) (h64 : In64 c.e ∧ In64 c.n) (hlo : c.l.length * 40 ≤ 140737488351232) (hcF : 0 < c.l.length → ∀ b, c.v.ownBlock = some b → ¬ F b) :
    Calls Tryz.prog 26 #[.pointer (some ⟨p, 0, none⟩), cmv c.e c.n c.v] w fun E w' => E = .returned (.int .i64 (Wl.wapp s c.c).1) ∧ XStep p q F w w' (Wl.wapp s c.c).2 := by
  obtain ⟨ao, cap, hcv, _, _⟩ := hi.shape
  obtain ⟨w1, hw1, sz1, bel1, hB0⟩ := blk_step w #[.int .i64 c.e, .int .i64 c.n, c.v] 37
  have c0 : w1.cell? ⟨w.heap.size, 0, none⟩ = some (.int .i64 c.e) := blk_cell hB0 0 rfl
  have c1 : w1.cell? ⟨w.heap.size, 1, none⟩ = some (.int .i64 c.n) := blk_cell hB0 1 rfl
  have c2 : w1.cell? ⟨w.heap.size, 2, none⟩ = some c.v := blk_cell hB0 2 rfl
  have hW1 := h.below bel1
  have HR := hide (askedX_any p q F w1 s hW1)
  have hb := hs.big
  have HLT := hide h.lt
  have HCF := hide hcF
  clear hcF
  unfold cmv
  rw [hcv] at hw1 c2 ⊢
  cases ha : Wl.ask s with
  | true =>
    have e1 : Wl.wapp s c.c = (6, Wl.brk s) := by unfold Wl.wapp; rw [ha]; rfl
    rw [e1]
    have B1 := hide bel1
    clear h hs hi hf h64 hlo hB0 hcv hW1 e1 hb
    go_enter Tryz.func26, Tryz.ntmps26
    go_wp2_with fail
    refine HR.out.mono ?_
    rintro E w2 (⟨_, rfl, J⟩ | ⟨h0, _⟩)
    · have J := hide (XStep.pre B1.out J)
      go_wp2
      go_ret
      exact ⟨rfl, J.out⟩
    · rw [ha] at h0
      cases h0
  | false =>
    have HCH := hide (ccheckR_any c.e c.n c.v c.l w1 (hi.below bel1) hf (by omega))
    unfold cmv at HCH
    rw [hcv] at HCH
    obtain ⟨ch, hch⟩ : ∃ x, Cm.chk c.e c.n c.l = x := ⟨_, rfl⟩
    rw [hch] at HCH
    have KC := hide hch
    have HCV := hide hcv
    have IOX := hide hi
    have WA := hide hW1
    have FO := hide (show FitO c.l ∧ (In64 c.e ∧ In64 c.n) ∧ c.l.length * 40 ≤ 140737488351232 from ⟨hf, h64, hlo⟩)
    have HB := hide hB0
    have B1 := hide bel1
    have BG := hide hb
    have HS := hide hs
    clear h hs hi hf h64 hlo hW1 hch hcv hb
    go_enter Tryz.func26, Tryz.ntmps26
    go_wp2_with fail
    refine HR.out.mono ?_
    rintro E w2 (⟨h0, _⟩ | ⟨_, rfl, rfl⟩)
    · rw [ha] at h0
      cases h0
    clear HR
    go_wp2_with fail
    refine HCH.out.mono ?_
    rintro E w2 ⟨rfl, bel2⟩
    have W2 := WA.out.below bel2
    have b02 := B1.out.trans (bel2.mono B1.out.size)
    have sz2 := bel2.size
    have hB2 := (bel2.block w.heap.size (by omega)).trans HB.out
    have d0 : w2.cell? ⟨w.heap.size, 0, none⟩ = some (.int .i64 c.e) := blk_cell hB2 0 rfl
    have d1 : w2.cell? ⟨w.heap.size, 1, none⟩ = some (.int .i64 c.n) := blk_cell hB2 1 rfl
    have d2 : w2.cell? ⟨w.heap.size, 2, none⟩ = some c.v := blk_cell hB2 2 rfl
    have HB2 := hide hB2
    have B02 := hide b02
    have HW2 := hide W2
    clear WA bel2 HCH hB2 c0 c1 c2 W2 b02
    by_cases hc0 : ch = 0
    · subst hc0
      have hww : w.heap.size < w2.heap.size := by omega
      have hbx : ∀ W, Below w2.heap.size w2 W → W.cell? ⟨w.heap.size, 0, none⟩ = some (.int .i64 c.e) ∧ W.cell? ⟨w.heap.size, 1, none⟩ = some (.int .i64 c.n) ∧ W.cell? ⟨w.heap.size, 2, none⟩ = some c.v := fun W hb =>
        ⟨(hb.cell (p := ⟨w.heap.size, 0, none⟩) hww).trans d0, (hb.cell (p := ⟨w.heap.size, 1, none⟩) hww).trans d1, (hb.cell (p := ⟨w.heap.size, 2, none⟩) hww).trans d2⟩
      have HE : Hid (∀ W, Below w2.heap.size w2 W → Calls Tryz.prog 29 #[.pointer (some ⟨p, 0, none⟩)] W fun E w' => E = .returned (.int .i64 (Cm.lastE 0 s.l)) ∧ Below W.heap.size W w' ∧ Below w2.heap.size w2 w' ∧ w'.cell? ⟨w.heap.size, 0, none⟩ = some (.int .i64 c.e) ∧ w'.cell? ⟨w.heap.size, 1, none⟩ = some (.int .i64 c.n) ∧ w'.cell? ⟨w.heap.size, 2, none⟩ = some c.v) := hide fun W hb => by
        refine (epochX_any p q F W s (HW2.out.below hb)).mono ?_
        rintro E w' ⟨rfl, m, rfl⟩
        exact ⟨rfl, below_drewN (Below.refl _ _) m, below_drewN hb m, hbx _ (below_drewN hb m)⟩
      have HN : Hid (∀ W, Below w2.heap.size w2 W → Calls Tryz.prog 30 #[.pointer (some ⟨p, 0, none⟩)] W fun E w' => E = .returned (.int .i64 s.l.length) ∧ W = w') := hide fun W hb =>
        endX_any p q F W s (HW2.out.below hb)
      obtain ⟨fe, fp, hfol⟩ : ∃ fe fp, Cm.fol (Cm.lastE 0 s.l) s.l.length 0 [c.c] = (fe, fp) := ⟨_, _, rfl⟩
      have HT : Hid (tk s.l c.c = ((fe == 0) && (fp == 0))) := hide (by rw [tk_fol, hfol])
      have HF : Hid (∀ W v, Below w2.heap.size w2 W → RowC W v [c] → Calls Tryz.prog 85 #[.int .i64 (Cm.lastE 0 s.l), .int .i64 s.l.length, v] W fun E w' => E = .returned (.agg #[.int .i64 fe, .int .i64 fp]) ∧ Below w2.heap.size w2 w' ∧ w'.cell? ⟨w.heap.size, 0, none⟩ = some (.int .i64 c.e) ∧ w'.cell? ⟨w.heap.size, 1, none⟩ = some (.int .i64 c.n) ∧ w'.cell? ⟨w.heap.size, 2, none⟩ = some c.v) := hide fun W v hb hr => by
        have hx := cfolR_any (Cm.lastE 0 s.l) s.l.length v [c] W ⟨hr, fun d hd => by rw [List.mem_singleton.1 hd]; exact ⟨(IOX.out.below B02.out).below hb, FO.out.2.1⟩⟩ (fun d hd => by rw [List.mem_singleton.1 hd]; exact ⟨FO.out.1, FO.out.2.2⟩) (by simp)
        rw [show cvs [c] = [c.c] from rfl, hfol] at hx
        refine hx.mono ?_
        rintro E w' ⟨rfl, hb'⟩
        have hb2 := hb.trans (hb'.mono hb.size)
        exact ⟨rfl, hb2, hbx _ hb2⟩
      have hrow : Hid (∀ W, ∃ V, W.alloc (.cells #[.int .i64 c.e, .int .i64 c.n, c.v] 37) = V ∧ Below W.heap.size W V ∧ RowC V (.slice (some ⟨W.heap.size, 0, none⟩) 1 1) [c]) := hide fun W => by
        obtain ⟨V, hV, _, bV, oV⟩ := coms_step 37 W #[.int .i64 c.e, .int .i64 c.n, c.v] 1 [c] rfl rfl (by simp [maxLen])
        exact ⟨V, hV, bV, oV.row⟩
      obtain ⟨wA, hwA, belA, rowA⟩ := hrow.out w2.drew
      have b1A : Below w2.heap.size w2 wA := (Below.refl w2.heap.size w2).drew.trans belA
      obtain ⟨a0, a1, a2⟩ := hbx wA b1A
      have HBX := hide hbx
      have RA : Hid (RowC wA (.slice (some ⟨w2.heap.size, 0, none⟩) 1 1) [c]) := hide rowA
      have b11 : Below w2.heap.size w2 w2.drew := (Below.refl w2.heap.size w2).drew
      have q1 := Tryz.neqF fe fp 0 0
      have q2 := Tryz.guardF .neq
      rw [HCV.out] at d2 a2 hwA HE HF HBX hrow
      have HBX2 := hide hbx
      clear hfol rowA belA hbx
      go_wp2_with fail
      go_region_held3 (fun w' => w'.cell? ⟨w.heap.size, 0, none⟩ = some (.int .i64 c.e) ∧ w'.cell? ⟨w.heap.size, 1, none⟩ = some (.int .i64 c.n) ∧ w'.cell? ⟨w.heap.size, 2, none⟩ = some (.slice ao c.l.length cap)) (first | exact ⟨d0, d1, d2⟩ | exact ⟨a0, a1, a2⟩ | exact ⟨r0, r1, r2⟩ | exact ⟨e0, e1, e2⟩ | exact ⟨i0, i1, i2⟩ | go_keep)
        (first
        | (go_at_call 29; refine (HE.out _ (by first | exact b11 | exact b1A)).mono ?_; rintro E w3 ⟨rfl, bel3, b13, r0, r1, r2⟩; first | (have row3 := hide (RA.out.below bel3)) | skip; obtain ⟨w4, hw4, bel4, row4⟩ := hrow.out w3; have b14 := b13.trans (bel4.mono b13.size); obtain ⟨e0, e1, e2⟩ := HBX.out w4 b14; have row4 := hide row4; clear bel3 bel4)
        | (go_at_call 30; refine (HN.out _ (by first | exact b13 | exact b14)).mono ?_; rintro E w5 ⟨rfl, rfl⟩)
        | (go_at_call 85; refine (HF.out _ _ (by first | exact b14 | exact b13) (by first | exact row4.out | exact row3.out)).mono ?_; rintro E w6 ⟨rfl, b16, i0, i1, i2⟩))
      all_goals
        have W6 := hide (HW2.out.below b16)
        have B06 := hide (B02.out.trans (b16.mono B02.out.size))
        have HB6 := hide ((b16.block w.heap.size hww).trans HB2.out)
        have hw6 : w.heap.size < w6.heap.size := by have := b16.size; omega
        clear HE HN HF hrow RA HBX HBX2 HW2 B02 HB2 b11 b1A hwA a0 a1 a2
        by_cases hfz : fe = 0 ∧ fp = 0
        · obtain ⟨rfl, rfl⟩ := hfz
          have htk : tk s.l c.c = true := by rw [HT.out]; rfl
          have hgood : Cm.Good 0 0 (s.l ++ [c.c]) := (tk_good W6.out.good c.c).1 htk
          have htk2 := htk
          unfold tk at htk2
          rw [decide_eq_true_iff] at htk2
          have e4 : Wl.wapp s c.c = if (Dm.write s.d 0 (Wl.fr c.c)).1 ≠ 0 then ((Dm.write s.d 0 (Wl.fr c.c)).1, ⟨(Dm.write s.d 0 (Wl.fr c.c)).2, s.l, true⟩) else (0, ⟨(Dm.write s.d 0 (Wl.fr c.c)).2, s.l ++ [c.c], false⟩) := by
            unfold Wl.wapp
            rw [ha, if_neg (by decide), if_neg (by intro hx; exact hx KC.out), if_neg htk2.2]
          have hfl : (Wl.fr c.c).length ≤ 433 := Wl.fr_small KC.out
          obtain ⟨F1, v, rs, k1, k2, k3, hF⟩ := id W6.out
          have hpw : p < w6.heap.size := blk_lt k2.blk
          have p1 : w6.cell? ⟨p, 1, none⟩ = some (.pointer (some ⟨q, 0, none⟩)) := blk_cell k2.blk 1 rfl
          have hnF : ¬ F w.heap.size := fun hf => by have := HLT.out _ hf; omega
          have z0 : w6.cell? ⟨w.heap.size, 0, none⟩ = some (.int .i64 c.e) := blk_cell HB6.out 0 rfl
          have z1 : w6.cell? ⟨w.heap.size, 1, none⟩ = some (.int .i64 c.n) := blk_cell HB6.out 1 rfl
          have z2 : w6.cell? ⟨w.heap.size, 2, none⟩ = some c.v := blk_cell HB6.out 2 rfl
          have HFRM : Hid (∀ W, Below w6.heap.size w6 W → Calls Tryz.prog 88 #[.agg #[.int .i64 c.e, .int .i64 c.n, c.v]] W fun E w' => ∃ vb, E = .returned vb ∧ (∃ a n k, vb = .slice a n k) ∧ Own .u8 5 w6.heap.size w' vb (Wl.fr c.c) ∧ Below w6.heap.size w6 w' ∧ w'.cell? ⟨w.heap.size, 0, none⟩ = some (.int .i64 c.e) ∧ w'.cell? ⟨w.heap.size, 1, none⟩ = some (.int .i64 c.n) ∧ w'.cell? ⟨w.heap.size, 2, none⟩ = some c.v ∧ w'.cell? ⟨p, 1, none⟩ = some (.pointer (some ⟨q, 0, none⟩))) := hide fun W hW => by
            refine (frameX_any c.e c.n c.v c.l W ((IOX.out.below B06.out).below hW) FO.out.1 (by have := FO.out.2.2; omega) KC.out).mono ?_
            rintro E w' ⟨vb, rfl, own, bel⟩
            have b2 := hW.trans (bel.mono hW.size)
            obtain ⟨a, k, hvb, _, _⟩ := own.is.shape
            exact ⟨vb, rfl, ⟨a, _, k, hvb⟩, own.rebase hW.size, b2, (b2.cell (p := ⟨w.heap.size, 0, none⟩) hw6).trans z0, (b2.cell (p := ⟨w.heap.size, 1, none⟩) hw6).trans z1, (b2.cell (p := ⟨w.heap.size, 2, none⟩) hw6).trans z2, (b2.cell (p := ⟨p, 1, none⟩) hpw).trans p1⟩
          have HWR : Hid (∀ W vb, Below w6.heap.size w6 W → Own .u8 5 w6.heap.size W vb (Wl.fr c.c) → Calls Tryz.prog 87 #[.pointer (some ⟨q, 0, none⟩), .int .i64 0, vb] W fun E w' => E = .returned (.int .i64 (Dm.write s.d 0 (Wl.fr c.c)).1) ∧ XStep p q F w6 w' ⟨(Dm.write s.d 0 (Wl.fr c.c)).2, s.l, s.bk⟩ ∧ w'.heap[p]? = some (.cells #[.bool true, .pointer (some ⟨q, 0, none⟩), v, .bool s.bk] 109 (0, 0)) ∧ w'.heap[w.heap.size]? = some (.cells #[.int .i64 c.e, .int .i64 c.n, c.v] 37 (0, 0)) ∧ w'.cell? ⟨w.heap.size, 0, none⟩ = some (.int .i64 c.e) ∧ w'.cell? ⟨w.heap.size, 1, none⟩ = some (.int .i64 c.n) ∧ w'.cell? ⟨w.heap.size, 2, none⟩ = some c.v ∧ w'.cell? ⟨p, 1, none⟩ = some (.pointer (some ⟨q, 0, none⟩))) := hide fun W vb hW own => by
            refine (writeR_any q F1 W s.d 0 vb (Wl.fr c.c) (k1.below hW) own.is (fun _ b hb hf => by
              have h1 := (own.block b hb).1
              have h2 := k1.lt b hf
              omega) (by omega) (Nat.le_trans BG.out.1.2.1 (by decide)) BG.out.2 (Nat.le_trans BG.out.1.2.2 (by decide))).mono ?_
            rintro E w' ⟨rfl, DS⟩
            have hX := k2.agree (w' := W) fun g hg => hW.block g (k2.lt g hg)
            have ST := XStep.pre hW (XX.disk (k1.below hW) hX k3 DS)
            obtain ⟨_, _, o2, _⟩ := DS
            have hB := (o2.block p (Nat.lt_of_lt_of_le hpw hW.size) (k3 p (.inl rfl))).trans hX.blk
            have hC := (o2.block w.heap.size (Nat.lt_of_lt_of_le hw6 hW.size) (fun hf => hnF (by rw [hF]; exact .inl hf))).trans ((hW.block w.heap.size hw6).trans HB6.out)
            rw [hF]
            exact ⟨rfl, ST, hB, hC, blk_cell hC 0 rfl, blk_cell hC 1 rfl, blk_cell hC 2 rfl, blk_cell hB 1 rfl⟩
          have HHE : Hid (∀ W x st, XStep p q F w6 W ⟨st, s.l, s.bk⟩ → W.heap[p]? = some (.cells #[.bool true, .pointer (some ⟨q, 0, none⟩), v, .bool s.bk] 109 (0, 0)) → Calls Tryz.prog 86 #[.pointer (some ⟨p, 0, none⟩), .int .i64 x] W fun E w' => E = .returned (.int .i64 x) ∧ XStep p q F w6 w' ⟨st, s.l, x != 0⟩ ∧ w'.cell? ⟨w.heap.size, 0, none⟩ = some (.int .i64 c.e) ∧ w'.cell? ⟨w.heap.size, 1, none⟩ = some (.int .i64 c.n) ∧ w'.cell? ⟨w.heap.size, 2, none⟩ = some c.v ∧ w'.cell? ⟨p, 1, none⟩ = some (.pointer (some ⟨q, 0, none⟩))) := hide fun W x st hW hB => by
            refine (offX2_any p q F w6 W _ x v hW hB).mono ?_
            rintro E w' ⟨rfl, k, hB'⟩
            have hC := (k.choose_spec.2.1.block w.heap.size hw6 hnF).trans HB6.out
            exact ⟨rfl, k, blk_cell hC 0 rfl, blk_cell hC 1 rfl, blk_cell hC 2 rfl, blk_cell hB' 1 rfl⟩
          generalize hwr : Dm.write s.d 0 (Wl.fr c.c) = y at *
          obtain ⟨x, d'⟩ := y
          simp only at HWR e4
          have E4 := hide e4
          have GD := hide hgood
          have HNF := hide hnF
          rw [HCV.out] at z2 HFRM HWR HHE
          clear e4 hgood htk htk2 hwr hfl k1 k2 k3 hF hnF W6
          go_wp2_with fail
          go_region_held3 (fun w' => w'.cell? ⟨w.heap.size, 0, none⟩ = some (.int .i64 c.e) ∧ w'.cell? ⟨w.heap.size, 1, none⟩ = some (.int .i64 c.n) ∧ w'.cell? ⟨w.heap.size, 2, none⟩ = some (.slice ao c.l.length cap) ∧ w'.cell? ⟨p, 1, none⟩ = some (.pointer (some ⟨q, 0, none⟩))) (first | exact ⟨z0, z1, z2, p1⟩ | exact ⟨f0, f1, f2, f3⟩ | exact ⟨g0, g1, g2, g3⟩ | exact ⟨j0, j1, j2, j3⟩ | go_keep)
            (first
            | (go_at_call 88; refine (HFRM.out _ ((Below.refl _ _).drew)).mono ?_; rintro E w7 ⟨vb, rfl, ⟨ab, nb, kb, rfl⟩, own7, b67, f0, f1, f2, f3⟩; have own7 := hide own7)
            | (go_at_call 87; refine (HWR.out _ _ b67 own7.out).mono ?_; rintro E w8 ⟨rfl, J8, B8, C8, g0, g1, g2, g3⟩; have J8 := hide J8; have B8 := hide B8; clear C8)
            | (go_at_call 86; refine (HHE.out _ _ _ J8.out B8.out).mono ?_; rintro E w9 ⟨rfl, J9, j0, j1, j2, j3⟩; have J9 := hide J9))
          all_goals
            clear HFRM HWR HHE J8 B8 own7
            by_cases hx0 : x = 0
            · subst hx0
              have A7 : Hid (Wl.wapp s c.c = (0, ⟨d', s.l ++ [c.c], false⟩)) := hide (by rw [E4.out]; simp)
              obtain ⟨F9, hX, o9, s9⟩ := J9.out
              obtain ⟨Fa, va, ra, g1, g2, g3, hFa⟩ := id hX
              have hra : ra.length = s.l.length := g2.len
              have sz9 := o9.size
              have hB9 := (o9.block w.heap.size hw6 HNF.out).trans HB6.out
              have i9 : IsO w9 c.v c.l := (IOX.out.below B06.out).out o9 HCF.out
              have m2 : w9.cell? ⟨p, 2, none⟩ = some va := blk_cell g2.blk 2 rfl
              have hp9 : p < w9.heap.size := blk_lt g2.blk
              have CP : Hid (Calls Tryz.prog 89 #[.agg #[.int .i64 c.e, .int .i64 c.n, c.v]] w9.drew fun E w10 => ∃ vv, E = .returned vv ∧ (∃ v', vv = .agg #[.int .i64 c.e, .int .i64 c.n, v'] ∧ (∃ a n k, v' = .slice a n k) ∧ w10.cell? ⟨p, 2, none⟩ = some va ∧ ∃ V, w10.alloc (.cells #[.int .i64 c.e, .int .i64 c.n, v'] 37) = V ∧ V.cell? ⟨p, 2, none⟩ = some va ∧ Hid (∀ ty, ∃ v2 w2, (Builtin.append_ #[41, 41] ty #[va, .slice (some ⟨w10.heap.size, 0, none⟩) 1 1]).run Tryz.prog V = .ok v2 w2 ∧ ((∃ U, w2.setCell ⟨p, 2, none⟩ v2 = U ∧ XStep p q F w U ⟨d', s.l ++ [c.c], false⟩) ∧ w2.cell? ⟨p, 2, none⟩ = some va ∧ w2.frozen? ⟨p, 2, none⟩ = false ∧ ∃ a n k, v2 = .slice a n k)))) := hide (by
                refine (copyX_any c.e c.n c.v c.l w9.drew (i9.drewN 1) FO.out.2.2).mono ?_
                rintro E w10 ⟨v', rfl, own10, bel10⟩
                have b910 : Below w9.heap.size w9 w10 := (Below.refl w9.heap.size w9).drew.trans bel10
                obtain ⟨a, k, hv', _, _⟩ := own10.is.shape
                obtain ⟨V, hV, cV, X⟩ := xk_push g1 g2 g3 b910 ⟨c.e, c.n, v', c.l⟩ own10 GD.out
                refine ⟨_, rfl, v', rfl, ⟨a, _, k, hv'⟩, (b910.cell (p := ⟨p, 2, none⟩) hp9).trans m2, V, hV, cV, hide fun ty => ?_⟩
                obtain ⟨v2, w2, r1, ⟨U, hU, J⟩, r2, r3, r4⟩ := X.out ty
                rw [← hFa] at J
                exact ⟨v2, w2, r1, ⟨U, hU, XStep.pre B06.out (XStep.trans o9 s9 J)⟩, r2, r3, r4⟩)
              obtain ⟨xa, xc, hva, _, _⟩ := g2.row.row.shape
              rw [hra] at hva
              have HVA := hide hva
              subst hva
              rw [HCV.out] at CP
              clear E4 hX o9 s9 g1 g2 g3 hFa hra hB9 i9 J9
              go_wp2_with fail
              go_region_law (first
                | (refine call_at rfl 89 #[.tmp 42] #[37] rfl Tryz.enters89 #[.agg #[.int .i64 c.e, .int .i64 c.n, .slice ao c.l.length cap]] (by first | (simp [Act.eval]; done) | (simp [Act.eval, Act.put]; done)) CP.out ?_; rintro _ w10 ⟨v10, rfl, ⟨a10, n10, k10, rfl⟩, pc10, V, hV, cV, X⟩)
                | (refine step_append_at rfl (.tmp 41) (.tmp 44) 41 rfl (.slice xa s.l.length xc) (.slice (some ⟨w10.heap.size, 0, none⟩) 1 1) (by first | (simp [Act.eval]; done) | (simp [Act.eval, Act.put]; done)) (by first | (simp [Act.eval]; done) | (simp [Act.eval, Act.put]; done)) X.out ?_; rintro v11 w11 ⟨⟨U, hU, J⟩, d11, g11, a11, n11, k11, rfl⟩; have J := hide J))
              all_goals
                go_wp2
                go_ret
                exact ⟨by rw [A7.out]; rfl, by rw [A7.out]; exact J.out⟩
            · have hxb : (x != 0) = true := by simp [hx0]
              have A7 : Hid (Wl.wapp s c.c = (x, ⟨d', s.l, true⟩)) := hide (by rw [E4.out]; simp [hx0])
              rw [hxb] at J9
              clear E4
              go_wp2
              go_ret
              exact ⟨by rw [A7.out]; rfl, by rw [A7.out]; exact XStep.pre B06.out J9.out⟩
        · have hor : (fe == 0) = false ∨ (fe = 0 ∧ (fp == 0) = false) := by
            by_cases h1 : fe = 0
            · have h2 : ¬ fp = 0 := fun h2 => hfz ⟨h1, h2⟩
              exact .inr ⟨h1, by simp [h2]⟩
            · exact .inl (by simp [h1])
          have htk : tk s.l c.c = false := by
            rw [HT.out]
            rcases hor with h | ⟨_, h⟩
            · rw [h]
              rfl
            · rw [h]
              simp
          have e4 : Wl.wapp s c.c = (15, s) := by
            unfold Wl.wapp
            rw [ha, if_neg (by decide), if_neg (by intro hx; exact hx KC.out), if_pos ?_]
            unfold tk at htk
            rw [decide_eq_false_iff_not] at htk
            by_cases hx : c.c.n - 1 ≠ s.l.length ∨ c.c.e < Cm.lastE 0 s.l
            · exact hx
            · exact absurd ⟨KC.out, hx⟩ htk
          have E4 := hide e4
          clear e4 htk hfz HT
          go_wp2
          · go_ret
            exact ⟨by rw [E4.out]; rfl, by rw [E4.out]; exact ⟨F, W6.out, Out.of_below B06.out, fun g hg => .inl hg⟩⟩
          · exfalso
            obtain ⟨y1, y2⟩ := ‹(!(fe == 0)) = false ∧ (!(fp == 0)) = false›
            rcases hor with h | ⟨_, h⟩
            · rw [h] at y1
              cases y1
            · rw [h] at y2
              cases y2
    · have hne : (ch != 0) = true := by simp [hc0]
      have e1 : Wl.wapp s c.c = (ch, s) := by
        unfold Wl.wapp
        rw [ha, if_neg (by decide), if_pos (by show Cm.chk c.e c.n c.l ≠ 0; rw [KC.out]; exact hc0)]
        show (Cm.chk c.e c.n c.l, s) = _
        rw [KC.out]
      have E1 := hide e1
      clear e1
      go_wp2
      go_ret
      exact ⟨by rw [E1.out]; rfl, by rw [E1.out]; exact ⟨F, HW2.out, Out.of_below B02.out, fun g hg => .inl hg⟩⟩

end Go.Proofs.YtmkpaedemjiboaaGreat
