/- Texts of one layer, one behind the other. -/
import Derived.Test.YtajlhdmnincehaaGreatDoorH25
import Derived.Test.YtajlhdmnincehaaGreatDoorH3
import Derived.Test.YtajlhdmnincehaaGreatDoorH17
import Derived.Test.YtajlhdmnincehaaGreatDoorH2
import Derived.Test.YtajlhdmnincehaaGreatDoorH8
/- The program's Append and Cut. -/
namespace Go.Proofs.YtajlhdmnincehaaGreatDoor
open Go.RowKit
set_option linter.unusedVariables false

theorem cnt_small {n : Nat} (h : n ≤ 433) : cnt n ≤ 7 := by
  unfold cnt
  omega

/-- The log in a wal's block is another one. -/
theorem ww_log {p q N : Nat} {F1 : Nat → Prop} {w w' : World} {d : Dm.Ds} {l l' : List Cm.Cv} {bk : Bool} {vc ve vc' ve' : Value} {rs rs' : List Cw} (h1 : Pk q F1 w d) (hv : WkV p q w l bk vc ve rs)
    (hB : w'.heap[p]? = some (.cells #[.pointer (some ⟨q, 0, none⟩), .bool bk, vc', ve'] 192 (0, 0))) (hL : Lw 0 w' l' vc' ve' rs') (ho : Out (fun g => g = p ∨ LB vc ve rs g) w w') (hs : ∀ g, LB vc' ve' rs' g → LB vc ve rs g ∨ N ≤ g) (hN : N ≤ w.heap.size) :
    ∃ F', WW p q F' w' ⟨d, l', bk⟩ ∧ Out (fun g => F1 g ∨ g = p ∨ LB vc ve rs g) w w' ∧ ∀ g, F' g → (F1 g ∨ g = p ∨ LB vc ve rs g) ∨ N ≤ g := by
  have h2 : Wk p q (fun g => g = p ∨ LB vc ve rs g) w l bk := ⟨vc, ve, rs, hv, rfl⟩
  refine ⟨_, ⟨F1, _, h1.out ho fun g hg e => wk_pk h2 h1 g e hg, ⟨vc', ve', rs', ⟨hB, hL⟩, rfl⟩, rfl⟩, ho.mono fun g hg => .inl (.inr hg), ?_⟩
  rintro g (e | e | e)
  · exact .inl (.inl e)
  · exact .inl (.inr (.inl e))
  · rcases hs g e with e | e
    · exact .inl (.inr (.inr e))
    · exact .inr e

set_option maxRecDepth 20000 in
set_option maxHeartbeats 4000000 in
theorem wappend_any (p q : Nat) (F : Nat → Prop) (w : World) (s : Wl.Ws) (c : Cw) (h : WW p q F w s) (hs : WBig s) (hi : IsO w c.v c.l) (hf : FitO c.l) (h64 : In64 c.e ∧ In64 c.n) (hlo : c.l.length * 40 ≤ 140737488351232) (hcF : 0 < c.l.length → ∀ b, c.v.ownBlock = some b → ¬ F b) :
    Calls Tryz.prog 157 #[.pointer (some ⟨p, 0, none⟩), cmv c.e c.n c.v] w fun E w' => E = .returned (.int .i64 (Wl.wapp s c.c).1) ∧ WStep p q F w w' (Wl.wapp s c.c).2 := by
  obtain ⟨ao, cap, hcv, _, _⟩ := hi.shape
  obtain ⟨w1, hw1, sz1, bel1, hB0⟩ := blk_step w #[.int .i64 c.e, .int .i64 c.n, c.v] 93
  have c0 : w1.cell? ⟨w.heap.size, 0, none⟩ = some (.int .i64 c.e) := blk_cell hB0 0 rfl
  have c1 : w1.cell? ⟨w.heap.size, 1, none⟩ = some (.int .i64 c.n) := blk_cell hB0 1 rfl
  have c2 : w1.cell? ⟨w.heap.size, 2, none⟩ = some c.v := blk_cell hB0 2 rfl
  have hW1 := h.below bel1
  have HR := hide (wrefuses_any p q F w1 s hW1)
  have hb := hs.big
  have HLT := hide h.lt
  have HCF := hide hcF
  clear hcF
  unfold cmv
  rw [hcv] at hw1 c2 ⊢
  cases ha : Wl.ask s with
  | true =>
    have e1 : Wl.wapp s c.c = (6, Wl.brk s) := by unfold Wl.wapp; rw [ha]; rfl
    rw [e1]
    have B1 := hide bel1
    clear h hs hi hf h64 hlo hB0 hcv hW1 e1 hb
    go_enter Tryz.func157, Tryz.ntmps157
    go_wp2_with fail
    refine HR.out.mono ?_
    rintro E w2 (⟨_, rfl, J⟩ | ⟨h0, _⟩)
    · have J := hide (WStep.pre B1.out J)
      go_wp2
      go_ret
      exact ⟨rfl, J.out⟩
    · rw [ha] at h0
      cases h0
  | false =>
    have HFR := hide (framed_any c.e c.n c.v c.l w1 (hi.below bel1) hf (by omega))
    unfold cmv at HFR
    rw [hcv] at HFR
    obtain ⟨ch, hch⟩ : ∃ x, Cm.chk c.e c.n c.l = x := ⟨_, rfl⟩
    rw [hch] at HFR
    have KC := hide hch
    have HCV := hide hcv
    have IOX := hide hi
    have WA := hide hW1
    have FO := hide (show FitO c.l ∧ (In64 c.e ∧ In64 c.n) ∧ c.l.length * 40 ≤ 140737488351232 from ⟨hf, h64, hlo⟩)
    have HB := hide hB0
    have B1 := hide bel1
    have BG := hide hb
    have HS := hide hs
    clear h hs hi hf h64 hlo hW1 hch hcv hb
    go_enter Tryz.func157, Tryz.ntmps157
    go_wp2_with fail
    refine HR.out.mono ?_
    rintro E w2 (⟨h0, _⟩ | ⟨_, rfl, rfl⟩)
    · rw [ha] at h0
      cases h0
    clear HR
    go_wp2_with fail
    refine HFR.out.mono ?_
    rintro E w2 ⟨vb, rfl, own, bel2⟩
    have W2 := WA.out.below bel2
    have b02 := B1.out.trans (bel2.mono B1.out.size)
    have sz2 := bel2.size
    have hB2 := (bel2.block w.heap.size (by omega)).trans HB.out
    have d0 : w2.cell? ⟨w.heap.size, 0, none⟩ = some (.int .i64 c.e) := blk_cell hB2 0 rfl
    have d1 : w2.cell? ⟨w.heap.size, 1, none⟩ = some (.int .i64 c.n) := blk_cell hB2 1 rfl
    have d2 : w2.cell? ⟨w.heap.size, 2, none⟩ = some c.v := blk_cell hB2 2 rfl
    rw [HCV.out] at d2
    obtain ⟨ab, cb, hvb, _, _⟩ := own.is.shape
    have OB := hide own
    have HB2 := hide hB2
    have B02 := hide b02
    have HW2 := hide W2
    clear WA own bel2 HFR hB2 c0 c1 c2
    by_cases hc0 : ch = 0
    · subst hc0
      have hfr : frd c.e c.n c.l = Wl.fr c.c := by unfold frd; rw [if_pos KC.out]; rfl
      have hfl : (frd c.e c.n c.l).length ≤ 433 := by rw [hfr]; exact Wl.fr_small KC.out
      obtain ⟨F1, G1, h1, h2, hF⟩ := HW2.out
      obtain ⟨vc, ve, rs, hv, hG⟩ := h2
      have hgl := good_len hv.log.good
      have p0 : w2.cell? ⟨p, 0, none⟩ = some (.pointer (some ⟨q, 0, none⟩)) := blk_cell hv.blk 0 rfl
      obtain ⟨ans, hans⟩ : ∃ x, tk s.l c.c = x := ⟨_, rfl⟩
      have hpw : p < w2.heap.size := blk_lt hv.blk
      have TK : Hid (∀ W, Below w2.heap.size w2 W → Calls Tryz.prog 220 #[.pointer (some ⟨p, 2, none⟩), .agg #[.int .i64 c.e, .int .i64 c.n, .slice ao c.l.length cap]] W fun E w' => E = .returned (.bool ans) ∧ Below w2.heap.size w2 w') := hide fun W hbW => by
        have := takes_any p 2 W vc rs (blk_cell ((hbW.block p hpw).trans hv.blk) 2 rfl) (hv.log.r.row.row.below hbW) (by rw [hv.log.len]; exact hgl) c ((IOX.out.below B02.out).below hbW) FO.out.2.1.1 FO.out.2.1.2 FO.out.1 FO.out.2.2
        unfold cmv at this
        rw [HCV.out, hv.log.is, hans] at this
        refine this.mono ?_
        rintro E w' ⟨rfl, hb'⟩
        exact ⟨rfl, hbW.trans (hb'.mono hbW.size)⟩
      have HA := hide hans
      have HV := hide hv
      have H1 := hide h1
      have HFF := hide hF
      have HGG := hide hG
      subst hvb
      clear hans hv h1 hF hG
      go_wp2_with fail
      go_region_held3 (fun w' => w'.cell? ⟨w.heap.size, 0, none⟩ = some (.int .i64 c.e) ∧ w'.cell? ⟨w.heap.size, 1, none⟩ = some (.int .i64 c.n) ∧ w'.cell? ⟨w.heap.size, 2, none⟩ = some (.slice ao c.l.length cap) ∧ w'.cell? ⟨p, 0, none⟩ = some (.pointer (some ⟨q, 0, none⟩))) (first | exact ⟨d0, d1, d2, p0⟩ | exact ⟨e0, e1, e2, p1⟩ | go_keep)
        (first
        | (go_at_call 220; refine (TK.out _ ((Below.refl _ _).drew)).mono ?_; rintro E w3 ⟨rfl, bel3⟩; have e0 := (bel3.cell (p := ⟨w.heap.size, 0, none⟩) (show w.heap.size < w2.heap.size by omega)).trans d0; have e1 := (bel3.cell (p := ⟨w.heap.size, 1, none⟩) (show w.heap.size < w2.heap.size by omega)).trans d1; have e2 := (bel3.cell (p := ⟨w.heap.size, 2, none⟩) (show w.heap.size < w2.heap.size by omega)).trans d2; have p1 := (bel3.cell (p := ⟨p, 0, none⟩) hpw).trans p0))
      have b03 := B02.out.trans (bel3.mono B02.out.size)
      have sz3 := bel3.size
      have HV3 : Hid (WkV p q w3 s.l s.bk vc ve rs) := hide ⟨(bel3.block p hpw).trans HV.out.blk, HV.out.log.below bel3⟩
      have K3 := hide (H1.out.below bel3)
      have O3 := hide (OB.out.below bel3)
      have HB3 := hide ((bel3.block w.heap.size (by omega)).trans HB2.out)
      clear HV H1 OB HB2 TK d0 d1 d2 p0
      cases ans with
      | false =>
        have e4 : Wl.wapp s c.c = (15, s) := by
          unfold Wl.wapp
          rw [ha, if_neg (by decide), if_neg (by intro hx; exact hx KC.out), if_pos ?_]
          have := HA.out
          unfold tk at this
          rw [decide_eq_false_iff_not] at this
          by_cases hx : c.c.n - 1 ≠ s.l.length ∨ c.c.e < Cm.lastE 0 s.l
          · exact hx
          · exact absurd ⟨KC.out, hx⟩ this
        have E4 := hide e4
        have W3 := hide (HW2.out.below bel3)
        have B3 := hide b03
        clear e4 b03 HV3 K3 O3
        go_wp2
        go_ret
        exact ⟨by rw [E4.out]; rfl, by rw [E4.out]; exact ⟨F, W3.out, Out.of_below B3.out, fun g hg => .inl hg⟩⟩
      | true =>
        have hgood : Cm.Good 0 0 (s.l ++ [c.c]) := (tk_good HV3.out.log.good c.c).1 HA.out
        have htk := HA.out
        unfold tk at htk
        rw [decide_eq_true_iff] at htk
        have WR := hide (write_any q F1 w3 s.d 0 _ (frd c.e c.n c.l) K3.out O3.out.is (fun _ b hb hf => by
          have h1 := (O3.out.block b hb).1
          have h2 := HLT.out b (by rw [HFF.out]; exact .inl hf)
          omega) (by omega) (by have h1 := BG.out.1.2.1; have h2 := HS.out.1.2.1; have h3 := cnt_small hfl; omega) BG.out.2 (by have h2 := HS.out.1.2.2; have h3 := cnt_small hfl; omega))
        rw [hfr] at WR
        have e01 := write_e (st := s.d) (Wl.fr c.c)
        have e4 : Wl.wapp s c.c = if (Dm.write s.d 0 (Wl.fr c.c)).1 ≠ 0 then ((Dm.write s.d 0 (Wl.fr c.c)).1, ⟨(Dm.write s.d 0 (Wl.fr c.c)).2, s.l, true⟩) else (0, ⟨(Dm.write s.d 0 (Wl.fr c.c)).2, s.l ++ [c.c], false⟩) := by
          unfold Wl.wapp
          rw [ha, if_neg (by decide), if_neg (by intro hx; exact hx KC.out), if_neg htk.2]
        generalize hwr : Dm.write s.d 0 (Wl.fr c.c) = y at *
        obtain ⟨x, d'⟩ := y
        simp only at e01 e4 WR
        have E4 := hide e4
        have GD := hide hgood
        have W3 := hide (HW2.out.below bel3)
        have B3 := hide b03
        have SZ3 : w1.heap.size ≤ w3.heap.size := by omega
        rw [hfr] at O3 hfl
        clear e4 hgood htk hwr b03 bel3 hfr
        go_wp2_with fail
        refine WR.out.mono ?_
        rintro E w4 ⟨rfl, PS⟩
        obtain ⟨F2, k1, k2, k3, k4⟩ := WW.disk (s := ⟨s.d, s.l, s.bk⟩) K3.out ⟨vc, ve, rs, HV3.out, rfl⟩ PS
        have HE := hide (wheed_any p q _ w4 ⟨d', s.l, s.bk⟩ x ⟨F2, _, k1, k2, rfl⟩)
        simp only at HE
        have T4 := hide (show Out F w3 w4 ∧ ∀ g, (F2 g ∨ (g = p ∨ LB vc ve rs g)) → F g ∨ w3.heap.size ≤ g from by
          refine ⟨k3.mono fun g hg => .inl (by rw [HFF.out]; exact .inl hg), ?_⟩
          rintro g (hg | hg)
          · rcases k4 g hg with e | e
            · exact .inl (by rw [HFF.out]; exact .inl e)
            · exact .inr e
          · exact .inl (by rw [HFF.out, HGG.out]; exact .inr hg))
        clear PS k1 k2 k3 k4 WR K3 HV3
        go_wp2_with fail
        refine HE.out.mono ?_
        rintro E w5 ⟨rfl, J⟩
        have J5 := hide (WStep.trans T4.out.1 T4.out.2 J)
        clear HE J
        rcases e01 with rfl | rfl
        · obtain ⟨F5, ⟨Fa, Ga, g1, g2, hF5⟩, o5, s5⟩ := J5.out
          obtain ⟨vc5, ve5, rs5, hv5, hG5⟩ := g2
          have sz5 := o5.size
          have hnF : ¬ F w.heap.size := fun hf => by have := HLT.out _ hf; omega
          have hB5 := (o5.block w.heap.size (by omega) hnF).trans HB3.out
          have x0 : w5.cell? ⟨w.heap.size, 0, none⟩ = some (.int .i64 c.e) := blk_cell hB5 0 rfl
          have x1 : w5.cell? ⟨w.heap.size, 1, none⟩ = some (.int .i64 c.n) := blk_cell hB5 1 rfl
          have x2 : w5.cell? ⟨w.heap.size, 2, none⟩ = some c.v := blk_cell hB5 2 rfl
          rw [HCV.out] at x2
          have i5 : IsO w5 c.v c.l := (IOX.out.below B3.out).out o5 HCF.out
          have HCP : Hid (Calls Tryz.prog 83 #[.agg #[.int .i64 c.e, .int .i64 c.n, .slice ao c.l.length cap]] w5.drew fun E w6 => ∃ v', E = .returned (.agg #[.int .i64 c.e, .int .i64 c.n, v']) ∧ OwnO 88 0 w6 v' c.l ∧ Below w5.heap.size w5 w6 ∧ (∀ b, v'.ownBlock = some b → w5.heap.size ≤ b) ∧ w6.cell? ⟨w.heap.size, 0, none⟩ = some (.int .i64 c.e) ∧ w6.cell? ⟨w.heap.size, 1, none⟩ = some (.int .i64 c.n) ∧ w6.cell? ⟨w.heap.size, 2, none⟩ = some (.slice ao c.l.length cap) ∧ ∃ a n k, v' = .slice a n k) := hide (by
            have := ccopy_any c.e c.n c.v c.l w5.drew (i5.drewN 1) FO.out.2.2
            unfold cmv at this
            rw [HCV.out] at this
            refine this.mono ?_
            rintro E w6 ⟨v', rfl, own6, bel6⟩
            have b56 : Below w5.heap.size w5 w6 := (Below.refl w5.heap.size w5).drew.trans bel6
            obtain ⟨a, k, hv', _, _⟩ := own6.is.shape
            exact ⟨v', rfl, own6.rebase (Nat.zero_le _), b56, fun b hb => (OwnO.block own6 b hb).1, (b56.cell (p := ⟨w.heap.size, 0, none⟩) (show w.heap.size < w5.heap.size by omega)).trans x0, (b56.cell (p := ⟨w.heap.size, 1, none⟩) (show w.heap.size < w5.heap.size by omega)).trans x1, (b56.cell (p := ⟨w.heap.size, 2, none⟩) (show w.heap.size < w5.heap.size by omega)).trans x2, a, _, k, hv'⟩)
          have hp5 : p < w5.heap.size := blk_lt hv5.blk
          have HGR : Hid (∀ w6 v', Below w5.heap.size w5 w6 → OwnO 88 0 w6 v' c.l → (∀ b, v'.ownBlock = some b → w5.heap.size ≤ b) → Calls Tryz.prog 222 #[.pointer (some ⟨p, 2, none⟩), .agg #[.int .i64 c.e, .int .i64 c.n, v'], .int .i64 (Wl.fr c.c).length] w6 fun E w7 => E = .returned (.tuple #[]) ∧ WStep p q F w w7 ⟨d', s.l ++ [c.c], false⟩ ∧ w7.cell? ⟨w.heap.size, 0, none⟩ = some (.int .i64 c.e) ∧ w7.cell? ⟨w.heap.size, 1, none⟩ = some (.int .i64 c.n) ∧ w7.cell? ⟨w.heap.size, 2, none⟩ = some (.slice ao c.l.length cap)) := hide fun w6 v' b56 own6 hge => by
            have hB6 := (b56.block p hp5).trans hv5.blk
            have L6 := hv5.log.below b56
            have := lgrow_any 0 p 2 192 _ w6 s.l vc5 ve5 rs5 ⟨c.e, c.n, v', c.l⟩ (Wl.fr c.c).length hB6 rfl rfl (by decide) (by decide) (by decide) L6 (Nat.zero_le _) own6 GD.out rfl
            unfold cmv at this
            refine this.mono ?_
            rintro E w7 ⟨rfl, vc7, ve7, hB7, L7, o7, s7⟩
            have sz6 := b56.size
            have K6 := g1.below b56
            obtain ⟨F7, q1, q2, q3⟩ := ww_log (N := w5.heap.size) (l' := s.l ++ [c.c]) (vc' := vc7) (ve' := ve7) (rs' := rs5 ++ [(⟨c.e, c.n, v', c.l⟩ : Cw)]) (w := w6) K6 ⟨hB6, L6⟩ (by rw [hB7]; rfl) L7 o7 (w' := w7) (fun g hg => by
              rcases s7 g hg with e | e | e
              · exact .inl e
              · exact .inr (by omega)
              · exact .inr (hge g e)) sz6
            have s6 : ∀ g, (Fa g ∨ g = p ∨ LB vc5 ve5 rs5 g) → F5 g := fun g hg => by
              rw [hF5, hG5]
              exact hg
            have o57 : Out F5 w5 w7 := (Out.of_below (F := F5) b56).trans q2 fun g hg => .inl (s6 g hg)
            have o37 : Out F w3 w7 := o5.trans o57 s5
            have f7 : ∀ g, F7 g → F g ∨ w3.heap.size ≤ g := fun g hg => by
              rcases q3 g hg with e | e
              · exact s5 g (s6 g e)
              · exact .inr (by omega)
            have hB7' := (o37.block w.heap.size (by omega) hnF).trans HB3.out
            refine ⟨rfl, WStep.pre B3.out ⟨F7, q1, o37, f7⟩, blk_cell hB7' 0 rfl, blk_cell hB7' 1 rfl, ?_⟩
            rw [← HCV.out]
            exact blk_cell hB7' 2 rfl
          clear hv5 hB5 i5
          go_wp2_with fail
          go_region_held3 (fun w' => w'.cell? ⟨w.heap.size, 0, none⟩ = some (.int .i64 c.e) ∧ w'.cell? ⟨w.heap.size, 1, none⟩ = some (.int .i64 c.n) ∧ w'.cell? ⟨w.heap.size, 2, none⟩ = some (.slice ao c.l.length cap)) (first | exact ⟨x0, x1, x2⟩ | exact ⟨y0, y1, y2⟩ | exact ⟨z0, z1, z2⟩ | go_keep)
            (first
            | (go_at_call 83; refine HCP.out.mono ?_; rintro E w6 ⟨v6, rfl, own6, b56, hge, y0, y1, y2, a6, n6, k6, rfl⟩)
            | (go_at_call 222; refine (HGR.out _ _ b56 own6 hge).mono ?_; rintro E w7 ⟨rfl, J7, z0, z1, z2⟩; have J7 := hide J7))
          all_goals
            have A7 : Hid (Wl.wapp s c.c = (0, ⟨d', s.l ++ [c.c], false⟩)) := hide (by rw [E4.out]; simp)
            clear E4
            go_wp2
            go_ret
            exact ⟨by rw [A7.out]; rfl, by rw [A7.out]; exact J7.out⟩
        · have A6 : Hid (Wl.wapp s c.c = (6, ⟨d', s.l, true⟩)) := hide (by rw [E4.out]; simp)
          clear E4
          go_wp2
          go_ret
          exact ⟨by rw [A6.out]; rfl, by rw [A6.out]; exact WStep.pre B3.out J5.out⟩
    · have hne : (ch != 0) = true := by simp [hc0]
      have e1 : Wl.wapp s c.c = (ch, s) := by
        unfold Wl.wapp
        rw [ha, if_neg (by decide), if_pos (by show Cm.chk c.e c.n c.l ≠ 0; rw [KC.out]; exact hc0)]
        show (Cm.chk c.e c.n c.l, s) = _
        rw [KC.out]
      have E1 := hide e1
      clear e1
      subst hvb
      go_wp2
      go_ret
      exact ⟨by rw [E1.out]; rfl, by rw [E1.out]; exact ⟨F, HW2.out, Out.of_below B02.out, fun g hg => .inl hg⟩⟩

end Go.Proofs.YtajlhdmnincehaaGreatDoor
