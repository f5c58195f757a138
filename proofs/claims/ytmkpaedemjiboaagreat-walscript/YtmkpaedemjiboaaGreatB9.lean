/- Texts of one layer, one behind the other. -/
import Derived.Test.YtmkpaedemjiboaaGreatB4
import Derived.Test.YtmkpaedemjiboaaGreatA4
import Derived.Test.YtmkpaedemjiboaaGreatB8
import Derived.Test.YtmkpaedemjiboaaGreatB2
import Derived.Test.YtmkpaedemjiboaaGreatPick
import Derived.Test.YtmkpaedemjiboaaGreatA1
import Derived.Deep.RegionLaw
/- The program's Append and Cut. -/
namespace Go.Proofs.YtmkpaedemjiboaaGreat
open Go.RowKit
set_option linter.unusedVariables false

theorem cnt_small {n : Nat} (h : n ≤ 433) : cnt n ≤ 7 := by
  unfold cnt
  omega

/-- The log in a wal's block is another one. -/
theorem ww_log {p q N : Nat} {F1 : Nat → Prop} {w w' : World} {d : Dm.Ds} {l l' : List Cm.Cv} {bk : Bool} {vc ve vc' ve' : Value} {rs rs' : List Cw} (h1 : Pk q F1 w d) (hv : WkV p q w l bk vc ve rs)
    (hB : w'.heap[p]? = some (.cells #[.pointer (some ⟨q, 0, none⟩), .bool bk, vc', ve'] 86 (0, 0))) (hL : Lw 0 w' l' vc' ve' rs') (ho : Out (fun g => g = p ∨ LB vc ve rs g) w w') (hs : ∀ g, LB vc' ve' rs' g → LB vc ve rs g ∨ N ≤ g) (hN : N ≤ w.heap.size) :
    ∃ F', WW p q F' w' ⟨d, l', bk⟩ ∧ Out (fun g => F1 g ∨ g = p ∨ LB vc ve rs g) w w' ∧ ∀ g, F' g → (F1 g ∨ g = p ∨ LB vc ve rs g) ∨ N ≤ g := by
  have h2 : Wk p q (fun g => g = p ∨ LB vc ve rs g) w l bk := ⟨vc, ve, rs, hv, rfl⟩
  refine ⟨_, ⟨F1, _, h1.out ho fun g hg e => wk_pk h2 h1 g e hg, ⟨vc', ve', rs', ⟨hB, hL⟩, rfl⟩, rfl⟩, ho.mono fun g hg => .inl (.inr hg), ?_⟩
  rintro g (e | e | e)
  · exact .inl (.inl e)
  · exact .inl (.inr (.inl e))
  · rcases hs g e with e | e
    · exact .inl (.inr (.inr e))
    · exact .inr e

theorem IsO.out {F : Nat → Prop} {w w' : World} {v : Value} {l : List Bm.Ov} (h : IsO w v l) (ho : Out F w w') (hF : 0 < l.length → ∀ b, v.ownBlock = some b → ¬ F b) : IsO w' v l := by
  rcases h with h | ⟨ad, cap, hv, h1, h2, hc⟩
  · exact .inl h
  · refine .inr ⟨ad, cap, hv, h1, h2, fun j u hj => ?_⟩
    have hk := hc j u hj
    have hl : 0 < l.length := by
      rcases l with _ | ⟨x, l⟩
      · simp [ocells] at hj
      · simp
    have eb : (ad.add j).block = ad.block := by unfold Addr.add; split <;> rfl
    have hlt := World.block_lt_of_cell? _ _ hk
    rw [World.cell?_of_block (ho.block _ hlt (by rw [eb]; exact hF hl _ (by rw [hv]; rfl)))]
    exact hk

set_option maxRecDepth 20000 in
set_option maxHeartbeats 4000000 in
theorem wappend_any (p q : Nat) (F : Nat → Prop) (w : World) (s : Wl.Ws) (c : Cw) (h : WW p q F w s) (hs : WBig s) (hi : IsO w c.v c.l) (hf : FitO c.l) (h64 : In64 c.e ∧ In64 c.n) (hlo : c.l.length * 40 ≤ 140737488351232) (hcF : 0 < c.l.length → ∀ b, c.v.ownBlock = some b → ¬ F b) :
    Calls Tryz.prog 16 #[.pointer (some ⟨p, 0, none⟩), cmv c.e c.n c.v] w fun E w' => E = .returned (.int .i64 (Wl.wapp s c.c).1) ∧ WStep p q F w w' (Wl.wapp s c.c).2 := by
  obtain ⟨ao, cap, hcv, _, _⟩ := hi.shape
  obtain ⟨w1, hw1, sz1, bel1, hB0⟩ := blk_step w #[.int .i64 c.e, .int .i64 c.n, c.v] 37
  have c0 : w1.cell? ⟨w.heap.size, 0, none⟩ = some (.int .i64 c.e) := blk_cell hB0 0 rfl
  have c1 : w1.cell? ⟨w.heap.size, 1, none⟩ = some (.int .i64 c.n) := blk_cell hB0 1 rfl
  have c2 : w1.cell? ⟨w.heap.size, 2, none⟩ = some c.v := blk_cell hB0 2 rfl
  have hW1 := h.below bel1
  have HR := hide (wrefuses_any p q F w1 s hW1)
  have hb := hs.big
  have HLT := hide h.lt
  have HCF := hide hcF
  clear hcF
  unfold cmv
  rw [hcv] at hw1 c2 ⊢
  cases ha : Wl.ask s with
  | true =>
    have e1 : Wl.wapp s c.c = (6, Wl.brk s) := by unfold Wl.wapp; rw [ha]; rfl
    rw [e1]
    have B1 := hide bel1
    clear h hs hi hf h64 hlo hB0 hcv hW1 e1 hb
    go_enter Tryz.func16, Tryz.ntmps16
    go_wp2_with fail
    refine HR.out.mono ?_
    rintro E w2 (⟨_, rfl, J⟩ | ⟨h0, _⟩)
    · have J := hide (WStep.pre B1.out J)
      go_wp2
      go_ret
      exact ⟨rfl, J.out⟩
    · rw [ha] at h0
      cases h0
  | false =>
    have HFR := hide (framed_any c.e c.n c.v c.l w1 (hi.below bel1) hf (by omega))
    unfold cmv at HFR
    rw [hcv] at HFR
    obtain ⟨ch, hch⟩ : ∃ x, Cm.chk c.e c.n c.l = x := ⟨_, rfl⟩
    rw [hch] at HFR
    have KC := hide hch
    have HCV := hide hcv
    have IOX := hide hi
    have WA := hide hW1
    have FO := hide (show FitO c.l ∧ (In64 c.e ∧ In64 c.n) ∧ c.l.length * 40 ≤ 140737488351232 from ⟨hf, h64, hlo⟩)
    have HB := hide hB0
    have B1 := hide bel1
    have BG := hide hb
    have HS := hide hs
    clear h hs hi hf h64 hlo hW1 hch hcv hb
    go_enter Tryz.func16, Tryz.ntmps16
    go_wp2_with fail
    refine HR.out.mono ?_
    rintro E w2 (⟨h0, _⟩ | ⟨_, rfl, rfl⟩)
    · rw [ha] at h0
      cases h0
    clear HR
    go_wp2_with fail
    refine HFR.out.mono ?_
    rintro E w2 ⟨vb, rfl, own, bel2⟩
    have W2 := WA.out.below bel2
    have b02 := B1.out.trans (bel2.mono B1.out.size)
    have sz2 := bel2.size
    have hB2 := (bel2.block w.heap.size (by omega)).trans HB.out
    have d0 : w2.cell? ⟨w.heap.size, 0, none⟩ = some (.int .i64 c.e) := blk_cell hB2 0 rfl
    have d1 : w2.cell? ⟨w.heap.size, 1, none⟩ = some (.int .i64 c.n) := blk_cell hB2 1 rfl
    have d2 : w2.cell? ⟨w.heap.size, 2, none⟩ = some c.v := blk_cell hB2 2 rfl
    rw [HCV.out] at d2
    obtain ⟨ab, cb, hvb, _, _⟩ := own.is.shape
    have OB := hide own
    have HB2 := hide hB2
    have B02 := hide b02
    have HW2 := hide W2
    clear WA own bel2 HFR hB2 c0 c1 c2
    by_cases hc0 : ch = 0
    · subst hc0
      have hfr : frd c.e c.n c.l = Wl.fr c.c := by unfold frd; rw [if_pos KC.out]; rfl
      have hfl : (frd c.e c.n c.l).length ≤ 433 := by rw [hfr]; exact Wl.fr_small KC.out
      obtain ⟨F1, G1, h1, h2, hF⟩ := HW2.out
      obtain ⟨vc, ve, rs, hv, hG⟩ := h2
      have hgl := good_len hv.log.good
      have p0 : w2.cell? ⟨p, 0, none⟩ = some (.pointer (some ⟨q, 0, none⟩)) := blk_cell hv.blk 0 rfl
      obtain ⟨ans, hans⟩ : ∃ x, tk s.l c.c = x := ⟨_, rfl⟩
      have hpw : p < w2.heap.size := blk_lt hv.blk
      have TK : Hid (∀ W, Below w2.heap.size w2 W → Calls Tryz.prog 69 #[.pointer (some ⟨p, 2, none⟩), .agg #[.int .i64 c.e, .int .i64 c.n, .slice ao c.l.length cap]] W fun E w' => E = .returned (.bool ans) ∧ Below w2.heap.size w2 w') := hide fun W hbW => by
        have := takes_any p 2 W vc rs (blk_cell ((hbW.block p hpw).trans hv.blk) 2 rfl) (hv.log.r.row.row.below hbW) (by rw [hv.log.len]; exact hgl) c ((IOX.out.below B02.out).below hbW) FO.out.2.1.1 FO.out.2.1.2 FO.out.1 FO.out.2.2
        unfold cmv at this
        rw [HCV.out, hv.log.is, hans] at this
        refine this.mono ?_
        rintro E w' ⟨rfl, hb'⟩
        exact ⟨rfl, hbW.trans (hb'.mono hbW.size)⟩
      have HA := hide hans
      have HV := hide hv
      have H1 := hide h1
      have HFF := hide hF
      have HGG := hide hG
      subst hvb
      clear hans hv h1 hF hG
      go_wp2_with fail
      go_region_held3 (fun w' => w'.cell? ⟨w.heap.size, 0, none⟩ = some (.int .i64 c.e) ∧ w'.cell? ⟨w.heap.size, 1, none⟩ = some (.int .i64 c.n) ∧ w'.cell? ⟨w.heap.size, 2, none⟩ = some (.slice ao c.l.length cap) ∧ w'.cell? ⟨p, 0, none⟩ = some (.pointer (some ⟨q, 0, none⟩))) (first | exact ⟨d0, d1, d2, p0⟩ | exact ⟨e0, e1, e2, p1⟩ | go_keep)
        (first
        | (go_at_call 69; refine (TK.out _ ((Below.refl _ _).drew)).mono ?_; rintro E w3 ⟨rfl, bel3⟩; have e0 := (bel3.cell (p := ⟨w.heap.size, 0, none⟩) (show w.heap.size < w2.heap.size by omega)).trans d0; have e1 := (bel3.cell (p := ⟨w.heap.size, 1, none⟩) (show w.heap.size < w2.heap.size by omega)).trans d1; have e2 := (bel3.cell (p := ⟨w.heap.size, 2, none⟩) (show w.heap.size < w2.heap.size by omega)).trans d2; have p1 := (bel3.cell (p := ⟨p, 0, none⟩) hpw).trans p0))
      have b03 := B02.out.trans (bel3.mono B02.out.size)
      have sz3 := bel3.size
      have HV3 : Hid (WkV p q w3 s.l s.bk vc ve rs) := hide ⟨(bel3.block p hpw).trans HV.out.blk, HV.out.log.below bel3⟩
      have K3 := hide (H1.out.below bel3)
      have O3 := hide (OB.out.below bel3)
      have HB3 := hide ((bel3.block w.heap.size (by omega)).trans HB2.out)
      clear HV H1 OB HB2 TK d0 d1 d2 p0
      cases ans with
      | false =>
        have e4 : Wl.wapp s c.c = (15, s) := by
          unfold Wl.wapp
          rw [ha, if_neg (by decide), if_neg (by intro hx; exact hx KC.out), if_pos ?_]
          have := HA.out
          unfold tk at this
          rw [decide_eq_false_iff_not] at this
          by_cases hx : c.c.n - 1 ≠ s.l.length ∨ c.c.e < Cm.lastE 0 s.l
          · exact hx
          · exact absurd ⟨KC.out, hx⟩ this
        have E4 := hide e4
        have W3 := hide (HW2.out.below bel3)
        have B3 := hide b03
        clear e4 b03 HV3 K3 O3
        go_wp2
        go_ret
        exact ⟨by rw [E4.out]; rfl, by rw [E4.out]; exact ⟨F, W3.out, Out.of_below B3.out, fun g hg => .inl hg⟩⟩
      | true =>
        have hgood : Cm.Good 0 0 (s.l ++ [c.c]) := (tk_good HV3.out.log.good c.c).1 HA.out
        have htk := HA.out
        unfold tk at htk
        rw [decide_eq_true_iff] at htk
        have WR := hide (write_any q F1 w3 s.d 0 _ (frd c.e c.n c.l) K3.out O3.out.is (fun _ b hb hf => by
          have h1 := (O3.out.block b hb).1
          have h2 := HLT.out b (by rw [HFF.out]; exact .inl hf)
          omega) (by omega) (by have h1 := BG.out.1.2.1; have h2 := HS.out.1.2.1; have h3 := cnt_small hfl; omega) BG.out.2 (by have h2 := HS.out.1.2.2; have h3 := cnt_small hfl; omega))
        rw [hfr] at WR
        have e01 := write_e (st := s.d) (Wl.fr c.c)
        have e4 : Wl.wapp s c.c = if (Dm.write s.d 0 (Wl.fr c.c)).1 ≠ 0 then ((Dm.write s.d 0 (Wl.fr c.c)).1, ⟨(Dm.write s.d 0 (Wl.fr c.c)).2, s.l, true⟩) else (0, ⟨(Dm.write s.d 0 (Wl.fr c.c)).2, s.l ++ [c.c], false⟩) := by
          unfold Wl.wapp
          rw [ha, if_neg (by decide), if_neg (by intro hx; exact hx KC.out), if_neg htk.2]
        generalize hwr : Dm.write s.d 0 (Wl.fr c.c) = y at *
        obtain ⟨x, d'⟩ := y
        simp only at e01 e4 WR
        have E4 := hide e4
        have GD := hide hgood
        have W3 := hide (HW2.out.below bel3)
        have B3 := hide b03
        have SZ3 : w1.heap.size ≤ w3.heap.size := by omega
        rw [hfr] at O3 hfl
        clear e4 hgood htk hwr b03 bel3 hfr
        go_wp2_with fail
        refine WR.out.mono ?_
        rintro E w4 ⟨rfl, PS⟩
        obtain ⟨F2, k1, k2, k3, k4⟩ := WW.disk (s := ⟨s.d, s.l, s.bk⟩) K3.out ⟨vc, ve, rs, HV3.out, rfl⟩ PS
        have HE := hide (wheed_any p q _ w4 ⟨d', s.l, s.bk⟩ x ⟨F2, _, k1, k2, rfl⟩)
        simp only at HE
        have T4 := hide (show Out F w3 w4 ∧ ∀ g, (F2 g ∨ (g = p ∨ LB vc ve rs g)) → F g ∨ w3.heap.size ≤ g from by
          refine ⟨k3.mono fun g hg => .inl (by rw [HFF.out]; exact .inl hg), ?_⟩
          rintro g (hg | hg)
          · rcases k4 g hg with e | e
            · exact .inl (by rw [HFF.out]; exact .inl e)
            · exact .inr e
          · exact .inl (by rw [HFF.out, HGG.out]; exact .inr hg))
        clear PS k1 k2 k3 k4 WR K3 HV3
        go_wp2_with fail
        refine HE.out.mono ?_
        rintro E w5 ⟨rfl, J⟩
        have J5 := hide (WStep.trans T4.out.1 T4.out.2 J)
        clear HE J
        rcases e01 with rfl | rfl
        · obtain ⟨F5, ⟨Fa, Ga, g1, g2, hF5⟩, o5, s5⟩ := J5.out
          obtain ⟨vc5, ve5, rs5, hv5, hG5⟩ := g2
          have sz5 := o5.size
          have hnF : ¬ F w.heap.size := fun hf => by have := HLT.out _ hf; omega
          have hB5 := (o5.block w.heap.size (by omega) hnF).trans HB3.out
          have x0 : w5.cell? ⟨w.heap.size, 0, none⟩ = some (.int .i64 c.e) := blk_cell hB5 0 rfl
          have x1 : w5.cell? ⟨w.heap.size, 1, none⟩ = some (.int .i64 c.n) := blk_cell hB5 1 rfl
          have x2 : w5.cell? ⟨w.heap.size, 2, none⟩ = some c.v := blk_cell hB5 2 rfl
          rw [HCV.out] at x2
          have i5 : IsO w5 c.v c.l := (IOX.out.below B3.out).out o5 HCF.out
          have HCP : Hid (Calls Tryz.prog 61 #[.agg #[.int .i64 c.e, .int .i64 c.n, .slice ao c.l.length cap]] w5.drew fun E w6 => ∃ v', E = .returned (.agg #[.int .i64 c.e, .int .i64 c.n, v']) ∧ OwnO 71 0 w6 v' c.l ∧ Below w5.heap.size w5 w6 ∧ (∀ b, v'.ownBlock = some b → w5.heap.size ≤ b) ∧ w6.cell? ⟨w.heap.size, 0, none⟩ = some (.int .i64 c.e) ∧ w6.cell? ⟨w.heap.size, 1, none⟩ = some (.int .i64 c.n) ∧ w6.cell? ⟨w.heap.size, 2, none⟩ = some (.slice ao c.l.length cap) ∧ ∃ a n k, v' = .slice a n k) := hide (by
            have := ccopy_any c.e c.n c.v c.l w5.drew (i5.drewN 1) FO.out.2.2
            unfold cmv at this
            rw [HCV.out] at this
            refine this.mono ?_
            rintro E w6 ⟨v', rfl, own6, bel6⟩
            have b56 : Below w5.heap.size w5 w6 := (Below.refl w5.heap.size w5).drew.trans bel6
            obtain ⟨a, k, hv', _, _⟩ := own6.is.shape
            exact ⟨v', rfl, own6.rebase (Nat.zero_le _), b56, fun b hb => (OwnO.block own6 b hb).1, (b56.cell (p := ⟨w.heap.size, 0, none⟩) (show w.heap.size < w5.heap.size by omega)).trans x0, (b56.cell (p := ⟨w.heap.size, 1, none⟩) (show w.heap.size < w5.heap.size by omega)).trans x1, (b56.cell (p := ⟨w.heap.size, 2, none⟩) (show w.heap.size < w5.heap.size by omega)).trans x2, a, _, k, hv'⟩)
          have hp5 : p < w5.heap.size := blk_lt hv5.blk
          have HGR : Hid (∀ w6 v', Below w5.heap.size w5 w6 → OwnO 71 0 w6 v' c.l → (∀ b, v'.ownBlock = some b → w5.heap.size ≤ b) → Calls Tryz.prog 72 #[.pointer (some ⟨p, 2, none⟩), .agg #[.int .i64 c.e, .int .i64 c.n, v'], .int .i64 (Wl.fr c.c).length] w6 fun E w7 => E = .returned (.tuple #[]) ∧ WStep p q F w w7 ⟨d', s.l ++ [c.c], false⟩ ∧ w7.cell? ⟨w.heap.size, 0, none⟩ = some (.int .i64 c.e) ∧ w7.cell? ⟨w.heap.size, 1, none⟩ = some (.int .i64 c.n) ∧ w7.cell? ⟨w.heap.size, 2, none⟩ = some (.slice ao c.l.length cap)) := hide fun w6 v' b56 own6 hge => by
            have hB6 := (b56.block p hp5).trans hv5.blk
            have L6 := hv5.log.below b56
            have := lgrow_any 0 p 2 86 _ w6 s.l vc5 ve5 rs5 ⟨c.e, c.n, v', c.l⟩ (Wl.fr c.c).length hB6 rfl rfl (by decide) (by decide) (by decide) L6 (Nat.zero_le _) own6 GD.out rfl
            unfold cmv at this
            refine this.mono ?_
            rintro E w7 ⟨rfl, vc7, ve7, hB7, L7, o7, s7⟩
            have sz6 := b56.size
            have K6 := g1.below b56
            obtain ⟨F7, q1, q2, q3⟩ := ww_log (N := w5.heap.size) (l' := s.l ++ [c.c]) (vc' := vc7) (ve' := ve7) (rs' := rs5 ++ [(⟨c.e, c.n, v', c.l⟩ : Cw)]) (w := w6) K6 ⟨hB6, L6⟩ (by rw [hB7]; rfl) L7 o7 (w' := w7) (fun g hg => by
              rcases s7 g hg with e | e | e
              · exact .inl e
              · exact .inr (by omega)
              · exact .inr (hge g e)) sz6
            have s6 : ∀ g, (Fa g ∨ g = p ∨ LB vc5 ve5 rs5 g) → F5 g := fun g hg => by
              rw [hF5, hG5]
              exact hg
            have o57 : Out F5 w5 w7 := (Out.of_below (F := F5) b56).trans q2 fun g hg => .inl (s6 g hg)
            have o37 : Out F w3 w7 := o5.trans o57 s5
            have f7 : ∀ g, F7 g → F g ∨ w3.heap.size ≤ g := fun g hg => by
              rcases q3 g hg with e | e
              · exact s5 g (s6 g e)
              · exact .inr (by omega)
            have hB7' := (o37.block w.heap.size (by omega) hnF).trans HB3.out
            refine ⟨rfl, WStep.pre B3.out ⟨F7, q1, o37, f7⟩, blk_cell hB7' 0 rfl, blk_cell hB7' 1 rfl, ?_⟩
            rw [← HCV.out]
            exact blk_cell hB7' 2 rfl
          clear hv5 hB5 i5
          go_wp2_with fail
          go_region_held3 (fun w' => w'.cell? ⟨w.heap.size, 0, none⟩ = some (.int .i64 c.e) ∧ w'.cell? ⟨w.heap.size, 1, none⟩ = some (.int .i64 c.n) ∧ w'.cell? ⟨w.heap.size, 2, none⟩ = some (.slice ao c.l.length cap)) (first | exact ⟨x0, x1, x2⟩ | exact ⟨y0, y1, y2⟩ | exact ⟨z0, z1, z2⟩ | go_keep)
            (first
            | (go_at_call 61; refine HCP.out.mono ?_; rintro E w6 ⟨v6, rfl, own6, b56, hge, y0, y1, y2, a6, n6, k6, rfl⟩)
            | (go_at_call 72; refine (HGR.out _ _ b56 own6 hge).mono ?_; rintro E w7 ⟨rfl, J7, z0, z1, z2⟩; have J7 := hide J7))
          all_goals
            have A7 : Hid (Wl.wapp s c.c = (0, ⟨d', s.l ++ [c.c], false⟩)) := hide (by rw [E4.out]; simp)
            clear E4
            go_wp2
            go_ret
            exact ⟨by rw [A7.out]; rfl, by rw [A7.out]; exact J7.out⟩
        · have A6 : Hid (Wl.wapp s c.c = (6, ⟨d', s.l, true⟩)) := hide (by rw [E4.out]; simp)
          clear E4
          go_wp2
          go_ret
          exact ⟨by rw [A6.out]; rfl, by rw [A6.out]; exact WStep.pre B3.out J5.out⟩
    · have hne : (ch != 0) = true := by simp [hc0]
      have e1 : Wl.wapp s c.c = (ch, s) := by
        unfold Wl.wapp
        rw [ha, if_neg (by decide), if_pos (by show Cm.chk c.e c.n c.l ≠ 0; rw [KC.out]; exact hc0)]
        show (Cm.chk c.e c.n c.l, s) = _
        rw [KC.out]
      have E1 := hide e1
      clear e1
      subst hvb
      go_wp2
      go_ret
      exact ⟨by rw [E1.out]; rfl, by rw [E1.out]; exact ⟨F, HW2.out, Out.of_below B02.out, fun g hg => .inl hg⟩⟩

end Go.Proofs.YtmkpaedemjiboaaGreat

/- The program's Cut. -/
namespace Go.Proofs.YtmkpaedemjiboaaGreat
open Go.RowKit
set_option linter.unusedVariables false

theorem WW.c0 {p q : Nat} {F : Nat → Prop} {w : World} {s : Wl.Ws} (h : WW p q F w s) : w.cell? ⟨p, 0, none⟩ = some (.pointer (some ⟨q, 0, none⟩)) := by
  obtain ⟨F1, G1, h1, ⟨vc, ve, rs, hv, rfl⟩, rfl⟩ := h
  exact blk_cell hv.blk 0 rfl

theorem WStep.c0 {p q : Nat} {F : Nat → Prop} {w w' : World} {s : Wl.Ws} (h : WStep p q F w w' s) : w'.cell? ⟨p, 0, none⟩ = some (.pointer (some ⟨q, 0, none⟩)) := by
  obtain ⟨F', h, _, _⟩ := h
  exact h.c0

/-- A step more. -/
theorem WStep.next {p q : Nat} {F : Nat → Prop} {w w1 w2 : World} {s s' : Wl.Ws} (h : WStep p q F w w1 s) (k : ∀ F1, WW p q F1 w1 s → WStep p q F1 w1 w2 s') : WStep p q F w w2 s' := by
  obtain ⟨F1, h1, h2, h3⟩ := h
  exact WStep.trans h2 h3 (k F1 h1)

/-- The disk alone. -/
theorem WW.step {p q : Nat} {F : Nat → Prop} {w w' : World} {s : Wl.Ws} {st' : Dm.Ds} (h : WW p q F w s) (k : ∀ F1, Pk q F1 w s.d → (∀ g, F1 g → F g) → PStep q F1 w w' st') : WStep p q F w w' ⟨st', s.l, s.bk⟩ := by
  obtain ⟨F1, G1, h1, h2, rfl⟩ := h
  obtain ⟨F2, k1, k2, k3, k4⟩ := WW.disk h1 h2 (k F1 h1 fun g hg => .inl hg)
  refine ⟨_, ⟨F2, G1, k1, k2, rfl⟩, k3.mono fun g hg => .inl (.inl hg), ?_⟩
  rintro g (e | e)
  · rcases k4 g e with e | e
    · exact .inl (.inl e)
    · exact .inr e
  · exact .inl (.inr e)

theorem wheed_step (p q : Nat) (F : Nat → Prop) (w W : World) (s : Wl.Ws) (e : Int) (h : WStep p q F w W s) :
    Calls Tryz.prog 70 #[.pointer (some ⟨p, 0, none⟩), .int .i64 e] W fun E w' => E = .returned (.int .i64 e) ∧ WStep p q F w w' ⟨s.d, s.l, e == 6⟩ := by
  obtain ⟨F1, h1, h2, h3⟩ := h
  refine (wheed_any p q F1 W s e h1).mono ?_
  rintro E w' ⟨rfl, k⟩
  exact ⟨rfl, WStep.trans h2 h3 k⟩

/-- The log is cut in a wal. -/
theorem wltrim_any (p q : Nat) (F : Nat → Prop) (w : World) (s : Wl.Ws) (k : Nat) (h : WW p q F w s) (hk : k ≤ s.l.length) :
    Calls Tryz.prog 96 #[.pointer (some ⟨p, 2, none⟩), .int .i64 k] w fun E w' => E = .returned (.tuple #[]) ∧ WStep p q F w w' ⟨s.d, s.l.take k, s.bk⟩ := by
  obtain ⟨F1, G1, h1, ⟨vc, ve, rs, hv, rfl⟩, rfl⟩ := h
  refine (ltrim_any 0 p 2 86 _ w s.l vc ve rs k hv.blk rfl rfl (by decide) (by decide) (by decide) hv.log hk).mono ?_
  rintro E w' ⟨rfl, vc', ve', hB, hL, hs, ho⟩
  refine ⟨rfl, ww_log (N := w.heap.size) h1 hv (by rw [hB]; rfl) hL ho (fun g hg => .inl (hs g hg)) (Nat.le_refl _)⟩

set_option maxRecDepth 20000 in
set_option maxHeartbeats 2000000 in
theorem wcut_any (p q : Nat) (F : Nat → Prop) (w : World) (s : Wl.Ws) (tt : Int) (h : WW p q F w s) (hs : WBig s) (hin : Wl.ask s = false → (Wl.lgb s.l).length ≤ (Wl.hld s.d).length) :
    Calls Tryz.prog 34 #[.pointer (some ⟨p, 0, none⟩), .int .i64 tt] w fun E w' => E = .returned (.int .i64 (Wl.wcut s tt).1) ∧ WStep p q F w w' (Wl.wcut s tt).2 := by
  have HR := hide (wrefuses_any p q F w s h)
  have HH := hide h
  have hb := hs.big
  cases ha : Wl.ask s with
  | true =>
    have e1 : Wl.wcut s tt = (6, Wl.brk s) := by unfold Wl.wcut; rw [ha]; rfl
    rw [e1]
    clear h hs hin e1 hb
    go_enter Tryz.func34, Tryz.ntmps34
    go_wp2_with fail
    refine HR.out.mono ?_
    rintro E w1 (⟨_, rfl, J⟩ | ⟨h0, _⟩)
    · have J := hide J
      go_wp2
      go_ret
      exact ⟨rfl, J.out⟩
    · rw [ha] at h0
      cases h0
  | false =>
    have hle := hin ha
    have hgl := good_len h.good
    have HEnd : Hid (Calls Tryz.prog 59 #[.pointer (some ⟨p, 2, none⟩)] w fun E w' => E = .returned (.int .i64 s.l.length) ∧ w = w') := hide (by
      obtain ⟨F1, G1, h1, ⟨vc, ve, rs, hv, rfl⟩, rfl⟩ := h
      have := lend_any p 2 w vc rs (blk_cell hv.blk 2 rfl) hv.log.r.row.row
      rw [hv.log.len] at this
      exact this)
    by_cases hneg : tt < 0
    · have e1 : Wl.wcut s tt = (2, s) := by unfold Wl.wcut; rw [ha, if_neg (by decide), if_pos (.inl hneg)]
      rw [e1]
      clear h hs hin e1 hb hle HEnd
      go_enter Tryz.func34, Tryz.ntmps34
      go_wp2_with fail
      refine HR.out.mono ?_
      rintro E w1 (⟨h0, _⟩ | ⟨_, rfl, rfl⟩)
      · rw [ha] at h0
        cases h0
      go_wp2
      go_ret
      exact ⟨rfl, WStep.same HH.out (Below.refl _ _)⟩
    · by_cases hbig : (s.l.length : Int) < tt
      · have e1 : Wl.wcut s tt = (2, s) := by unfold Wl.wcut; rw [ha, if_neg (by decide), if_pos (.inr hbig)]
        rw [e1]
        clear h hs hin e1 hb hle
        go_enter Tryz.func34, Tryz.ntmps34
        go_wp2_with fail
        refine HR.out.mono ?_
        rintro E w1 (⟨h0, _⟩ | ⟨_, rfl, rfl⟩)
        · rw [ha] at h0
          cases h0
        clear HR
        go_wp2_with fail
        refine HEnd.out.mono ?_
        rintro E w1 ⟨rfl, rfl⟩
        go_wp2
        go_ret
        exact ⟨rfl, WStep.same HH.out (Below.refl _ _)⟩
      · obtain ⟨k, rfl⟩ : ∃ k : Nat, tt = k := ⟨tt.toNat, by omega⟩
        have hk : k ≤ s.l.length := by omega
        have hzle : (Wl.lgb (s.l.take k)).length ≤ (Wl.hld s.d).length := Nat.le_trans (lgb_take_le _ _) hle
        have hon : s.d.on = true := by
          unfold Wl.ask at ha
          revert ha
          cases s.bk <;> cases s.d.on <;> simp
        have e01 := cut_e hon hzle
        have e1 : Wl.wcut s k = if (Dm.cutD s.d 0 (Wl.lgb (s.l.take k)).length).1 ≠ 0 then ((Dm.cutD s.d 0 (Wl.lgb (s.l.take k)).length).1, ⟨(Dm.cutD s.d 0 (Wl.lgb (s.l.take k)).length).2, s.l, true⟩) else (0, ⟨(Dm.cutD s.d 0 (Wl.lgb (s.l.take k)).length).2, s.l.take k, false⟩) := by
          unfold Wl.wcut
          rw [ha, if_neg (by decide), if_neg (by omega)]
          rfl
        have HP : Hid (∀ W, Below w.heap.size w W → Calls Tryz.prog 73 #[.pointer (some ⟨p, 2, none⟩), .int .i64 k] W fun E w' => E = .returned (.int .i64 (Wl.lgb (s.l.take k)).length) ∧ W = w') := hide fun W hW => by
          obtain ⟨F1, G1, h1, ⟨vc, ve, rs, hv, rfl⟩, rfl⟩ := h
          exact lplace_any p 2 W ve s.l k hk hgl (blk_cell ((hW.block p (blk_lt hv.blk)).trans hv.blk) 3 rfl) (hv.log.r.en.is.below hW)
        have HC : Hid (∀ W, Below w.heap.size w W → Calls Tryz.prog 95 #[.pointer (some ⟨q, 0, none⟩), .int .i64 0, .int .i64 (Wl.lgb (s.l.take k)).length] W fun E w' => E = .returned (.int .i64 (Dm.cutD s.d 0 (Wl.lgb (s.l.take k)).length).1) ∧ WStep p q F w w' ⟨(Dm.cutD s.d 0 (Wl.lgb (s.l.take k)).length).2, s.l, s.bk⟩ ∧ w'.cell? ⟨p, 0, none⟩ = some (.pointer (some ⟨q, 0, none⟩))) := hide fun W hW => by
          have hWW := h.below hW
          obtain ⟨F1, G1, h1, h2, hF⟩ := id hWW
          refine (cut_any q F1 W s.d 0 _ h1 (fun f => Nat.le_trans (hb.1.1 f) (by decide)) (Nat.le_trans hb.1.2.1 (by decide)) hb.2 (Nat.lt_of_le_of_lt hb.1.2.2 (by decide))).mono ?_
          rintro E w' ⟨rfl, PS⟩
          have ST : WStep p q F W w' ⟨(Dm.cutD s.d 0 (Wl.lgb (s.l.take k)).length).2, s.l, s.bk⟩ := by
            obtain ⟨F2, k1, k2, k3, k4⟩ := WW.disk h1 h2 PS
            rw [hF]
            refine ⟨_, ⟨F2, G1, k1, k2, rfl⟩, k3.mono fun g hg => .inl (.inl hg), ?_⟩
            rintro g (e | e)
            · rcases k4 g e with e | e
              · exact .inl (.inl e)
              · exact .inr e
            · exact .inl (.inr e)
          have := WStep.pre hW ST
          exact ⟨rfl, this, this.c0⟩
        have HHE : Hid (∀ W x st, WStep p q F w W ⟨st, s.l, s.bk⟩ → Calls Tryz.prog 70 #[.pointer (some ⟨p, 0, none⟩), .int .i64 x] W fun E w' => E = .returned (.int .i64 x) ∧ WStep p q F w w' ⟨st, s.l, x == 6⟩ ∧ w'.cell? ⟨p, 0, none⟩ = some (.pointer (some ⟨q, 0, none⟩))) := hide fun W x st hW => by
          refine (wheed_step p q F w W _ x hW).mono ?_
          rintro E w' ⟨rfl, k⟩
          exact ⟨rfl, k, k.c0⟩
        have HT : Hid (∀ W st, WStep p q F w W ⟨st, s.l, false⟩ → Calls Tryz.prog 96 #[.pointer (some ⟨p, 2, none⟩), .int .i64 k] W fun E w' => E = .returned (.tuple #[]) ∧ WStep p q F w w' ⟨st, s.l.take k, false⟩) := hide fun W st hW => by
          obtain ⟨F1, h1, h2, h3⟩ := hW
          refine (wltrim_any p q F1 W _ k h1 hk).mono ?_
          rintro E w' ⟨rfl, kk⟩
          exact ⟨rfl, WStep.trans h2 h3 kk⟩
        have p0 := h.c0
        generalize (Dm.cutD s.d 0 (Wl.lgb (s.l.take k)).length) = y at *
        obtain ⟨x, d'⟩ := y
        simp only at *
        have E1 := hide e1
        have hk' : ¬ ((s.l.length : Int) < (k : Int)) := by omega
        clear h hs hin hb hle e1 hzle hon hgl
        go_enter Tryz.func34, Tryz.ntmps34
        go_wp2_with fail
        refine HR.out.mono ?_
        rintro E w1 (⟨h0, _⟩ | ⟨_, rfl, rfl⟩)
        · rw [ha] at h0
          cases h0
        clear HR
        go_wp2_with fail
        refine HEnd.out.mono ?_
        rintro E w1 ⟨rfl, rfl⟩
        clear HEnd
        go_wp2_with fail
        go_region_held3 (fun w' => w'.cell? ⟨p, 0, none⟩ = some (.pointer (some ⟨q, 0, none⟩))) (first | exact p0 | exact p1 | exact p2 | go_keep)
          (first
          | (go_at_call 73; refine (HP.out _ ((Below.refl _ _).drew)).mono ?_; rintro E w2 ⟨rfl, rfl⟩)
          | (go_at_call 95; refine (HC.out _ ((Below.refl _ _).drew)).mono ?_; rintro E w3 ⟨rfl, J3, p1⟩; have J3 := hide J3)
          | (go_at_call 70; refine (HHE.out _ _ _ J3.out).mono ?_; rintro E w4 ⟨rfl, J4, p2⟩; have J4 := hide J4))
        all_goals
          clear HP HC HHE
          rcases e01 with rfl | rfl
          · have A7 : Hid (Wl.wcut s k = (0, ⟨d', s.l.take k, false⟩)) := hide (by rw [E1.out]; simp)
            have HT2 := hide (HT.out _ _ J4.out)
            clear E1 HT J3
            go_wp2_with fail
            refine HT2.out.mono ?_
            rintro E w5 ⟨rfl, J5⟩
            have J5 := hide J5
            go_wp2
            go_ret
            exact ⟨by rw [A7.out]; rfl, by rw [A7.out]; exact J5.out⟩
          · have A7 : Hid (Wl.wcut s k = (6, ⟨d', s.l, true⟩)) := hide (by rw [E1.out]; simp)
            clear E1 HT J3
            go_wp2
            go_ret
            exact ⟨by rw [A7.out]; rfl, by rw [A7.out]; exact J4.out⟩

end Go.Proofs.YtmkpaedemjiboaaGreat

/- The chapter's first examples: put, lives. -/
namespace Go.Proofs.YtmkpaedemjiboaaGreat
open Go.RowKit
set_option linter.unusedVariables false

def exO : Bm.Ov := ⟨true, ⟨#[97]⟩, ⟨#[49]⟩⟩
def exB (n : Int) : List Int := [9, 1, n, 1, 1, 0, 1, 97, 1, 49]
def exC (n : Int) : Cm.Cv := ⟨1, n, [exO]⟩

theorem exO_ok : Bm.chkL [exO] = 0 := by decide
theorem exO_fit : FitO [exO] := (small_of exO_ok).fit
theorem exC_ok {e n : Int} (h : 1 ≤ e ∧ e ≤ 1048576 ∧ 1 ≤ n ∧ n ≤ 1048576) : Cm.chk e n [exO] = 0 := by rw [Cm.chk_in h, exO_ok]

theorem exF (n : Nat) (hn : n < 128) : Wl.fr ⟨1, n, [exO]⟩ = exB n := by
  have e : Wl.rec ⟨1, n, [exO]⟩ = [1, (n : Int), 1, 1, 0, 1, 97, 1, 49] := by
    simp [Wl.rec, Cm.encC, exO, Bm.encB, Bm.encL, Bm.encO, Bm.pre4, Bm.com, Bm.Ov.kl, Bm.Ov.vl, Bm.Ov.bit, Vm.enc_lo, Om.ints, Om.cnt, hn]
  unfold Wl.fr Fm.frm
  rw [e]
  simp [Vm.enc_lo, exB]

theorem put_any (e n : Int) (w : World) :
    Calls Tryz.prog 17 #[.int .i64 e, .int .i64 n] w fun E w' => ∃ v, E = .returned (cmv e n v) ∧ OwnO 71 w.heap.size w' v [exO] ∧ Below w.heap.size w w' := by
  unfold cmv
  obtain ⟨w1, hw1, sz1, bel1, hR⟩ := blk_step w #[.int .i64 0, .int .i64 0, .slice none 0 0] 37
  obtain ⟨w2, hw2, sz2, bel2, own2⟩ := ops_step 71 w1 #[.bool true, .string ⟨#[97]⟩, .string ⟨#[49]⟩] 1 [exO] rfl rfl (by simp [maxLen])
  have hR2 := (bel2.block w.heap.size (by omega)).trans hR
  have bel02 : Below w.heap.size w w2 := bel1.trans (bel2.mono (by omega))
  rw [sz1] at own2
  obtain ⟨V', hV', bV', gV', ⟨a0, a1, a2⟩, ⟨f0, f1, f2⟩, ⟨z0, z1, z2⟩⟩ := res_step hR2 (.int .i64 e) (.int .i64 n) (.slice (some ⟨w.heap.size + 1, 0, none⟩) 1 1)
  have belV' := below_put bel02 gV' (Nat.le_refl _) (by omega)
  have ownV' := (own2.keptg gV' (by omega)).rebase (base' := w.heap.size) (by omega)
  clear hR hR2 bel1 bel2 own2 bV' gV' bel02
  go_enter Tryz.func17, Tryz.ntmps17
  go_wp2
  refine bodyPost_ret (v := .agg #[.int .i64 e, .int .i64 n, .slice (some ⟨w.heap.size + 1, 0, none⟩) 1 1]) (by simp [results, Tryz.results17, go_sem, z0, z1, z2]) rfl ?_
  exact ⟨_, rfl, ownV', belV'⟩

/-- The states of the examples. -/
def lv0 : Wl.Ws := ⟨Dm.new, [], false⟩
def lv1 : Wl.Ws := ⟨⟨fun _ => [], [⟨0, false, 0, exB 1⟩], true, false, 0, 1⟩, [exC 1], false⟩
def lv2 : Wl.Ws := ⟨⟨fun _ => [], [⟨0, false, 0, exB 1⟩, ⟨0, false, 0, exB 2⟩], true, false, 0, 2⟩, [exC 1, exC 2], false⟩

theorem lv_app1 : Wl.wapp lv0 (exC 1) = (0, lv1) := by
  have e : Wl.fr (exC 1) = exB 1 := exF 1 (by decide)
  have hk : Cm.chk (exC 1).e (exC 1).n (exC 1).l = 0 := exC_ok (by decide)
  unfold Wl.wapp
  rw [e, if_neg (by decide), if_neg (by intro h; exact h hk), if_neg (by decide)]
  rfl

theorem lv_app3 : Wl.wapp lv1 (exC 3) = (15, lv1) := by
  have hk : Cm.chk (exC 3).e (exC 3).n (exC 3).l = 0 := exC_ok (by decide)
  unfold Wl.wapp
  rw [if_neg (by decide), if_neg (by intro h; exact h hk), if_pos (by left; decide)]

theorem lv_app2 : Wl.wapp lv1 (exC 2) = (0, lv2) := by
  have e : Wl.fr (exC 2) = exB 2 := exF 2 (by decide)
  have hk : Cm.chk (exC 2).e (exC 2).n (exC 2).l = 0 := exC_ok (by decide)
  unfold Wl.wapp
  rw [e, if_neg (by decide), if_neg (by intro h; exact h hk), if_neg (by decide)]
  rfl

theorem lv_b0 : WBig lv0 := big_new.mono (by decide) (by decide)
theorem lv_b1 : WBig lv1 := ⟨⟨fun f => by simp [lv1, Dm.bulk, exB], by simp [lv1], by simp [lv1]⟩, by simp [lv1]⟩
theorem lv_b2 : WBig lv2 := ⟨⟨fun f => by simp [lv2, Dm.bulk, exB], by simp [lv2], by simp [lv2]⟩, by simp [lv2]⟩

theorem lgb1 : Wl.lgb [exC 1] = exB 1 := by rw [Wl.lgb_one]; exact exF 1 (by decide)
theorem lgb2 : Wl.lgb [exC 1, exC 2] = exB 1 ++ exB 2 := by
  rw [show [exC 1, exC 2] = [exC 1] ++ [exC 2] from rfl, Wl.lgb_app, Wl.lgb_one, Wl.lgb_one]
  congr 1
  · exact exF 1 (by decide)
  · exact exF 2 (by decide)

theorem ex_good : Cm.Good 0 0 [exC 1, exC 2] := ⟨exC_ok (by decide), by decide, by decide, exC_ok (by decide), by decide, by decide, trivial⟩

/-- Behind the pull. -/
def lvd : Dm.Ds := (Dm.start (Dm.pull lv2.d).2 1 4).2

theorem lvd_is : lvd = ⟨Dm.upd (fun _ => []) 0 (exB 1 ++ [9, 1, 2, 1]), [], true, false, 0, 2⟩ := by
  have h : ∀ f, (lvd.sure f) = Dm.upd (fun _ => []) 0 (exB 1 ++ [9, 1, 2, 1]) f := fun f => by
    by_cases hf : f = 0
    · subst hf; rfl
    · simp [lvd, lv2, Dm.start, Dm.pull, Dm.dark, Dm.kept, Dm.dof, Dm.one, Dm.upd, hf]
  have : lvd.sure = Dm.upd (fun _ => []) 0 (exB 1 ++ [9, 1, 2, 1]) := funext h
  have e : lvd = ⟨lvd.sure, [], true, false, 0, 2⟩ := rfl
  rw [e, this]

theorem lvd_hld : Wl.hld lvd = exB 1 ++ [9, 1, 2, 1] := by rw [lvd_is]; rfl
theorem lvd_b : Big 100000000 800000 lvd := (big_start (big_pull lv_b2) 1 4).mono (by decide) (by decide)

theorem lvd_log {l : List Cm.Cv} (h : Wl.Lg 0 0 (Wl.hld lvd) l) : l = [exC 1] := by
  rw [lvd_hld] at h
  have h1 : [exC 1] <+: l := Wl.lg_has (Wl.good_cons.1 ex_good).1 (by rw [lgb1]; exact List.prefix_append _ _) h
  have h2 : l <+: [exC 1, exC 2] := Wl.lg_in ex_good (by rw [lgb2]; exact ⟨[1, 0, 1, 97, 1, 49].drop 0, by simp [exB]⟩) h
  have h3 := h.2.1.length_le
  obtain ⟨t, rfl⟩ := h1
  obtain ⟨u, hu⟩ := h2
  rcases t with _ | ⟨x, t⟩
  · rfl
  · exfalso
    simp only [List.cons_append, List.nil_append, List.cons.injEq, List.append_eq_nil_iff, true_and] at hu
    obtain ⟨rfl, rfl, _⟩ := hu
    rw [show [exC 1] ++ [exC 2] = [exC 1, exC 2] from rfl, lgb2] at h3
    simp [exB] at h3

theorem lvd_op {l : List Cm.Cv} (h : Wl.Lg 0 0 (Wl.hld lvd) l) : opE lvd l = 0 := by
  unfold opE
  rw [if_neg (by rw [lvd_is]; decide)]
  exact (Wl.trm_is (by rw [lvd_is]) (by rw [lvd_is]) h).1

theorem new_log {l : List Cm.Cv} (h : Wl.Lg 0 0 (Wl.hld Dm.new) l) : l = [] := Wl.lg_one h (Wl.lg_self (l := []) trivial)
theorem new_op : opE Dm.new [] = 0 ∧ opD Dm.new [] = Dm.new := ⟨rfl, rfl⟩

/-- Open of a new disk, seen from afar. -/
theorem wnew_any (w0 w : World) (q : Nat) (hq : w0.heap.size ≤ q) (h : Pk q (fun g => g = q) w Dm.new) (hb : Below w0.heap.size w0 w) :
    Calls Tryz.prog 15 #[.pointer (some ⟨q, 0, none⟩)] w fun E w' => ∃ p F, E = .returned (.tuple #[.pointer (some ⟨p, 0, none⟩), .int .i64 0]) ∧ WW p q F w' ⟨Dm.new, [], false⟩ ∧ (∀ g, F g → w0.heap.size ≤ g) ∧ Below w0.heap.size w0 w' := by
  refine (wopen_any q _ w Dm.new h (big_new.mono (by decide) (by decide))).mono ?_
  rintro E w' ⟨l, LG, PS, hc⟩
  have hl := new_log LG.out
  subst hl
  obtain ⟨F', k1, k2, k3⟩ := PS
  have hbs := hb.size
  rcases hc with ⟨h0, _⟩ | ⟨_, p, G, rfl, hw, hg⟩
  · exact absurd new_op.1 h0
  · refine ⟨p, _, rfl, ⟨F', G, k1, hw, rfl⟩, ?_, hb.trans (k2.below (fun g hg => by omega) hb.size)⟩
    rintro g (e | e)
    · rcases k3 g e with e | e
      · omega
      · omega
    · have := hg g e
      omega

theorem below_step {p q : Nat} {F : Nat → Prop} {w0 w w' : World} {s : Wl.Ws} (hb : Below w0.heap.size w0 w) (hF : ∀ g, F g → w0.heap.size ≤ g) (h : WStep p q F w w' s) : ∃ F', WW p q F' w' s ∧ (∀ g, F' g → w0.heap.size ≤ g) ∧ Below w0.heap.size w0 w' := by
  obtain ⟨F', h1, h2, h3⟩ := h
  have := hb.size
  refine ⟨F', h1, fun g hg => ?_, hb.trans (h2.below hF hb.size)⟩
  rcases h3 g hg with e | e
  · exact hF g e
  · omega

end Go.Proofs.YtmkpaedemjiboaaGreat

/- The chapter's first examples: lives. -/
namespace Go.Proofs.YtmkpaedemjiboaaGreat
open Go.RowKit
set_option linter.unusedVariables false

/-- An Append of an example's commit, seen from afar. -/
theorem lapp_any (w0 w : World) (p q : Nat) (F : Nat → Prop) (s s' : Wl.Ws) (n e : Int) (v : Value) (h : WW p q F w s) (hF : ∀ g, F g → w0.heap.size ≤ g) (hlt : ∀ g, F g → g < w.heap.size) (hb : Below w0.heap.size w0 w) (hs : WBig s) (hv : ∃ b, OwnO 71 b w v [exO] ∧ ∀ g, F g → g < b) (hn : 1 ≤ n ∧ n ≤ 3) (he : Wl.wapp s (exC n) = (e, s')) :
    Calls Tryz.prog 16 #[.pointer (some ⟨p, 0, none⟩), cmv 1 n v] w fun E w' => E = .returned (.int .i64 e) ∧ ∃ F', WW p q F' w' s' ∧ (∀ g, F' g → w0.heap.size ≤ g) ∧ Below w0.heap.size w0 w' := by
  obtain ⟨b, ho, hfb⟩ := hv
  have h64 : In64 1 ∧ In64 n := ⟨⟨by omega, by omega⟩, ⟨by omega, by omega⟩⟩
  refine (wappend_any p q F w s ⟨1, n, v, [exO]⟩ h hs ho.is exO_fit h64 (by simp) (fun _ g hg hf => by
    have h1 := (OwnO.block ho g hg).1
    have h2 := hfb g hf
    omega)).mono ?_
  rintro E w' ⟨rfl, k⟩
  have e1 : Wl.wapp s (Cw.c ⟨1, n, v, [exO]⟩) = (e, s') := he
  rw [e1] at k ⊢
  exact ⟨rfl, below_step hb hF k⟩

set_option maxRecDepth 20000 in
set_option maxHeartbeats 4000000 in
theorem lives_any (w : World) : Calls Tryz.prog 4 #[] w fun E w' => E = .returned (.bool true) ∧ Below w.heap.size w w' := by
  go_enter Tryz.func4, Tryz.ntmps4
  go_wp2_with fail
  refine (new_any w).mono ?_
  rintro E w1 ⟨rfl, K1, bel1⟩
  have HO := hide (wnew_any w w1 w.heap.size (Nat.le_refl _) K1 bel1)
  clear K1 bel1
  go_wp2_with fail
  refine HO.out.mono ?_
  rintro E w2 ⟨p, F2, rfl, W2, g2, b2⟩
  have HP := hide (put_any 1 1 w2)
  unfold cmv at HP
  have H2 := hide W2
  have G2 := hide g2
  have B2 := hide b2
  clear HO W2 g2 b2
  go_wp2_with fail
  refine HP.out.mono ?_
  rintro E w3 ⟨v3, rfl, o3, b3⟩
  have HA := hide (lapp_any w w3 p w.heap.size F2 lv0 lv1 1 0 v3 (H2.out.below b3) G2.out (fun g hg => Nat.lt_of_lt_of_le (H2.out.lt g hg) b3.size) (B2.out.trans (b3.mono B2.out.size)) lv_b0 ⟨_, o3, H2.out.lt⟩ (by omega) lv_app1)
  unfold cmv at HA
  obtain ⟨a3, c3, hv3, _, _⟩ := o3.is.shape
  subst hv3
  clear HP H2 G2 B2 o3 b3
  go_wp2_with fail
  refine HA.out.mono ?_
  rintro E w4 ⟨rfl, F4, W4, g4, b4⟩
  have HP := hide (put_any 1 3 w4)
  unfold cmv at HP
  have H2 := hide W4
  have G2 := hide g4
  have B2 := hide b4
  clear HA W4 g4 b4
  go_wp2_with fail
  refine HP.out.mono ?_
  rintro E w5 ⟨v3, rfl, o3, b3⟩
  have HA := hide (lapp_any w w5 p w.heap.size F4 lv1 lv1 3 15 v3 (H2.out.below b3) G2.out (fun g hg => Nat.lt_of_lt_of_le (H2.out.lt g hg) b3.size) (B2.out.trans (b3.mono B2.out.size)) lv_b1 ⟨_, o3, H2.out.lt⟩ (by omega) lv_app3)
  unfold cmv at HA
  obtain ⟨a5, c5, hv3, _, _⟩ := o3.is.shape
  subst hv3
  clear HP H2 G2 B2 o3 b3
  go_wp2_with fail
  refine HA.out.mono ?_
  rintro E w6 ⟨rfl, F6, W4, g4, b4⟩
  have HP := hide (put_any 1 2 w6)
  unfold cmv at HP
  have H2 := hide W4
  have G2 := hide g4
  have B2 := hide b4
  clear HA W4 g4 b4
  go_wp2_with fail
  refine HP.out.mono ?_
  rintro E w7 ⟨v3, rfl, o3, b3⟩
  have HA := hide (lapp_any w w7 p w.heap.size F6 lv1 lv2 2 0 v3 (H2.out.below b3) G2.out (fun g hg => Nat.lt_of_lt_of_le (H2.out.lt g hg) b3.size) (B2.out.trans (b3.mono B2.out.size)) lv_b1 ⟨_, o3, H2.out.lt⟩ (by omega) lv_app2)
  unfold cmv at HA
  obtain ⟨a7, c7, hv3, _, _⟩ := o3.is.shape
  subst hv3
  clear HP H2 G2 B2 o3 b3
  go_wp2_with fail
  refine HA.out.mono ?_
  rintro E w8 ⟨rfl, F8, W8, g8, b8⟩
  have HL := hide (wlength_any p w.heap.size F8 w8 lv2 W8)
  rw [show (Wl.lgb lv2.l).length = 20 from by rw [show lv2.l = [exC 1, exC 2] from rfl, lgb2]; rfl] at HL
  have H8 := hide W8
  have G8 := hide g8
  have B8 := hide b8
  clear HA W8 g8 b8
  go_wp2_with fail
  refine HL.out.mono ?_
  rintro E w9 ⟨rfl, m, rfl⟩
  have W9 := H8.out.below (below_drewN (Below.refl _ _) m)
  have B9 := hide (below_drewN B8.out m)
  obtain ⟨F1, G1, K1, _, hF⟩ := W9
  have HPu := hide (pull_any w.heap.size F1 _ lv2.d K1)
  have G1' : Hid (∀ g, F1 g → w.heap.size ≤ g) := hide fun g hg => G8.out g (by rw [hF]; exact .inl hg)
  rw [show (Dm.pull lv2.d).1 = 0 from rfl] at HPu
  clear HL H8 G8 B8 K1 hF
  go_wp2_with fail
  refine HPu.out.mono ?_
  rintro E wa ⟨rfl, Fa, Ka, oa, sa⟩
  have sz9 := B9.out.size
  have Ba := hide (B9.out.trans (oa.below G1'.out B9.out.size))
  have Ga : Hid (∀ g, Fa g → w.heap.size ≤ g) := hide fun g hg => by
    rcases sa g hg with e | e
    · exact G1'.out g e
    · omega
  have bgp := big_pull lv_b2
  have HSt := hide (start_any w.heap.size Fa wa (Dm.pull lv2.d).2 1 4 Ka (by omega) (fun f => Nat.le_trans (bgp.1.1 f) (by decide)) (Nat.le_trans bgp.1.2.1 (by decide)))
  rw [show (Dm.start (Dm.pull lv2.d).2 1 4).1 = 0 from rfl, show (Dm.start (Dm.pull lv2.d).2 1 4).2 = lvd from rfl] at HSt
  clear HPu G1' B9 Ka oa sa bgp
  go_wp2_with fail
  refine HSt.out.mono ?_
  rintro E wb ⟨rfl, Fb, Kb, ob, sb⟩
  have sza := Ba.out.size
  have Bb := hide (Ba.out.trans (ob.below Ga.out Ba.out.size))
  have Gb : Hid (∀ g, Fb g → w.heap.size ≤ g) := hide fun g hg => by
    rcases sb g hg with e | e
    · exact Ga.out g e
    · omega
  have HOp := hide (wopen_any w.heap.size Fb wb lvd Kb lvd_b)
  clear HSt Ba Ga Kb ob sb
  go_wp2_with fail
  refine HOp.out.mono ?_
  rintro E wc ⟨l, LG, PS, hc⟩
  have h0 := lvd_op LG.out
  have hl := lvd_log LG.out
  rcases hc with ⟨h1, _⟩ | ⟨_, p2, G, rfl, hw, _⟩
  · exact absurd h0 h1
  obtain ⟨Fc, Kc, oc, sc⟩ := PS
  have Bc := hide (Bb.out.trans (oc.below Gb.out Bb.out.size))
  have WC : Hid (WW p2 w.heap.size (fun g => Fc g ∨ G g) wc ⟨opD lvd l, l, false⟩) := hide ⟨Fc, G, Kc, hw, rfl⟩
  have HE := hide (wend_any p2 w.heap.size _ wc _ WC.out)
  have HLn := hide (wlength_any p2 w.heap.size _ wc _ WC.out)
  have HEp : Hid (∀ m, Calls Tryz.prog 22 #[.pointer (some ⟨p2, 0, none⟩)] (wc.drewN m) fun E w' => E = .returned (.int .i64 1) ∧ ∃ n, w' = (wc.drewN m).drewN n) := hide fun m => by
    have := wepoch_any p2 w.heap.size _ (wc.drewN m) _ (WC.out.below (below_drewN (Below.refl _ _) m))
    simp only [hl] at this
    exact this
  simp only [hl] at HE HLn
  rw [lgb1] at HLn
  rw [show (exB 1).length = 10 from rfl] at HLn
  clear HOp LG hw Kc oc sc h0 hl WC Gb Bb
  go_wp2_with fail
  refine HE.out.mono ?_
  rintro E w' ⟨rfl, rfl⟩
  go_wp2_with fail
  refine HLn.out.mono ?_
  rintro E w' ⟨rfl, m2, rfl⟩
  go_wp2_with fail
  refine (HEp.out m2).mono ?_
  rintro E w' ⟨rfl, m3, rfl⟩
  go_wp2
  go_ret
  exact ⟨rfl, below_drewN Bc.out _⟩

end Go.Proofs.YtmkpaedemjiboaaGreat

/- The calls of the statements on logs, in memory: small, next, begins. -/
namespace Go.Proofs.YtmkpaedemjiboaaGreat
open Go.RowKit
set_option linter.unusedVariables false

/-- A call as it stands in memory. -/
structure Ac where
  k : Int
  n : Int
  t : Int
  c : Cw

def acc (a : Ac) : List Value := [.int .i64 a.k, .int .i64 a.n, .int .i64 a.t, .int .i64 a.c.e, .int .i64 a.c.n, a.c.v]
theorem acc_len (a : Ac) : (acc a).length = 6 := rfl

/-- What a call's parts are. -/
def AcOk (w : World) (a : Ac) : Prop := IsO w a.c.v a.c.l ∧ (I64 a.k ∧ I64 a.n ∧ I64 a.t) ∧ In64 a.c.e ∧ In64 a.c.n

/-- A slice of calls. -/
def IsQ (w : World) (v : Value) (l : List Ac) : Prop := RowG acc w v l ∧ ∀ a ∈ l, AcOk w a
def FitQ (l : List Ac) : Prop := ∀ a ∈ l, FitO a.c.l ∧ a.c.l.length * 40 ≤ 140737488351232

theorem AcOk.below {w w' : World} {a : Ac} (h : AcOk w a) (hb : Below w.heap.size w w') : AcOk w' a := ⟨h.1.below hb, h.2⟩
theorem IsQ.below {w w' : World} {v : Value} {l : List Ac} (h : IsQ w v l) (hb : Below w.heap.size w w') : IsQ w' v l := ⟨h.1.below hb, fun a ha => (h.2 a ha).below hb⟩

theorem IsQ.full {w : World} {v : Value} {l : List Ac} (h : IsQ w v l) (hne : 0 < l.length) :
    ∃ b off cap, v = .slice (some ⟨b, off, none⟩) l.length cap ∧ l.length ≤ cap ∧ cap ≤ maxLen ∧ b < w.heap.size ∧
      ∀ i a, l[i]? = some a → w.cell? ⟨b, off + i * 6, none⟩ = some (.int .i64 a.k) ∧ w.cell? ⟨b, off + i * 6 + 1, none⟩ = some (.int .i64 a.n) ∧ w.cell? ⟨b, off + i * 6 + 2, none⟩ = some (.int .i64 a.t) ∧ w.cell? ⟨b, off + i * 6 + 3, none⟩ = some (.int .i64 a.c.e) ∧ w.cell? ⟨b, off + i * 6 + 4, none⟩ = some (.int .i64 a.c.n) ∧ w.cell? ⟨b, off + i * 6 + 5, none⟩ = some a.c.v := by
  obtain ⟨b, off, cap, hv, h1, h2, h3, h4⟩ := h.1.full acc_len (by decide) hne
  refine ⟨b, off, cap, hv, h1, h2, h3, fun i a ha => ?_⟩
  have := h4 i a ha
  exact ⟨by simpa using this 0 _ rfl, by simpa using this 1 _ rfl, by simpa using this 2 _ rfl, by simpa using this 3 _ rfl, by simpa using this 4 _ rfl, by simpa using this 5 _ rfl⟩

/-- Is a script gone through? -/
def smQ (l : List Ac) : Bool := l.all (fun a => decide (a.c.l.length ≤ 60)) && decide (l.length ≤ 60)

set_option maxHeartbeats 1000000 in
theorem qsmall_any (v : Value) (l : List Ac) (w : World) (h : IsQ w v l) (hl : l.length ≤ 140737488355328) (hf : FitQ l) : Calls Tryz.prog 5 #[v] w fun E w' => E = .returned (.bool (smQ l)) ∧ w = w' := by
  have H := hide h
  have HFQ := hide hf
  obtain ⟨ao, cap, hv, hcap, hcm⟩ := h.1.shape
  subst hv
  clear h hf
  go_enter Tryz.func5, Tryz.ntmps5
  go_wp2
  go_loopw [3] (fun iv wr => ∃ k : Nat, k ≤ l.length ∧ iv = .int .i64 k ∧ w = wr ∧ Hid ((l.take k).all (fun a => decide (a.c.l.length ≤ 60)) = true)) (fun iv _ => l.length - (intOf iv).toNat)
  case atStart => exact ⟨0, by omega, rfl, rfl, hide (by simp)⟩
  case round =>
    obtain ⟨k, hk, rfl, rfl, HT⟩ := hrel
    by_cases hlt : k < l.length
    · obtain ⟨b, off, cq, hvx, _, _, hB, hcell⟩ := H.out.full (by omega)
      simp only [Value.slice.injEq, true_and] at hvx
      obtain ⟨rfl, rfl⟩ := hvx
      obtain ⟨a, ha⟩ : ∃ a, l[k]? = some a := ⟨l[k], by rw [List.getElem?_eq_getElem]⟩
      obtain ⟨_, _, _, _, _, e5⟩ := hcell k a ha
      obtain ⟨av, ac, hav, _, _⟩ := (H.out.2 a (List.mem_of_getElem? ha)).1.shape
      have hfl := (HFQ.out a (List.mem_of_getElem? ha)).2
      rw [hav] at e5
      have hlt' : (k : Int) < l.length := by omega
      have hk0 : (0 : Int) ≤ (k : Int) := by omega
      obtain ⟨hkl, hke⟩ := List.getElem?_eq_some_iff.1 ha
      by_cases hbig : a.c.l.length ≤ 60
      · have hb1 : ¬ (60 : Int) < (a.c.l.length : Int) := by omega
        have HT2 : Hid ((l.take (k + 1)).all (fun a => decide (a.c.l.length ≤ 60)) = true) := hide (by
          rw [List.take_succ_eq_append_getElem hkl, List.all_append, HT.out, hke]
          simp [hbig])
        clear hcell ha hke hav hfl
        go_wp2
        go_roundw
        case rel => exact ⟨k + 1, by omega, by go_num, trivial, HT2⟩
        case measure => simp [intOf]; omega
      · have hb1 : (60 : Int) < (a.c.l.length : Int) := by omega
        have hs : smQ l = false := by
          unfold smQ
          rw [Bool.and_eq_false_iff]
          left
          rw [List.all_eq_false]
          exact ⟨a, List.mem_of_getElem? ha, by simpa using hbig⟩
        have HS := hide hs
        clear hcell ha hke hav hs hfl
        go_wp2
        go_ret
        exact ⟨by rw [HS.out]; rfl, rfl⟩
    · have hlt' : ¬ (k : Int) < l.length := by omega
      have hs : smQ l = decide ((l.length : Int) ≤ 60) := by
        unfold smQ
        have hkl : l.take k = l := List.take_of_length_le (by omega)
        have := HT.out
        rw [hkl] at this
        rw [this, Bool.true_and]
        congr 1
        exact propext ⟨fun h => by omega, fun h => by omega⟩
      have HS := hide hs
      clear hs
      go_wp2
      go_ret
      exact ⟨by rw [HS.out]; rfl, rfl⟩

theorem Tryz.enters24 : ∀ args w, (callFunc 24 args).run Tryz.prog w = .ok (.enter 24 args) w := enters_of Tryz.func24 (by kernel_rfl) rfl

/-- The commit of an act. -/
def nxt (a : Ac) (ep : Int) (en : Nat) : Cw := ⟨(if 1 < ep then ep else 1) + pk a.n 3, en + 1, a.c.v, a.c.l⟩

theorem nxt_64 (a : Ac) (ep : Int) (en : Nat) (he : 0 ≤ ep ∧ ep ≤ 1048576) (hn : en ≤ 1048576) : In64 (nxt a ep en).e ∧ In64 (nxt a ep en).n := by
  obtain ⟨hp0, hp1⟩ := pk_lt a.n 3 (by omega)
  unfold nxt In64
  simp only
  split <;> exact ⟨⟨by omega, by omega⟩, ⟨by omega, by omega⟩⟩

set_option maxRecDepth 20000 in
set_option maxHeartbeats 2000000 in
theorem next_any (a : Ac) (ep : Int) (en : Nat) (w : World) (h : AcOk w a) (he : 0 ≤ ep ∧ ep ≤ 1048576) (hn : en ≤ 1048576) :
    Calls Tryz.prog 28 #[.agg #[.int .i64 a.k, .int .i64 a.n, .int .i64 a.t, .int .i64 a.c.e, .int .i64 a.c.n, a.c.v], .int .i64 ep, .int .i64 en] w fun E w' => E = .returned (cmv (nxt a ep en).e (nxt a ep en).n a.c.v) ∧ Below w.heap.size w w' := by
  obtain ⟨ao, cap, hv, _, _⟩ := h.1.shape
  obtain ⟨w1, hw1, sz1, bel1, hB⟩ := blk_step w #[.int .i64 a.k, .int .i64 a.n, .int .i64 a.t, .int .i64 a.c.e, .int .i64 a.c.n, a.c.v] 39
  obtain ⟨w2, hw2, sz2, bel2, hR⟩ := blk_step w1 #[.int .i64 0, .int .i64 0, .slice none 0 0] 37
  have hB2 := (bel2.block w.heap.size (by omega)).trans hB
  have c1 : w2.cell? ⟨w.heap.size, 1, none⟩ = some (.int .i64 a.n) := blk_cell hB2 1 rfl
  have c5 : w2.cell? ⟨w.heap.size, 5, none⟩ = some a.c.v := blk_cell hB2 5 rfl
  rw [sz1] at hR
  have bel02 : Below w.heap.size w w2 := bel1.trans (bel2.mono (by omega))
  obtain ⟨hp0, hp1⟩ := pk_lt a.n 3 (by omega)
  obtain ⟨mx, hmx⟩ : ∃ mx : Int, (if 1 < ep then ep else 1) = mx := ⟨_, rfl⟩
  have hmb : 1 ≤ mx ∧ mx ≤ 1048576 := by rw [← hmx]; split <;> omega
  obtain ⟨V', hV', bV', gV', ⟨a0, a1, a2⟩, ⟨f0, f1, f2⟩, ⟨z0, z1, z2⟩⟩ := res_step hR (.int .i64 (mx + pk a.n 3)) (.int .i64 ((en : Int) + 1)) a.c.v
  have belV' := below_put bel02 gV' (by omega) (by omega)
  have HP : Hid (Calls Tryz.prog 24 #[.int .i64 a.n, .int .i64 3] w2.drew fun E w' => ∃ v, E = .returned v ∧ (v = .int .i64 (pk a.n 3) ∧ w2.drew = w')) := hide ((pickx_any a.n 3 w2.drew (by omega) (by omega) h.2.1.2.1).mono fun E w' h => ⟨_, h.1, rfl, h.2⟩)
  have hw3 : IntKind.i64.wrap (mx + pk a.n 3) = mx + pk a.n 3 := wrap_i64_small _ (by omega) (by omega)
  have hw4 : IntKind.i64.wrap ((en : Int) + 1) = (en : Int) + 1 := wrap_i64_small _ (by omega) (by omega)
  rw [hv] at hw1 c5 hV' z2 ⊢
  unfold cmv nxt
  simp only
  rw [hmx]
  generalize pk a.n 3 = pp at *
  clear h hB hB2 hR bel1 bel2 bV' gV' hv bel02
  go_enter Tryz.func28, Tryz.ntmps28
  go_wp2_with fail
  go_region_law (refine call_at rfl 24 #[.tmp 10, .const (.int .i64 3)] #[3, 3] rfl Tryz.enters24 #[.int .i64 a.n, .int .i64 3] (by first | rfl | (simp [Act.eval]; done) | (simp [Act.eval, Act.put]; done)) HP.out ?_; rintro _ _ ⟨rfl, rfl⟩)
  all_goals
    go_wp2
    refine bodyPost_ret (v := .agg #[.int .i64 (mx + pp), .int .i64 ((en : Int) + 1), .slice ao a.c.l.length cap]) (by simp [results, Tryz.results28, go_sem, z0, z1, z2]) rfl ?_
    exact ⟨rfl, belV'.drew⟩

end Go.Proofs.YtmkpaedemjiboaaGreat
