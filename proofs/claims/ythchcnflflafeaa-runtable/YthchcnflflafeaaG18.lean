/- Texts of one layer, one behind the other. -/
import Derived.Test.YthchcnflflafeaaG17
import Derived.Deep.RegionHeld3
import Derived.Test.YthchcnflflafeaaG11
import Derived.Lib.Bytealg
import Derived.Test.YthchcnflflafeaaG7
import Derived.RangeFuncNested
import Derived.RangeFuncBound
import Derived.RangeFuncCalls
import Derived.RangeFuncLeaves
import Derived.Shelf.RegionOpen
import Derived.WalkKit
import Derived.OwnWalkIn
import Derived.TacticsInMore
import Derived.LoopNIn
import Derived.LoopIn
import Derived.Lib.Walk
/- Flush. -/
namespace Go.Proofs.Ythchcnflflafeaa
open Go.RowKit
set_option linter.unusedVariables false

theorem Try.enters45 : ∀ args w, (callFunc 45 args).run Try.prog w = .ok (.enter 45 args) w := enters_of Try.func45 (by kernel_rfl) rfl

/-- A run more, put into the object. -/
theorem rk_push {p q : Nat} {F1 : Nat → Prop} {w wc : World} {d : Dm.Ds} {l : List Cm.Cv} {bk : Bool} {v : Value} {rs : List Cw} {c : Cw} (h1 : Pk q F1 w d) (hv : RkV p q w l bk v rs) (hb : Below w.heap.size w wc) (hc : OwnO 35 w.heap.size wc c.v c.l) (hg : Rl.Good 0 (l ++ [c.c])) (ty : TypeId) :
    ∃ V, wc.alloc (.cells #[.int .i64 c.e, .int .i64 c.n, c.v] 32) = V ∧ V.cell? ⟨p, 2, none⟩ = some v ∧ ∃ v2 w2, (Builtin.append_ #[47, 47] ty #[v, .slice (some ⟨wc.heap.size, 0, none⟩) 1 1]).run Try.prog V = .ok v2 w2 ∧ w2.cell? ⟨p, 2, none⟩ = some v ∧ w2.frozen? ⟨p, 2, none⟩ = false ∧ (∃ a n k, v2 = .slice a n k) ∧
      (∃ F', RW p q F' (w2.setCell ⟨p, 2, none⟩ v2) ⟨d, l ++ [c.c], bk⟩ ∧ Out (fun g => F1 g ∨ g = p ∨ QB v rs g) w (w2.setCell ⟨p, 2, none⟩ v2) ∧ ∀ g, F' g → (F1 g ∨ g = p ∨ QB v rs g) ∨ w.heap.size ≤ g) := by
  have hsz := hb.size
  obtain ⟨V, hV, szV, belV, ownV⟩ := coms_step 32 wc #[.int .i64 c.e, .int .i64 c.n, c.v] 1 [c] rfl rfl (by simp [maxLen])
  have bwV := hb.trans (belV.mono hsz)
  have qV := hv.log.below bwV
  have BV := (bwV.block p (blk_lt hv.blk)).trans hv.blk
  have hone : ∀ d ∈ [c], d.v.oneCell' = true := fun d hd => by rw [List.mem_singleton.1 hd]; exact hc.is.one
  obtain ⟨v2, w2, hr, own2, gr2, at2⟩ := run_append_coms_at (P := Try.prog) (w := V) 47 ty 32 0 Try.underlying47 Try.info32 v rs qV.row _ [c] ownV.row hone (by have := hv.log.len_le; simp; omega) (Nat.zero_le _)
  have kp : KeepT 32 V w2 := KeepT.of_row qV.row gr2
  have q2 := qV.grow own2 kp ((hc.below belV).rebase (Nat.zero_le _)) hg
  have hpn : ¬ v.ownBlock = some p := fun e => qV.ne BV (by decide) (by decide) (.inl e)
  have B2 := (gr2.block p (blk_lt BV) (fun e => hpn e.symm)).trans BV
  obtain ⟨X, hX, bX, gX, fX⟩ := put_at3 B2 2 v2
  have qX : Rq 0 X (l ++ [c.c]) v2 (rs ++ [c]) := q2.agree fun g hg => gX.block g (q2.lt g hg) fun e => by
    simp at e
    exact q2.ne B2 (by decide) (by decide) (e ▸ hg)
  have oV : Out (fun g => F1 g ∨ g = p ∨ QB v rs g) w V := Out.of_below bwV
  have o2 : Out (fun g => F1 g ∨ g = p ∨ QB v rs g) w w2 := oV.trans (Out.of_grown (F := fun g => F1 g ∨ g = p ∨ QB v rs g) gr2 fun g hg => .inr (.inr (.inl hg))) fun g hg => .inl hg
  have oX : Out (fun g => F1 g ∨ g = p ∨ QB v rs g) w X := o2.trans (Out.of_grown (F := fun g => F1 g ∨ g = p ∨ QB v rs g) gX fun g hg => .inr (.inl (by simpa using hg.symm))) fun g hg => .inl hg
  have hk : Rk p q (fun g => g = p ∨ QB v rs g) w l bk := ⟨v, rs, hv, rfl⟩
  have KX : Pk q F1 X d := by
    have o : Out (fun g => g = p ∨ QB v rs g) w X := by
      refine ((Out.of_below (F := fun g => g = p ∨ QB v rs g) bwV).trans (Out.of_grown (F := fun g => g = p ∨ QB v rs g) gr2 fun g hg => .inr (.inl hg)) fun g hg => .inl hg).trans (Out.of_grown (F := fun g => g = p ∨ QB v rs g) gX fun g hg => .inl (by simpa using hg.symm)) fun g hg => .inl hg
    exact h1.out o fun g hg e => rk_pk hk h1 g e hg
  refine ⟨V, hV, blk_cell BV 2 rfl, v2, w2, hr, blk_cell B2 2 rfl, fX, ?_, ?_⟩
  · obtain ⟨a1, k1, h1, _⟩ := own2.row.shape
    exact ⟨a1, _, k1, h1⟩
  · rw [hX]
    refine ⟨_, ⟨F1, _, KX, ⟨v2, rs ++ [c], ⟨bX, qX⟩, rfl⟩, rfl⟩, oX, ?_⟩
    rintro g (e | e | e | ⟨d, hd, e⟩)
    · exact .inl (.inl e)
    · exact .inl (.inr (.inl e))
    · rcases at2 with h | h
      · exact .inl (.inr (.inr (.inl (h ▸ e))))
      · rw [h] at e
        simp at e
        exact .inr (by omega)
    · rcases List.mem_append.1 hd with hd | hd
      · exact .inl (.inr (.inr (.inr ⟨d, hd, e⟩)))
      · rw [List.mem_singleton.1 hd] at e
        exact .inr (hc.block g e).1

set_option maxRecDepth 20000 in
set_option maxHeartbeats 4000000 in
theorem hflush_any (p q : Nat) (F : Nat → Prop) (w : World) (s : Rl.Rs) (c : Cw) (h : RW p q F w s) (hs : RBig s) (hi : IsO w c.v c.l) (hf : FitO c.l) (h64 : In64 c.e ∧ In64 c.n) (hlo : c.l.length * 40 ≤ 140737488351232) (hcF : 0 < c.l.length → ∀ b, c.v.ownBlock = some b → ¬ F b) :
    Calls Try.prog 11 #[.pointer (some ⟨p, 0, none⟩), cmv c.e c.n c.v] w fun E w' => E = .returned (.int .i64 (Rl.flu s c.c).1) ∧ RStep p q F w w' (Rl.flu s c.c).2 := by
  obtain ⟨ao, cap, hcv, _, _⟩ := hi.shape
  obtain ⟨w1, hw1, sz1, bel1, hB0⟩ := blk_step w #[.int .i64 c.e, .int .i64 c.n, c.v] 32
  have c0 : w1.cell? ⟨w.heap.size, 0, none⟩ = some (.int .i64 c.e) := blk_cell hB0 0 rfl
  have c1 : w1.cell? ⟨w.heap.size, 1, none⟩ = some (.int .i64 c.n) := blk_cell hB0 1 rfl
  have c2 : w1.cell? ⟨w.heap.size, 2, none⟩ = some c.v := blk_cell hB0 2 rfl
  have hW1 := h.below bel1
  have HR := hide (hrefuses_any p q F w1 s hW1)
  have hb := hs.big
  have HLT := hide h.lt
  have HCF := hide hcF
  clear hcF
  unfold cmv
  rw [hcv] at hw1 c2 ⊢
  cases ha : Rl.ask s with
  | true =>
    have e1 : Rl.flu s c.c = (6, Rl.brk s) := by unfold Rl.flu; rw [ha]; rfl
    rw [e1]
    have B1 := hide bel1
    clear h hs hi hf h64 hlo hW1 hB0 bel1 e1
    go_enter Try.func11, Try.ntmps11
    go_wp2_with fail
    refine HR.out.mono ?_
    rintro E w2 (⟨_, rfl, J⟩ | ⟨h0, _⟩)
    · have J := hide (RStep.pre B1.out J)
      clear HR
      go_wp2
      go_ret
      exact ⟨rfl, J.out⟩
    · rw [ha] at h0
      cases h0
  | false =>
    have HFR := hide (hframed_any c.e c.n c.v c.l w1 (hi.below bel1) hf (by omega))
    unfold cmv at HFR
    rw [hcv] at HFR
    obtain ⟨ch, hch⟩ : ∃ x, Rn.chk c.e c.n c.l = x := ⟨_, rfl⟩
    rw [hch] at HFR
    have KC := hide hch
    have HCV := hide hcv
    have IOX := hide hi
    have WA := hide hW1
    have FO := hide (show FitO c.l ∧ (In64 c.e ∧ In64 c.n) ∧ c.l.length * 40 ≤ 140737488351232 from ⟨hf, h64, hlo⟩)
    have HB := hide hB0
    have B1 := hide bel1
    have HS := hide hs
    have HASK := hide ha
    clear h hs hi hf h64 hlo hW1 hch hcv hb hB0 bel1 ha
    go_enter Try.func11, Try.ntmps11
    go_wp2_with fail
    refine HR.out.mono ?_
    rintro E w2 (⟨h0, _⟩ | ⟨_, rfl, rfl⟩)
    · rw [HASK.out] at h0
      cases h0
    clear HR
    go_wp2_with fail
    refine HFR.out.mono ?_
    rintro E w2 ⟨vb, rfl, own, bel2⟩
    have W2 := WA.out.below bel2
    have b02 := B1.out.trans (bel2.mono B1.out.size)
    have sz2 := bel2.size
    have hB2 := (bel2.block w.heap.size (by omega)).trans HB.out
    have d0 : w2.cell? ⟨w.heap.size, 0, none⟩ = some (.int .i64 c.e) := blk_cell hB2 0 rfl
    have d1 : w2.cell? ⟨w.heap.size, 1, none⟩ = some (.int .i64 c.n) := blk_cell hB2 1 rfl
    have d2 : w2.cell? ⟨w.heap.size, 2, none⟩ = some c.v := blk_cell hB2 2 rfl
    rw [HCV.out] at d2
    obtain ⟨ab, nb, cb, hvb⟩ : ∃ a n k, vb = .slice a n k := by
      obtain ⟨a1, k1, h1, _⟩ := own.is.shape
      exact ⟨a1, _, k1, h1⟩
    subst hvb
    have OB := hide own
    have HB2 := hide hB2
    have B02 := hide b02
    have HW2 := hide W2
    clear WA own bel2 HFR hB2 c0 c1 c2 W2 b02
    by_cases hc0 : ch = 0
    · subst hc0
      have hfr : frdR c.e c.n c.l = Rl.fr c.c := by unfold frdR; rw [if_pos KC.out]; rfl
      rw [hfr] at OB
      have hfl : (Rl.fr c.c).length ≤ 52236 := Rl.fr_small KC.out
      obtain ⟨F1, G1, h1, h2, hF⟩ := HW2.out
      obtain ⟨v, rs, hv, hG⟩ := h2
      have hgl := Rl.good_len hv.log.good
      have p0 : w2.cell? ⟨p, 0, none⟩ = some (.pointer (some ⟨q, 0, none⟩)) := blk_cell hv.blk 0 rfl
      have p2 : w2.cell? ⟨p, 2, none⟩ = some v := blk_cell hv.blk 2 rfl
      have hpw : p < w2.heap.size := blk_lt hv.blk
      obtain ⟨la, ln, lk, hlv⟩ : ∃ a n k, v = .slice a n k := by
        obtain ⟨a1, k1, h1, _⟩ := hv.log.row.row.shape
        exact ⟨a1, _, k1, h1⟩
      subst hlv
      obtain ⟨ans, hans⟩ : ∃ x, decide (c.e - 1 = Cm.lastN 0 s.l) = x := ⟨_, rfl⟩
      have TK : Hid (∀ W, Below w2.heap.size w2 W → Calls Try.prog 43 #[.slice la ln lk, .agg #[.int .i64 c.e, .int .i64 c.n, .slice ao c.l.length cap]] W fun E w' => E = .returned (.bool ans) ∧ Below w2.heap.size w2 w') := hide fun W hbW => by
        have := hfollows_any (.slice la ln lk) rs c.e c.n (.slice ao c.l.length cap) W (hv.log.row.row.below hbW) hv.log.len_le ⟨_, _, _, rfl⟩ (by rw [hv.log.is]; exact hgl.2)
        unfold cmv at this
        rw [hv.log.is, hans] at this
        refine this.mono ?_
        rintro E w' ⟨rfl, hb'⟩
        exact ⟨rfl, hbW.trans (hb'.mono hbW.size)⟩
      have HA := hide hans
      have HV := hide hv
      have H1 := hide h1
      have HFF := hide hF
      have HGG := hide hG
      clear hans hv h1 hF hG
      go_wp2_with fail
      go_region_held3 (fun w' => w'.cell? ⟨w.heap.size, 0, none⟩ = some (.int .i64 c.e) ∧ w'.cell? ⟨w.heap.size, 1, none⟩ = some (.int .i64 c.n) ∧ w'.cell? ⟨w.heap.size, 2, none⟩ = some (.slice ao c.l.length cap) ∧ w'.cell? ⟨p, 0, none⟩ = some (.pointer (some ⟨q, 0, none⟩)) ∧ w'.cell? ⟨p, 2, none⟩ = some (.slice la ln lk)) (first | exact ⟨d0, d1, d2, p0, p2⟩ | exact ⟨e0, e1, e2, g0, g2⟩ | go_keep)
        (first
        | (go_at_call 43; refine (TK.out _ ((Below.refl _ _).drew)).mono ?_; rintro E w3 ⟨rfl, bel3⟩; have e0 := (bel3.cell (p := ⟨w.heap.size, 0, none⟩) (show w.heap.size < w2.heap.size by omega)).trans d0; have e1 := (bel3.cell (p := ⟨w.heap.size, 1, none⟩) (show w.heap.size < w2.heap.size by omega)).trans d1; have e2 := (bel3.cell (p := ⟨w.heap.size, 2, none⟩) (show w.heap.size < w2.heap.size by omega)).trans d2; have g0 := (bel3.cell (p := ⟨p, 0, none⟩) hpw).trans p0; have g2 := (bel3.cell (p := ⟨p, 2, none⟩) hpw).trans p2))
      have b03 := B02.out.trans (bel3.mono B02.out.size)
      have sz3 := bel3.size
      have HV3 : Hid (RkV p q w3 s.l s.bk (.slice la ln lk) rs) := hide ⟨(bel3.block p hpw).trans HV.out.blk, HV.out.log.below bel3⟩
      have K3 := hide (H1.out.below bel3)
      have O3 := hide (OB.out.below bel3)
      have HB3 := hide ((bel3.block w.heap.size (by omega)).trans HB2.out)
      have W3 := hide (HW2.out.below bel3)
      have B3 := hide b03
      clear HV H1 OB HB2 TK d0 d1 d2 p0 p2 b03 bel3 HW2 B02
      cases ans with
      | false =>
        have e4 : Rl.flu s c.c = (15, s) := by
          unfold Rl.flu
          rw [HASK.out, if_neg (by decide), if_neg (by intro hx; exact hx KC.out), if_pos (show c.c.e - 1 ≠ Cm.lastN 0 s.l from of_decide_eq_false HA.out)]
        have E4 := hide e4
        clear e4 HV3 K3 O3
        go_wp2
        go_ret
        exact ⟨by rw [E4.out]; rfl, by rw [E4.out]; exact ⟨F, W3.out, Out.of_below B3.out, fun g hg => .inl hg⟩⟩
      | true =>
        have hord := of_decide_eq_true HA.out
        have hgood : Rl.Good 0 (s.l ++ [c.c]) := (Rl.good_snoc HV3.out.log.good).2 ⟨KC.out, hord⟩
        have WR := hide (hextend_any q F1 w3 s.d (.slice ab nb cb) (Rl.fr c.c) K3.out HS.out (O3.out.rebase (Nat.zero_le _)) (fun b hb hf => by
          have h1 := (O3.out.block b hb).1
          have h2 := HLT.out b (by rw [HFF.out]; exact .inl hf)
          omega) hfl)
        have e01 := Rl.ext_e s.d (Rl.fr c.c)
        have e4 : Rl.flu s c.c = if (Rl.ext s.d (Rl.fr c.c)).1 ≠ 0 then ((Rl.ext s.d (Rl.fr c.c)).1, ⟨(Rl.ext s.d (Rl.fr c.c)).2, s.l, true⟩) else (0, ⟨(Rl.ext s.d (Rl.fr c.c)).2, s.l ++ [c.c], false⟩) := by
          unfold Rl.flu
          rw [HASK.out, if_neg (by decide), if_neg (by intro hx; exact hx KC.out), if_neg (by intro hx; exact hx hord)]
        have hbk : s.bk = false := by
          have := HASK.out
          unfold Rl.ask at this
          cases hb : s.bk with
          | false => rfl
          | true => rw [hb] at this; cases this
        generalize hwr : Rl.ext s.d (Rl.fr c.c) = y at *
        obtain ⟨x, d'⟩ := y
        simp only at e01 e4 WR
        have E4 := hide e4
        have GD := hide hgood
        have HBK := hide hbk
        have SZ3 : w1.heap.size ≤ w3.heap.size := by omega
        clear e4 hgood hwr hfr hbk hord
        go_wp2_with fail
        refine WR.out.mono ?_
        rintro E w4 ⟨rfl, PS⟩
        obtain ⟨F2, k1, k2, k3, k4⟩ := RW.disk (s := ⟨s.d, s.l, s.bk⟩) K3.out ⟨_, rs, HV3.out, rfl⟩ PS
        have T4 := hide (show Out F w3 w4 ∧ ∀ g, (F2 g ∨ (g = p ∨ QB (.slice la ln lk) rs g)) → F g ∨ w3.heap.size ≤ g from by
          refine ⟨k3.mono fun g hg => .inl (by rw [HFF.out]; exact .inl hg), ?_⟩
          rintro g (hg | hg)
          · rcases k4 g hg with e | e
            · exact .inl (by rw [HFF.out]; exact .inl e)
            · exact .inr e
          · exact .inl (by rw [HFF.out, HGG.out]; exact .inr hg))
        have RW4 : Hid (RW p q (fun g => F2 g ∨ (g = p ∨ QB (.slice la ln lk) rs g)) w4 ⟨d', s.l, s.bk⟩) := hide ⟨F2, _, k1, k2, rfl⟩
        have V4 : Hid (RkV p q w4 s.l s.bk (.slice la ln lk) rs ∧ Pk q F2 w4 d') := hide ⟨⟨(k3.block p (blk_lt HV3.out.blk) (fun e => rk_pk ⟨_, rs, HV3.out, rfl⟩ K3.out p (.inl rfl) e)).trans HV3.out.blk, HV3.out.log.out k3 (rq_pk HV3.out.log K3.out)⟩, k1⟩
        clear PS k1 k2 k3 k4 WR K3 HV3 O3
        rcases e01 with rfl | rfl
        · obtain ⟨o4, s4⟩ := T4.out
          have sz4 := o4.size
          have hnF : ¬ F w.heap.size := fun hf => by have := HLT.out _ hf; omega
          have hB4 := (o4.block w.heap.size (by omega) hnF).trans HB3.out
          have x0 : w4.cell? ⟨w.heap.size, 0, none⟩ = some (.int .i64 c.e) := blk_cell hB4 0 rfl
          have x1 : w4.cell? ⟨w.heap.size, 1, none⟩ = some (.int .i64 c.n) := blk_cell hB4 1 rfl
          have x2 : w4.cell? ⟨w.heap.size, 2, none⟩ = some c.v := blk_cell hB4 2 rfl
          rw [HCV.out] at x2
          have i4 : IsO w4 c.v c.l := (IOX.out.below B3.out).out o4 HCF.out
          have hp4 : p < w4.heap.size := blk_lt V4.out.1.blk
          have y2 : w4.cell? ⟨p, 2, none⟩ = some (.slice la ln lk) := blk_cell V4.out.1.blk 2 rfl
          have X1 : Hid (Calls Try.prog 45 #[.agg #[.int .i64 c.e, .int .i64 c.n, .slice ao c.l.length cap]] w4.drew fun E w6 => ∃ v', E = .returned v' ∧ ∃ (vo : Value) (V : World), v' = .agg #[.int .i64 c.e, .int .i64 c.n, vo] ∧ (∃ a n k, vo = .slice a n k) ∧ w6.cell? ⟨p, 2, none⟩ = some (.slice la ln lk) ∧ (w6.cell? ⟨w.heap.size, 0, none⟩ = some (.int .i64 c.e) ∧ w6.cell? ⟨w.heap.size, 1, none⟩ = some (.int .i64 c.n) ∧ w6.cell? ⟨w.heap.size, 2, none⟩ = some (.slice ao c.l.length cap)) ∧ w6.alloc (.cells #[.int .i64 c.e, .int .i64 c.n, vo] 32) = V ∧ (V.cell? ⟨p, 2, none⟩ = some (.slice la ln lk) ∧ (V.cell? ⟨w.heap.size, 0, none⟩ = some (.int .i64 c.e) ∧ V.cell? ⟨w.heap.size, 1, none⟩ = some (.int .i64 c.n) ∧ V.cell? ⟨w.heap.size, 2, none⟩ = some (.slice ao c.l.length cap))) ∧
              Hid (∀ ty, ∃ v2 w2, (Builtin.append_ #[47, 47] ty #[.slice la ln lk, .slice (some ⟨w6.heap.size, 0, none⟩) 1 1]).run Try.prog V = .ok v2 w2 ∧ (RStep p q F w3 (w2.setCell ⟨p, 2, none⟩ v2) ⟨d', s.l ++ [c.c], s.bk⟩ ∧ w2.cell? ⟨p, 2, none⟩ = some (.slice la ln lk) ∧ w2.frozen? ⟨p, 2, none⟩ = false ∧ ∃ a n k, v2 = .slice a n k))) := hide (by
            have := hcopied_any c.e c.n c.v c.l w4.drew (i4.drewN 1) FO.out.2.2
            unfold cmv at this
            rw [HCV.out] at this
            refine this.mono ?_
            rintro E w6 ⟨vo, rfl, own6, bel6⟩
            have b46 : Below w4.heap.size w4 w6 := (Below.refl w4.heap.size w4).drew.trans bel6
            obtain ⟨V, hV, V2, v2, w2, hr, q1, q2, q3, F', J1, J2, J3⟩ := rk_push (c := ⟨c.e, c.n, vo, c.l⟩) V4.out.2 V4.out.1 b46 own6 GD.out 47
            have belV : Below w6.heap.size w6 V := by rw [← hV]; exact (Below.refl _ _).alloc (Nat.le_refl _) _
            have b4V := b46.trans (belV.mono b46.size)
            obtain ⟨a1, k1, h1, _⟩ := own6.is.shape
            refine ⟨_, rfl, vo, V, rfl, ⟨a1, _, k1, h1⟩, (b46.cell (p := ⟨p, 2, none⟩) hp4).trans y2, ⟨(b46.cell (p := ⟨w.heap.size, 0, none⟩) (show w.heap.size < w4.heap.size by omega)).trans x0, (b46.cell (p := ⟨w.heap.size, 1, none⟩) (show w.heap.size < w4.heap.size by omega)).trans x1, (b46.cell (p := ⟨w.heap.size, 2, none⟩) (show w.heap.size < w4.heap.size by omega)).trans x2⟩, hV, ⟨V2, (b4V.cell (p := ⟨w.heap.size, 0, none⟩) (show w.heap.size < w4.heap.size by omega)).trans x0, (b4V.cell (p := ⟨w.heap.size, 1, none⟩) (show w.heap.size < w4.heap.size by omega)).trans x1, (b4V.cell (p := ⟨w.heap.size, 2, none⟩) (show w.heap.size < w4.heap.size by omega)).trans x2⟩, hide fun ty => ?_⟩
            obtain ⟨V', hV', V2', v2', w2', hr', q1', q2', q3', F'', J1', J2', J3'⟩ := rk_push (c := ⟨c.e, c.n, vo, c.l⟩) V4.out.2 V4.out.1 b46 own6 GD.out ty
            have eV : V' = V := hV'.symm.trans hV
            subst eV
            refine ⟨v2', w2', hr', ⟨F'', J1', o4.trans J2' s4, fun g hg => ?_⟩, q1', q2', q3'⟩
            rcases J3' g hg with e | e
            · exact s4 g e
            · exact .inr (by omega))
          clear hB4 i4 V4 RW4 T4
          go_wp2_with fail
          go_region_law (first
            | (have ow := XX; refine step_append_at rfl (.tmp 45) (.tmp 48) 47 rfl (.slice la ln lk) (.slice (some ⟨w6.heap.size, 0, none⟩) 1 1) (by first | (simp [Act.eval]; done) | (simp [Act.eval, Act.put]; done)) (by first | (simp [Act.eval]; done) | (simp [Act.eval, Act.put]; done)) XX.out ?_; rintro v8 w8 ⟨J, d8, g8, a8, n8, k8, rfl⟩; have J := hide J)
            | (refine call_at rfl 45 #[.tmp 46] #[32] rfl Try.enters45 #[.agg #[.int .i64 c.e, .int .i64 c.n, .slice ao c.l.length cap]] (by first | (simp [Act.eval]; done) | (simp [Act.eval, Act.put]; done)) X1.out ?_; rintro v6 w6 ⟨vo, V, rfl, ⟨oa, on, ok, rfl⟩, z2, ⟨b0, b1, b2⟩, hV, ⟨z3, b3, b4, b5⟩, XX⟩))
          all_goals
            have JJ := hide (RStep.pre B3.out J.out)
            clear J
            go_wp2
            go_ret
            refine ⟨by rw [E4.out]; rfl, ?_⟩
            rw [E4.out]
            have := JJ.out
            rw [HBK.out] at this
            exact this
        · have HFL := hide (RW4.out.flag true)
          have p1 := blk_cell V4.out.1.blk 1 rfl
          have f1 := blk_froz V4.out.1.blk 1
          simp only [List.getElem_toArray, List.getElem_cons_zero, List.getElem_cons_succ] at p1
          have JJ := hide (RStep.pre B3.out (RStep.trans T4.out.1 T4.out.2 HFL.out))
          clear HFL RW4 T4 V4
          go_wp2
          go_ret
          exact ⟨by rw [E4.out]; rfl, by rw [E4.out]; exact JJ.out⟩
    · have hne : (ch != 0) = true := by simp [hc0]
      have e4 : Rl.flu s c.c = (ch, s) := by
        unfold Rl.flu
        rw [HASK.out, if_neg (by decide), if_pos (by show Rn.chk c.e c.n c.l ≠ 0; rw [KC.out]; exact hc0)]
        show (Rn.chk c.e c.n c.l, s) = (ch, s)
        rw [KC.out]
      have E4 := hide e4
      clear e4
      go_wp2
      go_ret
      exact ⟨by rw [E4.out]; rfl, by rw [E4.out]; exact ⟨F, HW2.out, Out.of_below B02.out, fun g hg => .inl hg⟩⟩

end Go.Proofs.Ythchcnflflafeaa

/- strings.Compare, the comparison of a key, and slices.BinarySearchFunc of ops. -/
namespace Go.Proofs.Ythchcnflflafeaa
open Go.RowKit
open Bm (Ov)
set_option linter.unusedVariables false

theorem cmp_neg : ∀ (a b : List UInt8), (Lib.compareBytes a b < 0) = (Op.bytesLess a b = true) ∧ (Lib.compareBytes a b = 0 ↔ a = b)
  | [], [] => by simp [Lib.compareBytes, Op.bytesLess]
  | [], y :: b => by simp [Lib.compareBytes, Op.bytesLess]
  | x :: a, [] => by simp [Lib.compareBytes, Op.bytesLess]
  | x :: a, y :: b => by
    obtain ⟨h1, h2⟩ := cmp_neg a b
    unfold Lib.compareBytes Op.bytesLess
    by_cases h : x < y
    · rw [if_pos h]
      have hne : x ≠ y := fun e => by subst e; exact absurd h (UInt8.lt_irrefl x)
      simp [h, hne]
    · rw [if_neg h]
      by_cases h' : y < x
      · rw [if_pos h']
        have hne : x ≠ y := fun e => by subst e; exact absurd h' (UInt8.lt_irrefl x)
        simp [h, hne]
      · rw [if_neg h']
        have he : x = y := by
          rcases UInt8.lt_or_lt_of_ne (a := x) (b := y) |> fun f => Classical.em (x = y) with e | e
          · exact e
          · rcases UInt8.lt_or_lt_of_ne e with e | e
            · exact absurd e h
            · exact absurd e h'
        subst he
        rw [h1]
        simp [h2]

/-- A key against another. -/
def kcm (a b : ByteArray) : Int := Lib.compareBytes a.data.toList b.data.toList

theorem kcm_neg (a b : ByteArray) : kcm a b < 0 ↔ Tm.lt a b = true := by
  unfold kcm Tm.lt
  rw [(cmp_neg _ _).1, Tm.less_before]

theorem kcm_zero (a b : ByteArray) : kcm a b = 0 ↔ a = b := by
  unfold kcm
  rw [(cmp_neg _ _).2]
  exact ⟨Bm.ba_eq, fun e => by rw [e]⟩

set_option maxHeartbeats 1000000 in
set_option maxRecDepth 100000 in
theorem cmpB_any (a b : ByteArray) (w : World) : Calls Try.prog 102 #[.string a, .string b] w fun E w' => E = .returned (.int .i64 (kcm a b)) ∧ w = w' := by
  unfold kcm
  go_enter Try.func102, Try.ntmps102
  go_wp2
  rw [run_callFunc_extern Try.func109 (by kernel_rfl) (by kernel_rfl) (by kernel_rfl) (e := Extern.BytealgCompare.compare) (by kernel_rfl), Lib.run_compareString]
  simp only [Result.andThen]
  rw [Oper.upon_value]
  go_wp2
  go_ret
  exact ⟨rfl, rfl⟩

theorem cmpS_any (a b : ByteArray) (w : World) : Calls Try.prog 85 #[.string a, .string b] w fun E w' => E = .returned (.int .i64 (kcm a b)) ∧ w = w' := by
  go_enter Try.func85, Try.ntmps85
  go_wp2_with fail
  refine (cmpB_any a b w).mono ?_
  rintro E w' ⟨rfl, rfl⟩
  go_wp2
  go_ret
  exact ⟨rfl, rfl⟩

theorem against_any (p : Bool) (k v key : ByteArray) (w : World) : Calls Try.prog 49 #[.agg #[.bool p, .string k, .string v], .string key] w fun E w' => E = .returned (.int .i64 (kcm k key)) ∧ Below w.heap.size w w' := by
  obtain ⟨w1, hw1, sz1, bel1, hB⟩ := blk_step w #[.bool p, .string k, .string v] 35
  have c1 := blk_cell hB 1 rfl
  clear hB
  go_enter Try.func49, Try.ntmps49
  go_wp2_with fail
  refine (cmpS_any k key _).mono ?_
  rintro E w' ⟨rfl, rfl⟩
  go_wp2
  go_ret
  exact ⟨rfl, bel1⟩

theorem Try.enters49 : ∀ args w, (callFunc 49 args).run Try.prog w = .ok (.enter 49 args) w := enters_of Try.func49 (by kernel_rfl) rfl

/-- Between the two ends. -/
def Bin (l : List Ov) (key : ByteArray) (i j : Nat) : Prop := (∀ t o, t < i → l[t]? = some o → kcm o.k key < 0) ∧ ∀ t o, j ≤ t → l[t]? = some o → 0 ≤ kcm o.k key

theorem up_at {l : List Ov} (hu : Tm.Up l) {s t : Nat} {o q : Ov} (hs : l[s]? = some o) (ht : l[t]? = some q) (h : s < t) : Tm.lt o.k q.k = true := by
  obtain ⟨h1, rfl⟩ := List.getElem?_eq_some_iff.1 hs
  obtain ⟨h2, rfl⟩ := List.getElem?_eq_some_iff.1 ht
  exact List.pairwise_iff_getElem.1 hu s t h1 h2 h

theorem Bin.left {l : List Ov} {key : ByteArray} {i j m : Nat} {o : Ov} (h : Bin l key i j) (hu : Tm.Up l) (hm : l[m]? = some o) (hc : kcm o.k key < 0) : Bin l key (m + 1) j := by
  refine ⟨fun t q ht hq => ?_, h.2⟩
  by_cases e : t = m
  · subst e
    rw [hm] at hq
    cases hq
    exact hc
  · exact (kcm_neg _ _).2 (Tm.lt_trans (up_at hu hq hm (by omega)) ((kcm_neg _ _).1 hc))

theorem Bin.right {l : List Ov} {key : ByteArray} {i j m : Nat} {o : Ov} (h : Bin l key i j) (hu : Tm.Up l) (hm : l[m]? = some o) (hc : ¬ kcm o.k key < 0) : Bin l key i m := by
  refine ⟨h.1, fun t q ht hq => ?_⟩
  by_cases e : t = m
  · subst e
    rw [hm] at hq
    cases hq
    omega
  · refine Int.not_lt.1 fun hn => hc ((kcm_neg _ _).2 (Tm.lt_trans (up_at hu hm hq (by omega)) ((kcm_neg _ _).1 hn)))

theorem Bin.found {l : List Ov} {key : ByteArray} {i : Nat} {o : Ov} (hu : Tm.Up l) (ho : l[i]? = some o) (hc : kcm o.k key = 0) : Tm.get l key = some o := by
  rw [← (kcm_zero _ _).1 hc]
  exact Tm.get_mem hu (List.mem_of_getElem? ho)

theorem Bin.lost {l : List Ov} {key : ByteArray} {i : Nat} (h : Bin l key i i) (hu : Tm.Up l) (hc : ∀ o, l[i]? = some o → ¬ kcm o.k key = 0) : Tm.get l key = none := by
  refine List.find?_eq_none.2 fun x hx => ?_
  obtain ⟨t, ht⟩ := List.getElem?_of_mem hx
  simp only [decide_eq_true_eq]
  intro e
  have hz := (kcm_zero _ _).2 e
  by_cases h1 : t < i
  · have := h.1 t x h1 ht
    omega
  · by_cases h2 : t = i
    · subst h2
      exact hc x ht hz
    · have hlt : i < t := by omega
      obtain ⟨q, hq⟩ : ∃ q, l[i]? = some q := by
        have := (List.getElem?_eq_some_iff.1 ht).1
        exact ⟨l[i]'(by omega), by rw [List.getElem?_eq_getElem]⟩
      have h3 := h.2 i q (Nat.le_refl _) hq
      have h4 := up_at hu hq ht hlt
      rw [e] at h4
      have := (kcm_neg _ _).2 h4
      omega

set_option maxRecDepth 20000 in
set_option maxHeartbeats 4000000 in
theorem bsearch_any (v : Value) (l : List Ov) (key : ByteArray) (w : World) (h : IsO w v l) (hu : Tm.Up l) (hl : l.length ≤ 1024) :
    Calls Try.prog 48 #[v, .string key, .func (.func 49) #[] #[]] w fun E w' => ∃ (i : Nat) (f : Bool), E = .returned (.tuple #[.int .i64 i, .bool f]) ∧ Below w.heap.size w w' ∧ Hid ((f = true ∧ ∃ o, l[i]? = some o ∧ Tm.get l key = some o) ∨ (f = false ∧ Tm.get l key = none)) := by
  obtain ⟨ao, cap, hsv, hcap, _⟩ := h.shape
  have HFULL := hide fun (h0 : 0 < l.length) => h.full h0
  subst hsv
  obtain ⟨n, hnn⟩ : ∃ n, l.length = n := ⟨_, rfl⟩
  rw [hnn] at HFULL hcap hl ⊢
  have HN := hide hnn
  have HU := hide hu
  have hent := Try.enters49
  clear h hnn hu
  go_enter Try.func48, Try.ntmps48
  go_wp2
  go_loopw [9, 10] (fun iv jv wr => ∃ (i j : Nat), i ≤ j ∧ j ≤ n ∧ iv = .int .i64 i ∧ jv = .int .i64 j ∧ Hid (Bin l key i j) ∧ Below w.heap.size w wr) (fun iv jv _ => (intOf jv).toNat - (intOf iv).toNat)
  case atStart => exact ⟨0, n, by omega, by omega, rfl, rfl, hide ⟨fun t o ht => by omega, fun t o ht ho => by have := (List.getElem?_eq_some_iff.1 ho).1; have := HN.out; omega⟩, Below.refl _ _⟩
  case round =>
    obtain ⟨i, j, hij, hjn, rfl, rfl, HB, bel⟩ := hrel
    have sz := bel.size
    by_cases hlt : i < j
    · obtain ⟨m, hm⟩ : ∃ m, m = (i + j) / 2 := ⟨_, rfl⟩
      obtain ⟨o, ho⟩ : ∃ o, l[m]? = some o := ⟨l[m]'(by have := HN.out; omega), by rw [List.getElem?_eq_getElem]⟩
      obtain ⟨b1, o1, cq, hvx, _, _, hB, hcell⟩ := HFULL.out (by omega)
      simp only [Value.slice.injEq, true_and] at hvx
      obtain ⟨rfl, rfl⟩ := hvx
      obtain ⟨c0, c1, c2⟩ := hcell m o ho
      have d0 := (bel.cell (p := ⟨b1, o1 + m * 3, none⟩) hB).trans c0
      have d1 := (bel.cell (p := ⟨b1, o1 + m * 3 + 1, none⟩) hB).trans c1
      have d2 := (bel.cell (p := ⟨b1, o1 + m * 3 + 2, none⟩) hB).trans c2
      rw [hm] at d0 d1 d2
      have HO := hide ho
      have hlt' : (i : Int) < j := by omega
      have hmn : ((i : Int) + j) / 2 < n := by omega
      have HM := hide hm
      have HC := hide (fun W => against_any o.p o.k o.v key W)
      obtain ⟨cc, hcc⟩ : ∃ c, kcm o.k key = c := ⟨_, rfl⟩
      rw [hcc] at HC
      have HCC := hide hcc
      clear c0 c1 c2 ho hcell hm hcc
      by_cases hneg : cc < 0
      · have HB2 := hide (HB.out.left HU.out HO.out (by rw [HCC.out]; exact hneg))
        go_wp2_with (go_at_fn 49; refine (HC.out _).mono ?_; rintro E w1 ⟨rfl, bel1⟩)
        have bel2 := bel.trans (bel1.mono sz)
        clear bel1
        go_wp2
        go_roundw
        case rel => exact ⟨m + 1, j, by have := HM.out; omega, hjn, by have := HM.out; congr 1; omega, rfl, HB2, bel2⟩
        case measure => simp [intOf]; have := HM.out; omega
      · have HB2 := hide (HB.out.right HU.out HO.out (by rw [HCC.out]; exact hneg))
        go_wp2_with (go_at_fn 49; refine (HC.out _).mono ?_; rintro E w1 ⟨rfl, bel1⟩)
        have bel2 := bel.trans (bel1.mono sz)
        clear bel1
        go_wp2
        go_roundw
        case rel => exact ⟨i, m, by have := HM.out; omega, by have := HM.out; omega, rfl, by have := HM.out; congr 1; omega, HB2, bel2⟩
        case measure => simp [intOf]; have := HM.out; omega
    · obtain rfl : j = i := by omega
      by_cases hin : j < n
      · obtain ⟨o, ho⟩ : ∃ o, l[j]? = some o := ⟨l[j]'(by have := HN.out; omega), by rw [List.getElem?_eq_getElem]⟩
        obtain ⟨b1, o1, cq, hvx, _, _, hB, hcell⟩ := HFULL.out (by omega)
        simp only [Value.slice.injEq, true_and] at hvx
        obtain ⟨rfl, rfl⟩ := hvx
        obtain ⟨c0, c1, c2⟩ := hcell j o ho
        have d0 := (bel.cell (p := ⟨b1, o1 + j * 3, none⟩) hB).trans c0
        have d1 := (bel.cell (p := ⟨b1, o1 + j * 3 + 1, none⟩) hB).trans c1
        have d2 := (bel.cell (p := ⟨b1, o1 + j * 3 + 2, none⟩) hB).trans c2
        have HO := hide ho
        have hin' : (j : Int) < n := by omega
        have HC := hide (fun W => against_any o.p o.k o.v key W)
        obtain ⟨cc, hcc⟩ : ∃ c, kcm o.k key = c := ⟨_, rfl⟩
        rw [hcc] at HC
        have HCC := hide hcc
        clear c0 c1 c2 ho hcell hcc
        obtain ⟨f, hf⟩ : ∃ f, (cc == 0) = f := ⟨_, rfl⟩
        have FIN : Hid ((f = true ∧ ∃ o, l[j]? = some o ∧ Tm.get l key = some o) ∨ (f = false ∧ Tm.get l key = none)) := hide (by
          by_cases hz : cc = 0
          · exact .inl ⟨by rw [← hf]; simp [hz], o, HO.out, Bin.found HU.out HO.out (by rw [HCC.out]; exact hz)⟩
          · refine .inr ⟨by rw [← hf]; simp [hz], HB.out.lost HU.out fun q hq => ?_⟩
            rw [HO.out] at hq
            cases hq
            rw [HCC.out]
            exact hz)
        go_wp2_with (go_at_fn 49; refine (HC.out _).mono ?_; rintro E w1 ⟨rfl, bel1⟩)
        have bel2 := bel.trans (bel1.mono sz)
        clear bel1
        go_wp2
        go_ret2
        exact ⟨j, f, rfl, bel2, FIN⟩
      · have hin' : ¬ (j : Int) < n := by omega
        have FIN : Hid (((false : Bool) = true ∧ ∃ o, l[j]? = some o ∧ Tm.get l key = some o) ∨ ((false : Bool) = false ∧ Tm.get l key = none)) := hide (.inr ⟨rfl, HB.out.lost HU.out fun q hq => by have := (List.getElem?_eq_some_iff.1 hq).1; have := HN.out; omega⟩)
        go_wp2
        go_ret2
        have NN : Hid (Tm.get l key = none) := hide (by rcases FIN.out with ⟨h, _⟩ | ⟨_, h⟩; cases h; exact h)
        first | exact ⟨j, false, rfl, bel, FIN⟩ | exact ⟨j, .inl ⟨rfl, bel, NN⟩⟩

end Go.Proofs.Ythchcnflflafeaa

/- Range over a function: places, what a round keeps; a body that never panics, round by round. -/
namespace Go.Proofs.Ythchcnflflafeaa
open Go.RowKit Go.Shelf
set_option linter.unusedVariables false

/-- A number's place. -/
abbrev Nx (L : Nat) := { i : Nat // i < L }

/-- The first k of them. -/
def upn (L : Nat) : Nat → List (Nx L)
  | 0 => []
  | k + 1 => upn L k ++ (if h : k < L then [⟨k, h⟩] else [])

theorem upn_next (L k : Nat) (h : k < L) : upn L (k + 1) = upn L k ++ [⟨k, h⟩] := by rw [upn, dif_pos h]

theorem upn_len (L : Nat) : ∀ k, k ≤ L → (upn L k).length = k
  | 0, _ => rfl
  | k + 1, h => by
    rw [upn_next L k (by omega), List.length_append, upn_len L k (by omega)]
    rfl

/-- What a round keeps. -/
def Kn (S : Nat → Prop) (W W' : World) : Prop := ∀ g, S g → W'.heap[g]? = W.heap[g]?

theorem Kn.trans {S : Nat → Prop} {A B C : World} (h : Kn S A B) (k : Kn S B C) : Kn S A C := fun g hg => (k g hg).trans (h g hg)

theorem kn_b {S : Nat → Prop} {w : World} (h : ∀ g, S g → g < w.heap.size) (W : World) (l : Nat) (o o' : Obj) (hl : w.heap.size ≤ l) (_ : W.heap[l]? = some o) (_ : o.isCells = false) (_ : o.isWalk = false) : Kn S W (W.putObj l o') :=
  fun g hg => World.putObj_heap_other (by have := h g hg; omega)

theorem cell_of_blk {W W' : World} {B : Nat} (h : W'.heap[B]? = W.heap[B]?) (j : Nat) : W'.cell? ⟨B, j, none⟩ = W.cell? ⟨B, j, none⟩ := World.cell?_of_block (show W'.heap[(⟨B, j, none⟩ : Addr).block]? = W.heap[(⟨B, j, none⟩ : Addr).block]? from h)

/-- What a function's body must come to, where it never panics. -/
def calmQ (Q : Exit → Act → World → Prop) : Exit → Act → World → Prop
  | .panic _, _, _ => False
  | e, a, w => Q e a w

theorem calm_wp {P : Program} {c : Code} {Q : Exit → Act → World → Prop} {a : Act} {w : World} (h : c.wp P (calmQ Q) a w) : c.wp P Q a w :=
  Go.wp_mono h fun e a w hq => by
    cases e <;> first | exact hq | exact hq.elim

/-- One round, the others hidden. -/
theorem rounds_cut {P : Program} {c : Code} {Q : Exit → Act → World → Prop} {n : Nat} {a : Act} {w : World} (h : ∀ R : Act → World → Prop, (∀ a w, Hid (Code.rounds P c Q n a w) → R a w) → c.wp P (Exit.then R Q) a w) : Code.rounds P c Q (n + 1) a w := by
  rw [rounds_succ]
  exact h _ fun a w h => h.out

end Go.Proofs.Ythchcnflflafeaa

/- slices.Backward of runs: what its iterator yields. -/
namespace Go.Proofs.Ythchcnflflafeaa
open Go.RowKit Go.Shelf
set_option linter.unusedVariables false
attribute [local go_sem] Oper.semAt_some

/-- The first k places from the end on. -/
def dn (L : Nat) : Nat → List (Nx L)
  | 0 => []
  | k + 1 => dn L k ++ (if h : k < L then [⟨L - 1 - k, by omega⟩] else [])

theorem dn_next (L k : Nat) (h : k < L) : dn L (k + 1) = dn L k ++ [⟨L - 1 - k, by omega⟩] := by rw [dn, dif_pos h]

theorem dn_len (L : Nat) : ∀ k, k ≤ L → (dn L k).length = k
  | 0, _ => rfl
  | k + 1, h => by
    rw [dn_next L k (by omega), List.length_append, dn_len L k (by omega)]
    rfl

/-- A run of the row, as a value. -/
def ptc (rs : List Cw) (x : Nx rs.length) : Cw := rs[x.1]'x.2
def cvv (c : Cw) : Value := .agg #[.int .i64 c.e, .int .i64 c.n, c.v]

set_option maxRecDepth 100000 in
set_option maxHeartbeats 4000000 in
theorem back_one (n : Nat) (hn : 1 ≤ n) (l B : Nat) (rs : List Cw) (sv : Value) (S : Nat → Prop) (hSB : S B) (hSv : ∀ b, sv.ownBlock = some b → S b) (hLm : rs.length ≤ 1048576) (J Jx : List (Nx rs.length) → World → Prop) (W : World) (hSW : ∀ g, S g → g < W.heap.size) (hJ : AbidesFrom W.heap.size J)
    (hY : ∀ pre x W1, J pre W1 → pre.length < rs.length → YieldAt Fence.wide (n - 1) Try.prog l #[.int .i64 x.1, cvv (ptc rs x)] W1 fun e W' => (e = .returned (.bool true) ∧ J (pre ++ [x]) W' ∧ Kn S W1 W') ∨ (e = .returned (.bool false) ∧ Jx (pre ++ [x]) W'))
    (hB : W.cell? ⟨B, 0, none⟩ = some sv) (his : RowC W sv rs) (h0 : J [] W) :
    CallsIn Fence.wide n Try.prog 84 #[.func (.yield l) #[] #[], .pointer (some ⟨B, 0, none⟩)] W fun e W' => (∃ v, e = .returned v) ∧ ((∃ xs, xs = dn rs.length rs.length ∧ J xs W') ∨ (∃ pre, (∃ k, k ≤ rs.length ∧ pre = dn rs.length k) ∧ Jx pre W')) := by
  have hro : Fence.wide.round = none := rfl
  obtain ⟨ao, cap, hsv, hcap, hcm⟩ := his.shape
  have HFULL := hide fun (h0 : 0 < rs.length) => his.full h0
  subst hsv
  have HSW := hide hSW
  have HJ0 := hide hJ
  have HY := hide hY
  have hw0 : IntKind.i64.wrap ((rs.length : Int) - 1) = (rs.length : Int) - 1 := wrap_i64_small _ (by omega) (by omega)
  clear his hSW hJ hY
  refine callsIn_of_wp Try.func84 rfl trivial ?_ hro
  simp only [Try.ntmps84, List.size_toArray, List.length_cons, List.length_nil, Nat.reduceAdd, Nat.reduceSub, Array.replicate_succ, Array.replicate_zero, List.push_toArray, List.append_toArray, List.nil_append, List.cons_append]
  gi_wp2
  gi_loopw [3] (fun iv wr => ∃ (k : Nat) (z : Int), k ≤ rs.length ∧ iv = .int .i64 z ∧ z = (rs.length : Int) - 1 - k ∧ Hid (J (dn rs.length k) wr) ∧ Kn S W wr) (fun iv _ => (intOf iv + 1).toNat)
  case atStart => exact ⟨0, (rs.length : Int) - 1, Nat.zero_le _, rfl, by omega, h0, fun _ _ => rfl⟩
  case round =>
    obtain ⟨k, z, hk, rfl, hz, HJ, hK⟩ := hrel
    have hbx := (cell_of_blk (hK B hSB) 0).trans hB
    by_cases hlt : k < rs.length
    · obtain ⟨i, hi⟩ : ∃ i, rs.length - 1 - k = i := ⟨_, rfl⟩
      have hil : i < rs.length := by omega
      obtain rfl : z = (i : Int) := by omega
      obtain ⟨b, off, cq, hvx, _, _, hb, hcell⟩ := HFULL.out (by omega)
      simp only [Value.slice.injEq, true_and] at hvx
      obtain ⟨rfl, rfl⟩ := hvx
      obtain ⟨c, hc⟩ : ∃ c, ptc rs ⟨i, hil⟩ = c := ⟨_, rfl⟩
      have hc' : rs[i]? = some c := by rw [List.getElem?_eq_getElem hil, ← hc]; rfl
      obtain ⟨c0, c1, c2⟩ := hcell i c hc'
      have hkb := hK b (hSv b rfl)
      have d0 := (cell_of_blk hkb (off + i * 3)).trans c0
      have d1 := (cell_of_blk hkb (off + i * 3 + 1)).trans c1
      have d2 := (cell_of_blk hkb (off + i * 3 + 2)).trans c2
      have HJN : Hid (∀ W3, J (dn rs.length k ++ [⟨i, hil⟩]) W3 → J (dn rs.length (k + 1)) W3) := hide fun W3 h => by
        rw [dn_next _ k hlt]
        subst hi
        exact h
      have HJX : Hid (∀ W3, Jx (dn rs.length k ++ [⟨i, hil⟩]) W3 → Jx (dn rs.length (k + 1)) W3) := hide fun W3 h => by
        rw [dn_next _ k hlt]
        subst hi
        exact h
      obtain ⟨fn, tmps, assign, body, hy, hR⟩ := HY.out _ ⟨i, hil⟩ wr HJ.out (by rw [dn_len _ k hk]; omega)
      rw [hc] at hy
      unfold cvv at hy
      have hlt' : (i : Int) < rs.length := by omega
      have hi0 : (0 : Int) ≤ (i : Int) := by omega
      have hw1 : IntKind.i64.wrap ((i : Int) - 1) = (i : Int) - 1 := wrap_i64_small _ (by omega) (by omega)
      have HR := hide hR
      have HK := hide hK
      have HI := hide hi
      clear hR hcell hSv hK c0 c1 c2 hkb hc hc' hz hi
      gi_wp2
      refine HR.out.mono ?_
      rintro e W3 (⟨rfl, hJ3, hk3⟩ | ⟨rfl, hJx3⟩)
      · have hJ4 : Hid (J (dn rs.length (k + 1)) W3) := hide (HJN.out W3 hJ3)
        have hK4 := HK.out.trans hk3
        clear hJ3
        gi_wp2
        go_roundw
        case rel => exact ⟨k + 1, (i : Int) - 1, by omega, by go_num, by have := HI.out; omega, hJ4, hK4⟩
        case measure => simp [intOf]
      · have hJ4 : Hid (Jx (dn rs.length (k + 1)) W3) := hide (HJX.out W3 hJx3)
        clear hJx3
        gi_wp2
        refine bodyPost_ret (results_none rfl _ _ _) rfl ?_
        exact ⟨⟨_, rfl⟩, .inr ⟨_, ⟨k + 1, by omega, rfl⟩, hJ4.out⟩⟩
    · obtain rfl : k = rs.length := by omega
      have hz' : ¬ (0 : Int) ≤ z := by omega
      clear hz
      gi_wp2
      go_end0
      exact ⟨⟨_, rfl⟩, .inl HJ.out⟩

theorem back_any (v : Value) (hv : ∃ a n c, v = .slice a n c) (w : World) : Calls Try.prog 47 #[v] w fun e w' => e = .returned (.func (.func 84) #[] #[.pointer (some ⟨w.heap.size, 0, none⟩)]) ∧ w' = w.alloc (.cells #[v] 47) := by
  obtain ⟨a, n, c, rfl⟩ := hv
  go_enter Try.func47, Try.ntmps47
  go_wp2
  go_ret
  exact ⟨rfl, rfl⟩

/-- The blocks that the iterator reads. -/
def SeqBB (B : Nat) (sv : Value) (g : Nat) : Prop := g = B ∨ sv.ownBlock = some g

theorem back_seq (n : Nat) (hn : 1 ≤ n) (B : Nat) (rs : List Cw) (sv : Value) (w : World) (hB : w.cell? ⟨B, 0, none⟩ = some sv) (hlt : ∀ g, SeqBB B sv g → g < w.heap.size) (his : RowC w sv rs) (hLm : rs.length ≤ 1048576) :
    SeqStopsK Fence.wide n Try.prog 84 #[.pointer (some ⟨B, 0, none⟩)] (fun x : Nx rs.length => #[.int .i64 x.1, cvv (ptc rs x)]) (Kn (SeqBB B sv)) (fun xs => xs = dn rs.length rs.length) (fun pre => ∃ k, k ≤ rs.length ∧ pre = dn rs.length k) rs.length w := fun l J Jx W hW hJ hJx hY h0 =>
  back_one n hn l B rs sv (SeqBB B sv) (.inl rfl) (fun b hb => .inr hb) hLm J Jx W (fun g hg => Nat.lt_of_lt_of_le (hlt g hg) hW.size) hJ hY ((hW.cell (p := ⟨B, 0, none⟩) (hlt B (.inl rfl))).trans hB) (his.below hW) h0

end Go.Proofs.Ythchcnflflafeaa
