/- The program's Cut. -/
import Derived.Test.YtimmohpnlieefaaVo
namespace Go.Proofs.Ytimmohpnlieefaa
open Go.RowKit
set_option linter.unusedVariables false

theorem WW.c0 {p q : Nat} {F : Nat → Prop} {w : World} {s : Wl.Ws} (h : WW p q F w s) : w.cell? ⟨p, 0, none⟩ = some (.pointer (some ⟨q, 0, none⟩)) := by
  obtain ⟨F1, G1, h1, ⟨vc, ve, rs, hv, rfl⟩, rfl⟩ := h
  exact blk_cell hv.blk 0 rfl

theorem WStep.c0 {p q : Nat} {F : Nat → Prop} {w w' : World} {s : Wl.Ws} (h : WStep p q F w w' s) : w'.cell? ⟨p, 0, none⟩ = some (.pointer (some ⟨q, 0, none⟩)) := by
  obtain ⟨F', h, _, _⟩ := h
  exact h.c0

/-- A step more. -/
theorem WStep.next {p q : Nat} {F : Nat → Prop} {w w1 w2 : World} {s s' : Wl.Ws} (h : WStep p q F w w1 s) (k : ∀ F1, WW p q F1 w1 s → WStep p q F1 w1 w2 s') : WStep p q F w w2 s' := by
  obtain ⟨F1, h1, h2, h3⟩ := h
  exact WStep.trans h2 h3 (k F1 h1)

/-- The disk alone. -/
theorem WW.step {p q : Nat} {F : Nat → Prop} {w w' : World} {s : Wl.Ws} {st' : Dm.Ds} (h : WW p q F w s) (k : ∀ F1, Pk q F1 w s.d → (∀ g, F1 g → F g) → PStep q F1 w w' st') : WStep p q F w w' ⟨st', s.l, s.bk⟩ := by
  obtain ⟨F1, G1, h1, h2, rfl⟩ := h
  obtain ⟨F2, k1, k2, k3, k4⟩ := WW.disk h1 h2 (k F1 h1 fun g hg => .inl hg)
  refine ⟨_, ⟨F2, G1, k1, k2, rfl⟩, k3.mono fun g hg => .inl (.inl hg), ?_⟩
  rintro g (e | e)
  · rcases k4 g e with e | e
    · exact .inl (.inl e)
    · exact .inr e
  · exact .inl (.inr e)

theorem wheed_step (p q : Nat) (F : Nat → Prop) (w W : World) (s : Wl.Ws) (e : Int) (h : WStep p q F w W s) :
    Calls Try.prog 44 #[.pointer (some ⟨p, 0, none⟩), .int .i64 e] W fun E w' => E = .returned (.int .i64 e) ∧ WStep p q F w w' ⟨s.d, s.l, e == 6⟩ := by
  obtain ⟨F1, h1, h2, h3⟩ := h
  refine (wheed_any p q F1 W s e h1).mono ?_
  rintro E w' ⟨rfl, k⟩
  exact ⟨rfl, WStep.trans h2 h3 k⟩

/-- The log is cut in a wal. -/
theorem wltrim_any (p q : Nat) (F : Nat → Prop) (w : World) (s : Wl.Ws) (k : Nat) (h : WW p q F w s) (hk : k ≤ s.l.length) :
    Calls Try.prog 51 #[.pointer (some ⟨p, 2, none⟩), .int .i64 k] w fun E w' => E = .returned (.tuple #[]) ∧ WStep p q F w w' ⟨s.d, s.l.take k, s.bk⟩ := by
  obtain ⟨F1, G1, h1, ⟨vc, ve, rs, hv, rfl⟩, rfl⟩ := h
  refine (ltrim_any 0 p 2 50 _ w s.l vc ve rs k hv.blk rfl rfl (by decide) (by decide) (by decide) hv.log hk).mono ?_
  rintro E w' ⟨rfl, vc', ve', hB, hL, hs, ho⟩
  refine ⟨rfl, ww_log (N := w.heap.size) h1 hv (by rw [hB]; rfl) hL ho (fun g hg => .inl (hs g hg)) (Nat.le_refl _)⟩

set_option maxRecDepth 20000 in
set_option maxHeartbeats 2000000 in
theorem wcut_any (p q : Nat) (F : Nat → Prop) (w : World) (s : Wl.Ws) (tt : Int) (h : WW p q F w s) (hs : WBig s) (hin : Wl.ask s = false → (Wl.lgb s.l).length ≤ (Wl.hld s.d).length) :
    Calls Try.prog 14 #[.pointer (some ⟨p, 0, none⟩), .int .i64 tt] w fun E w' => E = .returned (.int .i64 (Wl.wcut s tt).1) ∧ WStep p q F w w' (Wl.wcut s tt).2 := by
  have HR := hide (wrefuses_any p q F w s h)
  have HH := hide h
  have hb := hs.big
  cases ha : Wl.ask s with
  | true =>
    have e1 : Wl.wcut s tt = (6, Wl.brk s) := by unfold Wl.wcut; rw [ha]; rfl
    rw [e1]
    clear h hs hin e1 hb
    go_enter Try.func14, Try.ntmps14
    go_wp2_with fail
    refine HR.out.mono ?_
    rintro E w1 (⟨_, rfl, J⟩ | ⟨h0, _⟩)
    · have J := hide J
      go_wp2
      go_ret
      exact ⟨rfl, J.out⟩
    · rw [ha] at h0
      cases h0
  | false =>
    have hle := hin ha
    have hgl := good_len h.good
    have HEnd : Hid (Calls Try.prog 49 #[.pointer (some ⟨p, 2, none⟩)] w fun E w' => E = .returned (.int .i64 s.l.length) ∧ w = w') := hide (by
      obtain ⟨F1, G1, h1, ⟨vc, ve, rs, hv, rfl⟩, rfl⟩ := h
      have := lend_any p 2 w vc rs (blk_cell hv.blk 2 rfl) hv.log.r.row.row
      rw [hv.log.len] at this
      exact this)
    by_cases hneg : tt < 0
    · have e1 : Wl.wcut s tt = (2, s) := by unfold Wl.wcut; rw [ha, if_neg (by decide), if_pos (.inl hneg)]
      rw [e1]
      clear h hs hin e1 hb hle HEnd
      go_enter Try.func14, Try.ntmps14
      go_wp2_with fail
      refine HR.out.mono ?_
      rintro E w1 (⟨h0, _⟩ | ⟨_, rfl, rfl⟩)
      · rw [ha] at h0
        cases h0
      go_wp2
      go_ret
      exact ⟨rfl, WStep.same HH.out (Below.refl _ _)⟩
    · by_cases hbig : (s.l.length : Int) < tt
      · have e1 : Wl.wcut s tt = (2, s) := by unfold Wl.wcut; rw [ha, if_neg (by decide), if_pos (.inr hbig)]
        rw [e1]
        clear h hs hin e1 hb hle
        go_enter Try.func14, Try.ntmps14
        go_wp2_with fail
        refine HR.out.mono ?_
        rintro E w1 (⟨h0, _⟩ | ⟨_, rfl, rfl⟩)
        · rw [ha] at h0
          cases h0
        clear HR
        go_wp2_with fail
        refine HEnd.out.mono ?_
        rintro E w1 ⟨rfl, rfl⟩
        go_wp2
        go_ret
        exact ⟨rfl, WStep.same HH.out (Below.refl _ _)⟩
      · obtain ⟨k, rfl⟩ : ∃ k : Nat, tt = k := ⟨tt.toNat, by omega⟩
        have hk : k ≤ s.l.length := by omega
        have hzle : (Wl.lgb (s.l.take k)).length ≤ (Wl.hld s.d).length := Nat.le_trans (lgb_take_le _ _) hle
        have hon : s.d.on = true := by
          unfold Wl.ask at ha
          revert ha
          cases s.bk <;> cases s.d.on <;> simp
        have e01 := cut_e hon hzle
        have e1 : Wl.wcut s k = if (Dm.cutD s.d 0 (Wl.lgb (s.l.take k)).length).1 ≠ 0 then ((Dm.cutD s.d 0 (Wl.lgb (s.l.take k)).length).1, ⟨(Dm.cutD s.d 0 (Wl.lgb (s.l.take k)).length).2, s.l, true⟩) else (0, ⟨(Dm.cutD s.d 0 (Wl.lgb (s.l.take k)).length).2, s.l.take k, false⟩) := by
          unfold Wl.wcut
          rw [ha, if_neg (by decide), if_neg (by omega)]
          rfl
        have HP : Hid (∀ W, Below w.heap.size w W → Calls Try.prog 48 #[.pointer (some ⟨p, 2, none⟩), .int .i64 k] W fun E w' => E = .returned (.int .i64 (Wl.lgb (s.l.take k)).length) ∧ W = w') := hide fun W hW => by
          obtain ⟨F1, G1, h1, ⟨vc, ve, rs, hv, rfl⟩, rfl⟩ := h
          exact lplace_any p 2 W ve s.l k hk hgl (blk_cell ((hW.block p (blk_lt hv.blk)).trans hv.blk) 3 rfl) (hv.log.r.en.is.below hW)
        have HC : Hid (∀ W, Below w.heap.size w W → Calls Try.prog 50 #[.pointer (some ⟨q, 0, none⟩), .int .i64 0, .int .i64 (Wl.lgb (s.l.take k)).length] W fun E w' => E = .returned (.int .i64 (Dm.cutD s.d 0 (Wl.lgb (s.l.take k)).length).1) ∧ WStep p q F w w' ⟨(Dm.cutD s.d 0 (Wl.lgb (s.l.take k)).length).2, s.l, s.bk⟩ ∧ w'.cell? ⟨p, 0, none⟩ = some (.pointer (some ⟨q, 0, none⟩))) := hide fun W hW => by
          have hWW := h.below hW
          obtain ⟨F1, G1, h1, h2, hF⟩ := id hWW
          refine (cut_any q F1 W s.d 0 _ h1 (fun f => Nat.le_trans (hb.1.1 f) (by decide)) (Nat.le_trans hb.1.2.1 (by decide)) hb.2 (Nat.lt_of_le_of_lt hb.1.2.2 (by decide))).mono ?_
          rintro E w' ⟨rfl, PS⟩
          have ST : WStep p q F W w' ⟨(Dm.cutD s.d 0 (Wl.lgb (s.l.take k)).length).2, s.l, s.bk⟩ := by
            obtain ⟨F2, k1, k2, k3, k4⟩ := WW.disk h1 h2 PS
            rw [hF]
            refine ⟨_, ⟨F2, G1, k1, k2, rfl⟩, k3.mono fun g hg => .inl (.inl hg), ?_⟩
            rintro g (e | e)
            · rcases k4 g e with e | e
              · exact .inl (.inl e)
              · exact .inr e
            · exact .inl (.inr e)
          have := WStep.pre hW ST
          exact ⟨rfl, this, this.c0⟩
        have HHE : Hid (∀ W x st, WStep p q F w W ⟨st, s.l, s.bk⟩ → Calls Try.prog 44 #[.pointer (some ⟨p, 0, none⟩), .int .i64 x] W fun E w' => E = .returned (.int .i64 x) ∧ WStep p q F w w' ⟨st, s.l, x == 6⟩ ∧ w'.cell? ⟨p, 0, none⟩ = some (.pointer (some ⟨q, 0, none⟩))) := hide fun W x st hW => by
          refine (wheed_step p q F w W _ x hW).mono ?_
          rintro E w' ⟨rfl, k⟩
          exact ⟨rfl, k, k.c0⟩
        have HT : Hid (∀ W st, WStep p q F w W ⟨st, s.l, false⟩ → Calls Try.prog 51 #[.pointer (some ⟨p, 2, none⟩), .int .i64 k] W fun E w' => E = .returned (.tuple #[]) ∧ WStep p q F w w' ⟨st, s.l.take k, false⟩) := hide fun W st hW => by
          obtain ⟨F1, h1, h2, h3⟩ := hW
          refine (wltrim_any p q F1 W _ k h1 hk).mono ?_
          rintro E w' ⟨rfl, kk⟩
          exact ⟨rfl, WStep.trans h2 h3 kk⟩
        have p0 := h.c0
        generalize (Dm.cutD s.d 0 (Wl.lgb (s.l.take k)).length) = y at *
        obtain ⟨x, d'⟩ := y
        simp only at *
        have E1 := hide e1
        have hk' : ¬ ((s.l.length : Int) < (k : Int)) := by omega
        clear h hs hin hb hle e1 hzle hon hgl
        go_enter Try.func14, Try.ntmps14
        go_wp2_with fail
        refine HR.out.mono ?_
        rintro E w1 (⟨h0, _⟩ | ⟨_, rfl, rfl⟩)
        · rw [ha] at h0
          cases h0
        clear HR
        go_wp2_with fail
        refine HEnd.out.mono ?_
        rintro E w1 ⟨rfl, rfl⟩
        clear HEnd
        go_wp2_with fail
        go_region_held3 (fun w' => w'.cell? ⟨p, 0, none⟩ = some (.pointer (some ⟨q, 0, none⟩))) (first | exact p0 | exact p1 | exact p2 | go_keep)
          (first
          | (go_at_call 48; refine (HP.out _ ((Below.refl _ _).drew)).mono ?_; rintro E w2 ⟨rfl, rfl⟩)
          | (go_at_call 50; refine (HC.out _ ((Below.refl _ _).drew)).mono ?_; rintro E w3 ⟨rfl, J3, p1⟩; have J3 := hide J3)
          | (go_at_call 44; refine (HHE.out _ _ _ J3.out).mono ?_; rintro E w4 ⟨rfl, J4, p2⟩; have J4 := hide J4))
        all_goals
          clear HP HC HHE
          rcases e01 with rfl | rfl
          · have A7 : Hid (Wl.wcut s k = (0, ⟨d', s.l.take k, false⟩)) := hide (by rw [E1.out]; simp)
            have HT2 := hide (HT.out _ _ J4.out)
            clear E1 HT J3
            go_wp2_with fail
            refine HT2.out.mono ?_
            rintro E w5 ⟨rfl, J5⟩
            have J5 := hide J5
            go_wp2
            go_ret
            exact ⟨by rw [A7.out]; rfl, by rw [A7.out]; exact J5.out⟩
          · have A7 : Hid (Wl.wcut s k = (6, ⟨d', s.l, true⟩)) := hide (by rw [E1.out]; simp)
            clear E1 HT J3
            go_wp2
            go_ret
            exact ⟨by rw [A7.out]; rfl, by rw [A7.out]; exact J4.out⟩

end Go.Proofs.Ytimmohpnlieefaa
