/- The program's Open, Append, Sync and Cut. -/
import Derived.Test.YtimmohpnlieefaaVj
import Derived.Test.YtimmohpnlieefaaVl
import Derived.Test.YtimmohpnlieefaaPx
namespace Go.Proofs.Ytimmohpnlieefaa
open Go.RowKit
set_option linter.unusedVariables false

/-- What Open answers of a disk. -/
def opE (st : Dm.Ds) (l : List Cm.Cv) : Int := if st.on = false then 6 else (Wl.trm st (Wl.lgb l).length).1
def opD (st : Dm.Ds) (l : List Cm.Cv) : Dm.Ds := if st.on = false then st else (Wl.trm st (Wl.lgb l).length).2

theorem trm_e (st : Dm.Ds) (n : Nat) : (Wl.trm st n).1 = 0 ∨ (Wl.trm st n).1 = 6 := by
  unfold Wl.trm
  split
  · exact .inl rfl
  split
  · exact .inr rfl
  split
  · exact .inr rfl
  · exact .inl rfl

theorem cut_e {st : Dm.Ds} {n : Nat} (ho : st.on = true) (hn : n ≤ (Wl.hld st).length) : (Dm.cutD st 0 n).1 = 0 ∨ (Dm.cutD st 0 n).1 = 6 := by
  unfold Dm.cutD
  rw [if_neg (by simp [ho]), if_neg (by decide), if_neg ?_]
  · split
    · exact .inr rfl
    · exact .inl rfl
  · unfold Wl.hld at hn
    simp
    omega

theorem sync_e (st : Dm.Ds) : (Dm.sync st).1 = 0 ∨ (Dm.sync st).1 = 6 := by
  unfold Dm.sync
  split
  · exact .inr rfl
  split
  · exact .inr rfl
  · exact .inl rfl

theorem wrt_e : ∀ (n : Nat) (st : Dm.Ds) (bs : List Int), (Dm.wrt 0 n st bs).1 = 0 ∨ (Dm.wrt 0 n st bs).1 = 6
  | 0, _, _ => .inl rfl
  | n + 1, st, bs => by
    unfold Dm.wrt
    split
    · exact .inl rfl
    split
    · exact .inr rfl
    · exact wrt_e n _ _

theorem write_e {st : Dm.Ds} (bs : List Int) : (Dm.write st 0 bs).1 = 0 ∨ (Dm.write st 0 bs).1 = 6 := by
  unfold Dm.write
  split
  · exact .inr rfl
  rw [if_neg (by decide)]
  exact wrt_e _ _ _

/-- Trim, as the program goes about it. -/
theorem trm_go {st : Dm.Ds} {n : Nat} (ho : st.on = true) (hn : n ≤ (Wl.hld st).length) (hne : (Wl.hld st).length ≠ n) :
    (if (Dm.cutD st 0 n).1 ≠ 0 then (Dm.cutD st 0 n).1 else (Dm.sync (Dm.cutD st 0 n).2).1) = (Wl.trm st n).1 ∧ (if (Dm.cutD st 0 n).1 ≠ 0 then (Dm.cutD st 0 n).2 else (Dm.sync (Dm.cutD st 0 n).2).2) = (Wl.trm st n).2 := by
  unfold Wl.trm
  rw [if_neg hne]
  rcases cut_e ho hn with e | e
  · rw [e]
    simp only [ne_eq, not_true, if_false]
    rcases sync_e (Dm.cutD st 0 n).2 with f | f
    · rw [f]; simp
    · rw [f]; simp
  · rw [e]
    simp

theorem hld_len {st : Dm.Ds} {t u : Nat} (h : Big t u st) : (Wl.hld st).length ≤ t := by
  unfold Wl.hld
  exact Nat.le_trans (Dm.hold_len st.wait (st.sure 0) 0) (h.1.1 0)

theorem rdB_hld {st : Dm.Ds} (ho : st.on = true) : rdB st 0 = Wl.hld st ∧ rdE st 0 = 0 := by
  unfold rdB rdE
  rw [if_neg (by simp [ho]), if_neg (by decide), if_neg (by simp [ho]), if_neg (by decide)]
  exact ⟨rfl, rfl⟩

theorem Out.flip {F : Nat → Prop} {w w1 w2 : World} (h : Out F w1 w2) (hb : Below w.heap.size w w1) : Out F w w2 := (Out.of_below (F := F) hb).trans h fun g hg => .inl hg

set_option maxRecDepth 20000 in
set_option maxHeartbeats 2000000 in
theorem wopen_any (q : Nat) (F : Nat → Prop) (w : World) (st : Dm.Ds) (h : Pk q F w st) (hs : Big 100000000 800000 st) :
    Calls Try.prog 9 #[.pointer (some ⟨q, 0, none⟩)] w fun E w' => ∃ l, Hid (Wl.Lg 0 0 (Wl.hld st) l) ∧ PStep q F w w' (opD st l) ∧
      ((opE st l ≠ 0 ∧ E = .returned (.tuple #[.pointer none, .int .i64 (opE st l)])) ∨ (opE st l = 0 ∧ ∃ p G, E = .returned (.tuple #[.pointer (some ⟨p, 0, none⟩), .int .i64 0]) ∧ Wk p q G w' l false ∧ ∀ g, G g → w.heap.size ≤ g)) := by
  have HR := hide (dread_any q F w st 0 h (fun f => Nat.le_trans (hs.1.1 f) (by decide)) (Nat.le_trans hs.1.2.1 (by decide)))
  have HK := hide h
  have HS := hide hs
  cases hon : st.on with
  | false =>
    obtain ⟨l, hl⟩ := Wl.lg_is 0 0 (Wl.hld st)
    have e1 : opE st l = 6 := by unfold opE; rw [if_pos hon]
    have e2 : opD st l = st := by unfold opD; rw [if_pos hon]
    have E1 := hide e1
    have E2 := hide e2
    have HL := hide hl
    have er : rdE st 0 = 6 := by unfold rdE; rw [if_pos hon]
    rw [er] at HR
    clear h hs hon e1 e2 hl er
    go_enter Try.func9, Try.ntmps9
    go_wp2_with fail
    refine HR.out.mono ?_
    rintro E w1 ⟨v, rfl, own, bel⟩
    obtain ⟨a, c, hv, _, _⟩ := own.is.shape
    subst hv
    have PS := hide (PStep.same HK.out bel)
    clear own bel HR
    go_wp2
    go_ret2
    exact ⟨l, HL, by rw [E2.out]; exact PS.out, .inl ⟨by rw [E1.out]; decide, by rw [E1.out]; rfl⟩⟩
  | true =>
    obtain ⟨er, ee⟩ := rdB_hld hon
    rw [er, ee] at HR
    have hlen := hld_len hs
    have HO := hide hon
    clear h hs er ee
    go_enter Try.func9, Try.ntmps9
    go_wp2_with fail
    refine HR.out.mono ?_
    rintro E w1 ⟨v, rfl, own, bel⟩
    have HW := hide (wread_any v (Wl.hld st) w1 own.is (by omega))
    obtain ⟨a, c, hv, _, _⟩ := own.is.shape
    have K1 := hide (HK.out.below bel)
    subst hv
    have sz1 := bel.size
    clear own HR
    go_wp2_with fail
    refine HW.out.mono ?_
    rintro E w2 ⟨l, vc, ve, rs, rfl, L2, ap, bel2, LG⟩
    obtain ⟨W, hW, szW, belW, bW⟩ := blk_step w2 #[.pointer (some ⟨q, 0, none⟩), .bool false, vc, ve] 50
    have sz2 := bel2.size
    have hv : WkV w2.heap.size q W l false vc ve rs := ⟨bW, (L2.below belW).rebase (Nat.zero_le _)⟩
    have ge : ∀ g, (g = w2.heap.size ∨ LB vc ve rs g) → w.heap.size ≤ g := by
      rintro g (e | e)
      · omega
      · have := L2.ge g e
        omega
    have b0W : Below w.heap.size w W := (bel.trans (bel2.mono bel.size)).trans (belW.mono (by omega))
    have HLen := hide (wlength_v w2.heap.size q W l false vc ve rs hv)
    have hle : (Wl.lgb l).length ≤ (Wl.hld st).length := LG.out.2.1.length_le
    obtain ⟨x1, y1, hvc, _, _⟩ := hv.log.r.row.row.shape
    obtain ⟨x2, y2, hve, _, _⟩ := hv.log.r.en.is.shape
    have HV := hide hv
    have GE := hide ge
    subst hvc hve
    clear L2 ap bel2 belW bW hv ge HW
    obtain ⟨z, hz⟩ : ∃ z, (Wl.lgb l).length = z := ⟨_, rfl⟩
    rw [hz] at HLen hle
    have HZ := hide hz
    clear hz
    go_wp2_with fail
    refine HLen.out.mono ?_
    rintro E w3 ⟨rfl, m, rfl⟩
    have b03 := below_drewN b0W m
    have K3 := hide (HK.out.below b03)
    have W3 : Hid (Wk w2.heap.size q (fun g => g = w2.heap.size ∨ LB _ _ rs g) (W.drewN m) l false) := hide (Wk.below ⟨_, _, rs, HV.out, rfl⟩ (below_drewN (Below.refl _ _) m))
    by_cases hq : (Wl.hld st).length = z
    · have e1 : opE st l = 0 := by unfold opE Wl.trm; rw [if_neg (by rw [HO.out]; decide), if_pos (by rw [HZ.out]; exact hq)]
      have e2 : opD st l = st := by unfold opD Wl.trm; rw [if_neg (by rw [HO.out]; decide), if_pos (by rw [HZ.out]; exact hq)]
      have E1 := hide e1
      have E2 := hide e2
      have hb : (((Wl.hld st).length : Int) == (z : Int)) = true := by simp [hq]
      have B3 := hide b03
      clear e1 e2 HLen b03 K1
      go_wp2
      go_ret2
      exact ⟨l, LG, by rw [E2.out]; exact PStep.same HK.out B3.out, .inr ⟨E1.out, _, _, rfl, W3.out, GE.out⟩⟩
    · have hb : (((Wl.hld st).length : Int) == (z : Int)) = false := by simp; omega
      have HL2 := hide (show Calls Try.prog 25 #[.pointer (some ⟨w2.heap.size, 0, none⟩)] (W.drewN m) fun E w' => E = .returned (.int .i64 z) ∧ ∃ n, w' = W.drewN n from by
        have := wlength_v w2.heap.size q (W.drewN m) l false _ _ rs ⟨by have := HV.out.blk; exact this, HV.out.log.below (below_drewN (Below.refl _ _) m)⟩
        rw [HZ.out] at this
        refine this.mono ?_
        rintro E w' ⟨rfl, n, rfl⟩
        exact ⟨rfl, m + n, by rw [World.drewN_drewN]⟩)
      clear HLen b03 K1 K3 W3
      go_wp2_with fail
      refine HL2.out.mono ?_
      rintro E w4 ⟨rfl, n, rfl⟩
      have b04 := below_drewN b0W n
      have W4 : Wk w2.heap.size q (fun g => g = w2.heap.size ∨ LB _ _ rs g) (W.drewN n) l false := Wk.below ⟨_, _, rs, HV.out, rfl⟩ (below_drewN (Below.refl _ _) n)
      have K4 := HK.out.below b04
      have HT := hide (wtrim_any q F (W.drewN n) st (z : Int) K4 HS.out)
      obtain ⟨t1, t2⟩ := trm_go HO.out hle hq
      rw [t1, t2] at HT
      have e1 : opE st l = (Wl.trm st z).1 := by unfold opE; rw [if_neg (by rw [HO.out]; decide), HZ.out]
      have e2 : opD st l = (Wl.trm st z).2 := by unfold opD; rw [if_neg (by rw [HO.out]; decide), HZ.out]
      rw [← e1, ← e2] at HT
      have e01 : opE st l = 0 ∨ opE st l = 6 := by rw [e1]; exact trm_e st z
      have HB4 := hide b04
      have HW4 := hide W4
      have HK4 := hide K4
      clear e1 e2 t1 t2 HL2 b04 K4 W4
      go_wp2_with fail
      refine HT.out.mono ?_
      rintro E w5 ⟨rfl, PS⟩
      have P0 := hide (PStep.pre HB4.out PS)
      have W5 : Hid (Wk w2.heap.size q (fun g => g = w2.heap.size ∨ LB _ _ rs g) w5 l false) := hide (by
        obtain ⟨F', _, ho, _⟩ := PS
        exact HW4.out.out ho (wk_pk HW4.out HK4.out))
      generalize hoe : opE st l = oe at *
      have HOE := hide hoe
      clear PS HT HB4 hoe
      rcases e01 with rfl | rfl
      · go_wp2
        go_ret2
        exact ⟨l, LG, P0.out, .inr ⟨HOE.out, _, _, rfl, W5.out, GE.out⟩⟩
      · go_wp2
        go_ret2
        exact ⟨l, LG, P0.out, .inl ⟨by rw [HOE.out]; decide, by rw [HOE.out]; rfl⟩⟩

/-- A wal's sizes. -/
def WBig (s : Wl.Ws) : Prop := Big 90000000 700000 s.d

theorem WBig.big {s : Wl.Ws} (h : WBig s) : Big 100000000 800000 s.d := Big.mono h (by decide) (by decide)

set_option maxHeartbeats 1000000 in
theorem wsync_any (p q : Nat) (F : Nat → Prop) (w : World) (s : Wl.Ws) (h : WW p q F w s) (hs : WBig s) :
    Calls Try.prog 21 #[.pointer (some ⟨p, 0, none⟩)] w fun E w' => E = .returned (.int .i64 (Wl.wsyn s).1) ∧ WStep p q F w w' (Wl.wsyn s).2 := by
  have HR := hide (wrefuses_any p q F w s h)
  have HH := hide h
  have hb := hs.big
  unfold Wl.wsyn
  cases ha : Wl.ask s with
  | true =>
    simp only [if_true]
    clear h hs
    go_enter Try.func21, Try.ntmps21
    go_wp2_with fail
    refine HR.out.mono ?_
    rintro E w1 (⟨_, rfl, J⟩ | ⟨h0, _⟩)
    · have J := hide J
      go_wp2
      go_ret
      exact ⟨rfl, J.out⟩
    · rw [ha] at h0
      cases h0
  | false =>
    simp only [Bool.false_eq_true, if_false]
    obtain ⟨F1, G1, h1, h2, rfl⟩ := h
    have HS := hide (sync_any q F1 w s.d h1 (fun f => Nat.le_trans (hb.1.1 f) (by decide)) (Nat.le_trans hb.1.2.1 (by decide)) hb.2 (Nat.lt_of_le_of_lt hb.1.2.2 (by decide)))
    obtain ⟨vc, ve, rs, hv, rfl⟩ := h2
    have c0 : w.cell? ⟨p, 0, none⟩ = some (.pointer (some ⟨q, 0, none⟩)) := blk_cell hv.blk 0 rfl
    have h2 : Hid (Wk p q (fun g => g = p ∨ LB vc ve rs g) w s.l s.bk) := hide ⟨vc, ve, rs, hv, rfl⟩
    have H1 := hide h1
    have e01 := sync_e s.d
    have HD : Hid (∀ x : Int, (x = 0 ∨ x = 6) → (x == 6) = decide (x ≠ 0)) := hide (fun x hx => by rcases hx with rfl | rfl <;> rfl)
    clear h1 hs hb hv
    go_enter Try.func21, Try.ntmps21
    go_wp2_with fail
    refine HR.out.mono ?_
    rintro E w1 (⟨h0, _⟩ | ⟨_, rfl, rfl⟩)
    · rw [ha] at h0
      cases h0
    clear HR
    go_wp2_with fail
    refine HS.out.mono ?_
    rintro E w2 ⟨rfl, PS⟩
    obtain ⟨F2, k1, k2, k3, k4⟩ := WW.disk H1.out h2.out PS
    have HE := hide (wheed_any p q _ w2 ⟨(Dm.sync s.d).2, s.l, s.bk⟩ (Dm.sync s.d).1 ⟨F2, _, k1, k2, rfl⟩)
    simp only at HE
    rw [HD.out _ e01] at HE
    have K3 := hide k3
    have K4 := hide k4
    clear PS k1 k2 k3 k4 HS h2 H1 HD
    go_wp2_with fail
    refine HE.out.mono ?_
    rintro E w3 ⟨rfl, J⟩
    have J := hide (WStep.trans (K3.out.mono fun g hg => .inl (Or.inl hg)) (fun g hg => by
      rcases hg with hg | hg
      · rcases K4.out g hg with e | e
        · exact .inl (.inl e)
        · exact .inr e
      · exact .inl (.inr hg)) J)
    go_wp2
    go_ret
    exact ⟨rfl, J.out⟩

end Go.Proofs.Ytimmohpnlieefaa
