/- Texts of one layer, one behind the other. -/
import Derived.Test.YtmmfakpphjjjfaaGreatG25
import Derived.Test.YtmmfakpphjjjfaaGreatG18
import Derived.Test.YtmmfakpphjjjfaaGreatG3
/- The document's runs: Flush. -/
namespace Go.Proofs.YtmmfakpphjjjfaaGreat
open Go.RowKit
open Bm (Ov)
set_option linter.unusedVariables false

theorem xfr (c : Cm.Cv) (h : Rn.chk c.e c.n c.l = 0) : apd [] (Rn.out c.e c.n c.l) = Rl.fr c := by
 have hz := Rn.out_small c.e c.n c.l
 unfold apd
 rw [if_pos (by omega), Rn.out_ok h]
 rfl

set_option maxRecDepth 20000 in
set_option maxHeartbeats 4000000 in
theorem xflush_any (x y : Nat) (F : Nat → Prop) (w : World) (s : Rl.Rs) (c : Cw) (h : XW x y F w s) (hs : RBig s) (hi : IsO w c.v c.l) (hf : FitO c.l) (h64 : In64 c.e ∧ In64 c.n) (hlo : c.l.length * 40 ≤ 140737488351232) (hcF : 0 < c.l.length → ∀ b, c.v.ownBlock = some b → ¬ F b) :
  Calls Tryz.prog 95 #[.pointer (some ⟨x, 0, none⟩), cmv c.e c.n c.v] w fun E w' => E = .returned (.int .i64 (Rl.flu s c.c).1) ∧ XwS x y F w w' (Rl.flu s c.c).2 := by
 obtain ⟨ao, cap, hcv, _, _⟩ := hi.shape
 obtain ⟨w1, hw1, sz1, bel1, hB0⟩ := blk_step w #[.int .i64 c.e, .int .i64 c.n, c.v] 112
 have c0 : w1.cell? ⟨w.heap.size, 0, none⟩ = some (.int .i64 c.e) := blk_cell hB0 0 rfl
 have c1 : w1.cell? ⟨w.heap.size, 1, none⟩ = some (.int .i64 c.n) := blk_cell hB0 1 rfl
 have c2 : w1.cell? ⟨w.heap.size, 2, none⟩ = some c.v := blk_cell hB0 2 rfl
 have hW1 := h.below bel1
 have HLT := hide h.lt
 have HCF := hide hcF
 obtain ⟨F1, v, rs, h1, h2, h3, hF⟩ := hW1
 have p0 : w1.cell? ⟨x, 0, none⟩ = some (.bool true) := blk_cell h2.blk 0 rfl
 have p1 : w1.cell? ⟨x, 1, none⟩ = some (.pointer (some ⟨y, 0, none⟩)) := blk_cell h2.blk 1 rfl
 have p3 : w1.cell? ⟨x, 3, none⟩ = some (.bool s.bk) := blk_cell h2.blk 3 rfl
 have f3 : w1.frozen? ⟨x, 3, none⟩ = false := blk_froz h2.blk 3
 have d3 : w1.cell? ⟨y, 6, none⟩ = some (.bool s.d.on) := by
  obtain ⟨ds, dwv, drs, hd⟩ := h1
  exact hd.c6
 have HN := hide (xnone_any x w1 p0)
 unfold cmv
 rw [hcv] at hw1 c2 ⊢
 cases ha : Rl.ask s with
 | true =>
  have e1 : Rl.flu s c.c = (6, Rl.brk s) := by unfold Rl.flu; rw [ha]; rfl
  rw [e1]
  have J := hide (XwS.pre bel1 ((show XW x y F w1 s from ⟨F1, v, rs, h1, h2, h3, hF⟩).flag true))
  cases hk : s.bk with
  | true =>
   rw [hk] at p3
   clear h hs hi hf h64 hlo hB0 bel1 e1 h1 h2 h3 hF hcF ha hk
   go_enter Tryz.func95, Tryz.ntmps95
   go_wp2_with fail
   refine HN.out.mono ?_
   rintro E w2 ⟨rfl, rfl⟩
   clear HN
   go_wp2
   go_ret
   exact ⟨rfl, J.out⟩
  | false =>
   have hon : s.d.on = false := by
    unfold Rl.ask at ha
    rw [hk] at ha
    simpa using ha
   rw [hk] at p3
   rw [hon] at d3
   clear h hs hi hf h64 hlo hB0 bel1 e1 h1 h2 h3 hF hcF ha hk hon
   go_enter Tryz.func95, Tryz.ntmps95
   go_wp2_with fail
   refine HN.out.mono ?_
   rintro E w2 ⟨rfl, rfl⟩
   clear HN
   go_wp2
   go_ret
   exact ⟨rfl, J.out⟩
 | false =>
  have hbk : s.bk = false := by
   unfold Rl.ask at ha
   cases hb : s.bk with
   | false => rfl
   | true => rw [hb] at ha; cases ha
  have hon : s.d.on = true := by
   unfold Rl.ask at ha
   rw [hbk] at ha
   simpa using ha
  rw [hbk] at p3
  rw [hon] at d3
  have HEN := hide (hencR_any c.e c.n c.v c.l w1 (hi.below bel1) hf (by omega))
  unfold cmv at HEN
  rw [hcv] at HEN
  obtain ⟨ch, hch⟩ : ∃ x, Rn.chk c.e c.n c.l = x := ⟨_, rfl⟩
  rw [hch] at HEN
  have KC := hide hch
  have HCV := hide hcv
  have IOX := hide hi
  have FO := hide (show FitO c.l ∧ (In64 c.e ∧ In64 c.n) ∧ c.l.length * 40 ≤ 140737488351232 from ⟨hf, h64, hlo⟩)
  have HB := hide hB0
  have B1 := hide bel1
  have HS := hide hs
  have HASK := hide ha
  have HBK := hide hbk
  have H1 := hide h1
  have H2 := hide h2
  have H3 := hide h3
  have HFF := hide hF
  have HW1 : Hid (XW x y F w1 s) := hide ⟨F1, v, rs, h1, h2, h3, hF⟩
  clear h hs hi hf h64 hlo hch hcv hB0 bel1 ha hbk hon h1 h2 h3 hF hcF
  go_enter Tryz.func95, Tryz.ntmps95
  go_wp2_with fail
  refine HN.out.mono ?_
  rintro E w2 ⟨rfl, rfl⟩
  clear HN
  go_wp2_with fail
  refine HEN.out.mono ?_
  rintro E w2 ⟨vb, rfl, own, bel2⟩
  have b02 := B1.out.trans (bel2.mono B1.out.size)
  have sz2 := bel2.size
  have hB2 := (bel2.block w.heap.size (by omega)).trans HB.out
  have g0 : w2.cell? ⟨w.heap.size, 0, none⟩ = some (.int .i64 c.e) := blk_cell hB2 0 rfl
  have g1 : w2.cell? ⟨w.heap.size, 1, none⟩ = some (.int .i64 c.n) := blk_cell hB2 1 rfl
  have g2 : w2.cell? ⟨w.heap.size, 2, none⟩ = some c.v := blk_cell hB2 2 rfl
  rw [HCV.out] at g2
  obtain ⟨ab, nb, cb, hvb⟩ : ∃ a n k, vb = .slice a n k := by
   obtain ⟨a1, k1, h1, _⟩ := own.is.shape
   exact ⟨a1, _, k1, h1⟩
  subst hvb
  have OB := hide own
  have HB2 := hide hB2
  have B02 := hide b02
  have HW2 := hide (HW1.out.below bel2)
  have K2 := hide (H1.out.below bel2)
  have V2 := hide (H2.out.below bel2)
  clear own bel2 HEN hB2 c0 c1 c2 b02 HW1 H1 H2 HB p0 p1 p3 f3 d3
  by_cases hc0 : ch = 0
  ·subst hc0
   have hfl : (Rl.fr c.c).length ≤ 52236 := Rl.fr_small KC.out
   have hrl := Rn.out_small c.e c.n c.l
   have hgl := Rl.good_len V2.out.log.good
   have hwr : IntKind.i64.wrap (c.e - 1) = c.e - 1 := by
    obtain ⟨_, a1, a2, a3, _⟩ := Rn.chk_zero KC.out
    exact wrap_i64_small _ (by omega) (by omega)
   have p0 : w2.cell? ⟨x, 0, none⟩ = some (.bool true) := blk_cell V2.out.blk 0 rfl
   have p1 : w2.cell? ⟨x, 1, none⟩ = some (.pointer (some ⟨y, 0, none⟩)) := blk_cell V2.out.blk 1 rfl
   have hxw : x < w2.heap.size := blk_lt V2.out.blk
   have TK : Hid (∀ W, Below w2.heap.size w2 W → Calls Tryz.prog 44 #[.pointer (some ⟨x, 0, none⟩)] W fun E w' => E = .returned (.int .i64 (Cm.lastN 0 s.l)) ∧ Below w2.heap.size w2 w') := hide fun W hbW => by
    refine (xend_any x y W s.l s.bk v rs (V2.out.below hbW)).mono ?_
    rintro E w' ⟨rfl, m, rfl⟩
    exact ⟨rfl, below_drewN hbW m⟩
   obtain ⟨ans, hans⟩ : ∃ b, (c.e - 1 != Cm.lastN 0 s.l) = b := ⟨_, rfl⟩
   have HA := hide hans
   generalize hle : Cm.lastN 0 s.l = le at *
   have HLE := hide hle
   clear hgl hle
   go_wp2_with fail
   go_region_held3 (fun w' => w'.cell? ⟨w.heap.size, 0, none⟩ = some (.int .i64 c.e)) (first | exact g0 | exact e0 | go_keep)
    (first
    | (go_at_call 44; refine (TK.out _ ((Below.refl _ _).drew)).mono ?_; rintro E w3 ⟨rfl, bel3⟩; have e0 := (bel3.cell (p := ⟨w.heap.size, 0, none⟩) (show w.heap.size < w2.heap.size by omega)).trans g0))
   have b03 := B02.out.trans (bel3.mono B02.out.size)
   have sz3 := bel3.size
   have V3 := hide (V2.out.below bel3)
   have K3 := hide (K2.out.below bel3)
   have O3 := hide (OB.out.below bel3)
   have HB3 := hide ((bel3.block w.heap.size (by omega)).trans HB2.out)
   have W3 := hide (HW2.out.below bel3)
   have B3 := hide b03
   clear V2 K2 OB HB2 TK g0 g1 g2 p0 p1 b03 bel3 HW2 B02
   cases ans with
   | true =>
    have hord : ¬ c.e - 1 = Cm.lastN 0 s.l := by rw [HLE.out]; simpa using HA.out
    have e4 : Rl.flu s c.c = (15, s) := by
     unfold Rl.flu
     rw [HASK.out, if_neg (by decide), if_neg (by intro hx; exact hx KC.out), if_pos (show c.c.e - 1 ≠ Cm.lastN 0 s.l from hord)]
    have E4 := hide e4
    clear e4 hord
    go_wp2
    go_ret
    exact ⟨by rw [E4.out]; rfl, by rw [E4.out]; exact XwS.pre B3.out (XwS.same W3.out (Below.refl _ _))⟩
   | false =>
    have hord : c.e - 1 = Cm.lastN 0 s.l := by rw [HLE.out]; simpa using HA.out
    have hgood : Rl.Good 0 (s.l ++ [c.c]) := (Rl.good_snoc V3.out.log.good).2 ⟨KC.out, hord⟩
    have HAP := hide (fappR_any (.slice none 0 0) (.slice ab nb cb) [] (Rn.out c.e c.n c.l) w3 (Is.nil _ _) O3.out.is (by simp) (by omega))
    rw [show apd [] (Rn.out c.e c.n c.l) = Rl.fr c.c from xfr c.c KC.out] at HAP
    have e4 : Rl.flu s c.c = if (Rl.ext s.d (Rl.fr c.c)).1 ≠ 0 then ((Rl.ext s.d (Rl.fr c.c)).1, ⟨(Rl.ext s.d (Rl.fr c.c)).2, s.l, true⟩) else (0, ⟨(Rl.ext s.d (Rl.fr c.c)).2, s.l ++ [c.c], false⟩) := by
     unfold Rl.flu
     rw [HASK.out, if_neg (by decide), if_neg (by intro hx; exact hx KC.out), if_neg (by intro hx; exact hx hord)]
    have E4 := hide e4
    have GD := hide hgood
    clear e4 hgood hord O3
    go_wp2_with fail
    refine HAP.out.mono ?_
    rintro E w4 ⟨vf, rfl, own4, bel4⟩
    have sz4 := bel4.size
    have V4 := hide (V3.out.below bel4)
    have K4 := hide (K3.out.below bel4)
    have HB4 := hide ((bel4.block w.heap.size (by omega)).trans HB3.out)
    have B4 := hide (B3.out.trans (bel4.mono B3.out.size))
    obtain ⟨af, nf, kf, hvf⟩ : ∃ a n k, vf = .slice a n k := by
     obtain ⟨a1, k1, h1, _⟩ := own4.is.shape
     exact ⟨a1, _, k1, h1⟩
    subst hvf
    have p1 : w4.cell? ⟨x, 1, none⟩ = some (.pointer (some ⟨y, 0, none⟩)) := blk_cell V4.out.blk 1 rfl
    have hs0 := HS.out
    have hcn := cnt_run hfl
    have HWR := hide (writeR_any y F1 w4 s.d 2 (.slice af nf kf) (Rl.fr c.c) K4.out own4.is (fun _ b hb hf => by
     have h1 := (own4.block b hb).1
     have h2 := HLT.out b (by rw [HFF.out]; exact .inl hf)
     omega) (by omega) (by have := hs0.1.2.1; omega) hs0.2 (by have := hs0.1.2.2; omega))
    have hs2 : Big 100000000 800000 (Dm.write s.d 2 (Rl.fr c.c)).2 := (big_write hs0 2 (Rl.fr c.c)).mono (by omega) (by omega)
    have HSY : Hid (∀ W G, Dk y G W (Dm.write s.d 2 (Rl.fr c.c)).2 → Calls Tryz.prog 75 #[.pointer (some ⟨y, 0, none⟩)] W fun E w' => E = .returned (.int .i64 (Dm.sync (Dm.write s.d 2 (Rl.fr c.c)).2).1) ∧ DStep y G W w' (Dm.sync (Dm.write s.d 2 (Rl.fr c.c)).2).2) := hide fun W G hk => syncR_any y G W _ hk (fun f => Nat.le_trans (hs2.1.1 f) (by decide)) (Nat.le_trans hs2.1.2.1 (by decide)) hs2.2 (Nat.lt_of_le_of_lt hs2.1.2.2 (by decide))
    have e01 := Rl.ext_e s.d (Rl.fr c.c)
    unfold Rl.ext at E4 e01
    generalize hwr2 : Dm.write s.d 2 (Rl.fr c.c) = yy at *
    obtain ⟨x1, d1⟩ := yy
    simp only at e01 E4 HWR HSY
    generalize hsy2 : Dm.sync d1 = zz at *
    obtain ⟨x2, d2⟩ := zz
    simp only at e01 E4 HSY
    clear hwr2 hsy2 own4 bel4 HAP V3 K3 HB3 B3 W3 hs2 hs0 hcn hfl hrl
    have NF : Hid (∀ g, XRB x v rs g → ¬ F1 g) := H3
    by_cases hx1 : x1 = 0
    ·subst hx1
     rw [if_neg (by decide)] at e01
     have E5 := E4.out
     simp only [ne_eq, not_true_eq_false, if_false] at E5
     have E4 := hide E5
     clear E5
     go_wp2_with fail
     refine HWR.out.mono ?_
     rintro E w5 ⟨rfl, DS⟩
     obtain ⟨F2, k1, k2, k3, k4, k5⟩ := XW.disk K4.out V4.out H3.out DS
     have T5 := hide (show Out F w4 w5 ∧ ∀ g, (F2 g ∨ XRB x v rs g) → F g ∨ w4.heap.size ≤ g from by
      refine ⟨k4.mono fun g hg => .inl (by rw [HFF.out]; exact .inl hg), ?_⟩
      rintro g (hg | hg)
      ·rcases k5 g hg with e | e
       ·exact .inl (by rw [HFF.out]; exact .inl e)
       ·exact .inr e
      ·exact .inl (by rw [HFF.out]; exact .inr hg))
     have HS5 := hide (HSY.out w5 F2 k1)
     have K5 := hide k1
     have V5 := hide k2
     have N5 := hide k3
     have q1 : w5.cell? ⟨x, 1, none⟩ = some (.pointer (some ⟨y, 0, none⟩)) := blk_cell V5.out.blk 1 rfl
     clear DS k1 k2 k3 k4 k5 HWR HSY K4 V4 p1
     go_wp2_with fail
     refine HS5.out.mono ?_
     rintro E w6 ⟨rfl, DS⟩
     obtain ⟨F3, k1, k2, k3, k4, k5⟩ := XW.disk K5.out V5.out N5.out DS
     have T6 := hide (show Out F w4 w6 ∧ ∀ g, (F3 g ∨ XRB x v rs g) → F g ∨ w4.heap.size ≤ g from by
      have o5 := T5.out.1.size
      refine ⟨T5.out.1.trans (k4.mono (G := fun g => F2 g ∨ XRB x v rs g) fun g hg => .inl (.inl hg)) T5.out.2, ?_⟩
      rintro g (hg | hg)
      ·rcases k5 g hg with e | e
       ·exact T5.out.2 g (.inl e)
       ·exact .inr (by omega)
      ·exact T5.out.2 g (.inr hg))
     have K6 := hide k1
     have V6 := hide k2
     have N6 := hide k3
     clear DS k1 k2 k3 k4 k5 HS5 K5 V5 N5 q1 T5
     rcases e01 with rfl | rfl
     ·have E5 := E4.out
      rw [if_neg (by decide)] at E5
      have E4 := hide E5
      clear E5
      obtain ⟨o6, s6⟩ := T6.out
      have sz6 := o6.size
      have hnF : ¬ F w.heap.size := fun hf => by have := HLT.out _ hf; omega
      have hB6 := (o6.block w.heap.size (by omega) hnF).trans HB4.out
      have x0 : w6.cell? ⟨w.heap.size, 0, none⟩ = some (.int .i64 c.e) := blk_cell hB6 0 rfl
      have x1 : w6.cell? ⟨w.heap.size, 1, none⟩ = some (.int .i64 c.n) := blk_cell hB6 1 rfl
      have x2 : w6.cell? ⟨w.heap.size, 2, none⟩ = some c.v := blk_cell hB6 2 rfl
      rw [HCV.out] at x2
      have i6 : IsO w6 c.v c.l := (IOX.out.below B4.out).out o6 HCF.out
      have hp6 : x < w6.heap.size := blk_lt V6.out.blk
      obtain ⟨la, ln, lk, hlv⟩ : ∃ a n k, v = .slice a n k := by
       obtain ⟨a1, k1, h1, _⟩ := V6.out.log.row.row.shape
       exact ⟨a1, _, k1, h1⟩
      subst hlv
      have y2 : w6.cell? ⟨x, 2, none⟩ = some (.slice la ln lk) := blk_cell V6.out.blk 2 rfl
      have X1 : Hid (Calls Tryz.prog 138 #[.agg #[.int .i64 c.e, .int .i64 c.n, .slice ao c.l.length cap]] w6.drew fun E w7 => ∃ v', E = .returned v' ∧ ∃ (vo : Value) (V : World), v' = .agg #[.int .i64 c.e, .int .i64 c.n, vo] ∧ (∃ a n k, vo = .slice a n k) ∧ w7.cell? ⟨x, 2, none⟩ = some (.slice la ln lk) ∧ (w7.cell? ⟨w.heap.size, 0, none⟩ = some (.int .i64 c.e) ∧ w7.cell? ⟨w.heap.size, 1, none⟩ = some (.int .i64 c.n) ∧ w7.cell? ⟨w.heap.size, 2, none⟩ = some (.slice ao c.l.length cap)) ∧ w7.alloc (.cells #[.int .i64 c.e, .int .i64 c.n, vo] 112) = V ∧ (V.cell? ⟨x, 2, none⟩ = some (.slice la ln lk) ∧ (V.cell? ⟨w.heap.size, 0, none⟩ = some (.int .i64 c.e) ∧ V.cell? ⟨w.heap.size, 1, none⟩ = some (.int .i64 c.n) ∧ V.cell? ⟨w.heap.size, 2, none⟩ = some (.slice ao c.l.length cap))) ∧
        Hid (∀ ty, ∃ v2 w2, (Builtin.append_ #[76, 76] ty #[.slice la ln lk, .slice (some ⟨w7.heap.size, 0, none⟩) 1 1]).run Tryz.prog V = .ok v2 w2 ∧ (XwS x y F w4 (w2.setCell ⟨x, 2, none⟩ v2) ⟨d2, s.l ++ [c.c], s.bk⟩ ∧ w2.cell? ⟨x, 2, none⟩ = some (.slice la ln lk) ∧ w2.frozen? ⟨x, 2, none⟩ = false ∧ ∃ a n k, v2 = .slice a n k))) := hide (by
       have := xcopy_any c.e c.n c.v c.l w6.drew (i6.drewN 1) FO.out.2.2
       unfold cmv at this
       rw [HCV.out] at this
       refine this.mono ?_
       rintro E w7 ⟨vo, rfl, own7, bel7⟩
       have b67 : Below w6.heap.size w6 w7 := (Below.refl w6.heap.size w6).drew.trans bel7
       obtain ⟨V, hV, V2, _⟩ := xr_push (c := ⟨c.e, c.n, vo, c.l⟩) K6.out V6.out N6.out b67 own7 GD.out 76
       have belV : Below w7.heap.size w7 V := by rw [← hV]; exact (Below.refl _ _).alloc (Nat.le_refl _) _
       have b6V := b67.trans (belV.mono b67.size)
       obtain ⟨a1, k1, h1, _⟩ := own7.is.shape
       refine ⟨_, rfl, vo, V, rfl, ⟨a1, _, k1, h1⟩, (b67.cell (p := ⟨x, 2, none⟩) hp6).trans y2, ⟨(b67.cell (p := ⟨w.heap.size, 0, none⟩) (show w.heap.size < w6.heap.size by omega)).trans x0, (b67.cell (p := ⟨w.heap.size, 1, none⟩) (show w.heap.size < w6.heap.size by omega)).trans x1, (b67.cell (p := ⟨w.heap.size, 2, none⟩) (show w.heap.size < w6.heap.size by omega)).trans x2⟩, hV, ⟨V2, (b6V.cell (p := ⟨w.heap.size, 0, none⟩) (show w.heap.size < w6.heap.size by omega)).trans x0, (b6V.cell (p := ⟨w.heap.size, 1, none⟩) (show w.heap.size < w6.heap.size by omega)).trans x1, (b6V.cell (p := ⟨w.heap.size, 2, none⟩) (show w.heap.size < w6.heap.size by omega)).trans x2⟩, hide fun ty => ?_⟩
       obtain ⟨V', hV', V2', v2', w2', hr', q1', q2', q3', J'⟩ := xr_push (c := ⟨c.e, c.n, vo, c.l⟩) K6.out V6.out N6.out b67 own7 GD.out ty
       have eV : V' = V := hV'.symm.trans hV
       subst eV
       exact ⟨v2', w2', hr', XwS.trans o6 s6 J', q1', q2', q3'⟩)
      clear hB6 i6 V6 K6 T6 N6 o6 s6
      go_wp2_with fail
      go_region_law (first
       | (have ow := XX; refine step_append_at rfl (.tmp 67) (.tmp 70) 76 rfl (.slice la ln lk) (.slice (some ⟨w7.heap.size, 0, none⟩) 1 1) (by first | (simp [Act.eval]; done) | (simp [Act.eval, Act.put]; done)) (by first | (simp [Act.eval]; done) | (simp [Act.eval, Act.put]; done)) XX.out ?_; rintro v8 w8 ⟨J, d8, g8, a8, n8, k8, rfl⟩; have J := hide J)
       | (refine call_at rfl 138 #[.tmp 68] #[112] rfl Tryz.enters138 #[.agg #[.int .i64 c.e, .int .i64 c.n, .slice ao c.l.length cap]] (by first | (simp [Act.eval]; done) | (simp [Act.eval, Act.put]; done)) X1.out ?_; rintro v7 w7 ⟨vo, V, rfl, ⟨oa, on, ok, rfl⟩, z2, ⟨b0, b1, b2⟩, hV, ⟨z3, b3, b4, b5⟩, XX⟩))
      all_goals
       have JJ := hide (XwS.pre B4.out J.out)
       clear J
       go_wp2
       go_ret
       refine ⟨by rw [E4.out]; rfl, ?_⟩
       rw [E4.out]
       have := JJ.out
       rw [HBK.out] at this
       exact this
     ·have E5 := E4.out
      rw [if_pos (by decide)] at E5
      have E4 := hide E5
      clear E5
      have HFL := hide ((show XW x y (fun g => F3 g ∨ XRB x v rs g) w6 ⟨d2, s.l, s.bk⟩ from ⟨F3, v, rs, K6.out, V6.out, N6.out, rfl⟩).flag true)
      have p3 := blk_cell V6.out.blk 3 rfl
      have f3 := blk_froz V6.out.blk 3
      simp only [List.getElem_toArray, List.getElem_cons_zero, List.getElem_cons_succ] at p3
      have JJ := hide (XwS.pre B4.out (XwS.trans T6.out.1 T6.out.2 HFL.out))
      clear HFL T6 V6 K6 N6
      go_wp2
      go_ret
      exact ⟨by rw [E4.out]; rfl, by rw [E4.out]; exact JJ.out⟩
    ·rw [if_pos hx1] at e01
     have hx6 : x1 = 6 := by
      rcases e01 with e | e
      ·exact absurd e hx1
      ·exact e
     subst hx6
     have E5 := E4.out
     rw [if_pos (show (6 : Int) ≠ 0 by decide), if_pos (show (6 : Int) ≠ 0 by decide)] at E5
     have E4 := hide E5
     clear E5
     go_wp2_with fail
     refine HWR.out.mono ?_
     rintro E w5 ⟨rfl, DS⟩
     obtain ⟨F2, k1, k2, k3, k4, k5⟩ := XW.disk K4.out V4.out H3.out DS
     have T5 := hide (show Out F w4 w5 ∧ ∀ g, (F2 g ∨ XRB x v rs g) → F g ∨ w4.heap.size ≤ g from by
      refine ⟨k4.mono fun g hg => .inl (by rw [HFF.out]; exact .inl hg), ?_⟩
      rintro g (hg | hg)
      ·rcases k5 g hg with e | e
       ·exact .inl (by rw [HFF.out]; exact .inl e)
       ·exact .inr e
      ·exact .inl (by rw [HFF.out]; exact .inr hg))
     have HFL := hide ((show XW x y (fun g => F2 g ∨ XRB x v rs g) w5 ⟨d1, s.l, s.bk⟩ from ⟨F2, v, rs, k1, k2, k3, rfl⟩).flag true)
     have p3 := blk_cell k2.blk 3 rfl
     have f3 := blk_froz k2.blk 3
     simp only [List.getElem_toArray, List.getElem_cons_zero, List.getElem_cons_succ] at p3
     have JJ := hide (XwS.pre B4.out (XwS.trans T5.out.1 T5.out.2 HFL.out))
     clear HFL T5 DS k1 k2 k3 k4 k5 HWR HSY K4 V4 p1
     go_wp2
     go_ret
     exact ⟨by rw [E4.out]; rfl, by rw [E4.out]; exact JJ.out⟩
  ·have hne : (ch != 0) = true := by simp [hc0]
   have e4 : Rl.flu s c.c = (ch, s) := by
    unfold Rl.flu
    rw [HASK.out, if_neg (by decide), if_pos (by show Rn.chk c.e c.n c.l ≠ 0; rw [KC.out]; exact hc0)]
    show (Rn.chk c.e c.n c.l, s) = (ch, s)
    rw [KC.out]
   have E4 := hide e4
   clear e4
   go_wp2
   go_ret
   exact ⟨by rw [E4.out]; rfl, by rw [E4.out]; exact XwS.pre B02.out (XwS.same HW2.out (Below.refl _ _))⟩

end Go.Proofs.YtmmfakpphjjjfaaGreat

/- The document's runs: all ops. -/
namespace Go.Proofs.YtmmfakpphjjjfaaGreat
open Go.RowKit
open Bm (Ov)
set_option linter.unusedVariables false

theorem ops_next {l : List Cm.Cv} {k : Nat} {c : Cm.Cv} (h : l[k]? = some c) : Rl.ops (l.take (k + 1)) = Rl.ops (l.take k) ++ c.l ∧ (Rl.ops (l.take k)).length + c.l.length ≤ (Rl.ops l).length := by
 have hk : k < l.length := by
  rcases Nat.lt_or_ge k l.length with h' | h'
  ·exact h'
  ·rw [List.getElem?_eq_none h'] at h
   simp at h
 have hc : l[k] = c := by rw [List.getElem?_eq_getElem hk] at h; simpa using h
 have e : Rl.ops (l.take (k + 1)) = Rl.ops (l.take k) ++ c.l := by rw [List.take_succ_eq_append_getElem hk, Rl.ops_snoc, hc]
 refine ⟨e, ?_⟩
 have e2 : Rl.ops l = Rl.ops (l.take (k + 1)) ++ Rl.ops (l.drop (k + 1)) := by
  unfold Rl.ops
  rw [← List.flatMap_append, List.take_append_drop]
 rw [e2, e, List.length_append, List.length_append]
 omega

set_option maxRecDepth 20000 in
set_option maxHeartbeats 2000000 in
theorem xops_any (x y : Nat) (w : World) (l : List Cm.Cv) (bk : Bool) (v : Value) (rs : List Cw) (h : XrV x y w l bk v rs) (hl : (Rl.ops l).length ≤ 1000000) :
  Calls Tryz.prog 100 #[.pointer (some ⟨x, 0, none⟩)] w fun E w' => ∃ u, E = .returned u ∧ OwnO 65 w.heap.size w' u (Rl.ops l) ∧ Below w.heap.size w w' := by
 have c0 : w.cell? ⟨x, 0, none⟩ = some (.bool true) := blk_cell h.blk 0 rfl
 have HN := hide (xnone_any x w c0)
 obtain ⟨a1, k1, hv, _, _⟩ := h.log.row.row.shape
 have hll := h.log.len_le
 have H := hide h
 clear h
 go_enter Tryz.func100, Tryz.ntmps100
 go_wp2_with fail
 refine HN.out.mono ?_
 rintro E w1 ⟨rfl, rfl⟩
 go_wp2
 go_loopw [3, 4] (fun ov iv wr => ∃ (k : Nat), k ≤ rs.length ∧ iv = .int .i64 k ∧ Hid (OwnO 65 w.heap.size wr ov (Rl.ops (l.take k))) ∧ Hid (Below w.heap.size w wr)) (fun _ iv _ => rs.length - (intOf iv).toNat)
 case atStart => exact ⟨0, by omega, rfl, hide (OwnO.nil _ _ _), hide (Below.refl _ _)⟩
 case round =>
  obtain ⟨k, hk, rfl, OR, BR⟩ := hrel
  obtain ⟨oa, ok, hov, _, _⟩ := OR.out.is.shape
  subst hov
  obtain ⟨on, hon⟩ : ∃ n, (Rl.ops (l.take k)).length = n := ⟨_, rfl⟩
  rw [hon] at OR ⊢
  have HR := hide (H.out.below BR.out)
  have c0 : wr.cell? ⟨x, 0, none⟩ = some (.bool true) := blk_cell HR.out.blk 0 rfl
  have c2 : wr.cell? ⟨x, 2, none⟩ = some v := blk_cell HR.out.blk 2 rfl
  rw [hv] at c2
  by_cases hlt : k < rs.length
  ·obtain ⟨gb, go, gk, hvx, _, _, _, hrow⟩ := HR.out.log.row.row.full (by omega)
   rw [hv] at hvx
   simp only [Value.slice.injEq, true_and] at hvx
   obtain ⟨rfl, rfl⟩ := hvx
   obtain ⟨c, hc⟩ : ∃ c, rs[k]? = some c := ⟨rs[k], by rw [List.getElem?_eq_getElem]⟩
   obtain ⟨_, _, x2⟩ := hrow k c hc
   obtain ⟨e1, e2⟩ := ops_next (HR.out.log.at hc)
   have ic := (HR.out.log.cop c (List.mem_of_getElem? hc)).is
   obtain ⟨ca, ck, hcv, _, _⟩ := ic.shape
   rw [hcv] at ic x2
   have hlt' : (k : Int) < rs.length := by omega
   have X : Hid (∀ ty, ∃ v' w', (Builtin.append_ #[48, 48] ty #[.slice oa on ok, .slice ca c.l.length ck]).run Tryz.prog wr = .ok v' w' ∧ (OwnO 65 w.heap.size w' v' (Rl.ops (l.take (k + 1))) ∧ Below w.heap.size w w')) := hide fun ty => by
    obtain ⟨v1, w3, hr, own1, gr1, at1⟩ := run_append_ops_at (P := Tryz.prog) (w := wr) 48 ty 65 w.heap.size Tryz.underlying48 Tryz.info65 (.slice oa on ok) _ OR.out _ c.l ic (by have h9 : c.c.l = c.l := rfl; rw [h9] at e2; omega) BR.out.size
    refine ⟨v1, w3, hr, ?_, BR.out.grown gr1 BR.out.size (fun g hg => (OR.out.block g hg).1)⟩
    rw [e1]
    exact own1
   clear hrow hc ic e1 e2 c0
   go_wp2_with (at_builtin; refine wpList_append_at rfl (.tmp 17) (.tmp 25) 48 rfl _ _ rfl rfl X.out ?_)
   intro v8 w8 O8 B8
   have O8 := hide O8
   have B8 := hide B8
   go_wp2
   go_roundw
   case rel => exact ⟨k + 1, by omega, by go_num, O8, B8⟩
   case measure => simp [intOf]; omega
  ·obtain rfl : k = rs.length := by omega
   have hlt' : ¬ (rs.length : Int) < rs.length := by omega
   have e : l.take rs.length = l := List.take_of_length_le (by rw [HR.out.log.len]; exact Nat.le_refl _)
   rw [e] at OR
   go_wp2
   go_ret
   exact ⟨_, rfl, OR.out, BR.out⟩

end Go.Proofs.YtmmfakpphjjjfaaGreat
