/- WalNames: the worked examples of the chapter on the log. -/
import Derived.Test.YtimmohpnlieefaaVu
import Derived.Test.YtimmohpnlieefaaVi
namespace Go.Proofs.Ytimmohpnlieefaa
open Go.RowKit
set_option linter.unusedVariables false

theorem nm_two {l : List Cm.Cv} (h : Wl.Lg 0 0 (exB 2) l) : l = [] := by
  rcases l with _ | ⟨c, l⟩
  · rfl
  · exfalso
    obtain ⟨g1, g2, _⟩ := Wl.lg_tail h
    have e : exB 2 = Wl.fr (exC 2) := (exF 2 (by decide)).symm
    rw [e] at g2
    have := Wl.fr_one (Wl.good_chk g1) (show Cm.chk (exC 2).e (exC 2).n (exC 2).l = 0 from exC_ok (by decide)) g2 List.prefix_rfl
    subst this
    have := g1.2.1
    simp [exC] at this

theorem nm_one {l : List Cm.Cv} (h : Wl.Lg 0 0 (exB 1 ++ [3]) l) : l = [exC 1] := by
  have h1 : [exC 1] <+: l := Wl.lg_has (Wl.good_cons.1 ex_good).1 (by rw [lgb1]; exact List.prefix_append _ _) h
  have h3 := h.2.1.length_le
  obtain ⟨t, rfl⟩ := h1
  rcases t with _ | ⟨x, t⟩
  · rfl
  · exfalso
    rw [Wl.lgb_app, lgb1, Wl.lgb_cons] at h3
    have := fr_four x
    simp [exB] at h3
    omega

def nm0 : Wl.Ws := ⟨Dm.push (Dm.burn lv1.d) ⟨0, true, 0, []⟩, [], false⟩
theorem nm_cut2 : Wl.wcut lv1 2 = (2, lv1) := by
  unfold Wl.wcut
  rw [if_neg (by decide), if_pos (by right; decide)]
theorem nm_cut0 : Wl.wcut lv1 0 = (0, nm0) := by
  unfold Wl.wcut
  rw [if_neg (by decide), if_neg (by decide)]
  have e : Dm.cutD lv1.d 0 (Wl.lgb (lv1.l.take (0 : Int).toNat)).length = (0, Dm.push (Dm.burn lv1.d) ⟨0, true, 0, []⟩) := by rfl
  rw [e]
  rfl

set_option maxRecDepth 20000 in
set_option maxHeartbeats 600000 in
theorem walNames_walk (w : World) : Calls Try.prog 3 #[] w fun e w' => e = .returned (.bool true) ∧ Below w.heap.size w w' := by
  go_enter Try.func3, Try.ntmps3
  go_wp2_with fail
  refine (lives_any w).mono ?_
  rintro E w0 ⟨rfl, b0⟩
  have B0 := hide b0
  clear b0
  go_wp2_with fail
  refine (new_any w0).mono ?_
  rintro E w1 ⟨rfl, K1, bel1⟩
  have HO := hide (wnew_any w0 w1 w0.heap.size (Nat.le_refl _) K1 bel1)
  clear K1 bel1
  go_wp2_with fail
  refine HO.out.mono ?_
  rintro E w2 ⟨p, F2, rfl, W2, g2, b2⟩
  have HP := hide (put_any 1 1 w2)
  unfold cmv at HP
  have H2 := hide W2
  have G2 := hide g2
  have B2 := hide b2
  clear HO W2 g2 b2
  go_wp2_with fail
  refine HP.out.mono ?_
  rintro E w3 ⟨v3, rfl, o3, b3⟩
  have HA := hide (lapp_any w0 w3 p w0.heap.size F2 lv0 lv1 1 0 v3 (H2.out.below b3) G2.out (fun g hg => Nat.lt_of_lt_of_le (H2.out.lt g hg) b3.size) (B2.out.trans (b3.mono B2.out.size)) lv_b0 ⟨_, o3, H2.out.lt⟩ (by omega) lv_app1)
  unfold cmv at HA
  obtain ⟨a3, c3, hv3, _, _⟩ := o3.is.shape
  subst hv3
  clear HP H2 G2 B2 o3 b3
  go_wp2_with fail
  refine HA.out.mono ?_
  rintro E w4 ⟨rfl, F4, W4, g4, b4⟩
  have H4 := hide W4
  have G4 := hide g4
  have B4 := hide b4
  obtain ⟨w5, hw5, sz5, bel5, own5⟩ := own_step .u8 5 w4 #[.int .u8 9, .int .u8 1, .int .u8 2, .int .u8 1, .int .u8 1, .int .u8 0, .int .u8 1, .int .u8 97, .int .u8 1, .int .u8 49] 10 (exB 2) rfl rfl (by simp [maxLen]) (by decide)
  have S1 := hide (wscan_any _ (exB 2) w5 own5.is (by simp [exB]))
  have B5 := hide bel5
  clear HA W4 g4 b4 bel5 own5
  go_wp2_with fail
  refine (open_no w4 _ (.inl rfl)).mono ?_
  rintro E w' ⟨rfl, rfl⟩
  go_wp2_with fail
  refine S1.out.mono ?_
  rintro E w6 ⟨l, vc, ve, rs, rfl, L6, _, b6, LG⟩
  have hl := nm_two LG.out
  subst hl
  have hrs : rs = [] := List.eq_nil_of_length_eq_zero L6.len
  obtain ⟨a6, c6, hv6, _, _⟩ := L6.r.row.row.shape
  subst hrs hv6
  have B6 := hide (B5.out.trans (b6.mono B5.out.size))
  obtain ⟨w7, hw7, sz7, bel7, own7⟩ := own_step .u8 5 w6 #[.int .u8 9, .int .u8 1, .int .u8 1, .int .u8 1, .int .u8 1, .int .u8 0, .int .u8 1, .int .u8 97, .int .u8 1, .int .u8 49, .int .u8 3] 11 (exB 1 ++ [3]) rfl rfl (by simp [maxLen]) (by decide)
  have S2 := hide (wscan_any _ (exB 1 ++ [3]) w7 own7.is (by simp [exB]))
  have B7 := hide (B6.out.trans (bel7.mono B6.out.size))
  rw [show (Wl.lgb []).length = 0 from rfl]
  have sz47 := hide B7.out.size
  clear S1 L6 b6 LG B5 B6 bel7 own7 sz7
  go_wp2_with fail
  refine S2.out.mono ?_
  rintro E w8 ⟨l, vc, ve, rs, rfl, L8, _, b8, LG⟩
  have hl := nm_one LG.out
  subst hl
  obtain ⟨a8, c8, hv8, _, _⟩ := L8.r.row.row.shape
  have hrl : rs.length ≤ 1 := by have := L8.len; simp at this; omega
  have B8 := hide (B7.out.trans (b8.mono B7.out.size))
  have W8 := hide (H4.out.below B8.out)
  have HL8 := hide L8
  have hV8 := hide hv8
  rw [lgb1, show (exB 1).length = 10 from rfl]
  rw [hv8]
  have sz8 := B8.out.size
  have bw8 := hide (B4.out.trans (B8.out.mono B4.out.size))
  have hB1 : WBig lv1 := lv_b1
  have HC2 := hide (wcut_any p w0.heap.size F4 w8 lv1 2 W8.out lv_b1 (fun _ => by show (Wl.lgb [exC 1]).length ≤ _; rw [lgb1]; decide))
  rw [nm_cut2] at HC2
  have LT8 := hide H4.out.lt
  clear S2 L8 b8 LG hv8 B7
  go_wp2_with fail
  refine HC2.out.mono ?_
  rintro E w9 ⟨rfl, F9, W9, o9, s9⟩
  have G9 : Hid (∀ g, F9 g → F4 g ∨ w8.heap.size ≤ g) := hide s9
  have HC0 := hide (wcut_any p w0.heap.size F9 w9 lv1 0 W9 lv_b1 (fun _ => by show (Wl.lgb [exC 1]).length ≤ _; rw [lgb1]; decide))
  rw [nm_cut0] at HC0
  have O9 := hide o9
  clear HC2 W9 o9 s9 W8
  go_wp2_with fail
  refine HC0.out.mono ?_
  rintro E wa ⟨rfl, Fa, Wa, oa, sa⟩
  have HEp := hide (wepoch_any p w0.heap.size Fa wa nm0 Wa)
  rw [show Cm.lastE 0 nm0.l = 0 from rfl] at HEp
  have OA := hide (O9.out.trans oa G9.out)
  clear HC0 Wa oa sa G9 O9
  go_wp2_with fail
  refine HEp.out.mono ?_
  rintro E wb ⟨rfl, m, rfl⟩
  have HPb := hide (put_any 1 1 (wa.drewN m))
  unfold cmv at HPb
  have OB : Hid (Out F4 w8 (wa.drewN m)) := hide (OA.out.drew m)
  have bwb : Hid (Below w0.heap.size w0 (wa.drewN m)) := hide (bw8.out.trans (OB.out.below G4.out bw8.out.size))
  have L9 : Hid (Lw w7.heap.size (wa.drewN m) [exC 1] vc ve rs) := hide (HL8.out.agree fun g hg => OB.out.block g (HL8.out.lt g hg) fun hf => by
    have h1 := LT8.out g hf
    have h2 := HL8.out.ge g hg
    have h3 := sz47.out
    omega)
  clear HEp OA OB HL8 LT8
  go_wp2_with fail
  refine HPb.out.mono ?_
  rintro E wc ⟨vp, rfl, op, bp⟩
  obtain ⟨ap, kp, hvp, _, _⟩ := op.is.shape
  obtain ⟨wd, hwd, szd, beld, rowd⟩ := coms_step 32 wc #[.int .i64 1, .int .i64 1, vp] 1 [⟨1, 1, vp, [exO]⟩] rfl rfl (by simp [maxLen])
  have Ld := L9.out.below (bp.trans (beld.mono bp.size))
  have i64 : In64 1 := ⟨by omega, by omega⟩
  have SC := hide (sameCs_any vc _ rs [⟨1, 1, vp, [exO]⟩] wd Ld.isc ⟨rowd.row, fun d hd => by rw [List.mem_singleton.1 hd]; exact ⟨(op.below beld).is, i64, i64⟩⟩ (fit_good Ld.good Ld.is).1 (fun d hd => by rw [List.mem_singleton.1 hd]; exact ⟨exO_fit, by simp⟩) (by omega) (by simp))
  rw [show cvs rs = cvs [⟨1, 1, vp, [exO]⟩] from Ld.is, sameV_self, hV8.out] at SC
  have BD := hide (bwb.out.trans ((bp.trans (beld.mono bp.size)).mono bwb.out.size))
  rw [hvp] at hwd
  rw [hvp]
  simp only [List.length_singleton] at hwd
  clear HPb op bp beld rowd Ld L9 bwb hvp
  go_wp2_with fail
  refine SC.out.mono ?_
  rintro E we ⟨rfl, be⟩
  go_wp2
  go_ret
  exact ⟨rfl, B0.out.trans ((BD.out.trans (be.mono BD.out.size)).mono B0.out.size)⟩

end Go.Proofs.Ytimmohpnlieefaa
