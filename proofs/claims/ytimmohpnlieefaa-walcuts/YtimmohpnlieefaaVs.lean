/- The chapter's first examples: lives. -/
import Derived.Test.YtimmohpnlieefaaVr
namespace Go.Proofs.Ytimmohpnlieefaa
open Go.RowKit
set_option linter.unusedVariables false

/-- An Append of an example's commit, seen from afar. -/
theorem lapp_any (w0 w : World) (p q : Nat) (F : Nat → Prop) (s s' : Wl.Ws) (n e : Int) (v : Value) (h : WW p q F w s) (hF : ∀ g, F g → w0.heap.size ≤ g) (hlt : ∀ g, F g → g < w.heap.size) (hb : Below w0.heap.size w0 w) (hs : WBig s) (hv : ∃ b, OwnO 87 b w v [exO] ∧ ∀ g, F g → g < b) (hn : 1 ≤ n ∧ n ≤ 3) (he : Wl.wapp s (exC n) = (e, s')) :
    Calls Try.prog 11 #[.pointer (some ⟨p, 0, none⟩), cmv 1 n v] w fun E w' => E = .returned (.int .i64 e) ∧ ∃ F', WW p q F' w' s' ∧ (∀ g, F' g → w0.heap.size ≤ g) ∧ Below w0.heap.size w0 w' := by
  obtain ⟨b, ho, hfb⟩ := hv
  have h64 : In64 1 ∧ In64 n := ⟨⟨by omega, by omega⟩, ⟨by omega, by omega⟩⟩
  refine (wappend_any p q F w s ⟨1, n, v, [exO]⟩ h hs ho.is exO_fit h64 (by simp) (fun _ g hg hf => by
    have h1 := (OwnO.block ho g hg).1
    have h2 := hfb g hf
    omega)).mono ?_
  rintro E w' ⟨rfl, k⟩
  have e1 : Wl.wapp s (Cw.c ⟨1, n, v, [exO]⟩) = (e, s') := he
  rw [e1] at k ⊢
  exact ⟨rfl, below_step hb hF k⟩

set_option maxRecDepth 20000 in
set_option maxHeartbeats 4000000 in
theorem lives_any (w : World) : Calls Try.prog 8 #[] w fun E w' => E = .returned (.bool true) ∧ Below w.heap.size w w' := by
  go_enter Try.func8, Try.ntmps8
  go_wp2_with fail
  refine (new_any w).mono ?_
  rintro E w1 ⟨rfl, K1, bel1⟩
  have HO := hide (wnew_any w w1 w.heap.size (Nat.le_refl _) K1 bel1)
  clear K1 bel1
  go_wp2_with fail
  refine HO.out.mono ?_
  rintro E w2 ⟨p, F2, rfl, W2, g2, b2⟩
  have HP := hide (put_any 1 1 w2)
  unfold cmv at HP
  have H2 := hide W2
  have G2 := hide g2
  have B2 := hide b2
  clear HO W2 g2 b2
  go_wp2_with fail
  refine HP.out.mono ?_
  rintro E w3 ⟨v3, rfl, o3, b3⟩
  have HA := hide (lapp_any w w3 p w.heap.size F2 lv0 lv1 1 0 v3 (H2.out.below b3) G2.out (fun g hg => Nat.lt_of_lt_of_le (H2.out.lt g hg) b3.size) (B2.out.trans (b3.mono B2.out.size)) lv_b0 ⟨_, o3, H2.out.lt⟩ (by omega) lv_app1)
  unfold cmv at HA
  obtain ⟨a3, c3, hv3, _, _⟩ := o3.is.shape
  subst hv3
  clear HP H2 G2 B2 o3 b3
  go_wp2_with fail
  refine HA.out.mono ?_
  rintro E w4 ⟨rfl, F4, W4, g4, b4⟩
  have HP := hide (put_any 1 3 w4)
  unfold cmv at HP
  have H2 := hide W4
  have G2 := hide g4
  have B2 := hide b4
  clear HA W4 g4 b4
  go_wp2_with fail
  refine HP.out.mono ?_
  rintro E w5 ⟨v3, rfl, o3, b3⟩
  have HA := hide (lapp_any w w5 p w.heap.size F4 lv1 lv1 3 15 v3 (H2.out.below b3) G2.out (fun g hg => Nat.lt_of_lt_of_le (H2.out.lt g hg) b3.size) (B2.out.trans (b3.mono B2.out.size)) lv_b1 ⟨_, o3, H2.out.lt⟩ (by omega) lv_app3)
  unfold cmv at HA
  obtain ⟨a5, c5, hv3, _, _⟩ := o3.is.shape
  subst hv3
  clear HP H2 G2 B2 o3 b3
  go_wp2_with fail
  refine HA.out.mono ?_
  rintro E w6 ⟨rfl, F6, W4, g4, b4⟩
  have HP := hide (put_any 1 2 w6)
  unfold cmv at HP
  have H2 := hide W4
  have G2 := hide g4
  have B2 := hide b4
  clear HA W4 g4 b4
  go_wp2_with fail
  refine HP.out.mono ?_
  rintro E w7 ⟨v3, rfl, o3, b3⟩
  have HA := hide (lapp_any w w7 p w.heap.size F6 lv1 lv2 2 0 v3 (H2.out.below b3) G2.out (fun g hg => Nat.lt_of_lt_of_le (H2.out.lt g hg) b3.size) (B2.out.trans (b3.mono B2.out.size)) lv_b1 ⟨_, o3, H2.out.lt⟩ (by omega) lv_app2)
  unfold cmv at HA
  obtain ⟨a7, c7, hv3, _, _⟩ := o3.is.shape
  subst hv3
  clear HP H2 G2 B2 o3 b3
  go_wp2_with fail
  refine HA.out.mono ?_
  rintro E w8 ⟨rfl, F8, W8, g8, b8⟩
  have HL := hide (wlength_any p w.heap.size F8 w8 lv2 W8)
  rw [show (Wl.lgb lv2.l).length = 20 from by rw [show lv2.l = [exC 1, exC 2] from rfl, lgb2]; rfl] at HL
  have H8 := hide W8
  have G8 := hide g8
  have B8 := hide b8
  clear HA W8 g8 b8
  go_wp2_with fail
  refine HL.out.mono ?_
  rintro E w9 ⟨rfl, m, rfl⟩
  have W9 := H8.out.below (below_drewN (Below.refl _ _) m)
  have B9 := hide (below_drewN B8.out m)
  obtain ⟨F1, G1, K1, _, hF⟩ := W9
  have HPu := hide (pull_any w.heap.size F1 _ lv2.d K1)
  have G1' : Hid (∀ g, F1 g → w.heap.size ≤ g) := hide fun g hg => G8.out g (by rw [hF]; exact .inl hg)
  rw [show (Dm.pull lv2.d).1 = 0 from rfl] at HPu
  clear HL H8 G8 B8 K1 hF
  go_wp2_with fail
  refine HPu.out.mono ?_
  rintro E wa ⟨rfl, Fa, Ka, oa, sa⟩
  have sz9 := B9.out.size
  have Ba := hide (B9.out.trans (oa.below G1'.out B9.out.size))
  have Ga : Hid (∀ g, Fa g → w.heap.size ≤ g) := hide fun g hg => by
    rcases sa g hg with e | e
    · exact G1'.out g e
    · omega
  have bgp := big_pull lv_b2
  have HSt := hide (start_any w.heap.size Fa wa (Dm.pull lv2.d).2 1 4 Ka (by omega) (fun f => Nat.le_trans (bgp.1.1 f) (by decide)) (Nat.le_trans bgp.1.2.1 (by decide)))
  rw [show (Dm.start (Dm.pull lv2.d).2 1 4).1 = 0 from rfl, show (Dm.start (Dm.pull lv2.d).2 1 4).2 = lvd from rfl] at HSt
  clear HPu G1' B9 Ka oa sa bgp
  go_wp2_with fail
  refine HSt.out.mono ?_
  rintro E wb ⟨rfl, Fb, Kb, ob, sb⟩
  have sza := Ba.out.size
  have Bb := hide (Ba.out.trans (ob.below Ga.out Ba.out.size))
  have Gb : Hid (∀ g, Fb g → w.heap.size ≤ g) := hide fun g hg => by
    rcases sb g hg with e | e
    · exact Ga.out g e
    · omega
  have HOp := hide (wopen_any w.heap.size Fb wb lvd Kb lvd_b)
  clear HSt Ba Ga Kb ob sb
  go_wp2_with fail
  refine HOp.out.mono ?_
  rintro E wc ⟨l, LG, PS, hc⟩
  have h0 := lvd_op LG.out
  have hl := lvd_log LG.out
  rcases hc with ⟨h1, _⟩ | ⟨_, p2, G, rfl, hw, _⟩
  · exact absurd h0 h1
  obtain ⟨Fc, Kc, oc, sc⟩ := PS
  have Bc := hide (Bb.out.trans (oc.below Gb.out Bb.out.size))
  have WC : Hid (WW p2 w.heap.size (fun g => Fc g ∨ G g) wc ⟨opD lvd l, l, false⟩) := hide ⟨Fc, G, Kc, hw, rfl⟩
  have HE := hide (wend_any p2 w.heap.size _ wc _ WC.out)
  have HLn := hide (wlength_any p2 w.heap.size _ wc _ WC.out)
  have HEp : Hid (∀ m, Calls Try.prog 15 #[.pointer (some ⟨p2, 0, none⟩)] (wc.drewN m) fun E w' => E = .returned (.int .i64 1) ∧ ∃ n, w' = (wc.drewN m).drewN n) := hide fun m => by
    have := wepoch_any p2 w.heap.size _ (wc.drewN m) _ (WC.out.below (below_drewN (Below.refl _ _) m))
    simp only [hl] at this
    exact this
  simp only [hl] at HE HLn
  rw [lgb1] at HLn
  rw [show (exB 1).length = 10 from rfl] at HLn
  clear HOp LG hw Kc oc sc h0 hl WC Gb Bb
  go_wp2_with fail
  refine HE.out.mono ?_
  rintro E w' ⟨rfl, rfl⟩
  go_wp2_with fail
  refine HLn.out.mono ?_
  rintro E w' ⟨rfl, m2, rfl⟩
  go_wp2_with fail
  refine (HEp.out m2).mono ?_
  rintro E w' ⟨rfl, m3, rfl⟩
  go_wp2
  go_ret
  exact ⟨rfl, below_drewN Bc.out _⟩

end Go.Proofs.Ytimmohpnlieefaa
