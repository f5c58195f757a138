/- WalScan: any bytes are read as the log that the document says. -/
import Derived.Test.YtimmohpnlieefaaVs
import Derived.Test.YtimmohpnlieefaaVi
import Derived.Test.YtimmohpnlieefaaVt
namespace Go.Proofs.Ytimmohpnlieefaa
open Go.RowKit
set_option linter.unusedVariables false

/-- What is read of few bytes. -/
theorem Lw.owc {base : Nat} {w : World} {l : List Cm.Cv} {vc ve : Value} {rs : List Cw} (h : Lw base w l vc ve rs) (ap : ApC rs) (hn : rs.length ≤ 1000) : OwC base w vc rs := by
  obtain ⟨f, g⟩ := fit_good h.good h.is
  exact ⟨h.r.row, h.r.cop, fun c hc => ⟨(g c hc).1, (g c hc).2.1⟩, ap, hn, fun c hc => by have := (g c hc).2.2; omega, f⟩

theorem lg_few {bs : List Int} {l : List Cm.Cv} (h : Wl.Lg 0 0 bs l) (hb : bs.length ≤ 4000) : l.length ≤ 1000 := by
  have h1 := h.2.1.length_le
  have h2 := lgb_four l
  omega

set_option maxRecDepth 20000 in
set_option maxHeartbeats 4000000 in
theorem walScan_walk (vb : Value) (bs : List Int) (w : World) (hb : Is .u8 w vb bs) (hl : bs.length * 1 ≤ 140737488351232) :
    Calls Try.prog 4 #[vb] w fun e w' => e = .returned (.bool true) ∧ Below w.heap.size w w' := by
  have HB := hide hb
  obtain ⟨xo, xc, rfl, _, _⟩ := hb.shape
  have C1 := hide (lent_any _ bs w hb (by omega))
  clear hb
  go_enter Try.func4, Try.ntmps4
  by_cases h4 : 4000 < bs.length
  · have h4' : (4000 : Int) < bs.length := by omega
    go_wp2_with fail
    refine (lives_any w).mono ?_
    rintro E w2 ⟨rfl, bel2⟩
    go_wp2
    go_ret
    exact ⟨rfl, bel2⟩
  have h4' : ¬ (4000 : Int) < bs.length := by omega
  go_wp2_with fail
  refine C1.out.mono ?_
  rintro E w1 ⟨v1, rfl, own1, bel1⟩
  have ht1 : ((bs ++ [201, 202, 203]).take bs.length) = bs := by simp
  obtain ⟨b, cap, hv1, hc1, _, _, _, isf⟩ := own1.front (by simp)
  have S1 := hide (wscan_any _ bs w1 isf (by omega))
  have OF := hide own1
  have IF := hide isf
  have B1 := hide bel1
  have hcl : (bs.length : Int) ≤ cap := by simp at hc1; omega
  subst hv1
  clear C1 own1 isf bel1
  go_wp2_with fail
  refine S1.out.mono ?_
  rintro E w2 ⟨l, vc, ve, rs, rfl, L2, ap2, b2, LG⟩
  have S2 := hide (wscan_any _ bs w2 (IF.out.below b2) (by omega))
  obtain ⟨a2, k2, hvc, _, _⟩ := L2.r.row.row.shape
  have HL2 := hide L2
  have AP2 := hide ap2
  have B2 := hide (B1.out.trans (b2.mono B1.out.size))
  have BB2 := hide b2
  have hrl : rs.length ≤ 1000 := by rw [L2.len]; exact lg_few LG.out (by omega)
  have HVC := hide hvc
  have sz12 := b2.size
  have sz01 := B1.out.size
  rw [hvc]
  clear S1 L2 ap2 b2 hvc
  go_wp2_with fail
  refine S2.out.mono ?_
  rintro E w3 ⟨l', vc', ve', rs', rfl, L3, ap3, b3, LG'⟩
  have S3 := hide (wscanR_any _ bs w3 (HB.out.below (B2.out.trans (b3.mono B2.out.size))) (by omega))
  obtain ⟨a3, k3, hvc', _, _⟩ := L3.r.row.row.shape
  have HL3 := hide L3
  have AP3 := hide ap3
  have B3 := hide (B2.out.trans (b3.mono B2.out.size))
  have BB3 := hide b3
  have hrl' : rs'.length ≤ 1000 := by rw [L3.len]; exact lg_few LG'.out (by omega)
  have HVC' := hide hvc'
  have sz23 := b3.size
  rw [hvc']
  clear S2 L3 ap3 b3 hvc'
  go_wp2_with fail
  refine S3.out.mono ?_
  rintro E w4 ⟨l4, v4, r4, rfl, O4, P4, is4, b4, LG4⟩
  have hll := Wl.lg_one LG4.out LG.out
  subst hll
  obtain ⟨a4, k4, hv4, _, _⟩ := O4.row.shape
  have B4 := hide (B3.out.trans (b4.mono B3.out.size))
  have hg4 : Cm.Good 0 0 l4 := LG.out.1
  obtain ⟨f4, g4⟩ := fit_good hg4 is4
  have W4 := hide (show OwC w1.heap.size w4 vc rs ∧ OwC w2.heap.size w4 vc' rs' ∧ IsC w4 v4 r4 from ⟨((HL2.out.owc AP2.out hrl).below BB3.out).below b4, (HL3.out.owc AP3.out hrl').below b4, O4.row, fun c hc => ⟨(P4 c hc).is, (g4 c hc).1, (g4 c hc).2.1⟩⟩)
  have F4 := hide f4
  have I4 := hide (show cvs rs = cvs r4 by rw [HL2.out.is, is4])
  have hr4 : r4.length ≤ 1000 := by
    have := congrArg List.length I4.out
    rw [cvs_length, cvs_length] at this
    omega
  have OF4 := hide (((OF.out.below BB2.out).below BB3.out).below b4)
  have BK := hide (show (∀ b, vc.ownBlock = some b → b < w2.heap.size) ∧ ∀ c ∈ rs, ∀ b, c.v.ownBlock = some b → b < w2.heap.size from ⟨fun b hb => HL2.out.lt b (.inl hb), fun c hc b hb => HL2.out.lt b (.inr (.inr ⟨c, hc, hb⟩))⟩)
  have HV4 := hide hv4
  have sz34 := b4.size
  rw [hv4]
  clear S3 O4 P4 is4 b4 LG4 LG' LG f4 g4 hg4 hv4 HL2 HL3 AP2 AP3 OF IF BB2 BB3
  go_wp2_with fail
  refine (lives_any w4).mono ?_
  rintro E w5 ⟨rfl, b5⟩
  have SC := hide (sameCs_any vc v4 rs r4 w5 (W4.out.1.below b5).is (W4.out.2.2.below b5) W4.out.1.fit F4.out (by omega) (by omega))
  rw [I4.out, sameV_self, HVC.out, HV4.out] at SC
  have sz45 := b5.size
  go_wp2_with fail
  refine SC.out.mono ?_
  rintro E w6 ⟨rfl, b6⟩
  have b46 := b5.trans (b6.mono b5.size)
  have KP := hide (kept_yes _ _ bs _ w6 (OF4.out.below b46).is (HB.out.below (B4.out.trans (b46.mono B4.out.size))) (by omega) rfl)
  clear SC b5 b6
  go_wp2_with fail
  refine KP.out.mono ?_
  rintro E w7 ⟨rfl, b7⟩
  have b47 := b46.trans (b7.mono b46.size)
  have sz47 := b47.size
  have AC := hide (apart_pair (w0 := w) (W4.out.1.below b47) (W4.out.2.1.below b47) (by omega) BK.out.1 BK.out.2 (by omega) (B4.out.trans (b47.mono B4.out.size)) (by omega))
  rw [HVC.out, HVC'.out] at AC
  obtain ⟨V, hV⟩ : ∃ V, w7.alloc (.cells #[.slice a2 rs.length k2, .slice a3 rs'.length k3] 34) = V := ⟨_, rfl⟩
  rw [hV] at AC
  clear KP b46 b7 b47 W4 OF4
  go_wp2_with fail
  refine AC.out.mono ?_
  rintro E w8 ⟨rfl, b8, _⟩
  go_wp2
  go_ret
  exact ⟨rfl, b8⟩

end Go.Proofs.Ytimmohpnlieefaa
