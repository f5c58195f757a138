/- Texts of one layer, one behind the other. -/
import Derived.Test.YtfnaeblbodfekaaGJ
import Derived.Test.YtfnaeblbodfekaaGK
import Derived.Test.YtfnaeblbodfekaaGE
import Derived.Deep.RegionHeld3
import Derived.Deep.QuietTactic
import Derived.BigQuiet
/- The document's Take (layer 18). -/
namespace Go.Proofs.Ytfnaeblbodfekaa
open Go.RowKit
set_option linter.unusedVariables false

/-- What Take comes to. -/
def TkR (w : World) (g : Int) (l : List Cm.Cv) (E : Ending) (w' : World) : Prop := ∃ v' cs, E = .returned (.tuple #[v', .int .i64 g]) ∧ Hid (ShS w.heap.size w' v' cs ∧ cvs cs = l ∧ Below w.heap.size w w')

theorem tkr_no {w w' : World} {g : Int} {l : List Cm.Cv} {z : Int} (hg : g = z) (hl : l = []) (hb : Below w.heap.size w w') : TkR w g l (.returned (.tuple #[.slice none 0 0, .int .i64 z])) w' := by
  subst hg hl
  exact ⟨_, [], rfl, hide ⟨ShS.nil _ _, rfl, hb⟩⟩

set_option maxRecDepth 20000 in
set_option maxHeartbeats 16000000 in
theorem takeR_any (e : Int) (v : Value) (rs : List Cw) (m : Mw) (c : Int) (w : World) (h : IsC w v rs) (hfc : FitC rs) (hl : rs.length ≤ 1000000) (hi : IsM w m) (hf : FitM m) (hc : Mm.Ck m.m c) :
    Calls Try.prog 15 #[.int .i64 e, v, mv m] w (TkR w (Tak.tkE c e (cvs rs) m.m) (Tak.tk c e (cvs rs) m.m)) := by
  obtain ⟨ao, cap, hvl, _, _⟩ := h.1.shape
  obtain ⟨sa, so, hvs, _, _⟩ := hi.s.shape
  obtain ⟨ca, co, hvc, _, _⟩ := hi.c.1.shape
  obtain ⟨w1, hw1, sz1, bel1, hA⟩ := newm' w m hvs hvc
  have FOL := hide (cfolR_any 0 0 v rs w1 (h.below bel1) hfc (by omega))
  unfold flv at FOL
  have HCK : Hid (∀ W, Below w1.heap.size w1 W → Calls Try.prog 33 #[.agg #[.int .i64 m.k, .int .i64 m.e, .int .u8 m.r, .int .i64 m.n, .slice sa m.ss.length so, .int .i64 m.f, .int .i64 m.p, .slice ca m.cs.length co]] W fun E w' => E = .returned (.int .i64 c) ∧ Below W.heap.size W w') := hide fun W hW => by
    have := mcheckR_any m c W ((hi.below bel1).below hW) hf hc
    rw [mv_eq hvs hvc] at this
    exact this
  have HE : Hid (∀ W, Below w1.heap.size w1 W → Ei W w.heap.size (.int .i64 m.k) (.int .i64 m.e) (.int .u8 m.r) (.int .i64 m.n) (.slice sa m.ss.length so) (.int .i64 m.f) (.int .i64 m.p) (.slice ca m.cs.length co)) := hide fun W hb => (hA.below hb).ei' hvs hvc
  have HOK : Hid (c = 0 → Mm.Ok m.m) := hide fun h0 => by
    rcases hc with ⟨_, k⟩ | ⟨k, _⟩
    · exact k
    · omega
  have HFT : Hid (∀ W, Below w1.heap.size w1 W → c = 0 → m.k = 2 → m.f ≤ (rs.length : Int) + 1 → Calls Try.prog 34 #[v, .agg #[.int .i64 m.k, .int .i64 m.e, .int .u8 m.r, .int .i64 m.n, .slice sa m.ss.length so, .int .i64 m.f, .int .i64 m.p, .slice ca m.cs.length co]] W fun E w' => E = .returned (.bool (Tak.fits (cvs rs) m.m)) ∧ Below W.heap.size W w') := hide fun W hW h0 h2 h3 => by
    have := fitsR_any v rs m W ((h.below bel1).below hW) hl ((hi.below bel1).below hW) (HOK.out h0) h2 h3
    rw [mv_eq hvs hvc] at this
    exact this
  have COM : Hid (∀ (i : Nat) (W : World), i < m.cs.length → Below w1.heap.size w1 W → c = 0 → m.k = 2 → ∃ b off d, (.slice ca m.cs.length co : Value) = .slice (some ⟨b, off, none⟩) m.cs.length co ∧ m.cs[i]? = some d ∧ (W.cell? ⟨b, off + i * 3, none⟩ = some (.int .i64 d.e) ∧ W.cell? ⟨b, off + i * 3 + 1, none⟩ = some (.int .i64 d.n) ∧ W.cell? ⟨b, off + i * 3 + 2, none⟩ = some d.v) ∧ IsO W d.v d.l ∧ CFit d.e d.n d.l ∧ ∃ a n q, d.v = .slice a n q) := hide fun i W hn hW h0 h2 => by
    obtain ⟨b, off, cap', hv, _, _, hb, hcell⟩ := hi.c.1.full (by omega)
    rw [hvc] at hv
    simp only [Value.slice.injEq, true_and] at hv
    obtain ⟨rfl, rfl⟩ := hv
    obtain ⟨d, hd⟩ : ∃ d, m.cs[i]? = some d := ⟨m.cs[i], List.getElem?_eq_getElem hn⟩
    obtain ⟨d0, d1, d2⟩ := hcell i d hd
    have bW := bel1.trans (hW.mono (by omega))
    have hio := (hi.c.2 d (List.mem_of_getElem? hd)).1
    obtain ⟨a1, q1, ha, _, _⟩ := hio.shape
    have hgd : Cm.chk d.e d.n d.l = 0 := by
      rcases (HOK.out h0).2.2 with ⟨k, g⟩ | ⟨k, g⟩ | ⟨k, g⟩
      · rw [show m.m.k = m.k from rfl, h2] at k; simp at k
      · exact (Cm.good_at _ _ _ i d.c g.2.2.2.2.2.2.2.1 (cvs_at1 hd)).1
      · rw [show m.m.k = m.k from rfl, h2] at k; simp at k
    exact ⟨b, off, d, rfl, hd, ⟨(bW.cell (p := ⟨b, off + i * 3, none⟩) hb).trans d0, (bW.cell (p := ⟨b, off + i * 3 + 1, none⟩) hb).trans d1, (bW.cell (p := ⟨b, off + i * 3 + 2, none⟩) hb).trans d2⟩, hio.below bW, cfit_ok hgd, a1, _, q1, ha⟩
  obtain ⟨z, hz⟩ : ∃ z, Tak.tkE c e (cvs rs) m.m = z := ⟨_, rfl⟩
  obtain ⟨tl, htl⟩ : ∃ tl, Tak.tk c e (cvs rs) m.m = tl := ⟨_, rfl⟩
  have HNO : Hid (z ≠ 0 → tl = []) := hide fun h => by rw [← htl]; exact Tak.tk_no (by rw [hz]; exact h)
  have HYES : Hid (z = 0 → tl = Tak.nw (cvs rs) (cvs m.cs)) := hide fun h => by rw [← htl]; exact Tak.tk_is (by rw [hz]; exact h)
  have Z1 := hide (fun k => Tak.tkE_fol (c := c) (e := e) (l := cvs rs) (m := m.m) k)
  have Z2 := hide (fun k q => Tak.tkE_arg (c := c) (e := e) (l := cvs rs) (m := m.m) k q)
  have Z3 := hide (fun k q r => Tak.tkE_old (c := c) (e := e) (l := cvs rs) (m := m.m) k q r)
  have Z4 := hide (fun k q r s => Tak.tkE_new (c := c) (e := e) (l := cvs rs) (m := m.m) k q r s)
  have Z5 := hide (fun k q r s t => Tak.tkE_gap (c := c) (e := e) (l := cvs rs) (m := m.m) k q r s t)
  have Z6 := hide (fun k q r s t u => Tak.tkE_fork (c := c) (e := e) (l := cvs rs) (m := m.m) k q r s t u)
  have Z7 := hide (fun k q r s t u => Tak.tkE_ok (c := c) (e := e) (l := cvs rs) (m := m.m) k q r s t u)
  have HZ := hide (Cm.fol_at (cvs rs) 0 0 0)
  rw [cvs_n] at Z5 Z6 Z7
  rw [hz] at Z1 Z2 Z3 Z4 Z5 Z6 Z7
  obtain ⟨fl, hfl⟩ : ∃ f, Cm.fol 0 0 0 (cvs rs) = f := ⟨_, rfl⟩
  rw [hfl] at FOL HZ Z1 Z2 Z3 Z4 Z5 Z6 Z7
  obtain ⟨fe, fp⟩ := fl
  simp only at FOL HZ Z1 Z2 Z3 Z4 Z5 Z6 Z7
  rw [hz, htl, mv_eq hvs hvc]
  rw [hvl] at FOL HFT
  have B1 := hide bel1
  subst hvl
  clear h hi hf hc hA hvs hvc bel1 hz htl hfl hfc
  go_enter Try.func15, Try.ntmps15
  go_wp2_with fail
  refine FOL.out.mono ?_
  rintro E w2 ⟨rfl, b2⟩
  obtain ⟨w3, hw3, hw3', sz3, b3, hF, c0, c1⟩ := new_two w2 46 (.int .i64 0) (.int .i64 0) (.int .i64 fe) (.int .i64 fp)
  have D3 := hide (b2.trans (b3.mono b2.size))
  have BW3 := hide (B1.out.trans (D3.out.mono B1.out.size))
  have hnq := Try.neqF fe fp 0 0
  have hgd := Try.guardF
  clear FOL b2 b3 hF hw3
  by_cases hfe : fe = 0
  case neg =>
    have hb : (!((fe == 0) && (fp == 0))) = true := by simp [hfe]
    rw [hb] at hnq
    have HZE := hide (Z1.out hfe)
    have HNE := hide (HNO.out (by rw [Z1.out hfe]; exact hfe))
    clear Z1 Z2 Z3 Z4 Z5 Z6 Z7 HCK HE HFT COM HZ HNO HYES hfe hb
    go_wp2
    go_quiet (fail)
    go_wp2
    go_ret2
    exact tkr_no HZE.out HNE.out (below_drewN BW3.out _)
  have hfp : fp = 0 := HZ.out hfe
  have hb : (!((fe == 0) && (fp == 0))) = false := by simp [hfe, hfp]
  rw [hb] at hnq
  have HFE := hide hfe
  have CK := hide (HCK.out w3 D3.out)
  obtain ⟨p0, p1, p2, p3, p4, p5, p6, p7⟩ := HE.out w3 D3.out
  clear Z1 HCK HZ hb hfe hfp
  go_wp2_with fail
  refine CK.out.mono ?_
  rintro E w4 ⟨rfl, b4⟩
  have D4 := hide (D3.out.trans (b4.mono D3.out.size))
  have BW4 := hide (B1.out.trans (D4.out.mono B1.out.size))
  obtain ⟨q0, q1, q2, q3, q4, q5, q6, q7⟩ := HE.out w4 D4.out
  clear CK b4 p0 p1 p2 p3 p4 p5 p6 p7 hnq c0 c1 hw3' sz3 D3 BW3
  by_cases h0 : c = 0
  case neg =>
    have hb : (c != 0) = true := by simpa using h0
    have HZE := hide (Z2.out HFE.out (fun k => h0 k.1))
    have HNE := hide (HNO.out (by rw [Z2.out HFE.out (fun k => h0 k.1)]; decide))
    clear Z2 Z3 Z4 Z5 Z6 Z7 HFT COM HNO HYES HE
    go_wp2
    go_ret2
    exact tkr_no HZE.out HNE.out BW4.out
  have hb : (c != 0) = false := by simp [h0]
  by_cases h2 : m.k = 2
  case neg =>
    have hb2 : (m.k != 2) = true := by simpa using h2
    have HZE := hide (Z2.out HFE.out (fun k => h2 k.2))
    have HNE := hide (HNO.out (by rw [Z2.out HFE.out (fun k => h2 k.2)]; decide))
    clear Z2 Z3 Z4 Z5 Z6 Z7 HFT COM HNO HYES HE
    go_wp2
    go_ret2
    exact tkr_no HZE.out HNE.out BW4.out
  have hb2 : (m.k != 2) = false := by simp [h2]
  have HOO := hide (And.intro h0 h2)
  clear h0 h2 Z2
  by_cases h3 : m.e < e
  case pos =>
    have HZE := hide (Z3.out HFE.out HOO.out h3)
    have HNE := hide (HNO.out (by rw [Z3.out HFE.out HOO.out h3]; decide))
    clear Z3 Z4 Z5 Z6 Z7 HFT COM HNO HYES HE
    go_wp2
    go_ret2
    exact tkr_no HZE.out HNE.out BW4.out
  have h3' : e ≤ m.e := by omega
  by_cases h4 : e < m.e
  case pos =>
    have HZE := hide (Z4.out HFE.out HOO.out h3' h4)
    have HNE := hide (HNO.out (by rw [Z4.out HFE.out HOO.out h3' h4]; decide))
    clear Z3 Z4 Z5 Z6 Z7 HFT COM HNO HYES HE
    go_wp2
    go_ret2
    exact tkr_no HZE.out HNE.out BW4.out
  have hw1 : IntKind.i64.wrap ((rs.length : Int) + 1) = (rs.length : Int) + 1 := wrap64s _ (by omega) (by omega)
  have h4' : m.e ≤ e := by omega
  by_cases h5 : (rs.length : Int) + 1 < m.f
  case pos =>
    have HZE := hide (Z5.out HFE.out HOO.out h3' h4' h5)
    have HNE := hide (HNO.out (by rw [Z5.out HFE.out HOO.out h3' h4' h5]; decide))
    clear Z3 Z4 Z5 Z6 Z7 HFT COM HNO HYES HE
    go_wp2
    go_ret2
    exact tkr_no HZE.out HNE.out BW4.out
  have h5' : m.f ≤ (rs.length : Int) + 1 := by omega
  have FT := hide (HFT.out w4 D4.out HOO.out.1 HOO.out.2 (by omega))
  have ZF := hide (Z6.out HFE.out HOO.out h3' h4' h5')
  have ZY := hide (Z7.out HFE.out HOO.out h3' h4' h5')
  clear Z3 Z4 Z5 Z6 Z7 HFT
  generalize Tak.fits (cvs rs) m.m = ft at *
  go_wp2_with fail
  refine FT.out.mono ?_
  rintro E w5 ⟨rfl, b5⟩
  have D5 := hide (D4.out.trans (b5.mono D4.out.size))
  have BW5 := hide (B1.out.trans (D5.out.mono B1.out.size))
  clear FT b5 q0 q1 q2 q3 q4 q5 q6 q7 D4 BW4
  cases ft with
  | false =>
    have HZE := hide (ZF.out rfl)
    have HNE := hide (HNO.out (by rw [ZF.out rfl]; decide))
    clear ZF ZY COM HNO HYES HE
    go_wp2
    go_ret2
    exact tkr_no HZE.out HNE.out BW5.out
  | true =>
  have HZE := hide (ZY.out rfl)
  have HYE := hide (HYES.out (ZY.out rfl))
  obtain ⟨q0, q1, q2, q3, q4, q5, q6, q7⟩ := HE.out w5 D5.out
  have hc4 := (ship_at (HOK.out HOO.out.1) HOO.out.2).2.2.1
  clear ZF ZY HNO HYES h3 h4 h5 h3' h4' h5' hb hb2 hw1
  go_wp2
  go_loopw [9, 10] (fun gv iv wr => ∃ (i : Nat) (cs : List Cw) (va : Option Addr) (vn vk : Nat), gv = .slice va vn vk ∧ iv = .int .i64 (i : Int) ∧ i ≤ m.cs.length ∧ cs.length ≤ i ∧ Hid (ShS w5.heap.size wr (.slice va vn vk) cs ∧ cvs cs = Tak.nw (cvs rs) ((cvs m.cs).take i) ∧ Below w5.heap.size w5 wr)) (fun _ iv _ => m.cs.length - (intOf iv).toNat)
  case atStart => exact ⟨0, [], none, 0, 0, rfl, rfl, by omega, by simp, hide ⟨ShS.nil _ _, rfl, Below.refl _ _⟩⟩
  case round =>
    obtain ⟨i, cs, va, vn, vk, rfl, rfl, hil, hcl, HS⟩ := hrel
    have DW := D5.out.trans (HS.out.2.2.mono D5.out.size)
    obtain ⟨r0, r1, r2, r3, r4, r5, r6, r7⟩ := HE.out wr DW
    by_cases hlt : i < m.cs.length
    · obtain ⟨b, off, d, hvx, hd, ⟨d0, d1, d2⟩, hio, hfit, da, dn, dq, hdv⟩ := COM.out i wr hlt DW HOO.out.1 HOO.out.2
      simp only [Value.slice.injEq, and_true] at hvx
      have hlt' : (i : Int) < m.cs.length := by omega
      have hi0 : (0 : Int) ≤ (i : Int) := by omega
      have htk : (cvs m.cs).take (i + 1) = (cvs m.cs).take i ++ [d.c] := by
        obtain ⟨h1, h2⟩ := List.getElem?_eq_some_iff.1 (cvs_at1 hd)
        rw [List.take_succ_eq_append_getElem h1, h2]
      by_cases hn : (rs.length : Int) < d.n
      · have hnw : Tak.nw (cvs rs) ((cvs m.cs).take (i + 1)) = Tak.nw (cvs rs) ((cvs m.cs).take i) ++ [d.c] := by
          rw [htk, Tak.nw_snoc, if_pos (by rw [cvs_n]; exact hn)]
        have CP : Hid (Calls Try.prog 35 #[.agg #[.int .i64 d.e, .int .i64 d.n, d.v]] wr fun E w10 => ∃ v', E = .returned (.agg #[.int .i64 d.e, .int .i64 d.n, v']) ∧ (∃ a n k, v' = .slice a n k) ∧ ∃ V, w10.alloc (.cells #[.int .i64 d.e, .int .i64 d.n, v'] 50) = V ∧ Hid (∀ ty, ∃ v2 w2', (Builtin.append_ #[22, 22] ty #[.slice va vn vk, .slice (some ⟨w10.heap.size, 0, none⟩) 1 1]).run Try.prog V = .ok v2 w2' ∧ (∃ cs2, cs2.length ≤ i + 1 ∧ Hid (ShS w5.heap.size w2' v2 cs2 ∧ cvs cs2 = Tak.nw (cvs rs) ((cvs m.cs).take (i + 1)) ∧ Below w5.heap.size w5 w2')) ∧ ∃ a n k, v2 = .slice a n k)) := hide (by
          refine (copyX_any d.e d.n d.v d.l wr hio (by have := hfit.2.2.2; omega)).mono ?_
          rintro E w10 ⟨v', rfl, own10, bel10⟩
          obtain ⟨a, q, hv', _, _⟩ := own10.is.shape
          obtain ⟨V, hV, bV, szV, hpu⟩ := HS.out.1.push HS.out.2.2.size bel10 ⟨d.e, d.n, v', d.l⟩ own10 hfit (by omega)
          refine ⟨v', rfl, ⟨a, _, q, hv'⟩, V, hV, hide fun ty => ?_⟩
          obtain ⟨v2, w2', r1, sh2, gr2, hsl⟩ := hpu ty
          refine ⟨v2, w2', r1, ⟨_, by rw [List.length_append, List.length_singleton]; omega, hide ⟨sh2, ?_, ?_⟩⟩, hsl⟩
          · rw [hnw, ← HS.out.2.1]
            simp [cvs, Cw.c]
          · have bV' : Below w5.heap.size w5 V := HS.out.2.2.trans ((bel10.trans (bV.mono bel10.size)).mono HS.out.2.2.size)
            exact bV'.grown gr2 bV'.size fun g hg => (World.ownsRow.lt HS.out.1.c g hg).1)
        rw [hdv] at d2 CP
        subst hvx
        clear hio hfit hdv HS DW htk hnw hd
        go_wp2_with fail
        refine CP.out.mono ?_
        rintro E w10 ⟨v10, rfl, ⟨a10, n10, k10, rfl⟩, V, hV, X⟩
        clear CP r0 r1 r2 r3 r4 r5 r6 r7 d0 d1 d2
        go_wp2_with (at_builtin; refine wpList_append_at rfl (.tmp 66) (.tmp 73) 22 rfl (.slice va vn vk) (.slice (some ⟨w10.heap.size, 0, none⟩) 1 1) rfl rfl X.out ?_; rintro v11 w11 ⟨⟨cs2, hl2, H2⟩, a11, n11, k11, rfl⟩)
        go_wp2
        go_roundw
        case rel => exact ⟨i + 1, cs2, a11, n11, k11, rfl, by go_num, by omega, hl2, H2⟩
        case measure => simp [intOf]; omega
      · have hnw : Tak.nw (cvs rs) ((cvs m.cs).take (i + 1)) = Tak.nw (cvs rs) ((cvs m.cs).take i) := by
          rw [htk, Tak.nw_snoc, if_neg (by rw [cvs_n]; exact hn)]
        have HS2 : Hid (ShS w5.heap.size wr (.slice va vn vk) cs ∧ cvs cs = Tak.nw (cvs rs) ((cvs m.cs).take (i + 1)) ∧ Below w5.heap.size w5 wr) := hide (by rw [hnw]; exact HS.out)
        subst hvx
        clear hio hfit hdv HS DW htk hnw hd
        go_wp2
        go_roundw
        case rel => exact ⟨i + 1, cs, va, vn, vk, rfl, by go_num, by omega, by omega, HS2⟩
        case measure => simp [intOf]; omega
    · have hlt' : ¬ (i : Int) < m.cs.length := by omega
      have hie : (cvs m.cs).take i = cvs m.cs := List.take_of_length_le (by rw [cvs_n]; omega)
      have FIN : Hid (ShS w.heap.size wr (.slice va vn vk) cs ∧ cvs cs = tl ∧ Below w.heap.size w wr) := hide (by
        obtain ⟨h1, h2, h3⟩ := HS.out
        rw [hie] at h2
        have hsz := BW5.out.size
        exact ⟨⟨h1.c.rebase hsz, fun c hc => (h1.o c hc).rebase hsz, h1.i, h1.ap, h1.f⟩, by rw [h2, HYE.out], BW5.out.trans (h3.mono hsz)⟩)
      clear HS DW COM HE hie
      go_wp2
      go_ret2
      exact ⟨_, cs, by rw [HZE.out]; rfl, FIN⟩

end Go.Proofs.Ytfnaeblbodfekaa

/- Parts of the program's Hello, Next and Ack (layer 17): isEpoch, lastEpoch, checkLog, copies. -/
namespace Go.Proofs.Ytfnaeblbodfekaa
open Go.RowKit
set_option linter.unusedVariables false

/-- 'v[p:q]' of commits. -/
theorem RowC.slice_lh {P : Program} {w : World} {v : Value} {l : List Cw} (h : RowC w v l) {t : TypeId} (ht : P.underlying t = some (.slice (P.elem t))) (hs : ∀ wx, (sizeOf (P.elem t)).run P wx = .ok 3 wx) (p q : Nat) (hp : p ≤ q) (hq : q ≤ l.length) :
    ∃ vs, (∀ wx, (Instr.slice t v (some (.int .i64 p)) (some (.int .i64 q)) none).run P wx = .ok vs wx) ∧ RowC w vs ((l.drop p).take (q - p)) := by
  have hlen : ((l.drop p).take (q - p)).length = q - p := by rw [List.length_take, List.length_drop]; omega
  rcases h with ⟨hv, hz⟩ | ⟨ad, cap, hv, h1, h2, hc⟩
  · subst hz hv
    simp at hq
    subst hq
    obtain rfl : p = 0 := by omega
    refine ⟨.slice none 0 0, fun wx => ?_, RowC.nil _⟩
    rw [run_slice_lh wx t none 0 0 ht .i64 .i64 _ _ (by omega) (by omega) (by omega), hs]
    rfl
  · subst hv
    by_cases hcl : cap = p
    · have hpl : q = p := by omega
      subst hpl
      refine ⟨.slice (some ad) 0 0, fun wx => ?_, .inr ⟨ad, 0, by rw [hlen]; simp, by rw [hlen]; simp, by simp, fun j u hj => ?_⟩⟩
      · rw [run_slice_lh wx t (some ad) l.length cap ht .i64 .i64 _ _ (by omega) (by omega) (by omega), hs]
        simp [Result.andThen, sliced, hcl]
      · simp [ccells] at hj
    · refine ⟨.slice (some (ad.add (p * 3))) (q - p) (cap - p), fun wx => ?_, .inr ⟨ad.add (p * 3), cap - p, by rw [hlen], by rw [hlen]; omega, by omega, fun j u hj => ?_⟩⟩
      · rw [run_slice_lh wx t (some ad) l.length cap ht .i64 .i64 _ _ (by omega) (by omega) (by omega), hs]
        simp [Result.andThen, sliced, hcl]
      · rw [ccells_take, List.getElem?_take] at hj
        split at hj
        · rw [ccells_drop, List.getElem?_drop] at hj
          have e : (ad.add (p * 3)).add j = ad.add (p * 3 + j) := by
            unfold Addr.add
            by_cases h0 : p * 3 = 0 <;> by_cases h3 : j = 0 <;> simp [h0, h3, Nat.add_assoc]
          rw [e]
          exact hc _ _ hj
        · simp at hj

theorem pise_any (e : Int) (w : World) : Calls Try.prog 65 #[.int .i64 e] w fun E w' => E = .returned (.bool (decide (1 ≤ e ∧ e ≤ 1048576))) ∧ w' = w := by
  by_cases h1 : 1 ≤ e
  · by_cases h2 : e ≤ 1048576
    · have hd : decide (1 ≤ e ∧ e ≤ 1048576) = true := by simp [h1, h2]
      rw [hd]
      clear hd
      go_enter Try.func65, Try.ntmps65
      go_wp2
      go_ret
      exact ⟨rfl, rfl⟩
    · have hd : decide (1 ≤ e ∧ e ≤ 1048576) = false := by simp [h2]
      rw [hd]
      clear hd
      go_enter Try.func65, Try.ntmps65
      go_wp2
      go_ret
      exact ⟨rfl, rfl⟩
  · have hd : decide (1 ≤ e ∧ e ≤ 1048576) = false := by simp [h1]
    rw [hd]
    clear hd
    go_enter Try.func65, Try.ntmps65
    go_wp2
    go_ret
    exact ⟨rfl, rfl⟩

set_option maxRecDepth 20000 in
theorem plast_any (v : Value) (rs : List Cw) (w : World) (h : RowC w v rs) (hl : rs.length ≤ 1000000) : Calls Try.prog 47 #[v] w fun E w' => E = .returned (.int .i64 (Cm.lastE 0 (cvs rs))) ∧ w' = w := by
  by_cases h0 : 0 < rs.length
  · obtain ⟨b, off, cap, hv, _, _, hb, hcell⟩ := h.full h0
    obtain ⟨c, hc⟩ : ∃ c, rs[rs.length - 1]? = some c := ⟨rs[rs.length - 1], by rw [List.getElem?_eq_getElem]⟩
    have d0 := (hcell _ c hc).1
    have hla := last_row hc (by omega)
    rw [hla]
    obtain ⟨n, hn⟩ : ∃ n, rs.length = n + 1 := ⟨rs.length - 1, by omega⟩
    have hn1 : rs.length - 1 = n := by omega
    rw [hn1] at d0
    have g2 : IntKind.i64.wrap ((rs.length : Int) - 1) = (n : Int) := by rw [wrap64s _ (by omega) (by omega)]; omega
    have g3 : (n : Int) < (rs.length : Int) := by omega
    have g4 : (0 : Int) ≤ (n : Int) := by omega
    have g5 : ((rs.length : Int) == 0) = false := by rw [beq_eq_false_iff_ne]; omega
    generalize rs.length = m at *
    subst hv
    clear h hcell hla hc h0 hn hn1 hl
    go_enter Try.func47, Try.ntmps47
    go_wp2
    go_ret
    exact ⟨rfl, rfl⟩
  · obtain ⟨ao, cap, hvl, _, _⟩ := h.shape
    have hz : rs = [] := List.eq_nil_of_length_eq_zero (by omega)
    subst hz
    rw [List.length_nil] at hvl
    subst hvl
    show Calls Try.prog 47 _ w fun E w' => E = .returned (.int .i64 0) ∧ w' = w
    clear h h0 hl
    go_enter Try.func47, Try.ntmps47
    go_wp2
    go_ret
    exact ⟨rfl, rfl⟩

set_option maxRecDepth 20000 in
set_option maxHeartbeats 2000000 in
theorem plck_any (e : Int) (v : Value) (rs : List Cw) (w : World) (h : IsC w v rs) (hf : FitC rs) (hl : rs.length ≤ 1000000) :
    Calls Try.prog 46 #[.int .i64 e, v] w fun E w' => E = .returned (.int .i64 (Shp.lck e (cvs rs))) ∧ Below w.heap.size w w' := by
  obtain ⟨ao, cap, hvl, hcap, hcm⟩ := h.1.shape
  have HE := hide (pise_any e w)
  by_cases h12 : e < 1 ∨ 1048576 < e
  · rw [Shp.lck_arg h12]
    rw [show decide (1 ≤ e ∧ e ≤ 1048576) = false by rw [decide_eq_false_iff_not]; omega] at HE
    clear h hf h12
    subst hvl
    go_enter Try.func46, Try.ntmps46
    go_wp2_with fail
    refine HE.out.mono ?_
    rintro E w2 ⟨rfl, hw2⟩
    obtain rfl := hw2.symm
    clear HE
    go_wp2
    go_ret
    exact ⟨rfl, Below.refl _ _⟩
  rw [show decide (1 ≤ e ∧ e ≤ 1048576) = true by rw [decide_eq_true_iff]; omega] at HE
  have X := hide (cfol_any 0 0 v rs w h hf (by omega))
  unfold flv at X
  have HB := hide (fun k => Shp.lck_fol (l := cvs rs) h12 k)
  have HO := hide (fun k q => Shp.lck_ord (l := cvs rs) h12 k q)
  have HK := hide (fun k q => Shp.lck_ok (l := cvs rs) h12 k q)
  obtain ⟨z, hz⟩ : ∃ z, Shp.lck e (cvs rs) = z := ⟨_, rfl⟩
  rw [hz] at HB HO HK ⊢
  obtain ⟨fl, hfl⟩ : ∃ f, Cm.fol 0 0 0 (cvs rs) = f := ⟨_, rfl⟩
  rw [hfl] at X HB HO HK
  clear hz
  obtain ⟨fe, fp⟩ := fl
  simp only at X HB HO HK
  clear hfl
  have HL : Hid (∀ W, Below w.heap.size w W → Calls Try.prog 47 #[v] W fun E w' => E = .returned (.int .i64 (Cm.lastE 0 (cvs rs))) ∧ w' = W) := hide fun W hW => plast_any v rs W (h.below hW).1 hl
  obtain ⟨la, hla⟩ : ∃ x, Cm.lastE 0 (cvs rs) = x := ⟨_, rfl⟩
  rw [hla] at HL HO HK
  rw [hvl] at X HL
  subst hvl
  clear h hf hla
  go_enter Try.func46, Try.ntmps46
  go_wp2_with fail
  refine HE.out.mono ?_
  rintro E w2 ⟨rfl, hw2⟩
  obtain rfl := hw2.symm
  clear HE
  go_wp2_with fail
  refine X.out.mono ?_
  rintro E w2 ⟨rfl, bel2⟩
  obtain ⟨w3, hw3, hw3', sz3, bel3, hF, c0, c1⟩ := new_two w2 46 (.int .i64 0) (.int .i64 0) (.int .i64 fe) (.int .i64 fp)
  have bel03 : Below w.heap.size w w3 := bel2.trans (bel3.mono bel2.size)
  have B3 := hide bel03
  clear X bel2 bel3 hF
  by_cases hfe : fe = 0
  · have hb : (fe != 0) = false := by simp [hfe]
    have Y := hide (HL.out w3 bel03)
    clear HL HB
    by_cases h3 : e < la
    · have HE := hide (HO.out hfe h3)
      clear HO HK bel03 hfe
      go_wp2_with fail
      refine Y.out.mono ?_
      rintro E w4 ⟨rfl, hw4⟩
      obtain rfl := hw4.symm
      clear Y
      go_wp2
      go_ret
      exact ⟨by rw [HE.out]; rfl, B3.out⟩
    · have HE := hide (HK.out hfe (by omega))
      clear HO HK bel03 hfe
      go_wp2_with fail
      refine Y.out.mono ?_
      rintro E w4 ⟨rfl, hw4⟩
      obtain rfl := hw4.symm
      clear Y
      go_wp2
      go_ret
      exact ⟨by rw [HE.out]; rfl, B3.out⟩
  · have hb : (fe != 0) = true := by simp [hfe]
    have HE := hide (HB.out hfe)
    clear HO HK HB HL bel03
    go_wp2
    go_ret
    exact ⟨by rw [HE.out]; rfl, B3.out⟩

set_option maxRecDepth 20000 in
set_option maxHeartbeats 2000000 in
theorem pcopies_any (vl : Value) (r : List Cw) (w : World) (h : IsC w vl r) (hf : ∀ c ∈ r, CFit c.e c.n c.l) (hl : r.length ≤ 1000000) :
    Calls Try.prog 48 #[vl] w fun E w' => ∃ v cs, E = .returned v ∧ ShS w.heap.size w' v cs ∧ cvs cs = cvs r ∧ Below w.heap.size w w' := by
  by_cases hz : r.length = 0
  · have : r = [] := List.eq_nil_of_length_eq_zero hz
    subst this
    obtain ⟨ao, cap, rfl, _, _⟩ := h.1.shape
    clear h hf hl hz
    simp only [List.length_nil]
    go_enter Try.func48, Try.ntmps48
    go_wp2
    go_loopw [3, 8] (fun ov iv wr => ov = .slice none 0 0 ∧ iv = .int .i64 0 ∧ wr = w) (fun _ _ _ => 0)
    case atStart => exact ⟨rfl, rfl, rfl⟩
    case round =>
      obtain ⟨rfl, rfl, rfl⟩ := hrel
      go_wp2
      go_ret
      exact ⟨_, [], rfl, ShS.nil _ _, rfl, Below.refl _ _⟩
  obtain ⟨b1, o1, c1, hvl, _, _, hB, hcell⟩ := h.1.full (by omega)
  subst hvl
  have HIN := hide h.2
  have HFIT := hide hf
  have HC := hide hcell
  generalize hn : r.length = n at *
  have HN := hide hn
  clear h hcell hf hn
  go_enter Try.func48, Try.ntmps48
  go_wp2
  go_loopw [3, 8] (fun ov iv wr => ∃ (k : Nat) (cs : List Cw) (a : Option Addr) (q : Nat), k ≤ n ∧ iv = .int .i64 k ∧ ov = .slice a k q ∧ cs.length = k ∧ Hid (ShS w.heap.size wr (.slice a k q) cs ∧ cvs cs = cvs (r.take k)) ∧ Below w.heap.size w wr) (fun _ iv _ => n - (intOf iv).toNat)
  case atStart => exact ⟨0, [], none, 0, by omega, rfl, rfl, rfl, hide ⟨ShS.nil _ _, rfl⟩, Below.refl _ _⟩
  case round =>
    obtain ⟨k, cs, a, q, hk, rfl, rfl, hrl, HT, bel⟩ := hrel
    have sz := bel.size
    by_cases hlt : k < n
    · obtain ⟨c, hc⟩ : ∃ c, r[k]? = some c := ⟨r[k]'(by have := HN.out; omega), by rw [List.getElem?_eq_getElem]⟩
      obtain ⟨e0, e1, e2⟩ := HC.out k c hc
      have d0 := (bel.cell (p := ⟨b1, o1 + k * 3, none⟩) hB).trans e0
      have d1 := (bel.cell (p := ⟨b1, o1 + k * 3 + 1, none⟩) hB).trans e1
      have d2 := (bel.cell (p := ⟨b1, o1 + k * 3 + 2, none⟩) hB).trans e2
      have hmem := List.mem_of_getElem? hc
      obtain ⟨i1, _, _⟩ := HIN.out c hmem
      have hfc := HFIT.out c hmem
      obtain ⟨ac, cc, hcv, _, _⟩ := i1.shape
      have i2 := i1.below bel
      rw [hcv] at d2 i2
      obtain ⟨V, hV, hV2, szV, belV, bC, q0, q1, q2⟩ := new_step wr 50 (.int .i64 0) (.int .i64 0) (.slice none 0 0) (.int .i64 c.e) (.int .i64 c.n) (.slice ac c.l.length cc)
      have HNX : Hid (∀ v', cvs (cs ++ [⟨c.e, c.n, v', c.l⟩]) = cvs (r.take (k + 1))) := hide fun v' => cvs_snoc HT.out.2 hc rfl
      have CP := hide (ccopy_any c.e c.n _ c.l V (i2.below belV) (by have := hfc.2.2.2; omega))
      have FC := hide hfc
      have hlt' : (k : Int) < n := by omega
      clear hc hmem i1 e0 e1 e2 i2 hfc hcv
      unfold cmv at CP
      go_wp2_with fail
      refine CP.out.mono ?_
      rintro E w2 ⟨v2, rfl, own2, bel2⟩
      have sz2 := bel2.size
      obtain ⟨ah, ch, hv2, _, _⟩ := own2.is.shape
      have belz : Below wr.heap.size wr w2 := belV.trans (bel2.mono (by omega))
      have hshV := HT.out.1.below belV
      obtain ⟨V3, hV3, bel3, sz3, hpu⟩ := hshV.push (by omega) bel2 ⟨c.e, c.n, v2, c.l⟩ own2 FC.out (by omega)
      have PU := hide hpu
      have hV3' : w2.alloc (.cells #[.int .i64 c.e, .int .i64 c.n, .slice ah c.l.length ch] 50) = V3 := by rw [← hV3, ← hv2]
      have bel03 : Below w.heap.size w V3 := (bel.trans (belz.mono (by omega))).trans (bel3.mono (by omega))
      subst hv2
      clear CP hshV hpu bel2 belV own2 belz bel3 bC
      go_wp2_with (at_builtin; refine wpList_append_at rfl (.tmp 12) (.tmp 15) 22 rfl (.slice a k q) (.slice (some ⟨w2.heap.size, 0, none⟩) 1 1) rfl rfl PU.out ?_)
      rintro v4 w4 sh4 gr4 a4 n4 k4 rfl
      have bel04 : Below w.heap.size w w4 := bel03.trans ((Below.refl _ _).grown gr4 bel03.size fun g hg => (World.ownsRow.lt HT.out.1.c g hg).1)
      obtain ⟨ja, jk, hjv, _, _⟩ := sh4.c.row.shape
      simp only [Value.slice.injEq] at hjv
      obtain ⟨rfl, rfl, rfl⟩ := hjv
      have hjl : (cs ++ [(⟨c.e, c.n, .slice ah c.l.length ch, c.l⟩ : Cw)]).length = k + 1 := by rw [List.length_append, hrl]; rfl
      rw [hjl] at sh4 ⊢
      have HT2 := hide (And.intro sh4 (HNX.out (.slice ah c.l.length ch)))
      clear HT HNX PU gr4 bel03 sh4
      go_wp2
      go_roundw
      case rel => exact ⟨k + 1, _, _, _, by omega, by go_num, rfl, hjl, HT2, bel04⟩
      case measure => simp [intOf]; omega
    · have hlt' : ¬ (k : Int) < n := by omega
      have HE : Hid (cvs cs = cvs r) := hide (by rw [HT.out.2, List.take_of_length_le (by have := HN.out; omega)])
      go_wp2
      go_ret
      exact ⟨_, rfl, cs, HT.out.1, HE.out, bel⟩

end Go.Proofs.Ytfnaeblbodfekaa

/- The program's parts of Take and Known (layer 18): checkMessage, epochOf, had, fits. -/
namespace Go.Proofs.Ytfnaeblbodfekaa
open Go.RowKit
set_option linter.unusedVariables false

/-- 'v[p:]' of commits. -/
theorem RowC.slice_lf {P : Program} {w : World} {v : Value} {l : List Cw} (h : RowC w v l) {t : TypeId} (ht : P.underlying t = some (.slice (P.elem t))) (hs : ∀ wx, (sizeOf (P.elem t)).run P wx = .ok 3 wx) (p : Nat) (hp : p ≤ l.length) :
    ∃ vs, (∀ wx, (Instr.slice t v (some (.int .i64 p)) none none).run P wx = .ok vs wx) ∧ RowC w vs (l.drop p) := by
  obtain ⟨vs, h1, h2⟩ := h.slice_lh ht hs p l.length hp (Nat.le_refl _)
  obtain ⟨ao, cap, rfl, hc, _⟩ := h.shape
  refine ⟨vs, fun wx => ?_, ?_⟩
  · rw [← h1 wx, run_slice_lh wx t ao l.length cap ht .i64 .i64 _ _ (by omega) (by omega) (by omega), run_slice_l wx t ao l.length cap ht .i64 _ (by omega) (by omega)]
    rfl
  · rw [List.take_of_length_le (by rw [List.length_drop]; omega)] at h2
    exact h2

set_option maxRecDepth 20000 in
set_option maxHeartbeats 2000000 in
theorem pckm_any (e : Int) (m : Mw) (c : Int) (w : World) (hi : IsM w m) (hf : FitM m) (hc : Mm.Ck m.m c) :
    Calls Try.prog 26 #[.int .i64 e, mv m] w fun E w' => E = .returned (.int .i64 (Tak.knE c e m.m)) ∧ Below w.heap.size w w' := by
  obtain ⟨sa, so, hvs, _, _⟩ := hi.s.shape
  obtain ⟨ca, co, hvc, _, _⟩ := hi.c.1.shape
  obtain ⟨w1, hw1, sz1, bel1, hA⟩ := newm' w m hvs hvc
  have CK := hide (mcheck_any m c w1 (hi.below bel1) hf hc)
  rw [mv_eq hvs hvc] at CK ⊢
  have HE : Hid (∀ W, Below w1.heap.size w1 W → Ei W w.heap.size (.int .i64 m.k) (.int .i64 m.e) (.int .u8 m.r) (.int .i64 m.n) (.slice sa m.ss.length so) (.int .i64 m.f) (.int .i64 m.p) (.slice ca m.cs.length co)) := hide fun W hb => (hA.below hb).ei' hvs hvc
  obtain ⟨p0, p1, p2, p3, p4, p5, p6, p7⟩ := HE.out w1 (Below.refl _ _)
  have B1 := hide bel1
  have eE : Tak.knE c e m.m = if c = 0 then (if m.e < e then 12 else if e < m.e then 2 else 0) else 2 := rfl
  rw [eE]
  clear hi hf hc hA hvs hvc bel1 eE
  by_cases h0 : c = 0
  case neg =>
    rw [if_neg h0]
    have hb : (c != 0) = true := by simpa using h0
    clear HE
    go_enter Try.func26, Try.ntmps26
    go_wp2_with fail
    refine CK.out.mono ?_
    rintro E w2 ⟨rfl, b2⟩
    have B2 := hide (B1.out.trans (b2.mono B1.out.size))
    clear CK b2
    go_wp2
    go_ret
    exact ⟨rfl, B2.out⟩
  rw [if_pos h0]
  have hb : (c != 0) = false := by simp [h0]
  clear h0
  by_cases h1 : m.e < e
  · rw [if_pos h1]
    go_enter Try.func26, Try.ntmps26
    go_wp2_with fail
    refine CK.out.mono ?_
    rintro E w2 ⟨rfl, b2⟩
    have B2 := hide (B1.out.trans (b2.mono B1.out.size))
    obtain ⟨q0, q1, q2, q3, q4, q5, q6, q7⟩ := HE.out w2 b2
    clear CK b2 HE
    go_wp2
    go_ret
    exact ⟨rfl, B2.out⟩
  rw [if_neg h1]
  by_cases h2 : e < m.e
  · rw [if_pos h2]
    go_enter Try.func26, Try.ntmps26
    go_wp2_with fail
    refine CK.out.mono ?_
    rintro E w2 ⟨rfl, b2⟩
    have B2 := hide (B1.out.trans (b2.mono B1.out.size))
    obtain ⟨q0, q1, q2, q3, q4, q5, q6, q7⟩ := HE.out w2 b2
    clear CK b2 HE
    go_wp2
    go_ret
    exact ⟨rfl, B2.out⟩
  · rw [if_neg h2]
    go_enter Try.func26, Try.ntmps26
    go_wp2_with fail
    refine CK.out.mono ?_
    rintro E w2 ⟨rfl, b2⟩
    have B2 := hide (B1.out.trans (b2.mono B1.out.size))
    obtain ⟨q0, q1, q2, q3, q4, q5, q6, q7⟩ := HE.out w2 b2
    clear CK b2 HE
    go_wp2
    go_ret
    exact ⟨rfl, B2.out⟩

set_option maxRecDepth 20000 in
theorem pepo_any (v : Value) (rs : List Cw) (n : Nat) (w : World) (h : RowC w v rs) (hl : rs.length ≤ 1000000) (hn : n ≤ rs.length) : Calls Try.prog 50 #[v, .int .i64 (n : Int)] w fun E w' => E = .returned (.int .i64 (Tak.atE (cvs rs) n)) ∧ w' = w := by
  rcases Nat.eq_zero_or_pos n with hz | hz
  · subst hz
    obtain ⟨ao, cap, hvl, _, _⟩ := h.shape
    rw [show Tak.atE (cvs rs) ((0 : Nat) : Int) = 0 from rfl]
    subst hvl
    clear h hl hn
    go_enter Try.func50, Try.ntmps50
    go_wp2
    go_ret
    exact ⟨rfl, rfl⟩
  · obtain ⟨b, off, cap, hv, _, _, hb, hcell⟩ := h.full (by omega)
    obtain ⟨k, rfl⟩ : ∃ k, n = k + 1 := ⟨n - 1, by omega⟩
    obtain ⟨c, hc⟩ : ∃ c, rs[k]? = some c := ⟨rs[k], List.getElem?_eq_getElem (by omega)⟩
    have d0 := (hcell _ c hc).1
    rw [show Tak.atE (cvs rs) ((k + 1 : Nat) : Int) = c.e from Tak.atE_is (cvs_at1 hc)]
    obtain ⟨z, hze⟩ : ∃ z : Int, ((k + 1 : Nat) : Int) = z := ⟨_, rfl⟩
    rw [hze]
    have g2 : IntKind.i64.wrap (z - 1) = (k : Int) := by rw [wrap64s _ (by omega) (by omega)]; omega
    have g3 : (k : Int) < (rs.length : Int) := by omega
    have g4 : (0 : Int) ≤ (k : Int) := by omega
    have g5 : (z == 0) = false := by rw [beq_eq_false_iff_ne]; omega
    generalize rs.length = m at *
    subst hv
    clear h hcell hc hn hl hze hz
    go_enter Try.func50, Try.ntmps50
    go_wp2
    go_ret
    exact ⟨rfl, rfl⟩

set_option maxRecDepth 20000 in
theorem phad_any (v : Value) (rs : List Cw) (m : Mw) (F : Nat) (w : World) (h : RowC w v rs) (hl : rs.length ≤ 1000000) (hi : IsM w m) (hF : m.f = (F : Int)) (h1 : 1 ≤ F) (h2 : F ≤ rs.length + 1) (h4 : m.cs.length ≤ 4) :
    Calls Try.prog 28 #[v, mv m] w fun E w' => E = .returned (.int .i64 ((min (rs.length + 1 - F) m.cs.length : Nat) : Int)) ∧ Below w.heap.size w w' := by
  obtain ⟨sa, so, hvs, _, _⟩ := hi.s.shape
  obtain ⟨ca, co, hvc, _, _⟩ := hi.c.1.shape
  obtain ⟨ao, cap, hvl, _, _⟩ := h.shape
  obtain ⟨w1, hw1, sz1, bel1, hA⟩ := newm' w m hvs hvc
  obtain ⟨p0, p1, p2, p3, p4, p5, p6, p7⟩ := (hA.below (Below.refl _ _)).ei' hvs hvc
  rw [mv_eq hvs hvc]
  rw [hF] at p5 hw1 ⊢
  have B1 := hide bel1
  subst hvl
  obtain ⟨x, hx⟩ : ∃ x : Int, (rs.length : Int) - ((F : Int) - 1) = x := ⟨_, rfl⟩
  have hw1 : IntKind.i64.wrap ((F : Int) - 1) = (F : Int) - 1 := wrap64s _ (by omega) (by omega)
  have hw2 : IntKind.i64.wrap ((rs.length : Int) - ((F : Int) - 1)) = x := by rw [wrap64s _ (by omega) (by omega)]; exact hx
  by_cases hm : x < (m.cs.length : Int)
  · have hk : ((min (rs.length + 1 - F) m.cs.length : Nat) : Int) = x := by omega
    have hm' : ¬ (m.cs.length : Int) < x := by omega
    rw [hk]
    clear h hi hA hvs hvc bel1 hF hk hx
    go_enter Try.func28, Try.ntmps28
    go_wp2
    go_ret
    exact ⟨rfl, B1.out⟩
  · by_cases hm2 : (m.cs.length : Int) < x
    · have hk : ((min (rs.length + 1 - F) m.cs.length : Nat) : Int) = (m.cs.length : Int) := by omega
      rw [hk]
      clear h hi hA hvs hvc bel1 hF hk hx
      go_enter Try.func28, Try.ntmps28
      go_wp2
      go_ret
      exact ⟨rfl, B1.out⟩
    · obtain rfl : (m.cs.length : Int) = x := by omega
      have hk : ((min (rs.length + 1 - F) m.cs.length : Nat) : Int) = (m.cs.length : Int) := by omega
      rw [hk]
      clear h hi hA hvs hvc bel1 hF hk hx
      go_enter Try.func28, Try.ntmps28
      go_wp2
      go_ret
      exact ⟨rfl, B1.out⟩

end Go.Proofs.Ytfnaeblbodfekaa

/- The program's fits (layer 18). -/
namespace Go.Proofs.Ytfnaeblbodfekaa
open Go.RowKit
set_option linter.unusedVariables false

set_option maxRecDepth 20000 in
set_option maxHeartbeats 8000000 in
theorem pfits_any (v : Value) (rs : List Cw) (m : Mw) (w : World) (h : IsC w v rs) (hl : rs.length ≤ 1000000) (hi : IsM w m) (ho : Mm.Ok m.m) (hk : m.k = 2) (hf : m.f ≤ (rs.length : Int) + 1) :
    Calls Try.prog 27 #[v, mv m] w fun E w' => E = .returned (.bool (Tak.fits (cvs rs) m.m)) ∧ Below w.heap.size w w' := by
  obtain ⟨hf1, hf2, hc4, hnum⟩ := ship_at ho hk
  obtain ⟨ao, cap, hvl, _, _⟩ := h.1.shape
  obtain ⟨sa, so, hvs, _, _⟩ := hi.s.shape
  obtain ⟨ca, co, hvc, _, _⟩ := hi.c.1.shape
  obtain ⟨w1, hw1, sz1, bel1, hA⟩ := newm' w m hvs hvc
  obtain ⟨F, hF⟩ : ∃ F : Nat, m.f = (F : Int) := ⟨m.f.toNat, by omega⟩
  obtain ⟨K, hK⟩ : ∃ K : Nat, min (rs.length + 1 - F) m.cs.length = K := ⟨_, rfl⟩
  have hF1 : 1 ≤ F := by omega
  have hF2 : F ≤ rs.length + 1 := by omega
  have HAD : Hid (∀ W, Below w1.heap.size w1 W → Calls Try.prog 28 #[.slice ao rs.length cap, .agg #[.int .i64 m.k, .int .i64 m.e, .int .u8 m.r, .int .i64 m.n, .slice sa m.ss.length so, .int .i64 (F : Int), .int .i64 m.p, .slice ca m.cs.length co]] W fun E w' => E = .returned (.int .i64 (K : Int)) ∧ Below W.heap.size W w') := hide fun W hW => by
    have := phad_any v rs m F W ((h.1.below bel1).below hW) hl ((hi.below bel1).below hW) hF hF1 hF2 hc4
    rw [mv_eq hvs hvc, hF, hvl, hK] at this
    exact this
  have EPO : Hid (∀ (n : Nat) (W : World), n ≤ rs.length → Below w1.heap.size w1 W → Calls Try.prog 50 #[.slice ao rs.length cap, .int .i64 (n : Int)] W fun E w' => E = .returned (.int .i64 (Tak.atE (cvs rs) n)) ∧ ∃ q, w' = W.drewN q) := hide fun n W hn hW => by
    have := pepo_any v rs n W ((h.1.below bel1).below hW) hl hn
    rw [hvl] at this
    exact this.mono fun E w' h => ⟨h.1, 0, by rw [h.2]; rfl⟩
  obtain ⟨vs, hsl, rowS⟩ := hi.c.1.slice_h Try.elemC Try.sizeC K (by omega)
  obtain ⟨a2, c2, hvs2, _, _⟩ := rowS.shape
  have hlt2 : (m.cs.take K).length = K := by rw [List.length_take]; omega
  rw [hlt2] at hvs2
  rw [mv_eq hvs hvc]
  have HE : Hid (∀ W, Below w1.heap.size w1 W → Ei W w.heap.size (.int .i64 m.k) (.int .i64 m.e) (.int .u8 m.r) (.int .i64 m.n) (.slice sa m.ss.length so) (.int .i64 m.f) (.int .i64 m.p) (.slice ca m.cs.length co)) := hide fun W hb => (hA.below hb).ei' hvs hvc
  have COM : Hid (∀ (i : Nat) (W : World), i < K → Below w1.heap.size w1 W → ∃ b off c, (.slice a2 K c2 : Value) = .slice (some ⟨b, off, none⟩) K c2 ∧ m.cs[i]? = some c ∧ (W.cell? ⟨b, off + i * 3, none⟩ = some (.int .i64 c.e) ∧ W.cell? ⟨b, off + i * 3 + 1, none⟩ = some (.int .i64 ((F + i : Nat) : Int)) ∧ W.cell? ⟨b, off + i * 3 + 2, none⟩ = some c.v) ∧ c.n = ((F + i : Nat) : Int) ∧ ∃ a n q, c.v = .slice a n q) := hide fun i W hn hW => by
    obtain ⟨b, off, cap', hv, _, _, hb, hcell⟩ := rowS.full (by rw [hlt2]; omega)
    rw [hvs2, hlt2] at hv
    simp only [Value.slice.injEq, true_and] at hv
    obtain ⟨rfl, rfl⟩ := hv
    obtain ⟨c, hc⟩ : ∃ c, m.cs[i]? = some c := ⟨m.cs[i]'(by omega), List.getElem?_eq_getElem (by omega)⟩
    obtain ⟨d0, d1, d2⟩ := hcell i c (by rw [List.getElem?_take, if_pos hn]; exact hc)
    have hcn := hnum i c hc
    have hcn' : c.n = ((F + i : Nat) : Int) := by rw [hcn, hF]; omega
    rw [hcn'] at d1
    have bW := bel1.trans (hW.mono (by omega))
    obtain ⟨a1, q1, ha, _, _⟩ := (hi.c.2 c (List.mem_of_getElem? hc)).1.shape
    exact ⟨b, off, c, rfl, hc, ⟨(bW.cell (p := ⟨b, off + i * 3, none⟩) hb).trans d0, (bW.cell (p := ⟨b, off + i * 3 + 1, none⟩) hb).trans d1, (bW.cell (p := ⟨b, off + i * 3 + 2, none⟩) hb).trans d2⟩, hcn', a1, _, q1, ha⟩
  have B1 := hide bel1
  obtain ⟨pv, hpv⟩ : ∃ pv, Tak.atE (cvs rs) (m.f - 1) = pv := ⟨_, rfl⟩
  obtain ⟨z, hz⟩ : ∃ z, Tak.fits (cvs rs) m.m = z := ⟨_, rfl⟩
  have HZP : Hid (pv ≠ m.p → z = false) := hide fun hne => by rw [← hz]; exact Tak.fits_prev (by rw [show m.m.f = m.f from rfl, hpv]; exact hne)
  have HZC : Hid (∀ (i : Nat) (c : Cw), m.cs[i]? = some c → c.n ≤ rs.length → Tak.atE (cvs rs) c.n ≠ c.e → z = false) := hide fun i c hc h1 h2 => by
    rw [← hz]
    refine Tak.fits_no (c := c.c) (List.mem_of_getElem? (cvs_at1 hc)) ?_
    unfold Tak.okc
    rw [cvs_n, decide_eq_false (by show ¬ (rs.length : Int) < c.n; omega), decide_eq_false (p := Tak.atE (cvs rs) c.c.n = c.c.e) h2]
    rfl
  have HZY : Hid (pv = m.p → (∀ (i : Nat) (c : Cw), i < K → m.cs[i]? = some c → Tak.atE (cvs rs) c.n = c.e) → z = true) := hide fun h1 h2 => by
    rw [← hz]
    refine Tak.fits_yes (by rw [show m.m.f = m.f from rfl, hpv]; exact h1) fun c hc => ?_
    obtain ⟨d, hd, rfl⟩ := List.mem_map.1 hc
    obtain ⟨i, hi⟩ := List.getElem?_of_mem hd
    unfold Tak.okc
    rw [cvs_n]
    by_cases hiK : i < K
    · rw [decide_eq_true (p := Tak.atE (cvs rs) d.c.n = d.c.e) (h2 i d hiK hi), Bool.or_true]
    · have hil := (List.getElem?_eq_some_iff.1 hi).1
      have := hnum i d hi
      rw [decide_eq_true (by show (rs.length : Int) < d.n; omega)]; rfl
  rw [hz]
  obtain ⟨G, hG⟩ : ∃ G : Nat, F = G + 1 := ⟨F - 1, by omega⟩
  have hGw : IntKind.i64.wrap ((F : Int) - 1) = (G : Int) := by rw [wrap64s _ (by omega) (by omega)]; omega
  have hpv' : Tak.atE (cvs rs) (G : Int) = pv := by rw [← hpv, hF]; congr 1; omega
  have PV : Hid (∀ n, Calls Try.prog 50 #[.slice ao rs.length cap, .int .i64 (G : Int)] (w1.drewN n) fun E w' => E = .returned (.int .i64 pv) ∧ ∃ q, w' = (w1.drewN n).drewN q) := hide fun n => by
    have := EPO.out G (w1.drewN n) (by omega) (below_drewN (Below.refl _ _) n)
    rw [hpv'] at this
    exact this
  have hKF : ∀ i, i < K → F + i ≤ rs.length := fun i hi => by omega
  have HKF := hide hKF
  have hK4 : K ≤ 4 := by omega
  rw [hF] at HE hw1 ⊢
  obtain ⟨p0, p1, p2, p3, p4, p5, p6, p7⟩ := HE.out w1 (Below.refl _ _)
  subst hvl
  rw [hvc] at hsl
  subst hvs2
  clear h hi hA hvs hvc hnum ho hk bel1 hz hpv hpv' hf hf1 hf2 hF hKF rowS hG hK hlt2
  go_enter Try.func27, Try.ntmps27
  go_wp2_with fail
  go_quiet ((go_at_call 50; refine Calls.quiet_of (PV.out _)))
  have BQ := hide (below_drewN (Below.refl w1.heap.size w1) nq)
  by_cases hp : pv = m.p
  case neg =>
    have hb : (m.p != pv) = true := by simpa using fun h => hp h.symm
    have hzf := HZP.out hp
    clear HE COM HZP HZC HZY EPO PV HAD
    go_wp2
    go_ret
    exact ⟨by rw [hzf]; rfl, below_drewN B1.out _⟩
  have HHP := hide hp
  subst hp
  have hb : (m.p != m.p) = false := by simp
  have HADQ := hide (fun W hW => HAD.out W hW)
  obtain ⟨s0, s1, s2, s3, s4, s5, s6, s7⟩ := HE.out (w1.drewN nq) BQ.out
  clear HZP HAD PV p0 p1 p2 p3 p4 p5 p6 p7
  generalize w1.drewN nq = Wq at *
  go_wp2_with fail
  go_region_held3 (fun W => W.cell? ⟨w.heap.size, 0, none⟩ = some (.int .i64 m.k) ∧ W.cell? ⟨w.heap.size, 1, none⟩ = some (.int .i64 m.e) ∧ W.cell? ⟨w.heap.size, 2, none⟩ = some (.int .u8 m.r) ∧ W.cell? ⟨w.heap.size, 3, none⟩ = some (.int .i64 m.n) ∧ W.cell? ⟨w.heap.size, 4, none⟩ = some (.slice sa m.ss.length so) ∧ W.cell? ⟨w.heap.size, 5, none⟩ = some (.int .i64 (F : Int)) ∧ W.cell? ⟨w.heap.size, 6, none⟩ = some (.int .i64 m.p) ∧ W.cell? ⟨w.heap.size, 7, none⟩ = some (.slice ca m.cs.length co)) (first | exact ⟨s0, s1, s2, s3, s4, s5, s6, s7⟩ | exact ⟨t0, t1, t2, t3, t4, t5, t6, t7⟩ | go_keep)
    (first
    | (go_at_call 28; refine (HADQ.out _ BQ.out.drew).mono ?_; rintro E w5 ⟨rfl, b5⟩; have D5 := hide (BQ.out.drew.trans (b5.mono BQ.out.drew.size)); obtain ⟨t0, t1, t2, t3, t4, t5, t6, t7⟩ := HE.out w5 D5.out; clear b5))
  clear s0 s1 s2 s3 s4 s5 s6 s7 t0 t1 t2 t3 t4 t5 t6 t7 HE HADQ
  go_wp2
  go_loopw [22] (fun iv wr => ∃ i : Nat, iv = .int .i64 (i : Int) ∧ i ≤ K ∧ Hid (∀ (j : Nat) (c : Cw), j < i → m.cs[j]? = some c → Tak.atE (cvs rs) c.n = c.e) ∧ Hid (Below w1.heap.size w1 wr)) (fun iv _ => K - (intOf iv).toNat)
  case atStart => exact ⟨0, rfl, by omega, hide fun j c hj => by omega, D5⟩
  case round =>
    obtain ⟨i, rfl, hi, HA, HB⟩ := hrel
    by_cases hlt : i < K
    · have hlt' : (i : Int) < K := by omega
      have hi0 : (0 : Int) ≤ (i : Int) := by omega
      obtain ⟨b, off, c, hvx, hc, ⟨d0, d1, d2⟩, hcn, ca1, cn1, cq1, hcv⟩ := COM.out i wr hlt HB.out
      simp only [Value.slice.injEq, and_true] at hvx
      rw [hcv] at d2
      obtain ⟨V, hV, hV2, szV, belV, bC, u0, u1, u2⟩ := new_step wr 50 (.int .i64 0) (.int .i64 0) (.slice none 0 0) (.int .i64 c.e) (.int .i64 ((F + i : Nat) : Int)) (.slice ca1 cn1 cq1)
      have DV := hide (HB.out.trans (belV.mono HB.out.size))
      have hle := HKF.out i hlt
      obtain ⟨x, hx⟩ : ∃ x, Tak.atE (cvs rs) ((F + i : Nat) : Int) = x := ⟨_, rfl⟩
      have EP : Hid (∀ n, Calls Try.prog 50 #[.slice ao rs.length cap, .int .i64 ((F + i : Nat) : Int)] (V.drewN n) fun E w' => E = .returned (.int .i64 x) ∧ ∃ q, w' = (V.drewN n).drewN q) := hide fun n => by
        have := EPO.out (F + i) (V.drewN n) hle (below_drewN DV.out n)
        rw [hx] at this
        exact this
      have hat : Tak.atE (cvs rs) c.n = x := by rw [hcn]; exact hx
      have hcn0 : c.n ≤ rs.length := by rw [hcn]; omega
      by_cases heq : x = c.e
      · have hb2 : (c.e != x) = false := by simp [heq]
        have HA2 : Hid (∀ (j : Nat) (d : Cw), j < i + 1 → m.cs[j]? = some d → Tak.atE (cvs rs) d.n = d.e) := hide fun j d hj hd => by
          by_cases hji : j < i
          · exact HA.out j d hji hd
          · obtain rfl : j = i := by omega
            rw [hc] at hd
            cases hd
            rw [hat]; exact heq
        generalize ((F + i : Nat) : Int) = fi at *
        subst hvx
        clear HA hc hat hcn hcn0 COM HZC HZY heq EPO hx belV bC hle
        go_wp2_with fail
        go_quiet ((go_at_call 50; refine Calls.quiet_of (EP.out _)))
        go_wp2
        go_roundw
        case rel => exact ⟨i + 1, by go_num, by omega, HA2, hide (below_drewN DV.out _)⟩
        case measure => simp [intOf]; omega
      · have hb2 : (c.e != x) = true := by simpa using fun h => heq h.symm
        have HZF := hide (HZC.out i c hc hcn0 (by rw [hat]; exact heq))
        generalize ((F + i : Nat) : Int) = fi at *
        subst hvx
        clear HA hc hat hcn hcn0 COM HZC HZY heq EPO hx belV bC hle
        go_wp2_with fail
        go_quiet ((go_at_call 50; refine Calls.quiet_of (EP.out _)))
        go_wp2
        go_ret
        exact ⟨by rw [HZF.out]; rfl, B1.out.trans ((below_drewN DV.out _).mono B1.out.size)⟩
    · have hlt' : ¬ (i : Int) < K := by omega
      obtain rfl : i = K := by omega
      have HZT := hide (HZY.out HHP.out fun j c hj hc => HA.out j c hj hc)
      clear COM HZC HZY HA EPO
      go_wp2
      go_ret
      exact ⟨by rw [HZT.out]; rfl, B1.out.trans (HB.out.mono B1.out.size)⟩

end Go.Proofs.Ytfnaeblbodfekaa
