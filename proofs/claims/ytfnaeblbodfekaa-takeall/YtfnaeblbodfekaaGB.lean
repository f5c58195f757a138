/- Texts of one layer, one behind the other. -/
import Derived.Test.YtfnaeblbodfekaaGA
import Derived.Test.YtfnaeblbodfekaaG9
import Derived.Test.YtfnaeblbodfekaaG6
/- The contracts of hasItsOwn and Check (the program's). -/
namespace Go.Proofs.Ytfnaeblbodfekaa
open Go.RowKit
set_option linter.unusedVariables false

theorem MAt.ei' {w : World} {g : Nat} {m : Mw} {a b : Value} (h : MAt w g m) (hs : m.vs = a) (hc : m.vc = b) : Ei w g (.int .i64 m.k) (.int .i64 m.e) (.int .u8 m.r) (.int .i64 m.n) a (.int .i64 m.f) (.int .i64 m.p) b := by
  subst hs hc
  exact h.ei
theorem mv_eq {m : Mw} {a b : Value} (hs : m.vs = a) (hc : m.vc = b) : mv m = .agg #[.int .i64 m.k, .int .i64 m.e, .int .u8 m.r, .int .i64 m.n, a, .int .i64 m.f, .int .i64 m.p, b] := by
  subst hs hc
  rfl
theorem mc_eq {m : Mw} {a b : Value} (hs : m.vs = a) (hc : m.vc = b) : mc m = #[.int .i64 m.k, .int .i64 m.e, .int .u8 m.r, .int .i64 m.n, a, .int .i64 m.f, .int .i64 m.p, b] := by
  subst hs hc
  rfl
theorem newm' (w : World) (m : Mw) {a b : Value} (hs : m.vs = a) (hc : m.vc = b) :
    ∃ V, w.alloc (.cells #[.int .i64 m.k, .int .i64 m.e, .int .u8 m.r, .int .i64 m.n, a, .int .i64 m.f, .int .i64 m.p, b] 30) = V ∧ V.heap.size = w.heap.size + 1 ∧ Below w.heap.size w V ∧ MAt V w.heap.size m := by
  subst hs hc
  exact newm w m

theorem putAt {V : World} {R : Nat} {t : TypeId} {cs : Array Value} (hR : V.heap[R]? = some (.cells cs t (0, 0))) (j : Nat) (u : Value) :
    ∃ V', V.setCell ⟨R, j, none⟩ u = V' ∧ V'.heap[R]? = some (.cells (cs.setIfInBounds j u) t (0, 0)) ∧ V.grownBy V' (some R) ∧ V.frozen? ⟨R, j, none⟩ = false :=
  ⟨_, rfl, set_cells hR j u, grown_setCell _ _ _, blk_froz hR j⟩

/-- What a kind asks. -/
def Kp (m : Mw) : Prop := (m.k = 1 ∧ Mm.Hel m.m) ∨ (m.k = 2 ∧ Mm.Shp m.m) ∨ (m.k = 3 ∧ Mm.Ack m.m)

/-- What is left of a message where only what its kind has is taken. -/
def own1 (m : Mw) : Mw := ⟨m.k, m.e, m.r, m.n, m.vs, m.ss, 0, 0, .slice none 0 0, []⟩
def own2 (m : Mw) : Mw := ⟨m.k, m.e, 0, 0, .slice none 0 0, [], m.f, m.p, m.vc, m.cs⟩
def own3 (m : Mw) : Mw := ⟨m.k, m.e, 0, m.n, .slice none 0 0, [], 0, 0, .slice none 0 0, []⟩

theorem nil_cvs {r : List Cw} (h : cvs r = []) : r = [] := by
  cases r with
  | nil => rfl
  | cons c r => simp [cvs] at h

theorem own1_same {m : Mw} : smM m.m (own1 m).m = true ↔ m.f = 0 ∧ m.p = 0 ∧ cvs m.cs = [] := by
  rw [smM_iff]
  constructor
  · intro e
    exact ⟨congrArg Mm.Msg.f e, congrArg Mm.Msg.p e, congrArg Mm.Msg.cs e⟩
  · rintro ⟨h1, h2, h3⟩
    exact Mm.Msg.eq rfl rfl rfl rfl rfl h1 h2 h3
theorem own2_same {m : Mw} : smM m.m (own2 m).m = true ↔ m.r = 0 ∧ m.n = 0 ∧ m.ss = [] := by
  rw [smM_iff]
  constructor
  · intro e
    exact ⟨congrArg Mm.Msg.r e, congrArg Mm.Msg.n e, congrArg Mm.Msg.ss e⟩
  · rintro ⟨h1, h2, h3⟩
    exact Mm.Msg.eq rfl rfl h1 h2 h3 rfl rfl rfl
theorem own3_same {m : Mw} : smM m.m (own3 m).m = true ↔ m.r = 0 ∧ m.ss = [] ∧ m.f = 0 ∧ m.p = 0 ∧ cvs m.cs = [] := by
  rw [smM_iff]
  constructor
  · intro e
    exact ⟨congrArg Mm.Msg.r e, congrArg Mm.Msg.ss e, congrArg Mm.Msg.f e, congrArg Mm.Msg.p e, congrArg Mm.Msg.cs e⟩
  · rintro ⟨h1, h2, h3, h4, h5⟩
    exact Mm.Msg.eq rfl rfl h1 rfl h2 h3 h4 h5

theorem own1_is {w : World} {m : Mw} (h : IsM w m) : IsM w (own1 m) := ⟨h.s, IsC.nil _⟩
theorem own2_is {w : World} {m : Mw} (h : IsM w m) : IsM w (own2 m) := ⟨RowG.nil _ _, h.c⟩
theorem own3_is {w : World} {m : Mw} (h : IsM w m) : IsM w (own3 m) := ⟨RowG.nil _ _, IsC.nil _⟩
theorem own1_fit {m : Mw} (h : FitM m) : FitM (own1 m) := ⟨h.k, h.e, h.r0, h.r1, h.n, FitM.no.f, FitM.no.p, h.ls, FitM.no.fc, FitM.no.lc⟩
theorem own2_fit {m : Mw} (h : FitM m) : FitM (own2 m) := ⟨h.k, h.e, FitM.no.r0, FitM.no.r1, FitM.no.n, h.f, h.p, FitM.no.ls, h.fc, h.lc⟩
theorem own3_fit {m : Mw} (h : FitM m) : FitM (own3 m) := ⟨h.k, h.e, FitM.no.r0, FitM.no.r1, h.n, FitM.no.f, FitM.no.p, FitM.no.ls, FitM.no.fc, FitM.no.lc⟩

theorem iff_bool {a b : Bool} (h : a = true ↔ b = true) : a = b := by cases a <;> cases b <;> simp_all

theorem kp_1 {m : Mw} (h : m.k = 1) : Kp m ↔ HelP (own1 m) ∧ smM m.m (own1 m).m = true := by
  rw [own1_same]
  constructor
  · rintro (⟨_, a1, a2, a3, a4, a5, a6, a7⟩ | ⟨k, _⟩ | ⟨k, _⟩)
    · exact ⟨⟨a1, a2, a3, a4⟩, a5, a6, a7⟩
    · omega
    · omega
  · rintro ⟨⟨a1, a2, a3, a4⟩, a5, a6, a7⟩
    exact .inl ⟨h, a1, a2, a3, a4, a5, a6, a7⟩
theorem kp_2 {m : Mw} (h : m.k = 2) : Kp m ↔ ShpP (own2 m) ∧ smM m.m (own2 m).m = true := by
  rw [own2_same]
  constructor
  · rintro (⟨k, _⟩ | ⟨_, a1, a2, a3, a4, a5, a6, a7, a8, a9, a10, a11⟩ | ⟨k, _⟩)
    · omega
    · exact ⟨⟨a1, a2, a3, a4, a5, by have := a6; simp only [Mw.m, cvs_length] at this; exact this, a7, a8⟩, a9, a10, a11⟩
    · omega
  · rintro ⟨⟨a1, a2, a3, a4, a5, a6, a7, a8⟩, a9, a10, a11⟩
    exact .inr (.inl ⟨h, a1, a2, a3, a4, a5, by simp only [Mw.m, cvs_length]; exact a6, a7, a8, a9, a10, a11⟩)
theorem kp_3 {m : Mw} (h : m.k = 3) : Kp m ↔ (0 ≤ m.n ∧ m.n ≤ 1048576) ∧ smM m.m (own3 m).m = true := by
  rw [own3_same]
  constructor
  · rintro (⟨k, _⟩ | ⟨k, _⟩ | ⟨_, a1, a2, a3, a4, a5, a6, a7⟩)
    · omega
    · omega
    · exact ⟨⟨a1, a2⟩, a3, a4, a5, a6, a7⟩
  · rintro ⟨⟨a1, a2⟩, a3, a4, a5, a6, a7⟩
    exact .inr (.inr ⟨h, a1, a2, a3, a4, a5, a6, a7⟩)

set_option maxRecDepth 100000 in
set_option maxHeartbeats 2000000 in
theorem hasItsOwn_any (m : Mw) (ans : Bool) (w : World) (hi : IsM w m) (hf : FitM m) (he : 1 ≤ m.e) (h : Yes ans (Kp m)) :
    Calls Try.prog 66 #[mv m] w fun E w' => E = .returned (.bool ans) ∧ Below w.heap.size w w' := by
  have HD : Hid (Yes ans (Kp m)) := hide h
  obtain ⟨ao, cap, hvs, _, _⟩ := hi.s.shape
  obtain ⟨ao2, cap2, hvc, _, _⟩ := hi.c.1.shape
  rw [mv_eq hvs hvc]
  have HVS := hide hvs
  have HVC := hide hvc
  obtain ⟨w1, hw1, sz1, bel1, hA⟩ := newm' w m hvs hvc
  obtain ⟨a0, a1, a2, a3, a4, a5, a6, a7⟩ := hA.ei' hvs hvc
  clear hvs hvc
  obtain ⟨w2, hw2', hw2, sz2, bel2, hO, _⟩ := new8 w1 30 (.int .i64 0) (.int .i64 0) (.int .u8 0) (.int .i64 0) (.slice none 0 0) (.int .i64 0) (.int .i64 0) (.slice none 0 0) (.int .i64 m.k) (.int .i64 m.e) (.int .u8 0) (.int .i64 0) (.slice none 0 0) (.int .i64 0) (.int .i64 0) (.slice none 0 0)
  rw [sz1] at hO hw2'
  have hA2 := hA.below bel2
  obtain ⟨c0, c1, c2, c3, c4, c5, c6, c7⟩ := hA2.ei' HVS.out HVC.out
  obtain ⟨d0, d1, d2, d3, d4, d5, d6, d7⟩ := ei_of hO
  have s2 : w2.setCell ⟨w.heap.size + 1, 2, none⟩ (.int .u8 0) = w2 := set_same hO (j := 2) rfl
  have s3 : w2.setCell ⟨w.heap.size + 1, 3, none⟩ (.int .i64 0) = w2 := set_same hO (j := 3) rfl
  have s4 : w2.setCell ⟨w.heap.size + 1, 4, none⟩ (.slice none 0 0) = w2 := set_same hO (j := 4) rfl
  have s5 : w2.setCell ⟨w.heap.size + 1, 5, none⟩ (.int .i64 0) = w2 := set_same hO (j := 5) rfl
  have s6 : w2.setCell ⟨w.heap.size + 1, 6, none⟩ (.int .i64 0) = w2 := set_same hO (j := 6) rfl
  have s7 : w2.setCell ⟨w.heap.size + 1, 7, none⟩ (.slice none 0 0) = w2 := set_same hO (j := 7) rfl
  have f2 := blk_froz hO 2
  have f3 := blk_froz hO 3
  have f4 := blk_froz hO 4
  have f5 := blk_froz hO 5
  have f6 := blk_froz hO 6
  have f7 := blk_froz hO 7
  have bel : Below w.heap.size w w2 := bel1.trans (bel2.mono (by omega))
  have HI := hide hi
  have HF := hide hf
  have hlt : w.heap.size < w2.heap.size := by omega
  clear h hA hi hf bel1 bel2
  go_enter Try.func66, Try.ntmps66
  by_cases h1 : m.k = 1
  · have h1' : (m.k == 1) = true := by simp [h1]
    have HK := hide (kp_1 h1)
    clear h1
    obtain ⟨V2, hV2, rV2, gV2, zV2⟩ := putAt hO 2 (.int .u8 m.r)
    have bV2 : V2.heap[w.heap.size + 1]? = some (.cells #[.int .i64 m.k, .int .i64 m.e, .int .u8 m.r, .int .i64 0, .slice none 0 0, .int .i64 0, .int .i64 0, .slice none 0 0] 30 (0, 0)) := rV2
    have szV2 := gV2.size
    have AV2 : MAt V2 w.heap.size m := (gV2.block w.heap.size (by omega) (by simp)).trans hA2
    have belV2 := below_put bel gV2 (by omega) (by omega)
    obtain ⟨l20, l21, l22, l23, l24, l25, l26, l27⟩ := AV2.ei' HVS.out HVC.out
    obtain ⟨y20, y21, y22, y23, y24, y25, y26, y27⟩ := ei_of bV2
    obtain ⟨V3, hV3, rV3, gV3, zV3⟩ := putAt bV2 3 (.int .i64 m.n)
    have bV3 : V3.heap[w.heap.size + 1]? = some (.cells #[.int .i64 m.k, .int .i64 m.e, .int .u8 m.r, .int .i64 m.n, .slice none 0 0, .int .i64 0, .int .i64 0, .slice none 0 0] 30 (0, 0)) := rV3
    have szV3 := gV3.size
    have AV3 : MAt V3 w.heap.size m := (gV3.block w.heap.size (by omega) (by simp)).trans AV2
    have belV3 := below_put belV2 gV3 (by omega) (by omega)
    obtain ⟨l30, l31, l32, l33, l34, l35, l36, l37⟩ := AV3.ei' HVS.out HVC.out
    obtain ⟨y30, y31, y32, y33, y34, y35, y36, y37⟩ := ei_of bV3
    obtain ⟨V4, hV4, rV4, gV4, zV4⟩ := putAt bV3 4 (.slice ao m.ss.length cap)
    have bV4 : V4.heap[w.heap.size + 1]? = some (.cells #[.int .i64 m.k, .int .i64 m.e, .int .u8 m.r, .int .i64 m.n, .slice ao m.ss.length cap, .int .i64 0, .int .i64 0, .slice none 0 0] 30 (0, 0)) := rV4
    have szV4 := gV4.size
    have AV4 : MAt V4 w.heap.size m := (gV4.block w.heap.size (by omega) (by simp)).trans AV3
    have belV4 := below_put belV3 gV4 (by omega) (by omega)
    obtain ⟨Vd, hVd⟩ : ∃ X, V4.drew = X := ⟨_, rfl⟩
    have szd : Vd.heap.size = V4.heap.size := by rw [← hVd]; rfl
    have AV : Hid (MAt Vd w.heap.size m) := hide (by rw [← hVd]; exact AV4)
    have OV : Hid (MAt Vd (w.heap.size + 1) (own1 m)) := hide (by rw [← hVd]; unfold MAt; rw [mc_eq (m := own1 m) (a := .slice ao m.ss.length cap) (b := .slice none 0 0) HVS.out rfl]; exact bV4)
    have belA : Below w.heap.size w Vd := by rw [← hVd]; exact belV4.drew
    clear AV4 bV4 belV4
    clear rV2
    clear rV3
    clear rV4
    clear bV2 AV2 belV2
    clear bV3 AV3 belV3
    clear gV2
    clear gV3
    clear gV4
    clear hO hA2 bel
    go_wp2
    go_region
    clear hV2 hV3 hV4 hVd hw1 hw2 hw2' s2 s3 s4 s5 s6 s7 f2 f3 f4 f5 f6 f7 a0 a1 a2 a3 a4 a5 a6 a7 c0 c1 c2 c3 c4 c5 c6 c7 d0 d1 d2 d3 d4 d5 d6 d7
    clear l20 l21 l22 l23 l24 l25 l26 l27 y20 y21 y22 y23 y24 y25 y26 y27
    clear l30 l31 l32 l33 l34 l35 l36 l37 y30 y31 y32 y33 y34 y35 y36 y37
    have OE : ∀ W, MAt W (w.heap.size + 1) (own1 m) → Ei W (w.heap.size + 1) (.int .i64 m.k) (.int .i64 m.e) (.int .u8 m.r) (.int .i64 m.n) (.slice ao m.ss.length cap) (.int .i64 0) (.int .i64 0) (.slice none 0 0) := fun W k => k.ei' HVS.out rfl
    have OE := hide OE
    obtain ⟨e0, e1, e2, e3, e4, e5, e6, e7⟩ := OE.out _ OV.out
    obtain ⟨hm, hhm⟩ := yes_of (HelP (own1 m))
    have HM := hide hhm
    clear hhm
    go_wp2_with fail
    have XX := helloMayBe_any (own1 m) hm Vd (own1_is (HI.out.below belA)) (own1_fit HF.out) (show (0 : Int) ≤ m.e by omega) HM.out
    rw [mv_eq (m := own1 m) (a := .slice ao m.ss.length cap) (b := .slice none 0 0) HVS.out rfl] at XX
    refine XX.mono ?_
    clear XX
    rintro E w3 ⟨rfl, bel3⟩
    clear e0 e1 e2 e3 e4 e5 e6 e7
    have sz3 := bel3.size
    have bel03 := belA.trans (bel3.mono (by omega))
    have hm' : Yes hm (HelP (own1 m)) := HM.out
    cases hm
    · obtain rfl : ans = false := HD.out.no fun k => by
        have := hm'.2 (HK.out.1 k).1
        simp at this
      clear hm'
      go_wp2
      go_ret
      exact ⟨rfl, bel03⟩
    · have hs : Hid (ans = smM m.m (own1 m).m) := hide (iff_bool (HD.out.trans (HK.out.trans ⟨fun k => k.2, fun k => ⟨hm'.1 rfl, k⟩⟩)))
      clear hm'
      obtain ⟨e0, e1, e2, e3, e4, e5, e6, e7⟩ := OE.out _ (OV.out.below bel3)
      obtain ⟨x0, x1, x2, x3, x4, x5, x6, x7⟩ := (AV.out.below bel3).ei' HVS.out HVC.out
      go_wp2_with fail
      have XX := msame_any m (own1 m) w3 (HI.out.below bel03) (own1_is (HI.out.below bel03)) HF.out (own1_fit HF.out)
      rw [mv_eq HVS.out HVC.out, mv_eq (m := own1 m) (a := .slice ao m.ss.length cap) (b := .slice none 0 0) HVS.out rfl] at XX
      refine XX.mono ?_
      clear XX
      rintro E w4 ⟨rfl, bel4⟩
      rw [← hs.out]
      have bel04 := bel03.trans (bel4.mono (by omega))
      go_wp2
      go_ret
      exact ⟨rfl, bel04⟩
  have h1' : (m.k == 1) = false := by simpa using h1
  by_cases h2 : m.k = 2
  · have h2' : (m.k == 2) = true := by simp [h2]
    have HK := hide (kp_2 h2)
    clear h2
    obtain ⟨V5, hV5, rV5, gV5, zV5⟩ := putAt hO 5 (.int .i64 m.f)
    have bV5 : V5.heap[w.heap.size + 1]? = some (.cells #[.int .i64 m.k, .int .i64 m.e, .int .u8 0, .int .i64 0, .slice none 0 0, .int .i64 m.f, .int .i64 0, .slice none 0 0] 30 (0, 0)) := rV5
    have szV5 := gV5.size
    have AV5 : MAt V5 w.heap.size m := (gV5.block w.heap.size (by omega) (by simp)).trans hA2
    have belV5 := below_put bel gV5 (by omega) (by omega)
    obtain ⟨l50, l51, l52, l53, l54, l55, l56, l57⟩ := AV5.ei' HVS.out HVC.out
    obtain ⟨y50, y51, y52, y53, y54, y55, y56, y57⟩ := ei_of bV5
    obtain ⟨V6, hV6, rV6, gV6, zV6⟩ := putAt bV5 6 (.int .i64 m.p)
    have bV6 : V6.heap[w.heap.size + 1]? = some (.cells #[.int .i64 m.k, .int .i64 m.e, .int .u8 0, .int .i64 0, .slice none 0 0, .int .i64 m.f, .int .i64 m.p, .slice none 0 0] 30 (0, 0)) := rV6
    have szV6 := gV6.size
    have AV6 : MAt V6 w.heap.size m := (gV6.block w.heap.size (by omega) (by simp)).trans AV5
    have belV6 := below_put belV5 gV6 (by omega) (by omega)
    obtain ⟨l60, l61, l62, l63, l64, l65, l66, l67⟩ := AV6.ei' HVS.out HVC.out
    obtain ⟨y60, y61, y62, y63, y64, y65, y66, y67⟩ := ei_of bV6
    obtain ⟨V7, hV7, rV7, gV7, zV7⟩ := putAt bV6 7 (.slice ao2 m.cs.length cap2)
    have bV7 : V7.heap[w.heap.size + 1]? = some (.cells #[.int .i64 m.k, .int .i64 m.e, .int .u8 0, .int .i64 0, .slice none 0 0, .int .i64 m.f, .int .i64 m.p, .slice ao2 m.cs.length cap2] 30 (0, 0)) := rV7
    have szV7 := gV7.size
    have AV7 : MAt V7 w.heap.size m := (gV7.block w.heap.size (by omega) (by simp)).trans AV6
    have belV7 := below_put belV6 gV7 (by omega) (by omega)
    obtain ⟨Vd, hVd⟩ : ∃ X, V7.drew = X := ⟨_, rfl⟩
    have szd : Vd.heap.size = V7.heap.size := by rw [← hVd]; rfl
    have AV : Hid (MAt Vd w.heap.size m) := hide (by rw [← hVd]; exact AV7)
    have OV : Hid (MAt Vd (w.heap.size + 1) (own2 m)) := hide (by rw [← hVd]; unfold MAt; rw [mc_eq (m := own2 m) (a := .slice none 0 0) (b := .slice ao2 m.cs.length cap2) rfl HVC.out]; exact bV7)
    have belA : Below w.heap.size w Vd := by rw [← hVd]; exact belV7.drew
    clear AV7 bV7 belV7
    clear rV5
    clear rV6
    clear rV7
    clear bV5 AV5 belV5
    clear bV6 AV6 belV6
    clear gV5
    clear gV6
    clear gV7
    clear hO hA2 bel
    go_wp2
    go_region
    clear hV5 hV6 hV7 hVd hw1 hw2 hw2' s2 s3 s4 s5 s6 s7 f2 f3 f4 f5 f6 f7 a0 a1 a2 a3 a4 a5 a6 a7 c0 c1 c2 c3 c4 c5 c6 c7 d0 d1 d2 d3 d4 d5 d6 d7
    clear l50 l51 l52 l53 l54 l55 l56 l57 y50 y51 y52 y53 y54 y55 y56 y57
    clear l60 l61 l62 l63 l64 l65 l66 l67 y60 y61 y62 y63 y64 y65 y66 y67
    have OE : ∀ W, MAt W (w.heap.size + 1) (own2 m) → Ei W (w.heap.size + 1) (.int .i64 m.k) (.int .i64 m.e) (.int .u8 0) (.int .i64 0) (.slice none 0 0) (.int .i64 m.f) (.int .i64 m.p) (.slice ao2 m.cs.length cap2) := fun W k => k.ei' rfl HVC.out
    have OE := hide OE
    obtain ⟨e0, e1, e2, e3, e4, e5, e6, e7⟩ := OE.out _ OV.out
    obtain ⟨hm, hhm⟩ := yes_of (ShpP (own2 m))
    have HM := hide hhm
    clear hhm
    go_wp2_with fail
    have XX := shipMayBe_any (own2 m) hm Vd (own2_is (HI.out.below belA)) (own2_fit HF.out) HM.out
    rw [mv_eq (m := own2 m) (a := .slice none 0 0) (b := .slice ao2 m.cs.length cap2) rfl HVC.out] at XX
    refine XX.mono ?_
    clear XX
    rintro E w3 ⟨rfl, bel3⟩
    clear e0 e1 e2 e3 e4 e5 e6 e7
    have sz3 := bel3.size
    have bel03 := belA.trans (bel3.mono (by omega))
    have hm' : Yes hm (ShpP (own2 m)) := HM.out
    cases hm
    · obtain rfl : ans = false := HD.out.no fun k => by
        have := hm'.2 (HK.out.1 k).1
        simp at this
      clear hm'
      go_wp2
      go_ret
      exact ⟨rfl, bel03⟩
    · have hs : Hid (ans = smM m.m (own2 m).m) := hide (iff_bool (HD.out.trans (HK.out.trans ⟨fun k => k.2, fun k => ⟨hm'.1 rfl, k⟩⟩)))
      clear hm'
      obtain ⟨e0, e1, e2, e3, e4, e5, e6, e7⟩ := OE.out _ (OV.out.below bel3)
      obtain ⟨x0, x1, x2, x3, x4, x5, x6, x7⟩ := (AV.out.below bel3).ei' HVS.out HVC.out
      go_wp2_with fail
      have XX := msame_any m (own2 m) w3 (HI.out.below bel03) (own2_is (HI.out.below bel03)) HF.out (own2_fit HF.out)
      rw [mv_eq HVS.out HVC.out, mv_eq (m := own2 m) (a := .slice none 0 0) (b := .slice ao2 m.cs.length cap2) rfl HVC.out] at XX
      refine XX.mono ?_
      clear XX
      rintro E w4 ⟨rfl, bel4⟩
      rw [← hs.out]
      have bel04 := bel03.trans (bel4.mono (by omega))
      go_wp2
      go_ret
      exact ⟨rfl, bel04⟩
  have h2' : (m.k == 2) = false := by simpa using h2
  by_cases h3 : m.k = 3
  · have h3' : (m.k == 3) = true := by simp [h3]
    have HK := hide (kp_3 h3)
    clear h3
    obtain ⟨V3, hV3, rV3, gV3, zV3⟩ := putAt hO 3 (.int .i64 m.n)
    have bV3 : V3.heap[w.heap.size + 1]? = some (.cells #[.int .i64 m.k, .int .i64 m.e, .int .u8 0, .int .i64 m.n, .slice none 0 0, .int .i64 0, .int .i64 0, .slice none 0 0] 30 (0, 0)) := rV3
    have szV3 := gV3.size
    have AV3 : MAt V3 w.heap.size m := (gV3.block w.heap.size (by omega) (by simp)).trans hA2
    have belV3 := below_put bel gV3 (by omega) (by omega)
    obtain ⟨x0, x1, x2, x3, x4, x5, x6, x7⟩ := AV3.ei' HVS.out HVC.out
    obtain ⟨e0, e1, e2, e3, e4, e5, e6, e7⟩ := ei_of bV3
    clear rV3 gV3 bV3 hO hA2 bel
    by_cases p1 : 0 ≤ m.n
    · by_cases p2 : m.n ≤ 1048576
      · have hs : Hid (ans = smM m.m (own3 m).m) := hide (iff_bool (HD.out.trans (HK.out.trans ⟨fun k => k.2, fun k => ⟨⟨p1, p2⟩, k⟩⟩)))
        go_wp2_with fail
        have XX := msame_any m (own3 m) V3 (HI.out.below belV3) (own3_is (HI.out.below belV3)) HF.out (own3_fit HF.out)
        rw [mv_eq HVS.out HVC.out] at XX
        refine XX.mono ?_
        clear XX
        rintro E w4 ⟨rfl, bel4⟩
        rw [← hs.out]
        have bel04 := belV3.trans (bel4.mono (by omega))
        go_wp2
        go_ret
        exact ⟨rfl, bel04⟩
      · obtain rfl : ans = false := HD.out.no fun k => p2 (HK.out.1 k).1.2
        have p3 : (1048576 : Int) < m.n := by omega
        go_wp2
        go_ret
        exact ⟨rfl, belV3⟩
    · obtain rfl : ans = false := HD.out.no fun k => p1 (HK.out.1 k).1.1
      have p3 : m.n < 0 := by omega
      go_wp2
      go_ret
      exact ⟨rfl, belV3⟩
  have h3' : (m.k == 3) = false := by simpa using h3
  obtain rfl : ans = false := HD.out.no fun k => by
    rcases k with ⟨k, _⟩ | ⟨k, _⟩ | ⟨k, _⟩ <;> omega
  go_wp2
  go_ret
  exact ⟨rfl, bel⟩

set_option maxHeartbeats 1000000 in
theorem mcheck_any (m : Mw) (c : Int) (w : World) (hi : IsM w m) (hf : FitM m) (hc : Mm.Ck m.m c) :
    Calls Try.prog 49 #[mv m] w fun E w' => E = .returned (.int .i64 c) ∧ Below w.heap.size w w' := by
  have HC := hide hc
  have NO : Hid (¬ Mm.Ok m.m → c = 2) := hide fun h => by
    rcases HC.out with ⟨_, k⟩ | ⟨e, _⟩
    · exact absurd k h
    · exact e
  unfold mv
  obtain ⟨w1, hw1, sz1, bel1, hA⟩ := newm w m
  obtain ⟨a0, a1, a2, a3, a4, a5, a6, a7⟩ := hA.ei
  clear hA hc
  go_enter Try.func49, Try.ntmps49
  by_cases h1 : m.e < 1
  · obtain rfl := NO.out fun k => by have : 1 ≤ m.e := k.1; omega
    go_wp2
    go_ret
    exact ⟨rfl, bel1⟩
  by_cases h2 : 1048576 < m.e
  · obtain rfl := NO.out fun k => by have : m.e ≤ 1048576 := k.2.1; omega
    go_wp2
    go_ret
    exact ⟨rfl, bel1⟩
  obtain ⟨ans, hy⟩ := yes_of (Kp m)
  have HY := hide hy
  clear hy
  go_wp2_with fail
  refine (hasItsOwn_any m ans w1 (hi.below bel1) hf (by omega) HY.out).mono ?_
  rintro E w2 ⟨rfl, bel2⟩
  have bel02 := bel1.trans (bel2.mono (by omega))
  have hy := HY.out
  cases ans
  · obtain rfl := NO.out fun k => by
      have := hy.2 k.2.2
      simp at this
    clear hy
    go_wp2
    go_ret
    exact ⟨rfl, bel02⟩
  · have hk := hy.1 rfl
    obtain rfl : c = 0 := by
      rcases HC.out with ⟨e, _⟩ | ⟨_, k⟩
      · exact e
      · exact absurd ⟨by show 1 ≤ m.e; omega, by show m.e ≤ 1048576; omega, hk⟩ k
    clear hy hk
    go_wp2
    go_ret
    exact ⟨rfl, bel02⟩

end Go.Proofs.Ytfnaeblbodfekaa

/- Bytes in a variable of their own, and what is put behind them: the contract of write's closure. -/
namespace Go.Proofs.Ytfnaeblbodfekaa
open Go.RowKit
set_option linter.unusedVariables false

theorem encs_snoc (l : List Int) (k : Nat) (x : Int) (h : l[k]? = some x) : Pm.encs (l.take (k + 1)) = Pm.encs (l.take k) ++ Vm.enc x.toNat := by
  rw [List.take_add_one, h, Pm.encs_app]
  simp [Pm.encs]

theorem encs_take_len (l : List Int) (k : Nat) (h : ∀ z ∈ l, z < 18446744073709551616) : (Pm.encs (l.take k)).length ≤ 10 * l.length := by
  have h1 := (Pm.encs_len (l := l.take k) (fun z hz => h z (List.mem_of_mem_take hz))).1
  have : (l.take k).length ≤ l.length := List.length_take_le' _ _
  omega

theorem wrap_u64 {x : Int} (h0 : 0 ≤ x) (h1 : x < 18446744073709551616) : IntKind.u64.wrap x = x := by
  unfold IntKind.wrap
  simp [IntKind.bits, IntKind.signed]
  omega

end Go.Proofs.Ytfnaeblbodfekaa

/- The contracts of Encode: the program's, the document's; of the copy that slices.Clone makes of ops, and of Copy. -/
namespace Go.Proofs.Ytfnaeblbodfekaa
open Go.RowKit
set_option linter.unusedVariables false

end Go.Proofs.Ytfnaeblbodfekaa
