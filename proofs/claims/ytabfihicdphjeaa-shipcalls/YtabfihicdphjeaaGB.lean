/- Texts of one layer, one behind the other. -/
import Derived.Test.YtabfihicdphjeaaGA
import Derived.Test.YtabfihicdphjeaaG9
import Derived.Test.YtabfihicdphjeaaG6
/- The contracts of hasItsOwn and Check (the program's). -/
namespace Go.Proofs.Ytabfihicdphjeaa
open Go.RowKit
set_option linter.unusedVariables false

theorem MAt.ei' {w : World} {g : Nat} {m : Mw} {a b : Value} (h : MAt w g m) (hs : m.vs = a) (hc : m.vc = b) : Ei w g (.int .i64 m.k) (.int .i64 m.e) (.int .u8 m.r) (.int .i64 m.n) a (.int .i64 m.f) (.int .i64 m.p) b := by
  subst hs hc
  exact h.ei
theorem mv_eq {m : Mw} {a b : Value} (hs : m.vs = a) (hc : m.vc = b) : mv m = .agg #[.int .i64 m.k, .int .i64 m.e, .int .u8 m.r, .int .i64 m.n, a, .int .i64 m.f, .int .i64 m.p, b] := by
  subst hs hc
  rfl
theorem mc_eq {m : Mw} {a b : Value} (hs : m.vs = a) (hc : m.vc = b) : mc m = #[.int .i64 m.k, .int .i64 m.e, .int .u8 m.r, .int .i64 m.n, a, .int .i64 m.f, .int .i64 m.p, b] := by
  subst hs hc
  rfl
theorem newm' (w : World) (m : Mw) {a b : Value} (hs : m.vs = a) (hc : m.vc = b) :
    ∃ V, w.alloc (.cells #[.int .i64 m.k, .int .i64 m.e, .int .u8 m.r, .int .i64 m.n, a, .int .i64 m.f, .int .i64 m.p, b] 26) = V ∧ V.heap.size = w.heap.size + 1 ∧ Below w.heap.size w V ∧ MAt V w.heap.size m := by
  subst hs hc
  exact newm w m

theorem putAt {V : World} {R : Nat} {t : TypeId} {cs : Array Value} (hR : V.heap[R]? = some (.cells cs t (0, 0))) (j : Nat) (u : Value) :
    ∃ V', V.setCell ⟨R, j, none⟩ u = V' ∧ V'.heap[R]? = some (.cells (cs.setIfInBounds j u) t (0, 0)) ∧ V.grownBy V' (some R) ∧ V.frozen? ⟨R, j, none⟩ = false :=
  ⟨_, rfl, set_cells hR j u, grown_setCell _ _ _, blk_froz hR j⟩

/-- What a kind asks. -/
def Kp (m : Mw) : Prop := (m.k = 1 ∧ Mm.Hel m.m) ∨ (m.k = 2 ∧ Mm.Shp m.m) ∨ (m.k = 3 ∧ Mm.Ack m.m)

/-- What is left of a message where only what its kind has is taken. -/
def own1 (m : Mw) : Mw := ⟨m.k, m.e, m.r, m.n, m.vs, m.ss, 0, 0, .slice none 0 0, []⟩
def own2 (m : Mw) : Mw := ⟨m.k, m.e, 0, 0, .slice none 0 0, [], m.f, m.p, m.vc, m.cs⟩
def own3 (m : Mw) : Mw := ⟨m.k, m.e, 0, m.n, .slice none 0 0, [], 0, 0, .slice none 0 0, []⟩

theorem nil_cvs {r : List Cw} (h : cvs r = []) : r = [] := by
  cases r with
  | nil => rfl
  | cons c r => simp [cvs] at h

theorem own1_same {m : Mw} : smM m.m (own1 m).m = true ↔ m.f = 0 ∧ m.p = 0 ∧ cvs m.cs = [] := by
  rw [smM_iff]
  constructor
  · intro e
    exact ⟨congrArg Mm.Msg.f e, congrArg Mm.Msg.p e, congrArg Mm.Msg.cs e⟩
  · rintro ⟨h1, h2, h3⟩
    exact Mm.Msg.eq rfl rfl rfl rfl rfl h1 h2 h3
theorem own2_same {m : Mw} : smM m.m (own2 m).m = true ↔ m.r = 0 ∧ m.n = 0 ∧ m.ss = [] := by
  rw [smM_iff]
  constructor
  · intro e
    exact ⟨congrArg Mm.Msg.r e, congrArg Mm.Msg.n e, congrArg Mm.Msg.ss e⟩
  · rintro ⟨h1, h2, h3⟩
    exact Mm.Msg.eq rfl rfl h1 h2 h3 rfl rfl rfl
theorem own3_same {m : Mw} : smM m.m (own3 m).m = true ↔ m.r = 0 ∧ m.ss = [] ∧ m.f = 0 ∧ m.p = 0 ∧ cvs m.cs = [] := by
  rw [smM_iff]
  constructor
  · intro e
    exact ⟨congrArg Mm.Msg.r e, congrArg Mm.Msg.ss e, congrArg Mm.Msg.f e, congrArg Mm.Msg.p e, congrArg Mm.Msg.cs e⟩
  · rintro ⟨h1, h2, h3, h4, h5⟩
    exact Mm.Msg.eq rfl rfl h1 rfl h2 h3 h4 h5

theorem own1_is {w : World} {m : Mw} (h : IsM w m) : IsM w (own1 m) := ⟨h.s, IsC.nil _⟩
theorem own2_is {w : World} {m : Mw} (h : IsM w m) : IsM w (own2 m) := ⟨RowG.nil _ _, h.c⟩
theorem own3_is {w : World} {m : Mw} (h : IsM w m) : IsM w (own3 m) := ⟨RowG.nil _ _, IsC.nil _⟩
theorem own1_fit {m : Mw} (h : FitM m) : FitM (own1 m) := ⟨h.k, h.e, h.r0, h.r1, h.n, FitM.no.f, FitM.no.p, h.ls, FitM.no.fc, FitM.no.lc⟩
theorem own2_fit {m : Mw} (h : FitM m) : FitM (own2 m) := ⟨h.k, h.e, FitM.no.r0, FitM.no.r1, FitM.no.n, h.f, h.p, FitM.no.ls, h.fc, h.lc⟩
theorem own3_fit {m : Mw} (h : FitM m) : FitM (own3 m) := ⟨h.k, h.e, FitM.no.r0, FitM.no.r1, h.n, FitM.no.f, FitM.no.p, FitM.no.ls, FitM.no.fc, FitM.no.lc⟩

theorem iff_bool {a b : Bool} (h : a = true ↔ b = true) : a = b := by cases a <;> cases b <;> simp_all

theorem kp_1 {m : Mw} (h : m.k = 1) : Kp m ↔ HelP (own1 m) ∧ smM m.m (own1 m).m = true := by
  rw [own1_same]
  constructor
  · rintro (⟨_, a1, a2, a3, a4, a5, a6, a7⟩ | ⟨k, _⟩ | ⟨k, _⟩)
    · exact ⟨⟨a1, a2, a3, a4⟩, a5, a6, a7⟩
    · omega
    · omega
  · rintro ⟨⟨a1, a2, a3, a4⟩, a5, a6, a7⟩
    exact .inl ⟨h, a1, a2, a3, a4, a5, a6, a7⟩
theorem kp_2 {m : Mw} (h : m.k = 2) : Kp m ↔ ShpP (own2 m) ∧ smM m.m (own2 m).m = true := by
  rw [own2_same]
  constructor
  · rintro (⟨k, _⟩ | ⟨_, a1, a2, a3, a4, a5, a6, a7, a8, a9, a10, a11⟩ | ⟨k, _⟩)
    · omega
    · exact ⟨⟨a1, a2, a3, a4, a5, by have := a6; simp only [Mw.m, cvs_length] at this; exact this, a7, a8⟩, a9, a10, a11⟩
    · omega
  · rintro ⟨⟨a1, a2, a3, a4, a5, a6, a7, a8⟩, a9, a10, a11⟩
    exact .inr (.inl ⟨h, a1, a2, a3, a4, a5, by simp only [Mw.m, cvs_length]; exact a6, a7, a8, a9, a10, a11⟩)
theorem kp_3 {m : Mw} (h : m.k = 3) : Kp m ↔ (0 ≤ m.n ∧ m.n ≤ 1048576) ∧ smM m.m (own3 m).m = true := by
  rw [own3_same]
  constructor
  · rintro (⟨k, _⟩ | ⟨k, _⟩ | ⟨_, a1, a2, a3, a4, a5, a6, a7⟩)
    · omega
    · omega
    · exact ⟨⟨a1, a2⟩, a3, a4, a5, a6, a7⟩
  · rintro ⟨⟨a1, a2⟩, a3, a4, a5, a6, a7⟩
    exact .inr (.inr ⟨h, a1, a2, a3, a4, a5, a6, a7⟩)

set_option maxRecDepth 100000 in
set_option maxHeartbeats 2000000 in
theorem hasItsOwn_any (m : Mw) (ans : Bool) (w : World) (hi : IsM w m) (hf : FitM m) (he : 1 ≤ m.e) (h : Yes ans (Kp m)) :
    Calls Try.prog 45 #[mv m] w fun E w' => E = .returned (.bool ans) ∧ Below w.heap.size w w' := by
  have HD : Hid (Yes ans (Kp m)) := hide h
  obtain ⟨ao, cap, hvs, _, _⟩ := hi.s.shape
  obtain ⟨ao2, cap2, hvc, _, _⟩ := hi.c.1.shape
  rw [mv_eq hvs hvc]
  have HVS := hide hvs
  have HVC := hide hvc
  obtain ⟨w1, hw1, sz1, bel1, hA⟩ := newm' w m hvs hvc
  obtain ⟨a0, a1, a2, a3, a4, a5, a6, a7⟩ := hA.ei' hvs hvc
  clear hvs hvc
  obtain ⟨w2, hw2', hw2, sz2, bel2, hO, _⟩ := new8 w1 26 (.int .i64 0) (.int .i64 0) (.int .u8 0) (.int .i64 0) (.slice none 0 0) (.int .i64 0) (.int .i64 0) (.slice none 0 0) (.int .i64 m.k) (.int .i64 m.e) (.int .u8 0) (.int .i64 0) (.slice none 0 0) (.int .i64 0) (.int .i64 0) (.slice none 0 0)
  rw [sz1] at hO hw2'
  have hA2 := hA.below bel2
  obtain ⟨c0, c1, c2, c3, c4, c5, c6, c7⟩ := hA2.ei' HVS.out HVC.out
  obtain ⟨d0, d1, d2, d3, d4, d5, d6, d7⟩ := ei_of hO
  have s2 : w2.setCell ⟨w.heap.size + 1, 2, none⟩ (.int .u8 0) = w2 := set_same hO (j := 2) rfl
  have s3 : w2.setCell ⟨w.heap.size + 1, 3, none⟩ (.int .i64 0) = w2 := set_same hO (j := 3) rfl
  have s4 : w2.setCell ⟨w.heap.size + 1, 4, none⟩ (.slice none 0 0) = w2 := set_same hO (j := 4) rfl
  have s5 : w2.setCell ⟨w.heap.size + 1, 5, none⟩ (.int .i64 0) = w2 := set_same hO (j := 5) rfl
  have s6 : w2.setCell ⟨w.heap.size + 1, 6, none⟩ (.int .i64 0) = w2 := set_same hO (j := 6) rfl
  have s7 : w2.setCell ⟨w.heap.size + 1, 7, none⟩ (.slice none 0 0) = w2 := set_same hO (j := 7) rfl
  have f2 := blk_froz hO 2
  have f3 := blk_froz hO 3
  have f4 := blk_froz hO 4
  have f5 := blk_froz hO 5
  have f6 := blk_froz hO 6
  have f7 := blk_froz hO 7
  have bel : Below w.heap.size w w2 := bel1.trans (bel2.mono (by omega))
  have HI := hide hi
  have HF := hide hf
  have hlt : w.heap.size < w2.heap.size := by omega
  clear h hA hi hf bel1 bel2
  go_enter Try.func45, Try.ntmps45
  by_cases h1 : m.k = 1
  · have h1' : (m.k == 1) = true := by simp [h1]
    have HK := hide (kp_1 h1)
    clear h1
    obtain ⟨V2, hV2, rV2, gV2, zV2⟩ := putAt hO 2 (.int .u8 m.r)
    have bV2 : V2.heap[w.heap.size + 1]? = some (.cells #[.int .i64 m.k, .int .i64 m.e, .int .u8 m.r, .int .i64 0, .slice none 0 0, .int .i64 0, .int .i64 0, .slice none 0 0] 26 (0, 0)) := rV2
    have szV2 := gV2.size
    have AV2 : MAt V2 w.heap.size m := (gV2.block w.heap.size (by omega) (by simp)).trans hA2
    have belV2 := below_put bel gV2 (by omega) (by omega)
    obtain ⟨l20, l21, l22, l23, l24, l25, l26, l27⟩ := AV2.ei' HVS.out HVC.out
    obtain ⟨y20, y21, y22, y23, y24, y25, y26, y27⟩ := ei_of bV2
    obtain ⟨V3, hV3, rV3, gV3, zV3⟩ := putAt bV2 3 (.int .i64 m.n)
    have bV3 : V3.heap[w.heap.size + 1]? = some (.cells #[.int .i64 m.k, .int .i64 m.e, .int .u8 m.r, .int .i64 m.n, .slice none 0 0, .int .i64 0, .int .i64 0, .slice none 0 0] 26 (0, 0)) := rV3
    have szV3 := gV3.size
    have AV3 : MAt V3 w.heap.size m := (gV3.block w.heap.size (by omega) (by simp)).trans AV2
    have belV3 := below_put belV2 gV3 (by omega) (by omega)
    obtain ⟨l30, l31, l32, l33, l34, l35, l36, l37⟩ := AV3.ei' HVS.out HVC.out
    obtain ⟨y30, y31, y32, y33, y34, y35, y36, y37⟩ := ei_of bV3
    obtain ⟨V4, hV4, rV4, gV4, zV4⟩ := putAt bV3 4 (.slice ao m.ss.length cap)
    have bV4 : V4.heap[w.heap.size + 1]? = some (.cells #[.int .i64 m.k, .int .i64 m.e, .int .u8 m.r, .int .i64 m.n, .slice ao m.ss.length cap, .int .i64 0, .int .i64 0, .slice none 0 0] 26 (0, 0)) := rV4
    have szV4 := gV4.size
    have AV4 : MAt V4 w.heap.size m := (gV4.block w.heap.size (by omega) (by simp)).trans AV3
    have belV4 := below_put belV3 gV4 (by omega) (by omega)
    obtain ⟨Vd, hVd⟩ : ∃ X, V4.drew = X := ⟨_, rfl⟩
    have szd : Vd.heap.size = V4.heap.size := by rw [← hVd]; rfl
    have AV : Hid (MAt Vd w.heap.size m) := hide (by rw [← hVd]; exact AV4)
    have OV : Hid (MAt Vd (w.heap.size + 1) (own1 m)) := hide (by rw [← hVd]; unfold MAt; rw [mc_eq (m := own1 m) (a := .slice ao m.ss.length cap) (b := .slice none 0 0) HVS.out rfl]; exact bV4)
    have belA : Below w.heap.size w Vd := by rw [← hVd]; exact belV4.drew
    clear AV4 bV4 belV4
    clear rV2
    clear rV3
    clear rV4
    clear bV2 AV2 belV2
    clear bV3 AV3 belV3
    clear gV2
    clear gV3
    clear gV4
    clear hO hA2 bel
    go_wp2
    go_region
    clear hV2 hV3 hV4 hVd hw1 hw2 hw2' s2 s3 s4 s5 s6 s7 f2 f3 f4 f5 f6 f7 a0 a1 a2 a3 a4 a5 a6 a7 c0 c1 c2 c3 c4 c5 c6 c7 d0 d1 d2 d3 d4 d5 d6 d7
    clear l20 l21 l22 l23 l24 l25 l26 l27 y20 y21 y22 y23 y24 y25 y26 y27
    clear l30 l31 l32 l33 l34 l35 l36 l37 y30 y31 y32 y33 y34 y35 y36 y37
    have OE : ∀ W, MAt W (w.heap.size + 1) (own1 m) → Ei W (w.heap.size + 1) (.int .i64 m.k) (.int .i64 m.e) (.int .u8 m.r) (.int .i64 m.n) (.slice ao m.ss.length cap) (.int .i64 0) (.int .i64 0) (.slice none 0 0) := fun W k => k.ei' HVS.out rfl
    have OE := hide OE
    obtain ⟨e0, e1, e2, e3, e4, e5, e6, e7⟩ := OE.out _ OV.out
    obtain ⟨hm, hhm⟩ := yes_of (HelP (own1 m))
    have HM := hide hhm
    clear hhm
    go_wp2_with fail
    have XX := helloMayBe_any (own1 m) hm Vd (own1_is (HI.out.below belA)) (own1_fit HF.out) (show (0 : Int) ≤ m.e by omega) HM.out
    rw [mv_eq (m := own1 m) (a := .slice ao m.ss.length cap) (b := .slice none 0 0) HVS.out rfl] at XX
    refine XX.mono ?_
    clear XX
    rintro E w3 ⟨rfl, bel3⟩
    clear e0 e1 e2 e3 e4 e5 e6 e7
    have sz3 := bel3.size
    have bel03 := belA.trans (bel3.mono (by omega))
    have hm' : Yes hm (HelP (own1 m)) := HM.out
    cases hm
    · obtain rfl : ans = false := HD.out.no fun k => by
        have := hm'.2 (HK.out.1 k).1
        simp at this
      clear hm'
      go_wp2
      go_ret
      exact ⟨rfl, bel03⟩
    · have hs : Hid (ans = smM m.m (own1 m).m) := hide (iff_bool (HD.out.trans (HK.out.trans ⟨fun k => k.2, fun k => ⟨hm'.1 rfl, k⟩⟩)))
      clear hm'
      obtain ⟨e0, e1, e2, e3, e4, e5, e6, e7⟩ := OE.out _ (OV.out.below bel3)
      obtain ⟨x0, x1, x2, x3, x4, x5, x6, x7⟩ := (AV.out.below bel3).ei' HVS.out HVC.out
      go_wp2_with fail
      have XX := msame_any m (own1 m) w3 (HI.out.below bel03) (own1_is (HI.out.below bel03)) HF.out (own1_fit HF.out)
      rw [mv_eq HVS.out HVC.out, mv_eq (m := own1 m) (a := .slice ao m.ss.length cap) (b := .slice none 0 0) HVS.out rfl] at XX
      refine XX.mono ?_
      clear XX
      rintro E w4 ⟨rfl, bel4⟩
      rw [← hs.out]
      have bel04 := bel03.trans (bel4.mono (by omega))
      go_wp2
      go_ret
      exact ⟨rfl, bel04⟩
  have h1' : (m.k == 1) = false := by simpa using h1
  by_cases h2 : m.k = 2
  · have h2' : (m.k == 2) = true := by simp [h2]
    have HK := hide (kp_2 h2)
    clear h2
    obtain ⟨V5, hV5, rV5, gV5, zV5⟩ := putAt hO 5 (.int .i64 m.f)
    have bV5 : V5.heap[w.heap.size + 1]? = some (.cells #[.int .i64 m.k, .int .i64 m.e, .int .u8 0, .int .i64 0, .slice none 0 0, .int .i64 m.f, .int .i64 0, .slice none 0 0] 26 (0, 0)) := rV5
    have szV5 := gV5.size
    have AV5 : MAt V5 w.heap.size m := (gV5.block w.heap.size (by omega) (by simp)).trans hA2
    have belV5 := below_put bel gV5 (by omega) (by omega)
    obtain ⟨l50, l51, l52, l53, l54, l55, l56, l57⟩ := AV5.ei' HVS.out HVC.out
    obtain ⟨y50, y51, y52, y53, y54, y55, y56, y57⟩ := ei_of bV5
    obtain ⟨V6, hV6, rV6, gV6, zV6⟩ := putAt bV5 6 (.int .i64 m.p)
    have bV6 : V6.heap[w.heap.size + 1]? = some (.cells #[.int .i64 m.k, .int .i64 m.e, .int .u8 0, .int .i64 0, .slice none 0 0, .int .i64 m.f, .int .i64 m.p, .slice none 0 0] 26 (0, 0)) := rV6
    have szV6 := gV6.size
    have AV6 : MAt V6 w.heap.size m := (gV6.block w.heap.size (by omega) (by simp)).trans AV5
    have belV6 := below_put belV5 gV6 (by omega) (by omega)
    obtain ⟨l60, l61, l62, l63, l64, l65, l66, l67⟩ := AV6.ei' HVS.out HVC.out
    obtain ⟨y60, y61, y62, y63, y64, y65, y66, y67⟩ := ei_of bV6
    obtain ⟨V7, hV7, rV7, gV7, zV7⟩ := putAt bV6 7 (.slice ao2 m.cs.length cap2)
    have bV7 : V7.heap[w.heap.size + 1]? = some (.cells #[.int .i64 m.k, .int .i64 m.e, .int .u8 0, .int .i64 0, .slice none 0 0, .int .i64 m.f, .int .i64 m.p, .slice ao2 m.cs.length cap2] 26 (0, 0)) := rV7
    have szV7 := gV7.size
    have AV7 : MAt V7 w.heap.size m := (gV7.block w.heap.size (by omega) (by simp)).trans AV6
    have belV7 := below_put belV6 gV7 (by omega) (by omega)
    obtain ⟨Vd, hVd⟩ : ∃ X, V7.drew = X := ⟨_, rfl⟩
    have szd : Vd.heap.size = V7.heap.size := by rw [← hVd]; rfl
    have AV : Hid (MAt Vd w.heap.size m) := hide (by rw [← hVd]; exact AV7)
    have OV : Hid (MAt Vd (w.heap.size + 1) (own2 m)) := hide (by rw [← hVd]; unfold MAt; rw [mc_eq (m := own2 m) (a := .slice none 0 0) (b := .slice ao2 m.cs.length cap2) rfl HVC.out]; exact bV7)
    have belA : Below w.heap.size w Vd := by rw [← hVd]; exact belV7.drew
    clear AV7 bV7 belV7
    clear rV5
    clear rV6
    clear rV7
    clear bV5 AV5 belV5
    clear bV6 AV6 belV6
    clear gV5
    clear gV6
    clear gV7
    clear hO hA2 bel
    go_wp2
    go_region
    clear hV5 hV6 hV7 hVd hw1 hw2 hw2' s2 s3 s4 s5 s6 s7 f2 f3 f4 f5 f6 f7 a0 a1 a2 a3 a4 a5 a6 a7 c0 c1 c2 c3 c4 c5 c6 c7 d0 d1 d2 d3 d4 d5 d6 d7
    clear l50 l51 l52 l53 l54 l55 l56 l57 y50 y51 y52 y53 y54 y55 y56 y57
    clear l60 l61 l62 l63 l64 l65 l66 l67 y60 y61 y62 y63 y64 y65 y66 y67
    have OE : ∀ W, MAt W (w.heap.size + 1) (own2 m) → Ei W (w.heap.size + 1) (.int .i64 m.k) (.int .i64 m.e) (.int .u8 0) (.int .i64 0) (.slice none 0 0) (.int .i64 m.f) (.int .i64 m.p) (.slice ao2 m.cs.length cap2) := fun W k => k.ei' rfl HVC.out
    have OE := hide OE
    obtain ⟨e0, e1, e2, e3, e4, e5, e6, e7⟩ := OE.out _ OV.out
    obtain ⟨hm, hhm⟩ := yes_of (ShpP (own2 m))
    have HM := hide hhm
    clear hhm
    go_wp2_with fail
    have XX := shipMayBe_any (own2 m) hm Vd (own2_is (HI.out.below belA)) (own2_fit HF.out) HM.out
    rw [mv_eq (m := own2 m) (a := .slice none 0 0) (b := .slice ao2 m.cs.length cap2) rfl HVC.out] at XX
    refine XX.mono ?_
    clear XX
    rintro E w3 ⟨rfl, bel3⟩
    clear e0 e1 e2 e3 e4 e5 e6 e7
    have sz3 := bel3.size
    have bel03 := belA.trans (bel3.mono (by omega))
    have hm' : Yes hm (ShpP (own2 m)) := HM.out
    cases hm
    · obtain rfl : ans = false := HD.out.no fun k => by
        have := hm'.2 (HK.out.1 k).1
        simp at this
      clear hm'
      go_wp2
      go_ret
      exact ⟨rfl, bel03⟩
    · have hs : Hid (ans = smM m.m (own2 m).m) := hide (iff_bool (HD.out.trans (HK.out.trans ⟨fun k => k.2, fun k => ⟨hm'.1 rfl, k⟩⟩)))
      clear hm'
      obtain ⟨e0, e1, e2, e3, e4, e5, e6, e7⟩ := OE.out _ (OV.out.below bel3)
      obtain ⟨x0, x1, x2, x3, x4, x5, x6, x7⟩ := (AV.out.below bel3).ei' HVS.out HVC.out
      go_wp2_with fail
      have XX := msame_any m (own2 m) w3 (HI.out.below bel03) (own2_is (HI.out.below bel03)) HF.out (own2_fit HF.out)
      rw [mv_eq HVS.out HVC.out, mv_eq (m := own2 m) (a := .slice none 0 0) (b := .slice ao2 m.cs.length cap2) rfl HVC.out] at XX
      refine XX.mono ?_
      clear XX
      rintro E w4 ⟨rfl, bel4⟩
      rw [← hs.out]
      have bel04 := bel03.trans (bel4.mono (by omega))
      go_wp2
      go_ret
      exact ⟨rfl, bel04⟩
  have h2' : (m.k == 2) = false := by simpa using h2
  by_cases h3 : m.k = 3
  · have h3' : (m.k == 3) = true := by simp [h3]
    have HK := hide (kp_3 h3)
    clear h3
    obtain ⟨V3, hV3, rV3, gV3, zV3⟩ := putAt hO 3 (.int .i64 m.n)
    have bV3 : V3.heap[w.heap.size + 1]? = some (.cells #[.int .i64 m.k, .int .i64 m.e, .int .u8 0, .int .i64 m.n, .slice none 0 0, .int .i64 0, .int .i64 0, .slice none 0 0] 26 (0, 0)) := rV3
    have szV3 := gV3.size
    have AV3 : MAt V3 w.heap.size m := (gV3.block w.heap.size (by omega) (by simp)).trans hA2
    have belV3 := below_put bel gV3 (by omega) (by omega)
    obtain ⟨x0, x1, x2, x3, x4, x5, x6, x7⟩ := AV3.ei' HVS.out HVC.out
    obtain ⟨e0, e1, e2, e3, e4, e5, e6, e7⟩ := ei_of bV3
    clear rV3 gV3 bV3 hO hA2 bel
    by_cases p1 : 0 ≤ m.n
    · by_cases p2 : m.n ≤ 1048576
      · have hs : Hid (ans = smM m.m (own3 m).m) := hide (iff_bool (HD.out.trans (HK.out.trans ⟨fun k => k.2, fun k => ⟨⟨p1, p2⟩, k⟩⟩)))
        go_wp2_with fail
        have XX := msame_any m (own3 m) V3 (HI.out.below belV3) (own3_is (HI.out.below belV3)) HF.out (own3_fit HF.out)
        rw [mv_eq HVS.out HVC.out] at XX
        refine XX.mono ?_
        clear XX
        rintro E w4 ⟨rfl, bel4⟩
        rw [← hs.out]
        have bel04 := belV3.trans (bel4.mono (by omega))
        go_wp2
        go_ret
        exact ⟨rfl, bel04⟩
      · obtain rfl : ans = false := HD.out.no fun k => p2 (HK.out.1 k).1.2
        have p3 : (1048576 : Int) < m.n := by omega
        go_wp2
        go_ret
        exact ⟨rfl, belV3⟩
    · obtain rfl : ans = false := HD.out.no fun k => p1 (HK.out.1 k).1.1
      have p3 : m.n < 0 := by omega
      go_wp2
      go_ret
      exact ⟨rfl, belV3⟩
  have h3' : (m.k == 3) = false := by simpa using h3
  obtain rfl : ans = false := HD.out.no fun k => by
    rcases k with ⟨k, _⟩ | ⟨k, _⟩ | ⟨k, _⟩ <;> omega
  go_wp2
  go_ret
  exact ⟨rfl, bel⟩

set_option maxHeartbeats 1000000 in
theorem mcheck_any (m : Mw) (c : Int) (w : World) (hi : IsM w m) (hf : FitM m) (hc : Mm.Ck m.m c) :
    Calls Try.prog 23 #[mv m] w fun E w' => E = .returned (.int .i64 c) ∧ Below w.heap.size w w' := by
  have HC := hide hc
  have NO : Hid (¬ Mm.Ok m.m → c = 2) := hide fun h => by
    rcases HC.out with ⟨_, k⟩ | ⟨e, _⟩
    · exact absurd k h
    · exact e
  unfold mv
  obtain ⟨w1, hw1, sz1, bel1, hA⟩ := newm w m
  obtain ⟨a0, a1, a2, a3, a4, a5, a6, a7⟩ := hA.ei
  clear hA hc
  go_enter Try.func23, Try.ntmps23
  by_cases h1 : m.e < 1
  · obtain rfl := NO.out fun k => by have : 1 ≤ m.e := k.1; omega
    go_wp2
    go_ret
    exact ⟨rfl, bel1⟩
  by_cases h2 : 1048576 < m.e
  · obtain rfl := NO.out fun k => by have : m.e ≤ 1048576 := k.2.1; omega
    go_wp2
    go_ret
    exact ⟨rfl, bel1⟩
  obtain ⟨ans, hy⟩ := yes_of (Kp m)
  have HY := hide hy
  clear hy
  go_wp2_with fail
  refine (hasItsOwn_any m ans w1 (hi.below bel1) hf (by omega) HY.out).mono ?_
  rintro E w2 ⟨rfl, bel2⟩
  have bel02 := bel1.trans (bel2.mono (by omega))
  have hy := HY.out
  cases ans
  · obtain rfl := NO.out fun k => by
      have := hy.2 k.2.2
      simp at this
    clear hy
    go_wp2
    go_ret
    exact ⟨rfl, bel02⟩
  · have hk := hy.1 rfl
    obtain rfl : c = 0 := by
      rcases HC.out with ⟨e, _⟩ | ⟨_, k⟩
      · exact e
      · exact absurd ⟨by show 1 ≤ m.e; omega, by show m.e ≤ 1048576; omega, hk⟩ k
    clear hy hk
    go_wp2
    go_ret
    exact ⟨rfl, bel02⟩

end Go.Proofs.Ytabfihicdphjeaa

/- Bytes in a variable of their own, and what is put behind them: the contract of write's closure. -/
namespace Go.Proofs.Ytabfihicdphjeaa
open Go.RowKit
set_option linter.unusedVariables false

/-- The variable in block g holds the bytes bs, in a block of their own that came later. -/
structure Buf (g : Nat) (w : World) (vb : Value) (bs : List Int) : Prop where
  box : w.heap[g]? = some (.cells #[vb] 50 (0, 0))
  own : Own .u8 5 (g + 1) w vb bs

/-- What putting bytes behind them leaves. -/
structure BS (g : Nat) (w : World) (vb : Value) (w' : World) (vb' : Value) (bs' : List Int) : Prop where
  buf : Buf g w' vb' bs'
  out : Out (fun i => i = g ∨ vb.ownBlock = some i) w w'
  at' : ∀ b, vb'.ownBlock = some b → vb.ownBlock = some b ∨ w.heap.size ≤ b

theorem Buf.lt {g : Nat} {w : World} {vb : Value} {bs : List Int} (h : Buf g w vb bs) : g < w.heap.size := blk_lt h.box

theorem Buf.below {g : Nat} {w w' : World} {vb : Value} {bs : List Int} (h : Buf g w vb bs) (hb : Below w.heap.size w w') : Buf g w' vb bs := ⟨(hb.block g h.lt).trans h.box, h.own.below hb⟩

theorem BS.refl {g : Nat} {w : World} {vb : Value} {bs : List Int} (h : Buf g w vb bs) : BS g w vb w vb bs := ⟨h, Out.refl _ _, fun b hb => .inl hb⟩

theorem BS.of_below {g : Nat} {w w' : World} {vb : Value} {bs : List Int} (h : Buf g w vb bs) (hb : Below w.heap.size w w') : BS g w vb w' vb bs := ⟨h.below hb, Out.of_below hb, fun b hb => .inl hb⟩

theorem BS.trans {g : Nat} {w w1 w2 : World} {v v1 v2 : Value} {b1 b2 : List Int} (h : BS g w v w1 v1 b1) (k : BS g w1 v1 w2 v2 b2) : BS g w v w2 v2 b2 := by
  have hs := h.out.size
  refine ⟨k.buf, h.out.trans k.out fun i hi => ?_, fun b hb => ?_⟩
  · rcases hi with rfl | hi
    · exact .inl (.inl rfl)
    · rcases h.at' i hi with e | e
      · exact .inl (.inr e)
      · exact .inr e
  · rcases k.at' b hb with e | e
    · exact h.at' b e
    · exact .inr (by omega)

theorem BS.below {g : Nat} {w w' : World} {v v' : Value} {bs bs' : List Int} (h : BS g w v w' v' bs') (hb : Buf g w v bs) : Below g w w' :=
  h.out.below (fun i hi => by
    rcases hi with rfl | hi
    · exact Nat.le_refl _
    · have := (hb.own.2.lt i hi).1; omega) (Nat.le_of_lt hb.lt)

theorem BS.stays {g : Nat} {w w' : World} {v v' : Value} {bs' : List Int} (h : BS g w v w' v' bs') {i : Nat} (hi : i < w.heap.size) (h1 : i ≠ g) (h2 : v.ownBlock ≠ some i) : w'.heap[i]? = w.heap[i]? :=
  h.out.block i hi fun k => k.elim h1 h2

/-- Bytes appended, and the variable written. -/
theorem bs_put {g : Nat} {w w4 w5 : World} {vb v' : Value} {bs ys : List Int} (h : Buf g w vb bs) (hb : Below w.heap.size w w4) (ho : Own .u8 5 (g + 1) w5 v' (bs ++ ys)) (hg : w4.grownBy w5 vb.ownBlock) (ha : v'.ownBlock = vb.ownBlock ∨ v'.ownBlock = some w4.heap.size) :
    BS g w vb (w5.setCell ⟨g, 0, none⟩ v') v' (bs ++ ys) ∧ w5.cell? ⟨g, 0, none⟩ = some vb ∧ w5.frozen? ⟨g, 0, none⟩ = false := by
  have hl := h.lt
  have hs := hb.size
  have hne : some g ≠ vb.ownBlock := fun e => by have := (h.own.2.lt g e.symm).1; omega
  have b5 : w5.heap[g]? = some (.cells #[vb] 50 (0, 0)) := (hg.block g (by omega) hne).trans ((hb.block g hl).trans h.box)
  refine ⟨⟨⟨set_cells b5 0 v', ?_⟩, ?_, ?_⟩, blk_cell b5 0 rfl, blk_froz b5 0⟩
  · refine ho.kept (grown_setCell w5 ⟨g, 0, none⟩ v') ?_
    cases e : v'.ownBlock with
    | none => exact .inl rfl
    | some b => exact .inr (by have := (ho.2.lt b e).1; simp; omega)
  · refine (Out.of_below (F := fun i => i = g ∨ vb.ownBlock = some i) hb).trans (G := fun i => i = g ∨ vb.ownBlock = some i) ?_ (fun i hi => .inl hi)
    refine (Out.of_grown (F := fun i => i = g ∨ vb.ownBlock = some i) hg (fun i hi => .inr hi)).trans (G := fun i => i = g) ?_ (fun i hi => .inl (.inl hi))
    exact Out.of_grown (grown_setCell w5 ⟨g, 0, none⟩ v') (fun i hi => by simpa using hi.symm)
  · intro b hbb
    rcases ha with e | e
    · exact .inl (by rw [← e]; exact hbb)
    · rw [e] at hbb
      simp at hbb
      exact .inr (by omega)

theorem Try.enters68 : ∀ args w, (callFunc 68 args).run Try.prog w = .ok (.enter 68 args) w := enters_of Try.func68 (by kernel_rfl) rfl

theorem encs_snoc (l : List Int) (k : Nat) (x : Int) (h : l[k]? = some x) : Pm.encs (l.take (k + 1)) = Pm.encs (l.take k) ++ Vm.enc x.toNat := by
  rw [List.take_add_one, h, Pm.encs_app]
  simp [Pm.encs]

theorem encs_take_len (l : List Int) (k : Nat) (h : ∀ z ∈ l, z < 18446744073709551616) : (Pm.encs (l.take k)).length ≤ 10 * l.length := by
  have h1 := (Pm.encs_len (l := l.take k) (fun z hz => h z (List.mem_of_mem_take hz))).1
  have : (l.take k).length ≤ l.length := List.length_take_le' _ _
  omega

theorem wrap_u64 {x : Int} (h0 : 0 ≤ x) (h1 : x < 18446744073709551616) : IntKind.u64.wrap x = x := by
  unfold IntKind.wrap
  simp [IntKind.bits, IntKind.signed]
  omega

set_option maxRecDepth 100000 in
set_option maxHeartbeats 1000000 in
theorem put_any (vz : Value) (zs : List Int) (g : Nat) (vb : Value) (bs : List Int) (w : World) (hz : Is .i64 w vz zs) (h0 : 0 < zs.length) (hp : ∀ z ∈ zs, 0 ≤ z) (hb : Buf g w vb bs) (hd : ∀ b, vz.ownBlock = some b → b ≠ g ∧ vb.ownBlock ≠ some b) (hl : bs.length + 10 * zs.length ≤ 100000000000000) :
    Calls Try.prog 67 #[vz, .pointer (some ⟨g, 0, none⟩)] w fun E w' => E = .returned (.tuple #[]) ∧ ∃ vb', BS g w vb w' vb' (bs ++ Pm.encs zs) := by
  obtain ⟨b1, o1, c1, hvz, hc1, hm1, hB1, hcell⟩ := hz.full h0
  have hd' := hd b1 (by rw [hvz]; rfl)
  have hw64 : ∀ z ∈ zs, z < 18446744073709551616 := fun z hzz => by
    have := range_i64 hz.1 (zs.idxOf z)
    have e : zs[zs.idxOf z]?.getD 0 = z := by
      have hlt := List.idxOf_lt_length_of_mem hzz
      rw [List.getElem?_eq_getElem hlt]
      simp
    rw [e] at this
    have h2 := this.2
    omega
  have HW := hide hw64
  have HP := hide hp
  have HCE := hide hcell
  have HB := hide hb
  have HX : Hid (BS g w vb w vb (bs ++ Pm.encs (zs.take 0))) := hide (by simpa [Pm.encs] using BS.refl hb)
  have HL := hide hl
  subst hvz
  generalize hn : zs.length = n at *
  have HN := hide hn
  have hn64 : n ≤ 10000000000000 := by omega
  clear hz hp hcell hb hd hl hn hw64
  go_enter Try.func67, Try.ntmps67
  go_wp2
  go_loopw [7] (fun i wr => ∃ (k : Nat) (v : Value), k ≤ n ∧ i = .int .i64 k ∧ Hid (BS g w vb wr v (bs ++ Pm.encs (zs.take k)))) (fun i _ => n - (intOf i).toNat)
  case atStart => exact ⟨0, vb, by omega, rfl, HX⟩
  case round =>
    obtain ⟨k, v, hk, rfl, HT⟩ := hrel
    have hbw := HT.out.buf
    by_cases hlt : k < n
    · obtain ⟨x, hx⟩ := at_of (l := zs) (k := k) (by have := HN.out; omega)
      have hxm := List.mem_of_getElem? hx
      have hx0 := HP.out x hxm
      have hx1 := HW.out x hxm
      have d0 : wr.cell? ⟨b1, o1 + k, none⟩ = some (.int .i64 x) := by
        have h1 := HCE.out k hlt
        rw [List.getD_eq_getElem?_getD, hx] at h1
        rw [World.cell?_of_block (HT.out.stays hB1 hd'.1 hd'.2)]
        exact h1
      have hlt' : (k : Int) < n := by omega
      have cb : wr.cell? ⟨g, 0, none⟩ = some v := blk_cell hbw.box 0 rfl
      have hwx := wrap_u64 hx0 hx1
      have hgl := hbw.lt
      have hsz := Vm.sz_le10 (x := x.toNat) (by omega)
      unfold Vm.sz at hsz
      have hlen : (bs ++ Pm.encs (zs.take k)).length + 10 ≤ 140737488355328 := by
        have h1 := encs_take_len zs k HW.out
        rw [HN.out] at h1
        have h2 := HL.out
        rw [List.length_append]
        omega
      have HLE := hide hlen
      have HE := hide (encs_snoc zs k x hx)
      have HBW := hide hbw
      clear hx hxm hbw hlen
      go_wp2_with fail
      go_region_law (first
        | (refine call_at rfl 68 #[.const (.slice none 0 0), .tmp 13] #[50, 90] rfl Try.enters68 #[.slice none 0 0, .int .u64 x] (by simp [Act.eval, Act.put]) ((app_any _ [] x _ (Is.nil _ _) (by simp) hx0 hx1).mono (by rintro E w' ⟨v', rfl, h⟩; exact ⟨v', rfl, h⟩)) ?_; rintro v4 w4 ⟨own4, bel4'⟩; have bel4 : Below wr.heap.size wr w4 := ((Below.refl _ _).drew).trans bel4'; have cb4 := (bel4.cell (p := ⟨g, 0, none⟩) hgl).trans cb; clear bel4')
        | (refine step_append_at rfl (.tmp 11) (.tmp 14) 50 rfl v v4 (by simp [Act.eval]) (by simp [Act.eval]) (fun ty => run_append_is_at (P := Try.prog) 50 ty .u8 5 (g + 1) 1 Try.underlying50 Try.info5 (by decide) _ _ (HBW.out.own.below bel4) _ _ own4.is (by rw [List.nil_append]; have := HLE.out; omega) (by have := bel4.size; omega)) ?_; rintro v5 w5 ⟨own5, gr5, at5⟩; rw [List.nil_append] at own5; obtain ⟨a5, l5, n5, hv5⟩ := own5.is.form; subst hv5; obtain ⟨hbs, cb5, fr5⟩ := bs_put HBW.out bel4 own5 gr5 at5; have HBS := hide hbs; clear hbs own5 gr5 at5))
      all_goals
        go_wp2
        go_roundw
        case rel => exact ⟨k + 1, _, by omega, by go_num, hide (by rw [HE.out, ← List.append_assoc]; exact HT.out.trans HBS.out)⟩
        case measure => simp [intOf]; omega
    · have hlt' : ¬ (k : Int) < n := by omega
      have HE : Hid (BS g w vb wr v (bs ++ Pm.encs zs)) := hide (by
        have := HT.out
        rw [List.take_of_length_le (by rw [HN.out]; omega)] at this
        exact this)
      clear HT hbw
      go_wp2
      go_end0
      exact ⟨rfl, v, HE.out⟩

end Go.Proofs.Ytabfihicdphjeaa

/- The contracts of Encode: the program's, the document's; of the copy that slices.Clone makes of ops, and of Copy. -/
namespace Go.Proofs.Ytabfihicdphjeaa
open Go.RowKit
set_option linter.unusedVariables false

set_option maxHeartbeats 400000 in
theorem cenc_any (e n : Int) (v : Value) (l : List Bm.Ov) (w : World) (h : IsO w v l) (hf : FitO l) (hl : l.length ≤ 140737488355328) :
    Calls Try.prog 69 #[cmv e n v] w fun E w' => ∃ vb, E = .returned (.tuple #[vb, .int .i64 (Cm.chk e n l)]) ∧ Own .u8 5 w.heap.size w' vb (Cm.out e n l) ∧ Below w.heap.size w w' := by
  unfold cmv
  obtain ⟨ch, hch⟩ : ∃ c, Cm.chk e n l = c := ⟨_, rfl⟩
  obtain ⟨ou, hou⟩ : ∃ c, Cm.out e n l = c := ⟨_, rfl⟩
  rw [hch, hou]
  have HC := hide hch
  have HO := hide hou
  clear hch hou
  obtain ⟨w1, hw1, sz1, bel1, hB⟩ := blk_step w #[.int .i64 e, .int .i64 n, v] 46
  have c0 := blk_cell hB 0 rfl
  have c1 := blk_cell hB 1 rfl
  have c2 := blk_cell hB 2 rfl
  have h1 := h.below bel1
  obtain ⟨ao, cap, rfl, _, _⟩ := h.shape
  have BB := hide hB
  clear hB
  go_enter Try.func69, Try.ntmps69
  go_wp2_with fail
  refine (ccheck_any e n _ l _ h1 hf hl).mono ?_
  rintro E w2 ⟨rfl, bel2⟩
  rw [HC.out]
  have sz2 := bel2.size
  have hB2 := (bel2.block _ (by omega)).trans BB.out
  have d0 := blk_cell hB2 0 rfl
  have d1 := blk_cell hB2 1 rfl
  have d2 := blk_cell hB2 2 rfl
  have h2 := h1.below bel2
  have bel02 := bel1.trans (bel2.mono (by omega))
  have B2 := hide hB2
  clear BB c0 c1 c2 hB2 bel1 bel2 h1
  by_cases hc : ch = 0
  · subst hc
    have hc := HC.out
    obtain ⟨g1, g2, g3, g4, g5⟩ := Cm.chk_zero hc
    have hO := HO.out
    rw [Cm.out_ok hc, Cm.encC] at hO
    replace HO := hide hO
    clear hO
    have hs1 := Cm.enc_small g2
    have hs2 := Cm.enc_small g4
    clear hc
    go_wp2_with fail
    refine (app_any _ [] e _ (Is.nil _ _) (by simp) (by omega) (by omega)).mono ?_
    rintro E w3 ⟨vb, rfl, own3, bel3⟩
    have sz3 := bel3.size
    have hB3 := (bel3.block _ (by omega)).trans B2.out
    have f1 := blk_cell hB3 1 rfl
    have h3 := h2.below bel3
    have bel03 := bel02.trans (bel3.mono (by omega))
    have B3 := hide hB3
    rw [List.nil_append] at own3
    clear B2 d0 d1 d2 hB3 bel3 h2 bel02
    go_wp2_with fail
    refine (app_any _ _ n _ own3.is (by omega) (by omega) (by omega)).mono ?_
    rintro E w4 ⟨vc, rfl, own4, bel4⟩
    have sz4 := bel4.size
    have hB4 := (bel4.block _ (by omega)).trans B3.out
    have q2 := blk_cell hB4 2 rfl
    have h4 := h3.below bel4
    have bel04 := bel03.trans (bel4.mono (by omega))
    clear B3 f1 hB4 bel4 h3 bel03 own3
    go_wp2_with fail
    refine (bapp_any _ _ _ l _ own4.is (by rw [List.length_append]; omega) h4 hf hl).mono ?_
    rintro E w5 ⟨vd, rfl, own5, bel5⟩
    rw [g5]
    rw [Bm.appB_ok g5, List.append_assoc, HO.out] at own5
    have own5' := own5.rebase (base' := w.heap.size) (by omega)
    have bel05 := bel04.trans (bel5.mono (by omega))
    clear own5 own4 h4 bel04 bel5
    go_wp2
    refine bodyPost_ret (v := .tuple #[vd, .int .i64 0]) (by simp [results, Try.results69, go_sem]) rfl ?_
    exact ⟨_, rfl, own5', bel05⟩
  · have hne : (ch == 0) = false := by simpa using hc
    have hO := HO.out
    rw [Cm.out_no (by rw [HC.out]; exact hc)] at hO
    subst hO
    clear hc
    go_wp2
    refine bodyPost_ret (v := .tuple #[.slice none 0 0, .int .i64 ch]) (by simp [results, Try.results69, go_sem]) rfl ?_
    exact ⟨_, rfl, Own.nil _ _ _ _, bel02⟩

end Go.Proofs.Ytabfihicdphjeaa
