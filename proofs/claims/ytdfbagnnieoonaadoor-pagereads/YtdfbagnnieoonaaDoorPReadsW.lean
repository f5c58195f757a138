/- The walk of PageReads. -/
import Derived.Test.YtdfbagnnieoonaaDoorQn
import Derived.Test.YtdfbagnnieoonaaDoorCuth
namespace Go.Proofs.YtdfbagnnieoonaaDoor
open Go.RowKit
set_option linter.unusedVariables false

set_option maxRecDepth 100000 in
set_option maxHeartbeats 4000000 in
theorem pageReads_walk (vb : Value) (bs : List Int) (vf : Value) (fs : List Int) (node : Int) (w : World) (hb : Is .u8 w vb bs) (hl : bs.length * 1 ≤ 140737488351232) (hf : Is .u8 w vf fs) (hl' : fs.length * 1 ≤ 140737488351232) (hn : (Lit.int .i64 node).wf = true) (hm : Mst w) :
    Calls Tryd.prog 5 #[vb, vf, .int .i64 node] w fun e w' => e = .returned (.bool true) ∧ Below w.heap.size w w' := by
  have HB := hide hb
  have HF := hide hf
  have HM := hide hm
  obtain ⟨ao, cap, rfl, _, _⟩ := hb.shape
  obtain ⟨bo, bap, rfl, _, _⟩ := hf.shape
  have C1 := hide (lent_any _ bs w hb (by omega))
  clear hb hf hm hn
  go_enter Tryd.func5, Tryd.ntmps5
  go_wp2_with fail
  refine C1.out.mono ?_
  rintro E w1 ⟨v1, rfl, own1, bel1⟩
  have sz1 := bel1.size
  have O1 := hide own1
  have C2 := hide (lent_any _ fs w1 (HF.out.below bel1) (by omega))
  clear C1 own1
  go_wp2_with fail
  refine C2.out.mono ?_
  rintro E w2 ⟨v2, rfl, own2, bel2⟩
  have sz2 := bel2.size
  have O2 := hide own2
  replace O1 := hide (O1.out.below bel2)
  have bel02 := bel1.trans (bel2.mono (by omega))
  have h1 : ((bs ++ [201, 202, 203]).take bs.length) = bs := by simp
  have h2 : ((fs ++ [201, 202, 203]).take fs.length) = fs := by simp
  obtain ⟨vs1, hsl1, is1⟩ := O1.out.is.slice_h Tryd.elemP Tryd.sizeP bs.length (by simp)
  obtain ⟨vs2, hsl2, is2⟩ := O2.out.is.slice_h Tryd.elemP Tryd.sizeP fs.length (by simp)
  rw [h1] at is1
  rw [h2] at is2
  have C3 := hide (decode_any vs1 bs w2 is1 (by omega) (HM.out.below bel02))
  have I2 := hide is2
  clear C2 own2 is1 is2 bel1 bel2 h1 h2
  go_wp2_with fail
  refine C3.out.mono ?_
  rintro E w3 ⟨y, e, rfl, D3, _, bel3⟩
  have sz3 := bel3.size
  have bel03 := bel02.trans (bel3.mono (by omega))
  replace O1 := hide (O1.out.below bel3)
  replace O2 := hide (O2.out.below bel3)
  replace I2 := hide (I2.out.below bel3)
  have HVY : Hid (vp y = .agg #[.int .i64 y.e, .int .u8 y.r, .int .i64 y.a, .int .u8 y.p, .int .i64 y.f, .int .i64 y.b]) := rfl
  rw [HVY.out]
  obtain ⟨w4, hw4, sz4, bel4, hP1, ⟨d0, d1, d2, d3, d4, d5⟩, _⟩ := newp w3 y
  have P1 : Hid (PgAt w4 w3.heap.size y) := hP1
  have bel04 := bel03.trans (bel4.mono (by omega))
  replace O1 := hide (O1.out.below bel4)
  replace O2 := hide (O2.out.below bel4)
  replace I2 := hide (I2.out.below bel4)
  have C5 := hide (decodeR_any _ bs w4 (HB.out.below bel04) (by omega))
  clear C3 bel02 bel03 bel3 bel4 hP1 hsl1 HVY
  go_wp2_with fail
  refine C5.out.mono ?_
  rintro E w5 ⟨y', e', rfl, D5, _, bel5⟩
  obtain ⟨hy, he⟩ := Pm.dc_one D5.out D3.out
  subst hy he
  have HVY : Hid (vp y' = .agg #[.int .i64 y'.e, .int .u8 y'.r, .int .i64 y'.a, .int .u8 y'.p, .int .i64 y'.f, .int .i64 y'.b]) := rfl
  rw [HVY.out]
  have sz5 := bel5.size
  have bel05 := bel04.trans (bel5.mono (by omega))
  replace O1 := hide (O1.out.below bel5)
  replace O2 := hide (O2.out.below bel5)
  replace I2 := hide (I2.out.below bel5)
  replace P1 := hide (P1.out.below bel5)
  obtain ⟨w6, hw6, sz6, bel6, hP2, ⟨e0, e1, e2, e3, e4, e5⟩, _⟩ := newp w5 y'
  have P2 : Hid (PgAt w6 w5.heap.size y') := hP2
  have bel06 := bel05.trans (bel6.mono (by omega))
  replace O1 := hide (O1.out.below bel6)
  replace O2 := hide (O2.out.below bel6)
  replace I2 := hide (I2.out.below bel6)
  replace P1 := hide (P1.out.below bel6)
  have C7 := hide (last_any vs2 fs node w6 I2.out (by omega) (HM.out.below bel06))
  clear C5 D3 D5 bel04 bel05 bel5 bel6 hP2 hw4 d0 d1 d2 d3 d4 d5 HVY
  go_wp2_with fail
  refine C7.out.mono ?_
  rintro E w7 ⟨z, n, g, rfl, D7, _, bel7⟩
  have HVZ : Hid (vp z = .agg #[.int .i64 z.e, .int .u8 z.r, .int .i64 z.a, .int .u8 z.p, .int .i64 z.f, .int .i64 z.b]) := rfl
  rw [HVZ.out]
  have sz7 := bel7.size
  have bel07 := bel06.trans (bel7.mono (by omega))
  replace O1 := hide (O1.out.below bel7)
  replace O2 := hide (O2.out.below bel7)
  replace P1 := hide (P1.out.below bel7)
  replace P2 := hide (P2.out.below bel7)
  obtain ⟨w8, hw8, sz8, bel8, hP3, ⟨d0, d1, d2, d3, d4, d5⟩, _⟩ := newp w7 z
  have P3 : Hid (PgAt w8 w7.heap.size z) := hP3
  have bel08 := bel07.trans (bel8.mono (by omega))
  replace O1 := hide (O1.out.below bel8)
  replace O2 := hide (O2.out.below bel8)
  replace P1 := hide (P1.out.below bel8)
  replace P2 := hide (P2.out.below bel8)
  have C9 := hide (lastR_any _ fs node w8 (HF.out.below bel08) (by omega))
  clear C7 I2 hsl2 bel06 bel07 bel7 bel8 hP3 hw6 e0 e1 e2 e3 e4 e5 HVZ
  go_wp2_with fail
  refine C9.out.mono ?_
  rintro E w9 ⟨z', n', g', rfl, D9, _, bel9⟩
  obtain ⟨hz, hn, hg⟩ := lres_one D9.out D7.out
  subst hz hn hg
  have HVZ : Hid (vp z' = .agg #[.int .i64 z'.e, .int .u8 z'.r, .int .i64 z'.a, .int .u8 z'.p, .int .i64 z'.f, .int .i64 z'.b]) := rfl
  rw [HVZ.out]
  have sz9 := bel9.size
  have bel09 := bel08.trans (bel9.mono (by omega))
  replace O1 := hide (O1.out.below bel9)
  replace O2 := hide (O2.out.below bel9)
  replace P1 := hide (P1.out.below bel9)
  replace P2 := hide (P2.out.below bel9)
  replace P3 := hide (P3.out.below bel9)
  obtain ⟨w10, hw10, sz10, bel10, hP4, ⟨e0, e1, e2, e3, e4, e5⟩, _⟩ := newp w9 z'
  have P4 : Hid (PgAt w10 w9.heap.size z') := hP4
  have bel010 := bel09.trans (bel10.mono (by omega))
  replace O1 := hide (O1.out.below bel10)
  replace O2 := hide (O2.out.below bel10)
  replace P1 := hide (P1.out.below bel10)
  replace P2 := hide (P2.out.below bel10)
  replace P3 := hide (P3.out.below bel10)
  have C11 := hide (lives_any w10 (HM.out.below bel010))
  clear C9 D7 D9 bel08 bel09 bel9 bel10 hP4 hw8 d0 d1 d2 d3 d4 d5 HVZ
  go_wp2_with fail
  refine C11.out.mono ?_
  rintro E w11 ⟨rfl, bel11⟩
  have sz11 := bel11.size
  have bel011 := bel010.trans (bel11.mono (by omega))
  replace O1 := hide (O1.out.below bel11)
  replace O2 := hide (O2.out.below bel11)
  replace P1 := hide (P1.out.below bel11)
  replace P2 := hide (P2.out.below bel11)
  replace P3 := hide (P3.out.below bel11)
  replace P4 := hide (P4.out.below bel11)
  obtain ⟨d0, d1, d2, d3, d4, d5⟩ := P1.out.six
  obtain ⟨f0, f1, f2, f3, f4, f5⟩ := P2.out.six
  clear C11 bel010 bel11 hw10 e0 e1 e2 e3 e4 e5
  go_wp2_with fail
  refine (samePage_any y' y' _).mono ?_
  rintro E w12 ⟨rfl, bel12⟩
  rw [same_self]
  have sz12 := bel12.size
  have bel012 := bel011.trans (bel12.mono (by omega))
  replace O1 := hide (O1.out.below bel12)
  replace O2 := hide (O2.out.below bel12)
  replace P3 := hide (P3.out.below bel12)
  replace P4 := hide (P4.out.below bel12)
  clear d0 d1 d2 d3 d4 d5 f0 f1 f2 f3 f4 f5 bel011 bel12
  obtain ⟨d0, d1, d2, d3, d4, d5⟩ := P3.out.six
  obtain ⟨f0, f1, f2, f3, f4, f5⟩ := P4.out.six
  go_wp2_with fail
  refine (samePage_any z' z' _).mono ?_
  rintro E w13 ⟨rfl, bel13⟩
  rw [same_self]
  have sz13 := bel13.size
  have bel013 := bel012.trans (bel13.mono (by omega))
  replace O1 := hide (O1.out.below bel13)
  replace O2 := hide (O2.out.below bel13)
  have C14 := hide (kept_yes _ _ bs _ w13 O1.out.is (HB.out.below bel013) (by omega) rfl)
  clear d0 d1 d2 d3 d4 d5 f0 f1 f2 f3 f4 f5 bel012 bel13
  go_wp2_with fail
  refine C14.out.mono ?_
  rintro E w14 ⟨rfl, bel14⟩
  have sz14 := bel14.size
  have bel014 := bel013.trans (bel14.mono (by omega))
  replace O2 := hide (O2.out.below bel14)
  have C15 := hide (kept_yes _ _ fs _ w14 O2.out.is (HF.out.below bel014) (by omega) rfl)
  clear bel013 bel14 C14
  go_wp2_with fail
  refine C15.out.mono ?_
  rintro E w15 ⟨rfl, bel15⟩
  have bel015 := bel014.trans (bel15.mono (by omega))
  go_wp2
  go_ret
  exact ⟨rfl, bel015⟩

end Go.Proofs.YtdfbagnnieoonaaDoor
