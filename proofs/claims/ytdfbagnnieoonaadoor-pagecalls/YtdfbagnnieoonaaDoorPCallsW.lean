/- The walk of PageCalls. -/
import Derived.Test.YtdfbagnnieoonaaDoorQn
import Derived.Deep.RegionHeld3
namespace Go.Proofs.YtdfbagnnieoonaaDoor
open Go.RowKit
set_option linter.unusedVariables false

theorem cells1 {w : World} {g : Nat} {x : Pm.Pg} (h : PgAt w g x) : (w.cell? ⟨g, 0, none⟩ = some (.int .i64 x.e) ∧ w.cell? ⟨g, 1, none⟩ = some (.int .u8 x.r) ∧ w.cell? ⟨g, 2, none⟩ = some (.int .i64 x.a) ∧ w.cell? ⟨g, 3, none⟩ = some (.int .u8 x.p) ∧ w.cell? ⟨g, 4, none⟩ = some (.int .i64 x.f) ∧ w.cell? ⟨g, 5, none⟩ = some (.int .i64 x.b)) :=
  ⟨h.six.c0, h.six.c1, h.six.c2, h.six.c3, h.six.c4, h.six.c5⟩

theorem PgAt.under {w w' : World} {g B : Nat} {x : Pm.Pg} (h : PgAt w g x) (b : Below B w w') (hg : g < B) : PgAt w' g x := (b.block g hg).trans h

theorem cells3 {w : World} {g g1 g2 : Nat} {x y z : Pm.Pg} (h : PgAt w g x) (h1 : PgAt w g1 y) (h2 : PgAt w g2 z) : (w.cell? ⟨g, 0, none⟩ = some (.int .i64 x.e) ∧ w.cell? ⟨g, 1, none⟩ = some (.int .u8 x.r) ∧ w.cell? ⟨g, 2, none⟩ = some (.int .i64 x.a) ∧ w.cell? ⟨g, 3, none⟩ = some (.int .u8 x.p) ∧ w.cell? ⟨g, 4, none⟩ = some (.int .i64 x.f) ∧ w.cell? ⟨g, 5, none⟩ = some (.int .i64 x.b)) ∧ (w.cell? ⟨g1, 0, none⟩ = some (.int .i64 y.e) ∧ w.cell? ⟨g1, 1, none⟩ = some (.int .u8 y.r) ∧ w.cell? ⟨g1, 2, none⟩ = some (.int .i64 y.a) ∧ w.cell? ⟨g1, 3, none⟩ = some (.int .u8 y.p) ∧ w.cell? ⟨g1, 4, none⟩ = some (.int .i64 y.f) ∧ w.cell? ⟨g1, 5, none⟩ = some (.int .i64 y.b)) ∧ (w.cell? ⟨g2, 0, none⟩ = some (.int .i64 z.e) ∧ w.cell? ⟨g2, 1, none⟩ = some (.int .u8 z.r) ∧ w.cell? ⟨g2, 2, none⟩ = some (.int .i64 z.a) ∧ w.cell? ⟨g2, 3, none⟩ = some (.int .u8 z.p) ∧ w.cell? ⟨g2, 4, none⟩ = some (.int .i64 z.f) ∧ w.cell? ⟨g2, 5, none⟩ = some (.int .i64 z.b)) :=
  ⟨cells1 h, cells1 h1, cells1 h2⟩

set_option maxRecDepth 100000 in
set_option maxHeartbeats 8000000 in
theorem pageCalls_walk (x : Pm.Pg) (node : Int) (w : World) (hx : FitP x) (hn : (Lit.int .i64 node).wf = true) (hm : Mst w) :
    Calls Tryd.prog 4 #[vp x, .int .i64 node] w fun e w' => e = .returned (.bool true) ∧ Below w.heap.size w w' := by
  have HX := hide hx
  have HM := hide hm
  have HV : Hid (vp x = .agg #[.int .i64 x.e, .int .u8 x.r, .int .i64 x.a, .int .u8 x.p, .int .i64 x.f, .int .i64 x.b]) := rfl
  rw [HV.out]
  obtain ⟨w1, hw1, sz1, bel1, hP0, ⟨c0, c1, c2, c3, c4, c5⟩, _⟩ := newp w x
  have P0 : Hid (PgAt w1 w.heap.size x) := hP0
  clear hx hm hn hP0 HV
  go_enter Tryd.func4, Tryd.ntmps4
  go_wp2_with fail
  refine (first_any node _).mono ?_
  rintro E w2 ⟨rfl, bel2⟩
  obtain ⟨y, hy⟩ : ∃ y, fst node = y := ⟨_, rfl⟩
  obtain ⟨fe, hfe⟩ : ∃ f, fse node = f := ⟨_, rfl⟩
  rw [hy, hfe]
  have HY := hide hy
  have HFE := hide hfe
  clear hy hfe
  have HVY : Hid (vp y = .agg #[.int .i64 y.e, .int .u8 y.r, .int .i64 y.a, .int .u8 y.p, .int .i64 y.f, .int .i64 y.b]) := rfl
  rw [HVY.out]
  have sz2 := bel2.size
  replace P0 := hide (P0.out.below bel2)
  have bel02 := bel1.trans (bel2.mono (by omega))
  obtain ⟨w3, hw3, sz3, bel3, hP1, ⟨d0, d1, d2, d3, d4, d5⟩, _⟩ := newp w2 y
  have P1 : Hid (PgAt w3 w2.heap.size y) := hP1
  replace P0 := hide (P0.out.below bel3)
  have bel03 := bel02.trans (bel3.mono (by omega))
  clear bel1 bel2 bel3 bel02 hP1 c0 c1 c2 c3 c4 c5 hw1
  go_wp2_with fail
  refine (firstR_any node _).mono ?_
  rintro E w4 ⟨rfl, bel4⟩
  rw [HY.out, HFE.out, HVY.out]
  have sz4 := bel4.size
  replace P0 := hide (P0.out.below bel4)
  replace P1 := hide (P1.out.below bel4)
  have bel04 := bel03.trans (bel4.mono (by omega))
  obtain ⟨w5, hw5, sz5, bel5, hP2, ⟨e0, e1, e2, e3, e4, e5⟩, _⟩ := newp w4 y
  have P2 : Hid (PgAt w5 w4.heap.size y) := hP2
  replace P0 := hide (P0.out.below bel5)
  replace P1 := hide (P1.out.below bel5)
  have bel05 := bel04.trans (bel5.mono (by omega))
  obtain ⟨q0, q1, q2, q3, q4, q5⟩ := P0.out.six
  have C6 := hide (encode_any x w5 HX.out (HM.out.below bel05))
  clear bel4 bel5 bel03 bel04 hP2 d0 d1 d2 d3 d4 d5 hw3 HVY
  go_wp2_with fail
  refine C6.out.mono ?_
  rintro E w6 ⟨vc, rfl, own6, bel6⟩
  have sz6 := bel6.size
  replace P0 := hide (P0.out.below bel6)
  replace P1 := hide (P1.out.below bel6)
  replace P2 := hide (P2.out.below bel6)
  have bel06 := bel05.trans (bel6.mono (by omega))
  clear q0 q1 q2 q3 q4 q5 C6 e0 e1 e2 e3 e4 e5 hw5
  obtain ⟨q0, q1, q2, q3, q4, q5⟩ := P0.out.six
  have C7 := hide (encode_any x w6 HX.out (HM.out.below bel06))
  go_wp2_with fail
  refine C7.out.mono ?_
  rintro E w7 ⟨vx, rfl, own7, bel7⟩
  have sz7 := bel7.size
  replace P0 := hide (P0.out.below bel7)
  replace P1 := hide (P1.out.below bel7)
  replace P2 := hide (P2.out.below bel7)
  have bel07 := bel06.trans (bel7.mono (by omega))
  have O6 := hide (own6.below bel7)
  clear q0 q1 q2 q3 q4 q5 C7
  obtain ⟨q0, q1, q2, q3, q4, q5⟩ := P0.out.six
  have C8 := hide (encodeR_any x w7 HX.out)
  go_wp2_with fail
  refine C8.out.mono ?_
  rintro E w8 ⟨vd, rfl, own8, bel8⟩
  have sz8 := bel8.size
  replace P0 := hide (P0.out.below bel8)
  replace P1 := hide (P1.out.below bel8)
  replace P2 := hide (P2.out.below bel8)
  have bel08 := bel07.trans (bel8.mono (by omega))
  replace O6 := hide (O6.out.below bel8)
  have O7 := hide (own7.below bel8)
  have O8 := hide own8
  have HB6 := hide own6.block
  have hlo : (outP x).length ≤ 60 := by
    by_cases ho : Pm.Ok x
    · rw [out_ok ho]; exact Pm.enc_len ho
    · rw [out_no ho]; simp
  have M8 := hide (HM.out.below bel08)
  obtain ⟨oc, hoc⟩ : ∃ l, outP x = l := ⟨_, rfl⟩
  rw [hoc] at hlo O6 O7 O8
  obtain ⟨ac, nc, hvc, _, _⟩ := O6.out.is.shape
  obtain ⟨ax, nx, hvx, _, _⟩ := O7.out.is.shape
  obtain ⟨ad, nd, hvd, _, _⟩ := O8.out.is.shape
  subst hvc hvx hvd
  obtain ⟨ch, hch⟩ : ∃ c, Pm.chk x = c := ⟨_, rfl⟩
  have X1 := hide (fun W (h : Mst W) => check_any x W HX.out h)
  have X2 := hide (fun W => checkR_any x W HX.out)
  rw [hch] at X1 X2 ⊢
  have S0 := hide (cells3 P0.out P1.out P2.out)
  clear q0 q1 q2 q3 q4 q5 C8 own6 own7 own8 bel6 bel7 bel8 bel05 bel06 bel07 hoc hch
  go_wp2_with fail
  go_region_held3 (fun w' => (w'.cell? ⟨w.heap.size, 0, none⟩ = some (.int .i64 x.e) ∧ w'.cell? ⟨w.heap.size, 1, none⟩ = some (.int .u8 x.r) ∧ w'.cell? ⟨w.heap.size, 2, none⟩ = some (.int .i64 x.a) ∧ w'.cell? ⟨w.heap.size, 3, none⟩ = some (.int .u8 x.p) ∧ w'.cell? ⟨w.heap.size, 4, none⟩ = some (.int .i64 x.f) ∧ w'.cell? ⟨w.heap.size, 5, none⟩ = some (.int .i64 x.b)) ∧ (w'.cell? ⟨w2.heap.size, 0, none⟩ = some (.int .i64 y.e) ∧ w'.cell? ⟨w2.heap.size, 1, none⟩ = some (.int .u8 y.r) ∧ w'.cell? ⟨w2.heap.size, 2, none⟩ = some (.int .i64 y.a) ∧ w'.cell? ⟨w2.heap.size, 3, none⟩ = some (.int .u8 y.p) ∧ w'.cell? ⟨w2.heap.size, 4, none⟩ = some (.int .i64 y.f) ∧ w'.cell? ⟨w2.heap.size, 5, none⟩ = some (.int .i64 y.b)) ∧ (w'.cell? ⟨w4.heap.size, 0, none⟩ = some (.int .i64 y.e) ∧ w'.cell? ⟨w4.heap.size, 1, none⟩ = some (.int .u8 y.r) ∧ w'.cell? ⟨w4.heap.size, 2, none⟩ = some (.int .i64 y.a) ∧ w'.cell? ⟨w4.heap.size, 3, none⟩ = some (.int .u8 y.p) ∧ w'.cell? ⟨w4.heap.size, 4, none⟩ = some (.int .i64 y.f) ∧ w'.cell? ⟨w4.heap.size, 5, none⟩ = some (.int .i64 y.b))) (first | exact S0.out | exact Swa.out | exact Swb.out | exact Swc.out | exact Swd.out | exact Swe.out | exact Swf.out | go_keep)
    (first
    | (go_at_call 12; refine (lives_any _ (M8.out.drewN 1)).mono ?_; rintro E wa ⟨rfl, belwa'⟩; have belwa : Below w8.heap.size w8 wa := ((Below.refl _ _).drew).trans belwa'; have Swa := hide (cells3 (P0.out.below belwa) (P1.out.below belwa) (P2.out.below belwa)); clear belwa')
    | (go_at_call 16; refine (X1.out _ (M8.out.below belwa)).mono ?_; rintro E wb ⟨rfl, belwb'⟩; have belwb : Below w8.heap.size w8 wb := belwa.trans (belwb'.mono belwa.size); have Swb := hide (cells3 (P0.out.below belwb) (P1.out.below belwb) (P2.out.below belwb)); clear belwb')
    | (go_at_call 17; refine (X2.out _).mono ?_; rintro E wc ⟨rfl, belwc'⟩; have belwc : Below w8.heap.size w8 wc := belwb.trans (belwc'.mono belwb.size); have Swc := hide (cells3 (P0.out.below belwc) (P1.out.below belwc) (P2.out.below belwc)); clear belwc')
    | (go_at_call 9; refine (samePage_any y y _).mono ?_; rintro E wd ⟨rfl, belwd'⟩; have belwd : Below w8.heap.size w8 wd := belwc.trans (belwd'.mono belwc.size); have Swd := hide (cells3 (P0.out.below belwd) (P1.out.below belwd) (P2.out.below belwd)); clear belwd'; rw [same_self])
    | (go_at_call 18; refine (same_yes _ _ oc oc _ (O6.out.below belwd).is (O8.out.below belwd).is (by omega) rfl).mono ?_; rintro E we ⟨rfl, belwe'⟩; have belwe : Below w8.heap.size w8 we := belwd.trans (belwe'.mono belwd.size); have Swe := hide (cells3 (P0.out.below belwe) (P1.out.below belwe) (P2.out.below belwe)); clear belwe')
    | (go_at_call 19; have hse := belwe.size; have LL := lists_two (s2 := w6.heap.size) (base := w5.heap.size) (O6.out.below belwe) (O7.out.below belwe) (fun b hb => (HB6.out b hb).2) (by omega) (by omega) (by omega); refine (apart_yes 2 _ 2 w5.heap.size _ _ _ (by omega) (by omega) (by simp; omega) LL (by omega)).mono ?_; rintro E wf ⟨rfl, belwf⟩; have belg : Below w5.heap.size w8 wf := ((belwe.mono (by omega)).alloc (by omega) _).trans belwf; have Swf := hide (cells3 (P0.out.under belg (by omega)) (P1.out.under belg (by omega)) (P2.out.under belg (by omega)))))
  go_wp2
  go_ret
  exact ⟨rfl, bel08.trans (belg.mono (by omega))⟩

end Go.Proofs.YtdfbagnnieoonaaDoor
