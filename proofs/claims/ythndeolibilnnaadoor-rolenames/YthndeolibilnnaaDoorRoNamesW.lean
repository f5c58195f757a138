/- The walk of RoleNames. -/
import Derived.Test.YthndeolibilnnaaDoorRof
import Derived.Deep.RegionHeld3
namespace Go.Proofs.YthndeolibilnnaaDoor
open Go.RowKit
set_option linter.unusedVariables false

set_option maxRecDepth 20000 in
set_option maxHeartbeats 8000000 in
theorem roleNames_walk (w : World) (hm : Mst w) : Calls Tryd.prog 3 #[] w fun e w' => e = .returned (.bool true) ∧ Below w.heap.size w w' := by
  have HM := hide hm
  obtain ⟨h, hh⟩ : ∃ x : Pm.Pg, x = ⟨2, 3, 0, 1, 0, 0⟩ := ⟨_, rfl⟩
  obtain ⟨p, hp⟩ : ∃ x : Pm.Pg, x = ⟨2, 3, 0, 2, 8, 0⟩ := ⟨_, rfl⟩
  obtain ⟨q, hq⟩ : ∃ x : Pm.Pg, x = ⟨2, 3, 0, 3, 8, 0⟩ := ⟨_, rfl⟩
  obtain ⟨r, hr⟩ : ∃ x : Pm.Pg, x = ⟨2, 3, 0, 4, 8, 0⟩ := ⟨_, rfl⟩
  obtain ⟨s, hs⟩ : ∃ x : Pm.Pg, x = ⟨2, 2, 0, 0, 0, 0⟩ := ⟨_, rfl⟩
  obtain ⟨z, hz⟩ : ∃ x : Pm.Pg, x = ⟨0, 0, 0, 0, 0, 0⟩ := ⟨_, rfl⟩
  have okh : Pm.Ok h := by rw [hh]; exact ok_hear (by omega) (by omega)
  have okp : Pm.Ok p := by rw [hp]; exact ok_dep (by omega) (by omega) (by omega) (by omega) (by omega) (by omega) (by omega) (by omega)
  have okq : Pm.Ok q := by rw [hq]; exact ok_dep (by omega) (by omega) (by omega) (by omega) (by omega) (by omega) (by omega) (by omega)
  have okr : Pm.Ok r := by rw [hr]; exact ok_dep (by omega) (by omega) (by omega) (by omega) (by omega) (by omega) (by omega) (by omega)
  have oks : Pm.Ok s := by rw [hs]; exact ok_repl (by omega) (by omega)
  have C1 : Hid (∀ W, Mst W → Calls Tryd.prog 7 #[.agg #[.int .i64 1, .int .u8 1, .int .i64 0, .int .u8 0, .int .i64 0, .int .i64 0], .int .i64 8] W fun E w' => E = .returned (.tuple #[.agg #[.int .i64 z.e, .int .u8 z.r, .int .i64 z.a, .int .u8 z.p, .int .i64 z.f, .int .i64 z.b], .int .i64 10]) ∧ Below W.heap.size W w') := hide fun W hm => by
    have := pprom_any ⟨1, 1, 0, 0, 0, 0⟩ 8 W (fit_ok (ok_prim (by omega) (by omega) (by omega) (by omega))) hm ⟨by omega, by omega⟩
    obtain ⟨k1, k2⟩ := pr_err (x := ⟨1, 1, 0, 0, 0, 0⟩) (n := 8) (ok_prim (by omega) (by omega) (by omega) (by omega)) (by omega) (by omega) (by simp)
    rw [k1, k2, if_pos rfl, ← show z = Pm.no from hz] at this
    exact this
  have C2 : Hid (∀ W, Mst W → Calls Tryd.prog 7 #[.agg #[.int .i64 h.e, .int .u8 h.r, .int .i64 h.a, .int .u8 h.p, .int .i64 h.f, .int .i64 h.b], .int .i64 8] W fun E w' => E = .returned (.tuple #[.agg #[.int .i64 z.e, .int .u8 z.r, .int .i64 z.a, .int .u8 z.p, .int .i64 z.f, .int .i64 z.b], .int .i64 9]) ∧ Below W.heap.size W w') := hide fun W hm => by
    have := pprom_any h 8 W (fit_ok okh) hm ⟨by omega, by omega⟩
    obtain ⟨k1, k2⟩ := pr_err (x := h) (n := 8) okh (by omega) (by omega) (by rw [hh]; simp)
    rw [k1, k2, if_neg (by rw [hh]; simp), ← show z = Pm.no from hz] at this
    exact this
  have C3 : Hid (∀ W, Mst W → Calls Tryd.prog 8 #[.agg #[.int .i64 h.e, .int .u8 h.r, .int .i64 h.a, .int .u8 h.p, .int .i64 h.f, .int .i64 h.b]] W fun E w' => E = .returned (.tuple #[.agg #[.int .i64 z.e, .int .u8 z.r, .int .i64 z.a, .int .u8 z.p, .int .i64 z.f, .int .i64 z.b], .int .i64 15]) ∧ Below W.heap.size W w') := hide fun W hm => by
    have := pfile_any h W (fit_ok okh) hm
    obtain ⟨k1, k2⟩ := nx_no (p := 2) 3 okh (by rw [hh]; simp)
    rw [k1, k2, ← show z = Pm.no from hz] at this
    exact this
  have C4 : Hid (∀ W, Mst W → Calls Tryd.prog 9 #[.agg #[.int .i64 h.e, .int .u8 h.r, .int .i64 h.a, .int .u8 h.p, .int .i64 h.f, .int .i64 h.b], .int .i64 8, .int .i64 0] W fun E w' => E = .returned (.tuple #[.agg #[.int .i64 p.e, .int .u8 p.r, .int .i64 p.a, .int .u8 p.p, .int .i64 p.f, .int .i64 p.b], .int .i64 0]) ∧ Below W.heap.size W w') := hide fun W hm => by
    have := pfork_any h 8 0 W (fit_ok okh) hm ⟨by omega, by omega⟩ ⟨by omega, by omega⟩
    obtain ⟨k1, k2⟩ := fk_yes (x := h) (n := 8) (k := 0) okh (by omega) (by omega) (by omega) (by omega) (by rw [hh])
    rw [k1, k2, show (⟨h.e, h.r, h.a, 2, 8, 0⟩ : Pm.Pg) = p by rw [hh, hp]] at this
    exact this
  have C5 : Hid (∀ W, Mst W → Calls Tryd.prog 8 #[.agg #[.int .i64 p.e, .int .u8 p.r, .int .i64 p.a, .int .u8 p.p, .int .i64 p.f, .int .i64 p.b]] W fun E w' => E = .returned (.tuple #[.agg #[.int .i64 q.e, .int .u8 q.r, .int .i64 q.a, .int .u8 q.p, .int .i64 q.f, .int .i64 q.b], .int .i64 0]) ∧ Below W.heap.size W w') := hide fun W hm => by
    have := pfile_any p W (fit_ok okp) hm
    obtain ⟨k1, k2⟩ := nx_yes (p := 2) 3 okp (by rw [hp])
    rw [k1, k2, show (⟨p.e, p.r, p.a, 3, p.f, p.b⟩ : Pm.Pg) = q by rw [hp, hq]] at this
    exact this
  have C6 : Hid (∀ W, Mst W → Calls Tryd.prog 10 #[.agg #[.int .i64 q.e, .int .u8 q.r, .int .i64 q.a, .int .u8 q.p, .int .i64 q.f, .int .i64 q.b]] W fun E w' => E = .returned (.tuple #[.agg #[.int .i64 r.e, .int .u8 r.r, .int .i64 r.a, .int .u8 r.p, .int .i64 r.f, .int .i64 r.b], .int .i64 0]) ∧ Below W.heap.size W w') := hide fun W hm => by
    have := pcut_any q W (fit_ok okq) hm
    obtain ⟨k1, k2⟩ := nx_yes (p := 3) 4 okq (by rw [hq])
    rw [k1, k2, show (⟨q.e, q.r, q.a, 4, q.f, q.b⟩ : Pm.Pg) = r by rw [hq, hr]] at this
    exact this
  have C7 : Hid (∀ W, Mst W → Calls Tryd.prog 11 #[.agg #[.int .i64 r.e, .int .u8 r.r, .int .i64 r.a, .int .u8 r.p, .int .i64 r.f, .int .i64 r.b]] W fun E w' => E = .returned (.tuple #[.agg #[.int .i64 s.e, .int .u8 s.r, .int .i64 s.a, .int .u8 s.p, .int .i64 s.f, .int .i64 s.b], .int .i64 0]) ∧ Below W.heap.size W w') := hide fun W hm => by
    have := prejoin_any r W (fit_ok okr) hm
    obtain ⟨k1, k2⟩ := rj_yes okr (by rw [hr])
    rw [k1, k2, show (⟨r.e, 2, 0, 0, 0, 0⟩ : Pm.Pg) = s by rw [hr, hs]] at this
    exact this
  have C8 : Hid (∀ W, Mst W → Calls Tryd.prog 13 #[.agg #[.int .i64 s.e, .int .u8 s.r, .int .i64 s.a, .int .u8 s.p, .int .i64 s.f, .int .i64 s.b], .int .i64 2] W fun E w' => E = .returned (.tuple #[.agg #[.int .i64 s.e, .int .u8 s.r, .int .i64 s.a, .int .u8 s.p, .int .i64 s.f, .int .i64 s.b], .bool false, .int .i64 0]) ∧ Below W.heap.size W w') := hide fun W hm => by
    have := phear_any s 2 W (fit_ok oks) hm ⟨by omega, by omega⟩
    obtain ⟨k1, k2, k3⟩ := he_no (x := s) (n := 2) oks (by omega) (by omega) (by rw [hs]; simp)
    rw [k1, k2, k3] at this
    exact this
  have C9 : Hid (∀ W, Mst W → Calls Tryd.prog 15 #[.agg #[.int .i64 s.e, .int .u8 s.r, .int .i64 s.a, .int .u8 s.p, .int .i64 s.f, .int .i64 s.b]] W fun E w' => E = .returned (.int .i64 11) ∧ Below W.heap.size W w') := hide fun W hm => by
    have := pwrites_any s W (fit_ok oks) hm
    rw [wr_is oks, if_pos (by rw [hs])] at this
    exact this
  have C10 : Hid (∀ W, Mst W → Calls Tryd.prog 15 #[.agg #[.int .i64 h.e, .int .u8 h.r, .int .i64 h.a, .int .u8 h.p, .int .i64 h.f, .int .i64 h.b]] W fun E w' => E = .returned (.int .i64 9) ∧ Below W.heap.size W w') := hide fun W hm => by
    have := pwrites_any h W (fit_ok okh) hm
    rw [wr_is okh, if_neg (by rw [hh]; simp), if_pos (by rw [hh])] at this
    exact this
  have C11 : Hid (∀ W, Mst W → Calls Tryd.prog 16 #[.agg #[.int .i64 h.e, .int .u8 h.r, .int .i64 h.a, .int .u8 h.p, .int .i64 h.f, .int .i64 h.b]] W fun E w' => E = .returned (.int .i64 9) ∧ Below W.heap.size W w') := hide fun W hm => by
    have := preads_any h W (fit_ok okh) hm
    rw [rd_is okh, if_pos (by rw [hh])] at this
    exact this
  have C12 : Hid (∀ W, Mst W → Calls Tryd.prog 16 #[.agg #[.int .i64 s.e, .int .u8 s.r, .int .i64 s.a, .int .u8 s.p, .int .i64 s.f, .int .i64 s.b]] W fun E w' => E = .returned (.int .i64 0) ∧ Below W.heap.size W w') := hide fun W hm => by
    have := preads_any s W (fit_ok oks) hm
    rw [rd_is oks, if_neg (by rw [hs]; simp)] at this
    exact this
  have S1 : Hid (∀ W, Calls Tryd.prog 12 #[.agg #[.int .i64 s.e, .int .u8 s.r, .int .i64 s.a, .int .u8 s.p, .int .i64 s.f, .int .i64 s.b], .agg #[.int .i64 2, .int .u8 2, .int .i64 0, .int .u8 0, .int .i64 0, .int .i64 0]] W fun E w' => E = .returned (.bool true) ∧ Below W.heap.size W w') := hide fun W => by
    have := samePage_any s ⟨2, 2, 0, 0, 0, 0⟩ W
    rw [same_iff.2 hs] at this
    exact this
  have S2 : Hid (∀ W, Calls Tryd.prog 12 #[.agg #[.int .i64 p.e, .int .u8 p.r, .int .i64 p.a, .int .u8 p.p, .int .i64 p.f, .int .i64 p.b], .agg #[.int .i64 2, .int .u8 3, .int .i64 0, .int .u8 2, .int .i64 8, .int .i64 0]] W fun E w' => E = .returned (.bool true) ∧ Below W.heap.size W w') := hide fun W => by
    have := samePage_any p ⟨2, 3, 0, 2, 8, 0⟩ W
    rw [same_iff.2 hp] at this
    exact this
  have S3 : Hid (∀ W, Calls Tryd.prog 12 #[.agg #[.int .i64 s.e, .int .u8 s.r, .int .i64 s.a, .int .u8 s.p, .int .i64 s.f, .int .i64 s.b], .agg #[.int .i64 s.e, .int .u8 s.r, .int .i64 s.a, .int .u8 s.p, .int .i64 s.f, .int .i64 s.b]] W fun E w' => E = .returned (.bool true) ∧ Below W.heap.size W w') := hide fun W => by
    have := samePage_any s s W
    rw [same_iff.2 rfl] at this
    exact this
  obtain ⟨v0, hv0, sv0, bv0, hq0⟩ := blk_step w #[.int .i64 2, .int .u8 3, .int .i64 0, .int .u8 1, .int .i64 0, .int .i64 0] 25
  obtain ⟨n0, n1, n2, n3, n4, n5, m0, m1, m2, m3, m4, m5⟩ := sam_of hq0
  obtain ⟨k0, k1, k2, k3, k4, k5⟩ := six_of hq0
  have PH : Hid (PgAt v0 w.heap.size h) := hide (by rw [hh]; exact hq0)
  have B0 := hide bv0
  clear hm hh hp hq hr hs hz okh okp okq okr oks bv0 hq0
  go_enter Tryd.func3, Tryd.ntmps3
  go_wp2_with fail
  refine (C1.out v0 (HM.out.below B0.out)).mono ?_
  rintro E v1 ⟨rfl, b1⟩
  replace PH := hide (PH.out.below b1)
  have B1 := hide (B0.out.trans (b1.mono B0.out.size))
  have zs1 := b1.size
  clear b1 hv0 n0 n1 n2 n3 n4 n5 m0 m1 m2 m3 m4 m5 k0 k1 k2 k3 k4 k5
  obtain ⟨v2, hv2, sv2, bv2, hq2, _, _⟩ := newp v1 z
  replace PH := hide (PH.out.below bv2)
  have PU : Hid (PgAt v2 v1.heap.size z) := hide hq2
  have B2 := hide (B1.out.trans (bv2.mono B1.out.size))
  clear bv2 hq2
  obtain ⟨phc0, phc1, phc2, phc3, phc4, phc5⟩ := PH.out.six
  go_wp2_with fail
  refine (C2.out v2 (HM.out.below B2.out)).mono ?_
  rintro E v3 ⟨rfl, b3⟩
  replace PH := hide (PH.out.below b3)
  replace PU := hide (PU.out.below b3)
  have B3 := hide (B2.out.trans (b3.mono B2.out.size))
  have zs3 := b3.size
  clear b3 hv2 phc0 phc1 phc2 phc3 phc4 phc5
  obtain ⟨v4, hv4, sv4, bv4, hq4, _, _⟩ := newp v3 z
  replace PH := hide (PH.out.below bv4)
  replace PU := hide (PU.out.below bv4)
  have PV : Hid (PgAt v4 v3.heap.size z) := hide hq4
  have B4 := hide (B3.out.trans (bv4.mono B3.out.size))
  clear bv4 hq4
  obtain ⟨phc0, phc1, phc2, phc3, phc4, phc5⟩ := PH.out.six
  go_wp2_with fail
  refine (C3.out v4 (HM.out.below B4.out)).mono ?_
  rintro E v5 ⟨rfl, b5⟩
  replace PH := hide (PH.out.below b5)
  replace PU := hide (PU.out.below b5)
  replace PV := hide (PV.out.below b5)
  have B5 := hide (B4.out.trans (b5.mono B4.out.size))
  have zs5 := b5.size
  clear b5 hv4 phc0 phc1 phc2 phc3 phc4 phc5
  obtain ⟨v6, hv6, sv6, bv6, hq6, _, _⟩ := newp v5 z
  replace PH := hide (PH.out.below bv6)
  replace PU := hide (PU.out.below bv6)
  replace PV := hide (PV.out.below bv6)
  have PW : Hid (PgAt v6 v5.heap.size z) := hide hq6
  have B6 := hide (B5.out.trans (bv6.mono B5.out.size))
  clear bv6 hq6
  obtain ⟨phc0, phc1, phc2, phc3, phc4, phc5⟩ := PH.out.six
  go_wp2_with fail
  refine (C4.out v6 (HM.out.below B6.out)).mono ?_
  rintro E v7 ⟨rfl, b7⟩
  replace PH := hide (PH.out.below b7)
  replace PU := hide (PU.out.below b7)
  replace PV := hide (PV.out.below b7)
  replace PW := hide (PW.out.below b7)
  have B7 := hide (B6.out.trans (b7.mono B6.out.size))
  have zs7 := b7.size
  clear b7 hv6 phc0 phc1 phc2 phc3 phc4 phc5
  obtain ⟨v8, hv8, sv8, bv8, hq8, _, _⟩ := newp v7 p
  replace PH := hide (PH.out.below bv8)
  replace PU := hide (PU.out.below bv8)
  replace PV := hide (PV.out.below bv8)
  replace PW := hide (PW.out.below bv8)
  have PP : Hid (PgAt v8 v7.heap.size p) := hide hq8
  have B8 := hide (B7.out.trans (bv8.mono B7.out.size))
  clear bv8 hq8
  obtain ⟨ppc0, ppc1, ppc2, ppc3, ppc4, ppc5⟩ := PP.out.six
  go_wp2_with fail
  refine (C5.out v8 (HM.out.below B8.out)).mono ?_
  rintro E v9 ⟨rfl, b9⟩
  replace PH := hide (PH.out.below b9)
  replace PU := hide (PU.out.below b9)
  replace PV := hide (PV.out.below b9)
  replace PW := hide (PW.out.below b9)
  replace PP := hide (PP.out.below b9)
  have B9 := hide (B8.out.trans (b9.mono B8.out.size))
  have zs9 := b9.size
  clear b9 hv8 ppc0 ppc1 ppc2 ppc3 ppc4 ppc5
  obtain ⟨v10, hv10, sv10, bv10, hq10, _, _⟩ := newp v9 q
  replace PH := hide (PH.out.below bv10)
  replace PU := hide (PU.out.below bv10)
  replace PV := hide (PV.out.below bv10)
  replace PW := hide (PW.out.below bv10)
  replace PP := hide (PP.out.below bv10)
  have PQ : Hid (PgAt v10 v9.heap.size q) := hide hq10
  have B10 := hide (B9.out.trans (bv10.mono B9.out.size))
  clear bv10 hq10
  obtain ⟨pqc0, pqc1, pqc2, pqc3, pqc4, pqc5⟩ := PQ.out.six
  go_wp2_with fail
  refine (C6.out v10 (HM.out.below B10.out)).mono ?_
  rintro E v11 ⟨rfl, b11⟩
  replace PH := hide (PH.out.below b11)
  replace PU := hide (PU.out.below b11)
  replace PV := hide (PV.out.below b11)
  replace PW := hide (PW.out.below b11)
  replace PP := hide (PP.out.below b11)
  replace PQ := hide (PQ.out.below b11)
  have B11 := hide (B10.out.trans (b11.mono B10.out.size))
  have zs11 := b11.size
  clear b11 hv10 pqc0 pqc1 pqc2 pqc3 pqc4 pqc5
  obtain ⟨v12, hv12, sv12, bv12, hq12, _, _⟩ := newp v11 r
  replace PH := hide (PH.out.below bv12)
  replace PU := hide (PU.out.below bv12)
  replace PV := hide (PV.out.below bv12)
  replace PW := hide (PW.out.below bv12)
  replace PP := hide (PP.out.below bv12)
  replace PQ := hide (PQ.out.below bv12)
  have PR : Hid (PgAt v12 v11.heap.size r) := hide hq12
  have B12 := hide (B11.out.trans (bv12.mono B11.out.size))
  clear bv12 hq12
  obtain ⟨prc0, prc1, prc2, prc3, prc4, prc5⟩ := PR.out.six
  go_wp2_with fail
  refine (C7.out v12 (HM.out.below B12.out)).mono ?_
  rintro E v13 ⟨rfl, b13⟩
  replace PH := hide (PH.out.below b13)
  replace PU := hide (PU.out.below b13)
  replace PV := hide (PV.out.below b13)
  replace PW := hide (PW.out.below b13)
  replace PP := hide (PP.out.below b13)
  replace PQ := hide (PQ.out.below b13)
  replace PR := hide (PR.out.below b13)
  have B13 := hide (B12.out.trans (b13.mono B12.out.size))
  have zs13 := b13.size
  clear b13 hv12 prc0 prc1 prc2 prc3 prc4 prc5
  obtain ⟨v14, hv14, sv14, bv14, hq14, _, _⟩ := newp v13 s
  replace PH := hide (PH.out.below bv14)
  replace PU := hide (PU.out.below bv14)
  replace PV := hide (PV.out.below bv14)
  replace PW := hide (PW.out.below bv14)
  replace PP := hide (PP.out.below bv14)
  replace PQ := hide (PQ.out.below bv14)
  replace PR := hide (PR.out.below bv14)
  have PS : Hid (PgAt v14 v13.heap.size s) := hide hq14
  have B14 := hide (B13.out.trans (bv14.mono B13.out.size))
  clear bv14 hq14
  obtain ⟨psc0, psc1, psc2, psc3, psc4, psc5⟩ := PS.out.six
  go_wp2_with fail
  refine (S1.out v14).mono ?_
  rintro E v15 ⟨rfl, b15⟩
  replace PH := hide (PH.out.below b15)
  replace PU := hide (PU.out.below b15)
  replace PV := hide (PV.out.below b15)
  replace PW := hide (PW.out.below b15)
  replace PP := hide (PP.out.below b15)
  replace PQ := hide (PQ.out.below b15)
  replace PR := hide (PR.out.below b15)
  replace PS := hide (PS.out.below b15)
  have B15 := hide (B14.out.trans (b15.mono B14.out.size))
  have zs15 := b15.size
  clear b15 hv14 psc0 psc1 psc2 psc3 psc4 psc5
  obtain ⟨ppc0, ppc1, ppc2, ppc3, ppc4, ppc5⟩ := PP.out.six
  go_wp2_with fail
  refine (S2.out v15).mono ?_
  rintro E v16 ⟨rfl, b16⟩
  replace PH := hide (PH.out.below b16)
  replace PU := hide (PU.out.below b16)
  replace PV := hide (PV.out.below b16)
  replace PW := hide (PW.out.below b16)
  replace PP := hide (PP.out.below b16)
  replace PQ := hide (PQ.out.below b16)
  replace PR := hide (PR.out.below b16)
  replace PS := hide (PS.out.below b16)
  have B16 := hide (B15.out.trans (b16.mono B15.out.size))
  have zs16 := b16.size
  clear b16 ppc0 ppc1 ppc2 ppc3 ppc4 ppc5
  obtain ⟨psc0, psc1, psc2, psc3, psc4, psc5⟩ := PS.out.six
  go_wp2_with fail
  refine (C8.out v16 (HM.out.below B16.out)).mono ?_
  rintro E v17 ⟨rfl, b17⟩
  replace PH := hide (PH.out.below b17)
  replace PU := hide (PU.out.below b17)
  replace PV := hide (PV.out.below b17)
  replace PW := hide (PW.out.below b17)
  replace PP := hide (PP.out.below b17)
  replace PQ := hide (PQ.out.below b17)
  replace PR := hide (PR.out.below b17)
  replace PS := hide (PS.out.below b17)
  have B17 := hide (B16.out.trans (b17.mono B16.out.size))
  have zs17 := b17.size
  clear b17 psc0 psc1 psc2 psc3 psc4 psc5
  obtain ⟨v18, hv18, sv18, bv18, hq18, _, _⟩ := newp v17 s
  replace PH := hide (PH.out.below bv18)
  replace PU := hide (PU.out.below bv18)
  replace PV := hide (PV.out.below bv18)
  replace PW := hide (PW.out.below bv18)
  replace PP := hide (PP.out.below bv18)
  replace PQ := hide (PQ.out.below bv18)
  replace PR := hide (PR.out.below bv18)
  replace PS := hide (PS.out.below bv18)
  have PX : Hid (PgAt v18 v17.heap.size s) := hide hq18
  have B18 := hide (B17.out.trans (bv18.mono B17.out.size))
  clear bv18 hq18
  go_wp2_with fail
  refine (lives20_any v18 (HM.out.below B18.out)).mono ?_
  rintro E v19 ⟨rfl, b19⟩
  replace PH := hide (PH.out.below b19)
  replace PU := hide (PU.out.below b19)
  replace PV := hide (PV.out.below b19)
  replace PW := hide (PW.out.below b19)
  replace PP := hide (PP.out.below b19)
  replace PQ := hide (PQ.out.below b19)
  replace PR := hide (PR.out.below b19)
  replace PS := hide (PS.out.below b19)
  replace PX := hide (PX.out.below b19)
  have B19 := hide (B18.out.trans (b19.mono B18.out.size))
  have zs19 := b19.size
  clear b19 hv18
  obtain ⟨pxc0, pxc1, pxc2, pxc3, pxc4, pxc5⟩ := PX.out.six
  obtain ⟨psc0, psc1, psc2, psc3, psc4, psc5⟩ := PS.out.six
  go_wp2_with fail
  refine (S3.out v19).mono ?_
  rintro E v20 ⟨rfl, b20⟩
  replace PH := hide (PH.out.below b20)
  replace PU := hide (PU.out.below b20)
  replace PV := hide (PV.out.below b20)
  replace PW := hide (PW.out.below b20)
  replace PP := hide (PP.out.below b20)
  replace PQ := hide (PQ.out.below b20)
  replace PR := hide (PR.out.below b20)
  replace PS := hide (PS.out.below b20)
  replace PX := hide (PX.out.below b20)
  have B20 := hide (B19.out.trans (b20.mono B19.out.size))
  have zs20 := b20.size
  clear b20 pxc0 pxc1 pxc2 pxc3 pxc4 pxc5 psc0 psc1 psc2 psc3 psc4 psc5
  obtain ⟨psc0, psc1, psc2, psc3, psc4, psc5⟩ := PS.out.six
  go_wp2_with fail
  refine (C9.out v20 (HM.out.below B20.out)).mono ?_
  rintro E v21 ⟨rfl, b21⟩
  replace PH := hide (PH.out.below b21)
  replace PU := hide (PU.out.below b21)
  replace PV := hide (PV.out.below b21)
  replace PW := hide (PW.out.below b21)
  replace PP := hide (PP.out.below b21)
  replace PQ := hide (PQ.out.below b21)
  replace PR := hide (PR.out.below b21)
  replace PS := hide (PS.out.below b21)
  replace PX := hide (PX.out.below b21)
  have B21 := hide (B20.out.trans (b21.mono B20.out.size))
  have zs21 := b21.size
  clear b21 psc0 psc1 psc2 psc3 psc4 psc5
  obtain ⟨phc0, phc1, phc2, phc3, phc4, phc5⟩ := PH.out.six
  go_wp2_with fail
  refine (C10.out v21 (HM.out.below B21.out)).mono ?_
  rintro E v22 ⟨rfl, b22⟩
  replace PH := hide (PH.out.below b22)
  replace PU := hide (PU.out.below b22)
  replace PV := hide (PV.out.below b22)
  replace PW := hide (PW.out.below b22)
  replace PP := hide (PP.out.below b22)
  replace PQ := hide (PQ.out.below b22)
  replace PR := hide (PR.out.below b22)
  replace PS := hide (PS.out.below b22)
  replace PX := hide (PX.out.below b22)
  have B22 := hide (B21.out.trans (b22.mono B21.out.size))
  have zs22 := b22.size
  clear b22 phc0 phc1 phc2 phc3 phc4 phc5
  obtain ⟨phc0, phc1, phc2, phc3, phc4, phc5⟩ := PH.out.six
  go_wp2_with fail
  refine (C11.out v22 (HM.out.below B22.out)).mono ?_
  rintro E v23 ⟨rfl, b23⟩
  replace PH := hide (PH.out.below b23)
  replace PU := hide (PU.out.below b23)
  replace PV := hide (PV.out.below b23)
  replace PW := hide (PW.out.below b23)
  replace PP := hide (PP.out.below b23)
  replace PQ := hide (PQ.out.below b23)
  replace PR := hide (PR.out.below b23)
  replace PS := hide (PS.out.below b23)
  replace PX := hide (PX.out.below b23)
  have B23 := hide (B22.out.trans (b23.mono B22.out.size))
  have zs23 := b23.size
  clear b23 phc0 phc1 phc2 phc3 phc4 phc5
  obtain ⟨psc0, psc1, psc2, psc3, psc4, psc5⟩ := PS.out.six
  go_wp2_with fail
  refine (C12.out v23 (HM.out.below B23.out)).mono ?_
  rintro E v24 ⟨rfl, b24⟩
  replace PH := hide (PH.out.below b24)
  replace PU := hide (PU.out.below b24)
  replace PV := hide (PV.out.below b24)
  replace PW := hide (PW.out.below b24)
  replace PP := hide (PP.out.below b24)
  replace PQ := hide (PQ.out.below b24)
  replace PR := hide (PR.out.below b24)
  replace PS := hide (PS.out.below b24)
  replace PX := hide (PX.out.below b24)
  have B24 := hide (B23.out.trans (b24.mono B23.out.size))
  have zs24 := b24.size
  clear b24 psc0 psc1 psc2 psc3 psc4 psc5
  go_wp2
  go_ret
  exact ⟨rfl, B24.out⟩

end Go.Proofs.YthndeolibilnnaaDoor
