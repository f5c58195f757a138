/- The walk of RoleCalls. -/
import Derived.Test.YthndeolibilnnaaDoorRof
import Derived.Deep.RegionHeld3
namespace Go.Proofs.YthndeolibilnnaaDoor
open Go.RowKit
set_option linter.unusedVariables false

set_option maxRecDepth 20000 in
set_option maxHeartbeats 8000000 in
theorem roleCalls_walk (x : Pm.Pg) (n k : Int) (w : World) (hx : FitP x) (hn : (Lit.int .i64 n).wf = true) (hk : (Lit.int .i64 k).wf = true) (hm : Mst w) :
    Calls Tryd.prog 4 #[vp x, .int .i64 n, .int .i64 k] w fun e w' => e = .returned (.bool true) ∧ Below w.heap.size w w' := by
  have hn := i64_of hn
  have hk := i64_of hk
  have HM := hide hm
  obtain ⟨y1, hy1⟩ : ∃ y, Rol.pr x n = y := ⟨_, rfl⟩
  obtain ⟨e1, he1⟩ : ∃ e, Rol.prE x n = e := ⟨_, rfl⟩
  have C1 : Hid (∀ W, Mst W → Calls Tryd.prog 7 #[.agg #[.int .i64 x.e, .int .u8 x.r, .int .i64 x.a, .int .u8 x.p, .int .i64 x.f, .int .i64 x.b], .int .i64 n] W fun E w' => E = .returned (.tuple #[.agg #[.int .i64 y1.e, .int .u8 y1.r, .int .i64 y1.a, .int .u8 y1.p, .int .i64 y1.f, .int .i64 y1.b], .int .i64 e1]) ∧ Below W.heap.size W w') := hide fun W hm => by
    have := pprom_any x n W hx hm hn
    rw [hy1, he1] at this
    exact this
  have D1 : Hid (∀ W, Mst W → Calls Tryd.prog 17 #[.agg #[.int .i64 x.e, .int .u8 x.r, .int .i64 x.a, .int .u8 x.p, .int .i64 x.f, .int .i64 x.b], .int .i64 n] W fun E w' => E = .returned (.tuple #[.agg #[.int .i64 y1.e, .int .u8 y1.r, .int .i64 y1.a, .int .u8 y1.p, .int .i64 y1.f, .int .i64 y1.b], .int .i64 e1]) ∧ Below W.heap.size W w') := hide fun W hm => by
    have := promR_any x n W hx
    rw [hy1, he1] at this
    exact this
  clear hy1 he1
  obtain ⟨y2, hy2⟩ : ∃ y, Rol.he x n = y := ⟨_, rfl⟩
  obtain ⟨e2, he2⟩ : ∃ e, Rol.heE x n = e := ⟨_, rfl⟩
  obtain ⟨g2, hg2⟩ : ∃ g, Rol.heB x n = g := ⟨_, rfl⟩
  have C2 : Hid (∀ W, Mst W → Calls Tryd.prog 13 #[.agg #[.int .i64 x.e, .int .u8 x.r, .int .i64 x.a, .int .u8 x.p, .int .i64 x.f, .int .i64 x.b], .int .i64 n] W fun E w' => E = .returned (.tuple #[.agg #[.int .i64 y2.e, .int .u8 y2.r, .int .i64 y2.a, .int .u8 y2.p, .int .i64 y2.f, .int .i64 y2.b], .bool g2, .int .i64 e2]) ∧ Below W.heap.size W w') := hide fun W hm => by
    have := phear_any x n W hx hm hn
    rw [hy2, he2, hg2] at this
    exact this
  have D2 : Hid (∀ W, Mst W → Calls Tryd.prog 18 #[.agg #[.int .i64 x.e, .int .u8 x.r, .int .i64 x.a, .int .u8 x.p, .int .i64 x.f, .int .i64 x.b], .int .i64 n] W fun E w' => E = .returned (.tuple #[.agg #[.int .i64 y2.e, .int .u8 y2.r, .int .i64 y2.a, .int .u8 y2.p, .int .i64 y2.f, .int .i64 y2.b], .bool g2, .int .i64 e2]) ∧ Below W.heap.size W w') := hide fun W hm => by
    have := hearR_any x n W hx
    rw [hy2, he2, hg2] at this
    exact this
  clear hy2 he2 hg2
  obtain ⟨y3, hy3⟩ : ∃ y, Rol.fk x n k = y := ⟨_, rfl⟩
  obtain ⟨e3, he3⟩ : ∃ e, Rol.fkE x n k = e := ⟨_, rfl⟩
  have C3 : Hid (∀ W, Mst W → Calls Tryd.prog 9 #[.agg #[.int .i64 x.e, .int .u8 x.r, .int .i64 x.a, .int .u8 x.p, .int .i64 x.f, .int .i64 x.b], .int .i64 n, .int .i64 k] W fun E w' => E = .returned (.tuple #[.agg #[.int .i64 y3.e, .int .u8 y3.r, .int .i64 y3.a, .int .u8 y3.p, .int .i64 y3.f, .int .i64 y3.b], .int .i64 e3]) ∧ Below W.heap.size W w') := hide fun W hm => by
    have := pfork_any x n k W hx hm hn hk
    rw [hy3, he3] at this
    exact this
  have D3 : Hid (∀ W, Mst W → Calls Tryd.prog 20 #[.agg #[.int .i64 x.e, .int .u8 x.r, .int .i64 x.a, .int .u8 x.p, .int .i64 x.f, .int .i64 x.b], .int .i64 n, .int .i64 k] W fun E w' => E = .returned (.tuple #[.agg #[.int .i64 y3.e, .int .u8 y3.r, .int .i64 y3.a, .int .u8 y3.p, .int .i64 y3.f, .int .i64 y3.b], .int .i64 e3]) ∧ Below W.heap.size W w') := hide fun W hm => by
    have := forkR_any x n k W hx
    rw [hy3, he3] at this
    exact this
  clear hy3 he3
  obtain ⟨y4, hy4⟩ : ∃ y, Rol.ak x n = y := ⟨_, rfl⟩
  obtain ⟨e4, he4⟩ : ∃ e, Rol.akE x n = e := ⟨_, rfl⟩
  obtain ⟨g4, hg4⟩ : ∃ g, Rol.akB x n = g := ⟨_, rfl⟩
  have C4 : Hid (∀ W, Mst W → Calls Tryd.prog 21 #[.agg #[.int .i64 x.e, .int .u8 x.r, .int .i64 x.a, .int .u8 x.p, .int .i64 x.f, .int .i64 x.b], .int .i64 n] W fun E w' => E = .returned (.tuple #[.agg #[.int .i64 y4.e, .int .u8 y4.r, .int .i64 y4.a, .int .u8 y4.p, .int .i64 y4.f, .int .i64 y4.b], .bool g4, .int .i64 e4]) ∧ Below W.heap.size W w') := hide fun W hm => by
    have := packed_any x n W hx hm hn
    rw [hy4, he4, hg4] at this
    exact this
  have D4 : Hid (∀ W, Mst W → Calls Tryd.prog 22 #[.agg #[.int .i64 x.e, .int .u8 x.r, .int .i64 x.a, .int .u8 x.p, .int .i64 x.f, .int .i64 x.b], .int .i64 n] W fun E w' => E = .returned (.tuple #[.agg #[.int .i64 y4.e, .int .u8 y4.r, .int .i64 y4.a, .int .u8 y4.p, .int .i64 y4.f, .int .i64 y4.b], .bool g4, .int .i64 e4]) ∧ Below W.heap.size W w') := hide fun W hm => by
    have := ackedR_any x n W hx
    rw [hy4, he4, hg4] at this
    exact this
  clear hy4 he4 hg4
  obtain ⟨y5, hy5⟩ : ∃ y, Rol.nx x 2 3 = y := ⟨_, rfl⟩
  obtain ⟨e5, he5⟩ : ∃ e, Rol.nxE x 2 = e := ⟨_, rfl⟩
  have C5 : Hid (∀ W, Mst W → Calls Tryd.prog 8 #[.agg #[.int .i64 x.e, .int .u8 x.r, .int .i64 x.a, .int .u8 x.p, .int .i64 x.f, .int .i64 x.b]] W fun E w' => E = .returned (.tuple #[.agg #[.int .i64 y5.e, .int .u8 y5.r, .int .i64 y5.a, .int .u8 y5.p, .int .i64 y5.f, .int .i64 y5.b], .int .i64 e5]) ∧ Below W.heap.size W w') := hide fun W hm => by
    have := pfile_any x W hx hm
    rw [hy5, he5] at this
    exact this
  have D5 : Hid (∀ W, Mst W → Calls Tryd.prog 23 #[.agg #[.int .i64 x.e, .int .u8 x.r, .int .i64 x.a, .int .u8 x.p, .int .i64 x.f, .int .i64 x.b]] W fun E w' => E = .returned (.tuple #[.agg #[.int .i64 y5.e, .int .u8 y5.r, .int .i64 y5.a, .int .u8 y5.p, .int .i64 y5.f, .int .i64 y5.b], .int .i64 e5]) ∧ Below W.heap.size W w') := hide fun W hm => by
    have := fileR_any x W hx
    rw [hy5, he5] at this
    exact this
  clear hy5 he5
  obtain ⟨y6, hy6⟩ : ∃ y, Rol.nx x 3 4 = y := ⟨_, rfl⟩
  obtain ⟨e6, he6⟩ : ∃ e, Rol.nxE x 3 = e := ⟨_, rfl⟩
  have C6 : Hid (∀ W, Mst W → Calls Tryd.prog 10 #[.agg #[.int .i64 x.e, .int .u8 x.r, .int .i64 x.a, .int .u8 x.p, .int .i64 x.f, .int .i64 x.b]] W fun E w' => E = .returned (.tuple #[.agg #[.int .i64 y6.e, .int .u8 y6.r, .int .i64 y6.a, .int .u8 y6.p, .int .i64 y6.f, .int .i64 y6.b], .int .i64 e6]) ∧ Below W.heap.size W w') := hide fun W hm => by
    have := pcut_any x W hx hm
    rw [hy6, he6] at this
    exact this
  have D6 : Hid (∀ W, Mst W → Calls Tryd.prog 24 #[.agg #[.int .i64 x.e, .int .u8 x.r, .int .i64 x.a, .int .u8 x.p, .int .i64 x.f, .int .i64 x.b]] W fun E w' => E = .returned (.tuple #[.agg #[.int .i64 y6.e, .int .u8 y6.r, .int .i64 y6.a, .int .u8 y6.p, .int .i64 y6.f, .int .i64 y6.b], .int .i64 e6]) ∧ Below W.heap.size W w') := hide fun W hm => by
    have := cutR20_any x W hx
    rw [hy6, he6] at this
    exact this
  clear hy6 he6
  obtain ⟨y7, hy7⟩ : ∃ y, Rol.rj x = y := ⟨_, rfl⟩
  obtain ⟨e7, he7⟩ : ∃ e, Rol.nxE x 4 = e := ⟨_, rfl⟩
  have C7 : Hid (∀ W, Mst W → Calls Tryd.prog 11 #[.agg #[.int .i64 x.e, .int .u8 x.r, .int .i64 x.a, .int .u8 x.p, .int .i64 x.f, .int .i64 x.b]] W fun E w' => E = .returned (.tuple #[.agg #[.int .i64 y7.e, .int .u8 y7.r, .int .i64 y7.a, .int .u8 y7.p, .int .i64 y7.f, .int .i64 y7.b], .int .i64 e7]) ∧ Below W.heap.size W w') := hide fun W hm => by
    have := prejoin_any x W hx hm
    rw [hy7, he7] at this
    exact this
  have D7 : Hid (∀ W, Mst W → Calls Tryd.prog 25 #[.agg #[.int .i64 x.e, .int .u8 x.r, .int .i64 x.a, .int .u8 x.p, .int .i64 x.f, .int .i64 x.b]] W fun E w' => E = .returned (.tuple #[.agg #[.int .i64 y7.e, .int .u8 y7.r, .int .i64 y7.a, .int .u8 y7.p, .int .i64 y7.f, .int .i64 y7.b], .int .i64 e7]) ∧ Below W.heap.size W w') := hide fun W hm => by
    have := rejoinR_any x W hx
    rw [hy7, he7] at this
    exact this
  clear hy7 he7
  obtain ⟨e8, he8⟩ : ∃ e, Rol.wrE x = e := ⟨_, rfl⟩
  have C8 : Hid (∀ W, Mst W → Calls Tryd.prog 15 #[.agg #[.int .i64 x.e, .int .u8 x.r, .int .i64 x.a, .int .u8 x.p, .int .i64 x.f, .int .i64 x.b]] W fun E w' => E = .returned (.int .i64 e8) ∧ Below W.heap.size W w') := hide fun W hm => by
    have := pwrites_any x W hx hm
    rw [he8] at this
    exact this
  have D8 : Hid (∀ W, Mst W → Calls Tryd.prog 26 #[.agg #[.int .i64 x.e, .int .u8 x.r, .int .i64 x.a, .int .u8 x.p, .int .i64 x.f, .int .i64 x.b]] W fun E w' => E = .returned (.int .i64 e8) ∧ Below W.heap.size W w') := hide fun W hm => by
    have := writesR_any x W hx
    rw [he8] at this
    exact this
  clear he8
  obtain ⟨e9, he9⟩ : ∃ e, Rol.rdE x = e := ⟨_, rfl⟩
  have C9 : Hid (∀ W, Mst W → Calls Tryd.prog 16 #[.agg #[.int .i64 x.e, .int .u8 x.r, .int .i64 x.a, .int .u8 x.p, .int .i64 x.f, .int .i64 x.b]] W fun E w' => E = .returned (.int .i64 e9) ∧ Below W.heap.size W w') := hide fun W hm => by
    have := preads_any x W hx hm
    rw [he9] at this
    exact this
  have D9 : Hid (∀ W, Mst W → Calls Tryd.prog 27 #[.agg #[.int .i64 x.e, .int .u8 x.r, .int .i64 x.a, .int .u8 x.p, .int .i64 x.f, .int .i64 x.b]] W fun E w' => E = .returned (.int .i64 e9) ∧ Below W.heap.size W w') := hide fun W hm => by
    have := readsR_any x W hx
    rw [he9] at this
    exact this
  clear he9
  have TO : Hid (∀ (y : Pm.Pg) (e : Int) (W : World), Calls Tryd.prog 19 #[.agg #[.int .i64 y.e, .int .u8 y.r, .int .i64 y.a, .int .u8 y.p, .int .i64 y.f, .int .i64 y.b], .int .i64 e, .agg #[.int .i64 y.e, .int .u8 y.r, .int .i64 y.a, .int .u8 y.p, .int .i64 y.f, .int .i64 y.b], .int .i64 e] W fun E w' => E = .returned (.bool true) ∧ Below W.heap.size W w') := hide fun y e W => told_yes y e W
  have HV : Hid (vp x = .agg #[.int .i64 x.e, .int .u8 x.r, .int .i64 x.a, .int .u8 x.p, .int .i64 x.f, .int .i64 x.b]) := rfl
  rw [HV.out]
  obtain ⟨v0, hv0, sv0, bv0, hq0, _, _⟩ := newp w x
  have PX : Hid (PgAt v0 w.heap.size x) := hide hq0
  have B0 := hide bv0
  clear hx hm hn hk HV bv0 hq0
  go_enter Tryd.func4, Tryd.ntmps4
  obtain ⟨pxc0, pxc1, pxc2, pxc3, pxc4, pxc5⟩ := PX.out.six
  go_wp2_with fail
  refine (C1.out v0 (HM.out.below B0.out)).mono ?_
  rintro E v1 ⟨rfl, b1⟩
  replace PX := hide (PX.out.below b1)
  have B1 := hide (B0.out.trans (b1.mono B0.out.size))
  have zs1 := b1.size
  clear b1 hv0 pxc0 pxc1 pxc2 pxc3 pxc4 pxc5
  obtain ⟨v2, hv2, sv2, bv2, hq2, _, _⟩ := newp v1 y1
  replace PX := hide (PX.out.below bv2)
  have PA : Hid (PgAt v2 v1.heap.size y1) := hide hq2
  have B2 := hide (B1.out.trans (bv2.mono B1.out.size))
  clear bv2 hq2
  obtain ⟨pxc0, pxc1, pxc2, pxc3, pxc4, pxc5⟩ := PX.out.six
  go_wp2_with fail
  refine (D1.out v2 (HM.out.below B2.out)).mono ?_
  rintro E v3 ⟨rfl, b3⟩
  replace PX := hide (PX.out.below b3)
  replace PA := hide (PA.out.below b3)
  have B3 := hide (B2.out.trans (b3.mono B2.out.size))
  have zs3 := b3.size
  clear b3 hv2 pxc0 pxc1 pxc2 pxc3 pxc4 pxc5
  obtain ⟨v4, hv4, sv4, bv4, hq4, _, _⟩ := newp v3 y1
  replace PX := hide (PX.out.below bv4)
  replace PA := hide (PA.out.below bv4)
  have PB : Hid (PgAt v4 v3.heap.size y1) := hide hq4
  have B4 := hide (B3.out.trans (bv4.mono B3.out.size))
  clear bv4 hq4
  obtain ⟨pxc0, pxc1, pxc2, pxc3, pxc4, pxc5⟩ := PX.out.six
  go_wp2_with fail
  refine (C2.out v4 (HM.out.below B4.out)).mono ?_
  rintro E v5 ⟨rfl, b5⟩
  replace PX := hide (PX.out.below b5)
  replace PA := hide (PA.out.below b5)
  replace PB := hide (PB.out.below b5)
  have B5 := hide (B4.out.trans (b5.mono B4.out.size))
  have zs5 := b5.size
  clear b5 hv4 pxc0 pxc1 pxc2 pxc3 pxc4 pxc5
  obtain ⟨v6, hv6, sv6, bv6, hq6, _, _⟩ := newp v5 y2
  replace PX := hide (PX.out.below bv6)
  replace PA := hide (PA.out.below bv6)
  replace PB := hide (PB.out.below bv6)
  have PC : Hid (PgAt v6 v5.heap.size y2) := hide hq6
  have B6 := hide (B5.out.trans (bv6.mono B5.out.size))
  clear bv6 hq6
  obtain ⟨pxc0, pxc1, pxc2, pxc3, pxc4, pxc5⟩ := PX.out.six
  go_wp2_with fail
  refine (D2.out v6 (HM.out.below B6.out)).mono ?_
  rintro E v7 ⟨rfl, b7⟩
  replace PX := hide (PX.out.below b7)
  replace PA := hide (PA.out.below b7)
  replace PB := hide (PB.out.below b7)
  replace PC := hide (PC.out.below b7)
  have B7 := hide (B6.out.trans (b7.mono B6.out.size))
  have zs7 := b7.size
  clear b7 hv6 pxc0 pxc1 pxc2 pxc3 pxc4 pxc5
  obtain ⟨v8, hv8, sv8, bv8, hq8, _, _⟩ := newp v7 y2
  replace PX := hide (PX.out.below bv8)
  replace PA := hide (PA.out.below bv8)
  replace PB := hide (PB.out.below bv8)
  replace PC := hide (PC.out.below bv8)
  have PD : Hid (PgAt v8 v7.heap.size y2) := hide hq8
  have B8 := hide (B7.out.trans (bv8.mono B7.out.size))
  clear bv8 hq8
  go_wp2_with fail
  refine (lives20_any v8 (HM.out.below B8.out)).mono ?_
  rintro E v9 ⟨rfl, b9⟩
  replace PX := hide (PX.out.below b9)
  replace PA := hide (PA.out.below b9)
  replace PB := hide (PB.out.below b9)
  replace PC := hide (PC.out.below b9)
  replace PD := hide (PD.out.below b9)
  have B9 := hide (B8.out.trans (b9.mono B8.out.size))
  have zs9 := b9.size
  clear b9 hv8
  obtain ⟨pac0, pac1, pac2, pac3, pac4, pac5⟩ := PA.out.six
  obtain ⟨pbc0, pbc1, pbc2, pbc3, pbc4, pbc5⟩ := PB.out.six
  go_wp2_with fail
  refine (TO.out y1 e1 v9).mono ?_
  rintro E v10 ⟨rfl, b10⟩
  replace PX := hide (PX.out.below b10)
  replace PA := hide (PA.out.below b10)
  replace PB := hide (PB.out.below b10)
  replace PC := hide (PC.out.below b10)
  replace PD := hide (PD.out.below b10)
  have B10 := hide (B9.out.trans (b10.mono B9.out.size))
  have zs10 := b10.size
  clear b10 pac0 pac1 pac2 pac3 pac4 pac5 pbc0 pbc1 pbc2 pbc3 pbc4 pbc5
  obtain ⟨pcc0, pcc1, pcc2, pcc3, pcc4, pcc5⟩ := PC.out.six
  obtain ⟨pdc0, pdc1, pdc2, pdc3, pdc4, pdc5⟩ := PD.out.six
  go_wp2_with fail
  refine (TO.out y2 e2 v10).mono ?_
  rintro E v11 ⟨rfl, b11⟩
  replace PX := hide (PX.out.below b11)
  replace PA := hide (PA.out.below b11)
  replace PB := hide (PB.out.below b11)
  replace PC := hide (PC.out.below b11)
  replace PD := hide (PD.out.below b11)
  have B11 := hide (B10.out.trans (b11.mono B10.out.size))
  have zs11 := b11.size
  clear b11 pcc0 pcc1 pcc2 pcc3 pcc4 pcc5 pdc0 pdc1 pdc2 pdc3 pdc4 pdc5
  obtain ⟨pxc0, pxc1, pxc2, pxc3, pxc4, pxc5⟩ := PX.out.six
  go_wp2_with fail
  refine (C3.out v11 (HM.out.below B11.out)).mono ?_
  rintro E v12 ⟨rfl, b12⟩
  replace PX := hide (PX.out.below b12)
  replace PA := hide (PA.out.below b12)
  replace PB := hide (PB.out.below b12)
  replace PC := hide (PC.out.below b12)
  replace PD := hide (PD.out.below b12)
  have B12 := hide (B11.out.trans (b12.mono B11.out.size))
  have zs12 := b12.size
  clear b12 pxc0 pxc1 pxc2 pxc3 pxc4 pxc5
  obtain ⟨v13, hv13, pq13, kp13, bl13, ⟨x130, x131, x132, x133, x134, x135⟩, fr13, sv13⟩ := PA.out.put y3
  have f130 := fr13 0; have f131 := fr13 1; have f132 := fr13 2; have f133 := fr13 3; have f134 := fr13 4; have f135 := fr13 5
  replace PX := hide (kp13 _ _ PX.out (by omega))
  replace PB := hide (kp13 _ _ PB.out (by omega))
  replace PC := hide (kp13 _ _ PC.out (by omega))
  replace PD := hide (kp13 _ _ PD.out (by omega))
  replace PA := hide pq13
  have B13 := hide (bl13 _ _ B12.out (by have := B12.out.size; omega) B12.out.size)
  clear pq13 kp13 bl13 fr13
  obtain ⟨pxc0, pxc1, pxc2, pxc3, pxc4, pxc5⟩ := PX.out.six
  go_wp2_with fail
  refine (D3.out v13 (HM.out.below B13.out)).mono ?_
  rintro E v14 ⟨rfl, b14⟩
  replace PX := hide (PX.out.below b14)
  replace PA := hide (PA.out.below b14)
  replace PB := hide (PB.out.below b14)
  replace PC := hide (PC.out.below b14)
  replace PD := hide (PD.out.below b14)
  have B14 := hide (B13.out.trans (b14.mono B13.out.size))
  have zs14 := b14.size
  clear b14 hv13 x130 x131 x132 x133 x134 x135 f130 f131 f132 f133 f134 f135 pxc0 pxc1 pxc2 pxc3 pxc4 pxc5
  obtain ⟨v15, hv15, pq15, kp15, bl15, ⟨x150, x151, x152, x153, x154, x155⟩, fr15, sv15⟩ := PB.out.put y3
  have f150 := fr15 0; have f151 := fr15 1; have f152 := fr15 2; have f153 := fr15 3; have f154 := fr15 4; have f155 := fr15 5
  replace PX := hide (kp15 _ _ PX.out (by omega))
  replace PA := hide (kp15 _ _ PA.out (by omega))
  replace PC := hide (kp15 _ _ PC.out (by omega))
  replace PD := hide (kp15 _ _ PD.out (by omega))
  replace PB := hide pq15
  have B15 := hide (bl15 _ _ B14.out (by have := B14.out.size; omega) B14.out.size)
  clear pq15 kp15 bl15 fr15
  obtain ⟨pxc0, pxc1, pxc2, pxc3, pxc4, pxc5⟩ := PX.out.six
  go_wp2_with fail
  refine (C4.out v15 (HM.out.below B15.out)).mono ?_
  rintro E v16 ⟨rfl, b16⟩
  replace PX := hide (PX.out.below b16)
  replace PA := hide (PA.out.below b16)
  replace PB := hide (PB.out.below b16)
  replace PC := hide (PC.out.below b16)
  replace PD := hide (PD.out.below b16)
  have B16 := hide (B15.out.trans (b16.mono B15.out.size))
  have zs16 := b16.size
  clear b16 hv15 x150 x151 x152 x153 x154 x155 f150 f151 f152 f153 f154 f155 pxc0 pxc1 pxc2 pxc3 pxc4 pxc5
  obtain ⟨v17, hv17, pq17, kp17, bl17, ⟨x170, x171, x172, x173, x174, x175⟩, fr17, sv17⟩ := PC.out.put y4
  have f170 := fr17 0; have f171 := fr17 1; have f172 := fr17 2; have f173 := fr17 3; have f174 := fr17 4; have f175 := fr17 5
  replace PX := hide (kp17 _ _ PX.out (by omega))
  replace PA := hide (kp17 _ _ PA.out (by omega))
  replace PB := hide (kp17 _ _ PB.out (by omega))
  replace PD := hide (kp17 _ _ PD.out (by omega))
  replace PC := hide pq17
  have B17 := hide (bl17 _ _ B16.out (by have := B16.out.size; omega) B16.out.size)
  clear pq17 kp17 bl17 fr17
  obtain ⟨pxc0, pxc1, pxc2, pxc3, pxc4, pxc5⟩ := PX.out.six
  go_wp2_with fail
  refine (D4.out v17 (HM.out.below B17.out)).mono ?_
  rintro E v18 ⟨rfl, b18⟩
  replace PX := hide (PX.out.below b18)
  replace PA := hide (PA.out.below b18)
  replace PB := hide (PB.out.below b18)
  replace PC := hide (PC.out.below b18)
  replace PD := hide (PD.out.below b18)
  have B18 := hide (B17.out.trans (b18.mono B17.out.size))
  have zs18 := b18.size
  clear b18 hv17 x170 x171 x172 x173 x174 x175 f170 f171 f172 f173 f174 f175 pxc0 pxc1 pxc2 pxc3 pxc4 pxc5
  obtain ⟨v19, hv19, pq19, kp19, bl19, ⟨x190, x191, x192, x193, x194, x195⟩, fr19, sv19⟩ := PD.out.put y4
  have f190 := fr19 0; have f191 := fr19 1; have f192 := fr19 2; have f193 := fr19 3; have f194 := fr19 4; have f195 := fr19 5
  replace PX := hide (kp19 _ _ PX.out (by omega))
  replace PA := hide (kp19 _ _ PA.out (by omega))
  replace PB := hide (kp19 _ _ PB.out (by omega))
  replace PC := hide (kp19 _ _ PC.out (by omega))
  replace PD := hide pq19
  have B19 := hide (bl19 _ _ B18.out (by have := B18.out.size; omega) B18.out.size)
  clear pq19 kp19 bl19 fr19
  obtain ⟨pac0, pac1, pac2, pac3, pac4, pac5⟩ := PA.out.six
  obtain ⟨pbc0, pbc1, pbc2, pbc3, pbc4, pbc5⟩ := PB.out.six
  go_wp2_with fail
  refine (TO.out y3 e3 v19).mono ?_
  rintro E v20 ⟨rfl, b20⟩
  replace PX := hide (PX.out.below b20)
  replace PA := hide (PA.out.below b20)
  replace PB := hide (PB.out.below b20)
  replace PC := hide (PC.out.below b20)
  replace PD := hide (PD.out.below b20)
  have B20 := hide (B19.out.trans (b20.mono B19.out.size))
  have zs20 := b20.size
  clear b20 hv19 x190 x191 x192 x193 x194 x195 f190 f191 f192 f193 f194 f195 pac0 pac1 pac2 pac3 pac4 pac5 pbc0 pbc1 pbc2 pbc3 pbc4 pbc5
  obtain ⟨pcc0, pcc1, pcc2, pcc3, pcc4, pcc5⟩ := PC.out.six
  obtain ⟨pdc0, pdc1, pdc2, pdc3, pdc4, pdc5⟩ := PD.out.six
  go_wp2_with fail
  refine (TO.out y4 e4 v20).mono ?_
  rintro E v21 ⟨rfl, b21⟩
  replace PX := hide (PX.out.below b21)
  replace PA := hide (PA.out.below b21)
  replace PB := hide (PB.out.below b21)
  replace PC := hide (PC.out.below b21)
  replace PD := hide (PD.out.below b21)
  have B21 := hide (B20.out.trans (b21.mono B20.out.size))
  have zs21 := b21.size
  clear b21 pcc0 pcc1 pcc2 pcc3 pcc4 pcc5 pdc0 pdc1 pdc2 pdc3 pdc4 pdc5
  obtain ⟨pxc0, pxc1, pxc2, pxc3, pxc4, pxc5⟩ := PX.out.six
  go_wp2_with fail
  refine (C5.out v21 (HM.out.below B21.out)).mono ?_
  rintro E v22 ⟨rfl, b22⟩
  replace PX := hide (PX.out.below b22)
  replace PA := hide (PA.out.below b22)
  replace PB := hide (PB.out.below b22)
  replace PC := hide (PC.out.below b22)
  replace PD := hide (PD.out.below b22)
  have B22 := hide (B21.out.trans (b22.mono B21.out.size))
  have zs22 := b22.size
  clear b22 pxc0 pxc1 pxc2 pxc3 pxc4 pxc5
  obtain ⟨v23, hv23, pq23, kp23, bl23, ⟨x230, x231, x232, x233, x234, x235⟩, fr23, sv23⟩ := PA.out.put y5
  have f230 := fr23 0; have f231 := fr23 1; have f232 := fr23 2; have f233 := fr23 3; have f234 := fr23 4; have f235 := fr23 5
  replace PX := hide (kp23 _ _ PX.out (by omega))
  replace PB := hide (kp23 _ _ PB.out (by omega))
  replace PC := hide (kp23 _ _ PC.out (by omega))
  replace PD := hide (kp23 _ _ PD.out (by omega))
  replace PA := hide pq23
  have B23 := hide (bl23 _ _ B22.out (by have := B22.out.size; omega) B22.out.size)
  clear pq23 kp23 bl23 fr23
  obtain ⟨pxc0, pxc1, pxc2, pxc3, pxc4, pxc5⟩ := PX.out.six
  go_wp2_with fail
  refine (D5.out v23 (HM.out.below B23.out)).mono ?_
  rintro E v24 ⟨rfl, b24⟩
  replace PX := hide (PX.out.below b24)
  replace PA := hide (PA.out.below b24)
  replace PB := hide (PB.out.below b24)
  replace PC := hide (PC.out.below b24)
  replace PD := hide (PD.out.below b24)
  have B24 := hide (B23.out.trans (b24.mono B23.out.size))
  have zs24 := b24.size
  clear b24 hv23 x230 x231 x232 x233 x234 x235 f230 f231 f232 f233 f234 f235 pxc0 pxc1 pxc2 pxc3 pxc4 pxc5
  obtain ⟨v25, hv25, pq25, kp25, bl25, ⟨x250, x251, x252, x253, x254, x255⟩, fr25, sv25⟩ := PB.out.put y5
  have f250 := fr25 0; have f251 := fr25 1; have f252 := fr25 2; have f253 := fr25 3; have f254 := fr25 4; have f255 := fr25 5
  replace PX := hide (kp25 _ _ PX.out (by omega))
  replace PA := hide (kp25 _ _ PA.out (by omega))
  replace PC := hide (kp25 _ _ PC.out (by omega))
  replace PD := hide (kp25 _ _ PD.out (by omega))
  replace PB := hide pq25
  have B25 := hide (bl25 _ _ B24.out (by have := B24.out.size; omega) B24.out.size)
  clear pq25 kp25 bl25 fr25
  obtain ⟨pxc0, pxc1, pxc2, pxc3, pxc4, pxc5⟩ := PX.out.six
  go_wp2_with fail
  refine (C6.out v25 (HM.out.below B25.out)).mono ?_
  rintro E v26 ⟨rfl, b26⟩
  replace PX := hide (PX.out.below b26)
  replace PA := hide (PA.out.below b26)
  replace PB := hide (PB.out.below b26)
  replace PC := hide (PC.out.below b26)
  replace PD := hide (PD.out.below b26)
  have B26 := hide (B25.out.trans (b26.mono B25.out.size))
  have zs26 := b26.size
  clear b26 hv25 x250 x251 x252 x253 x254 x255 f250 f251 f252 f253 f254 f255 pxc0 pxc1 pxc2 pxc3 pxc4 pxc5
  obtain ⟨v27, hv27, pq27, kp27, bl27, ⟨x270, x271, x272, x273, x274, x275⟩, fr27, sv27⟩ := PC.out.put y6
  have f270 := fr27 0; have f271 := fr27 1; have f272 := fr27 2; have f273 := fr27 3; have f274 := fr27 4; have f275 := fr27 5
  replace PX := hide (kp27 _ _ PX.out (by omega))
  replace PA := hide (kp27 _ _ PA.out (by omega))
  replace PB := hide (kp27 _ _ PB.out (by omega))
  replace PD := hide (kp27 _ _ PD.out (by omega))
  replace PC := hide pq27
  have B27 := hide (bl27 _ _ B26.out (by have := B26.out.size; omega) B26.out.size)
  clear pq27 kp27 bl27 fr27
  obtain ⟨pxc0, pxc1, pxc2, pxc3, pxc4, pxc5⟩ := PX.out.six
  go_wp2_with fail
  refine (D6.out v27 (HM.out.below B27.out)).mono ?_
  rintro E v28 ⟨rfl, b28⟩
  replace PX := hide (PX.out.below b28)
  replace PA := hide (PA.out.below b28)
  replace PB := hide (PB.out.below b28)
  replace PC := hide (PC.out.below b28)
  replace PD := hide (PD.out.below b28)
  have B28 := hide (B27.out.trans (b28.mono B27.out.size))
  have zs28 := b28.size
  clear b28 hv27 x270 x271 x272 x273 x274 x275 f270 f271 f272 f273 f274 f275 pxc0 pxc1 pxc2 pxc3 pxc4 pxc5
  obtain ⟨v29, hv29, pq29, kp29, bl29, ⟨x290, x291, x292, x293, x294, x295⟩, fr29, sv29⟩ := PD.out.put y6
  have f290 := fr29 0; have f291 := fr29 1; have f292 := fr29 2; have f293 := fr29 3; have f294 := fr29 4; have f295 := fr29 5
  replace PX := hide (kp29 _ _ PX.out (by omega))
  replace PA := hide (kp29 _ _ PA.out (by omega))
  replace PB := hide (kp29 _ _ PB.out (by omega))
  replace PC := hide (kp29 _ _ PC.out (by omega))
  replace PD := hide pq29
  have B29 := hide (bl29 _ _ B28.out (by have := B28.out.size; omega) B28.out.size)
  clear pq29 kp29 bl29 fr29
  obtain ⟨pac0, pac1, pac2, pac3, pac4, pac5⟩ := PA.out.six
  obtain ⟨pbc0, pbc1, pbc2, pbc3, pbc4, pbc5⟩ := PB.out.six
  go_wp2_with fail
  refine (TO.out y5 e5 v29).mono ?_
  rintro E v30 ⟨rfl, b30⟩
  replace PX := hide (PX.out.below b30)
  replace PA := hide (PA.out.below b30)
  replace PB := hide (PB.out.below b30)
  replace PC := hide (PC.out.below b30)
  replace PD := hide (PD.out.below b30)
  have B30 := hide (B29.out.trans (b30.mono B29.out.size))
  have zs30 := b30.size
  clear b30 hv29 x290 x291 x292 x293 x294 x295 f290 f291 f292 f293 f294 f295 pac0 pac1 pac2 pac3 pac4 pac5 pbc0 pbc1 pbc2 pbc3 pbc4 pbc5
  obtain ⟨pcc0, pcc1, pcc2, pcc3, pcc4, pcc5⟩ := PC.out.six
  obtain ⟨pdc0, pdc1, pdc2, pdc3, pdc4, pdc5⟩ := PD.out.six
  go_wp2_with fail
  refine (TO.out y6 e6 v30).mono ?_
  rintro E v31 ⟨rfl, b31⟩
  replace PX := hide (PX.out.below b31)
  replace PA := hide (PA.out.below b31)
  replace PB := hide (PB.out.below b31)
  replace PC := hide (PC.out.below b31)
  replace PD := hide (PD.out.below b31)
  have B31 := hide (B30.out.trans (b31.mono B30.out.size))
  have zs31 := b31.size
  clear b31 pcc0 pcc1 pcc2 pcc3 pcc4 pcc5 pdc0 pdc1 pdc2 pdc3 pdc4 pdc5
  obtain ⟨pxc0, pxc1, pxc2, pxc3, pxc4, pxc5⟩ := PX.out.six
  go_wp2_with fail
  refine (C7.out v31 (HM.out.below B31.out)).mono ?_
  rintro E v32 ⟨rfl, b32⟩
  replace PX := hide (PX.out.below b32)
  replace PA := hide (PA.out.below b32)
  replace PB := hide (PB.out.below b32)
  replace PC := hide (PC.out.below b32)
  replace PD := hide (PD.out.below b32)
  have B32 := hide (B31.out.trans (b32.mono B31.out.size))
  have zs32 := b32.size
  clear b32 pxc0 pxc1 pxc2 pxc3 pxc4 pxc5
  obtain ⟨v33, hv33, pq33, kp33, bl33, ⟨x330, x331, x332, x333, x334, x335⟩, fr33, sv33⟩ := PA.out.put y7
  have f330 := fr33 0; have f331 := fr33 1; have f332 := fr33 2; have f333 := fr33 3; have f334 := fr33 4; have f335 := fr33 5
  replace PX := hide (kp33 _ _ PX.out (by omega))
  replace PB := hide (kp33 _ _ PB.out (by omega))
  replace PC := hide (kp33 _ _ PC.out (by omega))
  replace PD := hide (kp33 _ _ PD.out (by omega))
  replace PA := hide pq33
  have B33 := hide (bl33 _ _ B32.out (by have := B32.out.size; omega) B32.out.size)
  clear pq33 kp33 bl33 fr33
  obtain ⟨pxc0, pxc1, pxc2, pxc3, pxc4, pxc5⟩ := PX.out.six
  go_wp2_with fail
  refine (D7.out v33 (HM.out.below B33.out)).mono ?_
  rintro E v34 ⟨rfl, b34⟩
  replace PX := hide (PX.out.below b34)
  replace PA := hide (PA.out.below b34)
  replace PB := hide (PB.out.below b34)
  replace PC := hide (PC.out.below b34)
  replace PD := hide (PD.out.below b34)
  have B34 := hide (B33.out.trans (b34.mono B33.out.size))
  have zs34 := b34.size
  clear b34 hv33 x330 x331 x332 x333 x334 x335 f330 f331 f332 f333 f334 f335 pxc0 pxc1 pxc2 pxc3 pxc4 pxc5
  obtain ⟨v35, hv35, pq35, kp35, bl35, ⟨x350, x351, x352, x353, x354, x355⟩, fr35, sv35⟩ := PB.out.put y7
  have f350 := fr35 0; have f351 := fr35 1; have f352 := fr35 2; have f353 := fr35 3; have f354 := fr35 4; have f355 := fr35 5
  replace PX := hide (kp35 _ _ PX.out (by omega))
  replace PA := hide (kp35 _ _ PA.out (by omega))
  replace PC := hide (kp35 _ _ PC.out (by omega))
  replace PD := hide (kp35 _ _ PD.out (by omega))
  replace PB := hide pq35
  have B35 := hide (bl35 _ _ B34.out (by have := B34.out.size; omega) B34.out.size)
  clear pq35 kp35 bl35 fr35
  have S0 := hide (And.intro (cells1 PX.out) (And.intro (cells1 PA.out) (cells1 PB.out)))
  go_wp2_with fail
  go_region_held3 (fun W => (W.cell? ⟨w.heap.size, 0, none⟩ = some (.int .i64 x.e) ∧ W.cell? ⟨w.heap.size, 1, none⟩ = some (.int .u8 x.r) ∧ W.cell? ⟨w.heap.size, 2, none⟩ = some (.int .i64 x.a) ∧ W.cell? ⟨w.heap.size, 3, none⟩ = some (.int .u8 x.p) ∧ W.cell? ⟨w.heap.size, 4, none⟩ = some (.int .i64 x.f) ∧ W.cell? ⟨w.heap.size, 5, none⟩ = some (.int .i64 x.b)) ∧ (W.cell? ⟨v1.heap.size, 0, none⟩ = some (.int .i64 y7.e) ∧ W.cell? ⟨v1.heap.size, 1, none⟩ = some (.int .u8 y7.r) ∧ W.cell? ⟨v1.heap.size, 2, none⟩ = some (.int .i64 y7.a) ∧ W.cell? ⟨v1.heap.size, 3, none⟩ = some (.int .u8 y7.p) ∧ W.cell? ⟨v1.heap.size, 4, none⟩ = some (.int .i64 y7.f) ∧ W.cell? ⟨v1.heap.size, 5, none⟩ = some (.int .i64 y7.b)) ∧ (W.cell? ⟨v3.heap.size, 0, none⟩ = some (.int .i64 y7.e) ∧ W.cell? ⟨v3.heap.size, 1, none⟩ = some (.int .u8 y7.r) ∧ W.cell? ⟨v3.heap.size, 2, none⟩ = some (.int .i64 y7.a) ∧ W.cell? ⟨v3.heap.size, 3, none⟩ = some (.int .u8 y7.p) ∧ W.cell? ⟨v3.heap.size, 4, none⟩ = some (.int .i64 y7.f) ∧ W.cell? ⟨v3.heap.size, 5, none⟩ = some (.int .i64 y7.b))) (first | exact S0.out | exact Sk0.out | exact Sk1.out | exact Sk2.out | exact Sk3.out | exact Sk4.out | go_keep)
    (first
    | (go_at_call 19; refine (TO.out y7 e7 _).mono ?_; rintro E u0 ⟨rfl, c0⟩; have T0 := hide ((((Below.refl v35.heap.size v35).drew)).trans (c0.mono (((Below.refl v35.heap.size v35).drew)).size)); have Sk0 := hide (And.intro (cells1 (PX.out.below T0.out)) (And.intro (cells1 (PA.out.below T0.out)) (cells1 (PB.out.below T0.out)))); clear c0)
    | (go_at_call 15; refine (C8.out _ (HM.out.below (B35.out.trans ((T0.out).mono B35.out.size)))).mono ?_; rintro E u1 ⟨rfl, c1⟩; have T1 := hide ((T0.out).trans (c1.mono (T0.out).size)); have Sk1 := hide (And.intro (cells1 (PX.out.below T1.out)) (And.intro (cells1 (PA.out.below T1.out)) (cells1 (PB.out.below T1.out)))); clear c1)
    | (go_at_call 26; refine (D8.out _ (HM.out.below (B35.out.trans ((T1.out).mono B35.out.size)))).mono ?_; rintro E u2 ⟨rfl, c2⟩; have T2 := hide ((T1.out).trans (c2.mono (T1.out).size)); have Sk2 := hide (And.intro (cells1 (PX.out.below T2.out)) (And.intro (cells1 (PA.out.below T2.out)) (cells1 (PB.out.below T2.out)))); clear c2)
    | (go_at_call 16; refine (C9.out _ (HM.out.below (B35.out.trans ((T2.out).mono B35.out.size)))).mono ?_; rintro E u3 ⟨rfl, c3⟩; have T3 := hide ((T2.out).trans (c3.mono (T2.out).size)); have Sk3 := hide (And.intro (cells1 (PX.out.below T3.out)) (And.intro (cells1 (PA.out.below T3.out)) (cells1 (PB.out.below T3.out)))); clear c3)
    | (go_at_call 27; refine (D9.out _ (HM.out.below (B35.out.trans ((T3.out).mono B35.out.size)))).mono ?_; rintro E u4 ⟨rfl, c4⟩; have T4 := hide ((T3.out).trans (c4.mono (T3.out).size)); have Sk4 := hide (And.intro (cells1 (PX.out.below T4.out)) (And.intro (cells1 (PA.out.below T4.out)) (cells1 (PB.out.below T4.out)))); clear c4))
  have BZ := hide (B35.out.trans (T4.out.mono B35.out.size))
  clear hv35 x350 x351 x352 x353 x354 x355 f350 f351 f352 f353 f354 f355
  go_wp2
  go_ret
  exact ⟨rfl, BZ.out⟩

end Go.Proofs.YthndeolibilnnaaDoor
