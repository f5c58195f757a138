/- Texts of one layer, one behind the other. -/
import Derived.Test.YtajlhdmnincehaaGreatDoorH2
/- The contract of the kit's SamePage. -/
namespace Go.Proofs.YtajlhdmnincehaaGreatDoor
open Go.RowKit
set_option linter.unusedVariables false

set_option maxRecDepth 100000 in
set_option maxHeartbeats 1000000 in
theorem samePage_any (x y : Pm.Pg) (w : World) :
    Calls Tryz.prog 17 #[vp x, vp y] w fun E w' => E = .returned (.bool (same x y)) ∧ Below w.heap.size w w' := by
  unfold vp
  obtain ⟨w1, hw1, sz1, bel1, hB⟩ := blk_step w #[.int .i64 x.e, .int .u8 x.r, .int .i64 x.a, .int .u8 x.p, .int .i64 x.f, .int .i64 x.b] 60
  obtain ⟨w2, hw2, sz2, bel2, hC⟩ := blk_step w1 #[.int .i64 y.e, .int .u8 y.r, .int .i64 y.a, .int .u8 y.p, .int .i64 y.f, .int .i64 y.b] 60
  have hB2 := (bel2.block _ (blk_lt hB)).trans hB
  rw [sz1] at hC
  obtain ⟨c0, c1, c2, c3, c4, c5⟩ := six_of hB2
  obtain ⟨d0, d1, d2, d3, d4, d5⟩ := six_of hC
  have bel := bel1.trans (bel2.mono (by omega))
  obtain ⟨q, hq⟩ : ∃ q, same x y = q := ⟨_, rfl⟩
  rw [hq]
  unfold same at hq
  clear hB hB2 hC bel1 bel2
  go_enter Tryz.func17, Tryz.ntmps17
  cases k0 : (x.e == y.e)
  · simp [k0] at hq
    subst hq
    go_wp2
    go_ret
    exact ⟨rfl, bel⟩
  rw [k0] at hq
  cases k1 : (x.r == y.r)
  · simp [k1] at hq
    subst hq
    go_wp2
    go_ret
    exact ⟨rfl, bel⟩
  rw [k1] at hq
  cases k2 : (x.a == y.a)
  · simp [k2] at hq
    subst hq
    go_wp2
    go_ret
    exact ⟨rfl, bel⟩
  rw [k2] at hq
  cases k3 : (x.p == y.p)
  · simp [k3] at hq
    subst hq
    go_wp2
    go_ret
    exact ⟨rfl, bel⟩
  rw [k3] at hq
  cases k4 : (x.f == y.f)
  · simp [k4] at hq
    subst hq
    go_wp2
    go_ret
    exact ⟨rfl, bel⟩
  rw [k4] at hq
  cases k5 : (x.b == y.b)
  · simp [k5] at hq
    subst hq
    go_wp2
    go_ret
    exact ⟨rfl, bel⟩
  rw [k5] at hq
  simp at hq
  subst hq
  go_wp2
  go_ret
  exact ⟨rfl, bel⟩

end Go.Proofs.YtajlhdmnincehaaGreatDoor
