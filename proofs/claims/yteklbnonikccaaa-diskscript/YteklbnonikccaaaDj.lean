/- DiskScript's own function meant. -/
import Derived.Test.YteklbnonikccaaaDg
import Derived.Test.YteklbnonikccaaaDi
namespace Go.Proofs.Yteklbnonikccaaa
open Go.RowKit Go.Shelf
set_option linter.unusedVariables false

theorem DStep.pre {p : Nat} {F : Nat → Prop} {w w1 w2 : World} {st' : Dm.Ds} (hb : Below w.heap.size w w1) (h : DStep p F w1 w2 st') : DStep p F w w2 st' := h.trans (Out.of_below hb) fun g hg => .inl hg

set_option maxHeartbeats 4000000 in
theorem meant_any (p : Nat) (F : Nat → Prop) (a : Aw) (w : World) (st : Dm.Ds) (h : Dk p F w st) (hi : I64 a.k ∧ I64 a.f ∧ I64 a.n ∧ I64 a.t) (hb : Is .u8 w a.v a.bs) (hbF : 0 < a.bs.length → ∀ b, a.v.ownBlock = some b → ¬ F b) (hbs : a.bs.length ≤ 400) (hs : Big 100000000 800000 st) :
    Calls Try.prog 24 #[.pointer (some ⟨p, 0, none⟩), .agg #[.int .i64 a.k, .int .i64 a.f, .int .i64 a.n, .int .i64 a.t, a.v]] w fun E w' => E = .returned (.int .i64 (actR st a a.bs).1) ∧ DStep p F w w' (actR st a a.bs).2 := by
  obtain ⟨x, xn, xc, hav⟩ := hb.form
  obtain ⟨w1, hw1, sz1, bel1, hB⟩ := blk_step w #[.int .i64 a.k, .int .i64 a.f, .int .i64 a.n, .int .i64 a.t, a.v] 43
  have c0 : w1.cell? ⟨w.heap.size, 0, none⟩ = some (.int .i64 a.k) := blk_cell hB 0 rfl
  have c1 : w1.cell? ⟨w.heap.size, 1, none⟩ = some (.int .i64 a.f) := blk_cell hB 1 rfl
  have c2 : w1.cell? ⟨w.heap.size, 2, none⟩ = some (.int .i64 a.n) := blk_cell hB 2 rfl
  have c3 : w1.cell? ⟨w.heap.size, 3, none⟩ = some (.int .i64 a.t) := blk_cell hB 3 rfl
  have c4 : w1.cell? ⟨w.heap.size, 4, none⟩ = some a.v := blk_cell hB 4 rfl
  have h1 := h.below bel1
  have z1 : ∀ f, (st.sure f).length + Dm.bulk st.wait ≤ 140737488355000 := fun f => by have := hs.1.1 f; omega
  have z2 := hs.1.2.1
  have z3 := hs.1.2.2
  have PA := hide (pickx_any a.k 7 w1 (by omega) (by omega) hi.1)
  obtain ⟨q0, q1⟩ := pk_lt a.k 7 (by omega)
  have W := hide (writeR_any p F w1 st a.f a.v a.bs h1 (hb.below bel1) hbF (by omega) (by omega) hs.2 (by omega))
  have C := hide (cutR_any p F w1 st a.f a.n h1 z1 (by omega) hs.2 (by omega))
  have S := hide (syncR_any p F w1 st h1 z1 (by omega) hs.2 (by omega))
  have FU := hide (fuseR_any p F w1 st a.n h1)
  have PU := hide (pullR_any p F w1 st h1)
  have ST := hide (startR_any p F w1 st a.n a.t h1 hi.2.2.1.2 hi.2.2.2.2 z1 (by omega))
  have SA := hide (safeR_any p F w1 st h1)
  have HQ : ∀ q, q = pk a.k 7 → actR st a a.bs = if q = 0 then Dm.write st a.f a.bs else if q = 1 then Dm.cutD st a.f a.n else if q = 2 then Dm.sync st else if q = 3 then Dm.fuse st a.n else if q = 4 then Dm.pull st else if q = 5 then Dm.start st a.n a.t else Dm.safe st := fun q hq => by rw [hq]; rfl
  rw [HQ _ rfl]
  rw [hav] at hw1 c4 W ⊢
  clear hB h h1 hav HQ hb hbF hs z1 z2 z3 hi
  generalize pk a.k 7 = q at PA q0 q1 ⊢
  rcases (show q = 0 ∨ q = 1 ∨ q = 2 ∨ q = 3 ∨ q = 4 ∨ q = 5 ∨ q = 6 by omega) with rfl | rfl | rfl | rfl | rfl | rfl | rfl
  all_goals simp only [if_true, if_false, Int.reduceEq]
  all_goals
    go_enter Try.func24, Try.ntmps24
    go_wp2_with fail
    refine PA.out.mono ?_
    rintro E w' ⟨rfl, rfl⟩
    go_wp2_with fail
    first
      | refine W.out.mono ?_
      | refine C.out.mono ?_
      | refine S.out.mono ?_
      | refine FU.out.mono ?_
      | refine PU.out.mono ?_
      | refine ST.out.mono ?_
      | refine SA.out.mono ?_
    rintro E w2 ⟨rfl, J⟩
    have J := hide (DStep.pre bel1 J)
    go_wp2
    go_ret
    exact ⟨rfl, J.out⟩

end Go.Proofs.Yteklbnonikccaaa
