/- The contracts of read and Last (the program's). -/
import Derived.Test.YtdfbagnnieoonaaDoorQf
namespace Go.Proofs.YtdfbagnnieoonaaDoor
open Go.RowKit
set_option linter.unusedVariables false

/-- What read comes to. -/
def PRd (bs : List Int) (y : Pm.Pg) (n : Nat) (e : Int) : Prop :=
  (e = 0 ∧ ∃ r, Fm.Rd bs r n 0 ∧ Pm.Dc r y 0) ∨ (e = 5 ∧ y = Pm.no ∧ n = 0 ∧ ((∃ r m, Fm.Rd bs r m 5) ∨ ∃ r m q, Fm.Rd bs r m 0 ∧ Pm.Dc r q 5))

theorem rd_e {bs r : List Int} {n : Nat} {e : Int} (h : Fm.Rd bs r n e) : (e = 0 ∨ e = 5) ∧ r.length ≤ 131072 ∧ n ≤ bs.length := by
  rcases h with ⟨rfl, h1, h2, h3⟩ | ⟨rfl, rfl, rfl, _⟩
  · have := (Fm.frm_pre h3).2.2
    exact ⟨.inl rfl, h1, by omega⟩
  · exact ⟨.inr rfl, by simp, by omega⟩

theorem dc_e {bs : List Int} {x : Pm.Pg} {e : Int} (h : Pm.Dc bs x e) : (e = 0 ∧ Pm.Ok x) ∨ (e = 5 ∧ x = Pm.no) := by
  rcases h with ⟨rfl, h1, _⟩ | ⟨rfl, h1, _⟩
  · exact .inl ⟨rfl, h1⟩
  · exact .inr ⟨rfl, h1⟩

set_option maxRecDepth 100000 in
set_option maxHeartbeats 2000000 in
theorem pread_any (vb : Value) (bs : List Int) (w : World) (hb : Is .u8 w vb bs) (hl : bs.length ≤ 150000000000000) (hm : Mst w) :
    Calls Tryd.prog 28 #[vb] w fun E w' => ∃ (y : Pm.Pg) (n : Nat) (e : Int), E = .returned (.tuple #[vp y, .int .i64 n, .int .i64 e]) ∧ Hid (PRd bs y n e) ∧ FitP y ∧ Below w.heap.size w w' := by
  unfold vp
  obtain ⟨w1, hw1, sz1, bel1, hR1⟩ := blk_step w #[.int .i64 0, .int .u8 0, .int .i64 0, .int .u8 0, .int .i64 0, .int .i64 0] 25
  have hb1 := hb.below bel1
  have HM := hide hm
  have HB := hide hR1
  obtain ⟨ao, cap, rfl, _, _⟩ := hb.shape
  clear hR1 hm hb
  go_enter Tryd.func28, Tryd.ntmps28
  go_wp2_with fail
  refine (fread_any _ bs _ hb1 hl).mono ?_
  rintro E w2 ⟨v2, r, n, e, rfl, own2, bel2, R2⟩
  have sz2 := bel2.size
  have B2 := (bel2.block _ (blk_lt HB.out)).trans HB.out
  have bel02 := bel1.trans (bel2.mono (by omega))
  obtain ⟨he, hrl, hnl⟩ := rd_e R2.out
  clear HB bel1 bel2 hb1
  rcases he with rfl | rfl
  · have HB2 := hide B2
    have M2 := hide (HM.out.below bel02)
    obtain ⟨bo, bc, rfl, _, _⟩ := own2.is.shape
    clear B2
    go_wp2_with fail
    refine (decode_any _ r _ own2.is (by omega) M2.out).mono ?_
    rintro E w3 ⟨y, e, rfl, D3, fit3, bel3⟩
    have sz3 := bel3.size
    have HB3 := hide ((bel3.block _ (blk_lt HB2.out)).trans HB2.out)
    have bel03 := bel02.trans (bel3.mono (by omega))
    have HV : Hid (vp y = .agg #[.int .i64 y.e, .int .u8 y.r, .int .i64 y.a, .int .u8 y.p, .int .i64 y.f, .int .i64 y.b]) := rfl
    rw [HV.out]
    obtain ⟨w4, hw4', hw4, sz4, bel4, hP, e0, e1, e2, e3, e4, e5⟩ := new6 w3 25 (.int .i64 0) (.int .u8 0) (.int .i64 0) (.int .u8 0) (.int .i64 0) (.int .i64 0) (.int .i64 y.e) (.int .u8 y.r) (.int .i64 y.a) (.int .u8 y.p) (.int .i64 y.f) (.int .i64 y.b)
    have B4 := (bel4.block _ (blk_lt HB3.out)).trans HB3.out
    have bel04 := bel03.trans (bel4.mono (by omega))
    have hlt := blk_lt HB3.out
    have hne : w.heap.size ≠ w3.heap.size := by omega
    clear HB2 HB3 own2 bel02 bel3 bel03 bel4 hP
    rcases dc_e D3.out with ⟨rfl, hok⟩ | ⟨rfl, hno⟩
    · have PR : Hid (PRd bs y n 0) := .inl ⟨rfl, r, R2.out, D3.out⟩
      obtain ⟨V, hV, bV, gV, ⟨a0, a1, a2, a3, a4, a5⟩, fr, ⟨z0, z1, z2, z3, z4, z5⟩⟩ := put6 B4 (.int .i64 y.e) (.int .u8 y.r) (.int .i64 y.a) (.int .u8 y.p) (.int .i64 y.f) (.int .i64 y.b)
      have f0 := fr 0; have f1 := fr 1; have f2 := fr 2; have f3 := fr 3; have f4 := fr 4; have f5 := fr 5
      have belV := below_put bel04 gV (by omega) (by omega)
      clear hok B4 bV gV fr bel04 D3 R2
      go_wp2
      refine bodyPost_ret (v := .tuple #[.agg #[.int .i64 y.e, .int .u8 y.r, .int .i64 y.a, .int .u8 y.p, .int .i64 y.f, .int .i64 y.b], .int .i64 n, .int .i64 0]) (by simp [results, Tryd.results28, go_sem, z0, z1, z2, z3, z4, z5]) rfl ?_
      exact ⟨y, n, 0, rfl, PR, fit3, belV⟩
    · have PR : Hid (PRd bs Pm.no 0 5) := .inr ⟨rfl, rfl, rfl, .inr ⟨r, n, _, R2.out, D3.out⟩⟩
      obtain ⟨z0, z1, z2, z3, z4, z5⟩ := six_of B4
      have s0 : w4.setCell ⟨w.heap.size, 0, none⟩ (.int .i64 0) = w4 := set_same B4 (j := 0) rfl
      have s1 : w4.setCell ⟨w.heap.size, 1, none⟩ (.int .u8 0) = w4 := set_same B4 (j := 1) rfl
      have s2 : w4.setCell ⟨w.heap.size, 2, none⟩ (.int .i64 0) = w4 := set_same B4 (j := 2) rfl
      have s3 : w4.setCell ⟨w.heap.size, 3, none⟩ (.int .u8 0) = w4 := set_same B4 (j := 3) rfl
      have s4 : w4.setCell ⟨w.heap.size, 4, none⟩ (.int .i64 0) = w4 := set_same B4 (j := 4) rfl
      have s5 : w4.setCell ⟨w.heap.size, 5, none⟩ (.int .i64 0) = w4 := set_same B4 (j := 5) rfl
      have f0 := blk_froz B4 0; have f1 := blk_froz B4 1; have f2 := blk_froz B4 2; have f3 := blk_froz B4 3; have f4 := blk_froz B4 4; have f5 := blk_froz B4 5
      clear B4 D3 R2 hno
      go_wp2
      refine bodyPost_ret (v := .tuple #[.agg #[.int .i64 0, .int .u8 0, .int .i64 0, .int .u8 0, .int .i64 0, .int .i64 0], .int .i64 0, .int .i64 5]) (by simp [results, Tryd.results28, go_sem, z0, z1, z2, z3, z4, z5]) rfl ?_
      exact ⟨Pm.no, 0, 5, rfl, PR, fit_no, bel04⟩
  · have PR : Hid (PRd bs Pm.no 0 5) := .inr ⟨rfl, rfl, rfl, .inl ⟨r, n, R2.out⟩⟩
    obtain ⟨z0, z1, z2, z3, z4, z5⟩ := six_of B2
    have s0 : w2.setCell ⟨w.heap.size, 0, none⟩ (.int .i64 0) = w2 := set_same B2 (j := 0) rfl
    have s1 : w2.setCell ⟨w.heap.size, 1, none⟩ (.int .u8 0) = w2 := set_same B2 (j := 1) rfl
    have s2 : w2.setCell ⟨w.heap.size, 2, none⟩ (.int .i64 0) = w2 := set_same B2 (j := 2) rfl
    have s3 : w2.setCell ⟨w.heap.size, 3, none⟩ (.int .u8 0) = w2 := set_same B2 (j := 3) rfl
    have s4 : w2.setCell ⟨w.heap.size, 4, none⟩ (.int .i64 0) = w2 := set_same B2 (j := 4) rfl
    have s5 : w2.setCell ⟨w.heap.size, 5, none⟩ (.int .i64 0) = w2 := set_same B2 (j := 5) rfl
    have f0 := blk_froz B2 0; have f1 := blk_froz B2 1; have f2 := blk_froz B2 2; have f3 := blk_froz B2 3; have f4 := blk_froz B2 4; have f5 := blk_froz B2 5
    clear B2 R2
    go_wp2
    refine bodyPost_ret (v := .tuple #[.agg #[.int .i64 0, .int .u8 0, .int .i64 0, .int .u8 0, .int .i64 0, .int .i64 0], .int .i64 0, .int .i64 5]) (by simp [results, Tryd.results28, go_sem, z0, z1, z2, z3, z4, z5]) rfl ?_
    exact ⟨Pm.no, 0, 5, rfl, PR, fit_no, bel02⟩

end Go.Proofs.YtdfbagnnieoonaaDoor
