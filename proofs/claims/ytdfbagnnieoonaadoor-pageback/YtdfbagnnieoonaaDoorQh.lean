/- The contract of Last (the program's). -/
import Derived.Test.YtdfbagnnieoonaaDoorQg
namespace Go.Proofs.YtdfbagnnieoonaaDoor
open Go.RowKit
set_option linter.unusedVariables false

/-- What Last comes to. -/
def LRes (bs : List Int) (node : Int) (y : Pm.Pg) (n : Nat) (e : Int) : Prop :=
  (fse node = 0 ∧ e = 0 ∧ Pm.Ls bs (fst node) y n) ∨ (fse node = 2 ∧ e = 2 ∧ y = Pm.no ∧ n = 0)

theorem lres_one {bs : List Int} {node : Int} {y z : Pm.Pg} {n m : Nat} {e f : Int} (h : LRes bs node y n e) (h' : LRes bs node z m f) : y = z ∧ n = m ∧ e = f := by
  rcases h with ⟨h1, rfl, h3⟩ | ⟨h1, rfl, rfl, rfl⟩ <;> rcases h' with ⟨g1, rfl, g3⟩ | ⟨g1, rfl, rfl, rfl⟩
  · obtain ⟨q1, q2⟩ := Pm.ls_one h3 g3
    exact ⟨q1, q2, rfl⟩
  · omega
  · omega
  · exact ⟨rfl, rfl, rfl⟩

theorem fse_two (n : Int) : fse n = 0 ∨ fse n = 2 := by
  unfold fse
  by_cases h0 : n = 0
  · rw [if_pos h0]; exact .inl rfl
  · rw [if_neg h0]
    by_cases h1 : n = 1
    · rw [if_pos h1]; exact .inl rfl
    · rw [if_neg h1]; exact .inr rfl

/-- In the midst of Last. -/
def LI (bs : List Int) (w wr : World) (L : Nat) (z x : Pm.Pg) (a : Nat) : Prop :=
  wr.heap[w.heap.size]? = some (.cells #[.int .i64 0, .int .u8 0, .int .i64 0, .int .u8 0, .int .i64 0, .int .i64 0] 25 (0, 0)) ∧
  wr.heap[L]? = some (.cells #[.int .i64 x.e, .int .u8 x.r, .int .i64 x.a, .int .u8 x.p, .int .i64 x.f, .int .i64 x.b] 25 (0, 0)) ∧
  w.heap.size < L ∧ Below w.heap.size w wr ∧ Pm.Go bs z x a ∧ FitP x

theorem prd_e {bs : List Int} {y : Pm.Pg} {n : Nat} {e : Int} (h : PRd bs y n e) : e = 0 ∨ e = 5 := by
  rcases h with ⟨rfl, _⟩ | ⟨rfl, _⟩
  · exact .inl rfl
  · exact .inr rfl

theorem prd_go {bs : List Int} {z x y : Pm.Pg} {n a : Nat} (h : PRd (bs.drop a) y n 0) (hg : Pm.Go bs z x a) : Pm.Go bs z y (a + n) ∧ 1 ≤ n ∧ n ≤ bs.length := by
  rcases h with ⟨_, r, h1, h2⟩ | ⟨h, _⟩
  · obtain ⟨q1, q2⟩ := Pm.go_next hg h1 h2
    have := Pm.go_le q1
    exact ⟨q1, q2, by omega⟩
  · cases h

theorem prd_stop {bs : List Int} {z x y : Pm.Pg} {n a : Nat} (h : PRd (bs.drop a) y n 5) (hg : Pm.Go bs z x a) : Pm.Ls bs z x a := by
  rcases h with ⟨h, _⟩ | ⟨_, _, _, ⟨r, m, h1⟩ | ⟨r, m, q, h1, h2⟩⟩
  · cases h
  · exact Pm.go_stop hg h1
  · exact Pm.go_else hg h1 h2

set_option maxRecDepth 100000 in
set_option maxHeartbeats 4000000 in
theorem last_any (vb : Value) (bs : List Int) (node : Int) (w : World) (hb : Is .u8 w vb bs) (hl : bs.length ≤ 150000000000000) (hm : Mst w) :
    Calls Tryd.prog 11 #[vb, .int .i64 node] w fun E w' => ∃ (y : Pm.Pg) (n : Nat) (e : Int), E = .returned (.tuple #[vp y, .int .i64 n, .int .i64 e]) ∧ Hid (LRes bs node y n e) ∧ FitP y ∧ Below w.heap.size w w' := by
  unfold vp
  obtain ⟨w1, hw1, sz1, bel1, hR1⟩ := blk_step w #[.int .i64 0, .int .u8 0, .int .i64 0, .int .u8 0, .int .i64 0, .int .i64 0] 25
  have HBS := hide hb
  have HM := hide hm
  have HB := hide hR1
  obtain ⟨ao, cap, rfl, _, _⟩ := hb.shape
  clear hR1 hm hb
  go_enter Tryd.func11, Tryd.ntmps11
  go_wp2_with fail
  refine (first_any node _).mono ?_
  rintro E w2 ⟨rfl, bel2⟩
  have sz2 := bel2.size
  have HB2 := hide ((bel2.block _ (blk_lt HB.out)).trans HB.out)
  have bel02 := bel1.trans (bel2.mono (by omega))
  obtain ⟨p0, hp0⟩ : ∃ p, fst node = p := ⟨_, rfl⟩
  obtain ⟨g0, hg0⟩ : ∃ g, fse node = g := ⟨_, rfl⟩
  have hfit := fst_fit node
  have htwo := fse_two node
  rw [hp0] at hfit ⊢
  rw [hg0] at htwo ⊢
  have HP0 := hide hp0
  have HG0 := hide hg0
  clear hp0 hg0
  have HV : Hid (vp p0 = .agg #[.int .i64 p0.e, .int .u8 p0.r, .int .i64 p0.a, .int .u8 p0.p, .int .i64 p0.f, .int .i64 p0.b]) := rfl
  rw [HV.out]
  obtain ⟨w3, hw3', hw3, sz3, bel3, hP, e0, e1, e2, e3, e4, e5⟩ := new6 w2 25 (.int .i64 0) (.int .u8 0) (.int .i64 0) (.int .u8 0) (.int .i64 0) (.int .i64 0) (.int .i64 p0.e) (.int .u8 p0.r) (.int .i64 p0.a) (.int .u8 p0.p) (.int .i64 p0.f) (.int .i64 p0.b)
  have B3 := (bel3.block _ (blk_lt HB2.out)).trans HB2.out
  have bel03 := bel02.trans (bel3.mono (by omega))
  have hlt := blk_lt HB2.out
  have hne : w.heap.size ≠ w2.heap.size := by omega
  clear HB bel1 bel2 bel02 bel3
  rcases htwo with rfl | rfl
  · have D0 : Hid (LI bs w w3 w2.heap.size p0 p0 0) := ⟨B3, hP, hlt, bel03, Pm.go_start _ _, hfit⟩
    clear B3 hP bel03 HB2
    go_wp2
    go_loopw [9] (fun ee wr => ∃ (a : Nat) (x : Pm.Pg), ee = .int .i64 a ∧ Hid (LI bs w wr w2.heap.size p0 x a)) (fun ee _ => bs.length - (intOf ee).toNat)
    case atStart => exact ⟨0, p0, rfl, D0⟩
    case round =>
      obtain ⟨a, x, rfl, D⟩ := hrel
      have hal := Pm.go_le D.out.2.2.2.2.1
      have belr := D.out.2.2.2.1
      have szr := belr.size
      have lt0 := blk_lt D.out.1
      have lt1 := blk_lt D.out.2.1
      have hxf := D.out.2.2.2.2.2
      clear D0 e0 e1 e2 e3 e4 e5 hw3 hw3'
      obtain ⟨vs, hsl, isl⟩ := (HBS.out.below belr).slice_l Tryd.elemB Tryd.sizeE a hal
      have M3 := hide (HM.out.below belr)
      have hdl : (bs.drop a).length = bs.length - a := by rw [List.length_drop]
      go_wp2_with fail
      refine (pread_any _ (bs.drop a) _ isl (by omega) M3.out).mono ?_
      rintro E w4 ⟨y, n, e, rfl, PR, fit4, bel4⟩
      have sz4 := bel4.size
      have R4 := hide ((bel4.block _ lt0).trans D.out.1)
      have L4 := hide ((bel4.block _ lt1).trans D.out.2.1)
      have bel04 := belr.trans (bel4.mono (by omega))
      have HW : Hid (vp y = .agg #[.int .i64 y.e, .int .u8 y.r, .int .i64 y.a, .int .u8 y.p, .int .i64 y.f, .int .i64 y.b]) := rfl
      rw [HW.out]
      obtain ⟨w5, hw5', hw5, sz5, bel5, hP5, e0, e1, e2, e3, e4, e5⟩ := new6 w4 25 (.int .i64 0) (.int .u8 0) (.int .i64 0) (.int .u8 0) (.int .i64 0) (.int .i64 0) (.int .i64 y.e) (.int .u8 y.r) (.int .i64 y.a) (.int .u8 y.p) (.int .i64 y.f) (.int .i64 y.b)
      have R5 := hide ((bel5.block _ (blk_lt R4.out)).trans R4.out)
      have L5 := hide ((bel5.block _ (blk_lt L4.out)).trans L4.out)
      have bel05 := bel04.trans (bel5.mono (by omega))
      have GO := hide D.out.2.2.2.2.1
      clear D isl hsl belr bel4 bel04 bel5 hP5
      rcases prd_e PR.out with rfl | rfl
      · obtain ⟨hgo, hn1, hnl⟩ := prd_go PR.out GO.out
        have hnle := Pm.go_le hgo
        have hwr := wrap_i64_small ((a : Int) + (n : Int)) (by omega) (by omega)
        obtain ⟨V, hV, bV, gV, ⟨a0, a1, a2, a3, a4, a5⟩, fr, ⟨z0, z1, z2, z3, z4, z5⟩⟩ := put6 L5.out (.int .i64 y.e) (.int .u8 y.r) (.int .i64 y.a) (.int .u8 y.p) (.int .i64 y.f) (.int .i64 y.b)
        have f0 := fr 0; have f1 := fr 1; have f2 := fr 2; have f3 := fr 3; have f4 := fr 4; have f5 := fr 5
        have DN : Hid (LI bs w V w2.heap.size p0 y (a + n)) := ⟨(gV.block _ (blk_lt R5.out) (by simp; omega)).trans R5.out, bV, hlt, below_put bel05 gV (by omega) (by omega), hgo, fit4⟩
        clear hgo bV gV fr R4 L4 R5 L5 bel05 GO PR
        go_wp2
        go_roundw
        case rel => exact ⟨a + n, y, by go_num, DN⟩
        case measure => simp [intOf]; omega
      · have LS := hide (prd_stop PR.out GO.out)
        have LR : Hid (LRes bs node x a 0) := .inl ⟨HG0.out, rfl, by rw [HP0.out]; exact LS.out⟩
        obtain ⟨V, hV, bV, gV, ⟨a0, a1, a2, a3, a4, a5⟩, fr, ⟨z0, z1, z2, z3, z4, z5⟩⟩ := put6 R5.out (.int .i64 x.e) (.int .u8 x.r) (.int .i64 x.a) (.int .u8 x.p) (.int .i64 x.f) (.int .i64 x.b)
        have f0 := fr 0; have f1 := fr 1; have f2 := fr 2; have f3 := fr 3; have f4 := fr 4; have f5 := fr 5
        obtain ⟨l0, l1, l2, l3, l4, l5⟩ := six_of L5.out
        have belV := below_put bel05 gV (by omega) (by omega)
        clear bV gV fr R4 L4 R5 L5 bel05 GO PR LS
        go_wp2
        refine bodyPost_ret (v := .tuple #[.agg #[.int .i64 x.e, .int .u8 x.r, .int .i64 x.a, .int .u8 x.p, .int .i64 x.f, .int .i64 x.b], .int .i64 a, .int .i64 0]) (by simp [results, Tryd.results11, go_sem, z0, z1, z2, z3, z4, z5]) rfl ?_
        exact ⟨x, a, 0, rfl, LR, hxf, belV⟩
  · have LR : Hid (LRes bs node Pm.no 0 2) := .inr ⟨HG0.out, rfl, rfl, rfl⟩
    obtain ⟨z0, z1, z2, z3, z4, z5⟩ := six_of B3
    have s0 : w3.setCell ⟨w.heap.size, 0, none⟩ (.int .i64 0) = w3 := set_same B3 (j := 0) rfl
    have s1 : w3.setCell ⟨w.heap.size, 1, none⟩ (.int .u8 0) = w3 := set_same B3 (j := 1) rfl
    have s2 : w3.setCell ⟨w.heap.size, 2, none⟩ (.int .i64 0) = w3 := set_same B3 (j := 2) rfl
    have s3 : w3.setCell ⟨w.heap.size, 3, none⟩ (.int .u8 0) = w3 := set_same B3 (j := 3) rfl
    have s4 : w3.setCell ⟨w.heap.size, 4, none⟩ (.int .i64 0) = w3 := set_same B3 (j := 4) rfl
    have s5 : w3.setCell ⟨w.heap.size, 5, none⟩ (.int .i64 0) = w3 := set_same B3 (j := 5) rfl
    have f0 := blk_froz B3 0; have f1 := blk_froz B3 1; have f2 := blk_froz B3 2; have f3 := blk_froz B3 3; have f4 := blk_froz B3 4; have f5 := blk_froz B3 5
    clear B3 hP HB2
    go_wp2
    refine bodyPost_ret (v := .tuple #[.agg #[.int .i64 0, .int .u8 0, .int .i64 0, .int .u8 0, .int .i64 0, .int .i64 0], .int .i64 0, .int .i64 2]) (by simp [results, Tryd.results11, go_sem, z0, z1, z2, z3, z4, z5]) rfl ?_
    exact ⟨Pm.no, 0, 2, rfl, LR, fit_no, bel03⟩

end Go.Proofs.YtdfbagnnieoonaaDoor
