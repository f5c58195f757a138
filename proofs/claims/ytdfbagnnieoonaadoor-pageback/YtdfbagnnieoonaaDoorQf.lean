/- The contract of Decode (the program's). -/
import Derived.Test.YtdfbagnnieoonaaDoorQe
import Derived.Test.YtdfbagnnieoonaaDoorFf
namespace Go.Proofs.YtdfbagnnieoonaaDoor
open Go.RowKit
set_option linter.unusedVariables false

/-- In the midst of Decode: the page that is told is nothing yet, k numbers are read. -/
def DI (bs : List Int) (w wr : World) (x : Pm.Pg) (k : Nat) (a : Nat) : Prop :=
  wr.heap[w.heap.size]? = some (.cells #[.int .i64 0, .int .u8 0, .int .i64 0, .int .u8 0, .int .i64 0, .int .i64 0] 25 (0, 0)) ∧
  wr.heap[w.heap.size + 1]? = some (.cells #[.int .i64 x.e, .int .i64 x.r, .int .i64 x.a, .int .i64 x.p, .int .i64 x.f, .int .i64 x.b] 49 (0, 0)) ∧
  Below w.heap.size w wr ∧ Pm.encs ((Pm.nums x).take k) <+: bs ∧ a = (Pm.encs ((Pm.nums x).take k)).length ∧ Up x k

theorem up_take {x : Pm.Pg} {k : Nat} (h : Up x k) (hk : k ≤ 6) : ∀ z ∈ (Pm.nums x).take k, 0 ≤ z := by
  intro z hz
  obtain ⟨i, hi, rfl⟩ := List.getElem_of_mem hz
  rw [List.getElem_take]
  rw [List.length_take] at hi
  have := (h i (by omega)).1
  rw [List.getD_eq_getElem?_getD, List.getElem?_eq_getElem (by omega), Option.getD_some] at this
  exact this

theorem ok_mst {x : Pm.Pg} (h : Pm.Ok x) (k : Nat) (hk : k < 6) : (Pm.nums x).getD k 0 ≤ mst.getD k 0 := by
  have := Pm.ok_nums h
  obtain rfl | rfl | rfl | rfl | rfl | rfl : k = 0 ∨ k = 1 ∨ k = 2 ∨ k = 3 ∨ k = 4 ∨ k = 5 := by omega
  all_goals simp [Pm.nums, mst]; omega

theorem DI.bad {bs : List Int} {w wr : World} {x : Pm.Pg} {k a m : Nat} (h : DI bs w wr x k a) (hk : k < 6) (hm : mst.getD k 0 = m) (hn : ∀ u : Nat, u ≤ m → ¬ Vm.enc u <+: bs.drop a) : Pm.Dc bs Pm.no 5 := by
  obtain ⟨_, _, _, h4, h5, h6⟩ := h
  rw [h5] at hn
  exact Pm.dc_stop hk (by rw [List.length_take]; simp [Pm.nums]; omega) (up_take h6 (by omega)) h4 (fun y hy => by rw [← hm]; exact ok_mst hy k hk) hn

theorem DI.next {bs : List Int} {w wr wr' : World} {x y : Pm.Pg} {k a u : Nat} (h : DI bs w wr x k a) (hk : k < 6) (ht : (Pm.nums y).take k = (Pm.nums x).take k) (hg : (Pm.nums y).getD k 0 = u) (hu : (u : Int) ≤ mst.getD k 0) (hp : Vm.enc u <+: bs.drop a)
    (hw : wr.drewN 1 = wr') {V : World} (hV : V.heap[w.heap.size + 1]? = some (.cells #[.int .i64 y.e, .int .i64 y.r, .int .i64 y.a, .int .i64 y.p, .int .i64 y.f, .int .i64 y.b] 49 (0, 0))) (gV : wr'.grownBy V (some (w.heap.size + 1))) :
    DI bs w V y (k + 1) (a + Vm.sz u) := by
  obtain ⟨h1, h2, h3, h4, h5, h6⟩ := h
  subst hw
  have hs := h3.size
  have hlt := blk_lt h1
  have e := encs_take (Pm.nums y) k (by simp [Pm.nums]; omega)
  rw [ht, hg, Int.toNat_natCast] at e
  refine ⟨(gV.block w.heap.size hlt (by simp)).trans h1, hV, below_put (below_drewN h3 1) gV (by omega) hs, ?_, ?_, ?_⟩
  · rw [← e]
    rw [h5] at hp
    exact Fm.pre_drop h4 hp
  · rw [← e, List.length_append, ← h5]; rfl
  · have hb : Up y k := fun i hi => by
      have := h6 i hi
      have e2 : (Pm.nums y).getD i 0 = (Pm.nums x).getD i 0 := by
        have q := congrArg (fun l => l.getD i 0) ht
        simpa [List.getD_eq_getElem?_getD, List.getElem?_take, hi] using q
      rw [e2]
      exact this
    exact hb.next (by rw [hg]; omega) (by rw [hg]; exact hu)

theorem DI.le {bs : List Int} {w wr : World} {x : Pm.Pg} {k a : Nat} (h : DI bs w wr x k a) : a ≤ bs.length := by
  obtain ⟨_, _, _, h4, h5, _⟩ := h
  rw [h5]
  exact h4.length_le

theorem up_fit {x : Pm.Pg} (h : Up x 6) : FitP x := by
  have := up_six h
  unfold FitP
  omega

theorem DI.done {bs : List Int} {w wr : World} {x : Pm.Pg} {a : Nat} (h : DI bs w wr x 6 a) : (Pm.Ok x → a = bs.length → Pm.Dc bs x 0) ∧ ((¬ Pm.Ok x ∨ a ≠ bs.length) → Pm.Dc bs Pm.no 5) ∧ Up x 6 := by
  obtain ⟨_, _, _, h4, h5, h6⟩ := h
  have q := Pm.dc_six (x := x) (bs := bs) (up_take h6 (by omega)) h4
  have e : a = (Pm.enc x).length := h5
  rw [e]
  exact ⟨q.1, q.2, h6⟩

set_option maxRecDepth 100000 in
set_option maxHeartbeats 4000000 in
theorem decode_any (vb : Value) (bs : List Int) (w : World) (hb : Is .u8 w vb bs) (hl : bs.length ≤ 150000000000000) (hm : Mst w) :
    Calls Tryd.prog 10 #[vb] w fun E w' => ∃ (y : Pm.Pg) (e : Int), E = .returned (.tuple #[vp y, .int .i64 e]) ∧ Hid (Pm.Dc bs y e) ∧ FitP y ∧ Below w.heap.size w w' := by
  unfold vp
  obtain ⟨w1, hw1, sz1, bel1, hR1⟩ := blk_step w #[.int .i64 0, .int .u8 0, .int .i64 0, .int .u8 0, .int .i64 0, .int .i64 0] 25
  obtain ⟨w2, hw2, sz2, bel2, hN2⟩ := blk_step w1 #[.int .i64 0, .int .i64 0, .int .i64 0, .int .i64 0, .int .i64 0, .int .i64 0] 49
  have hR2 := (bel2.block _ (blk_lt hR1)).trans hR1
  rw [sz1] at hN2
  have bel02 := bel1.trans (bel2.mono (by omega))
  have d0 : Hid (DI bs w w2 Pm.no 0 0) := ⟨hR2, hN2, bel02, by simp [Pm.encs], by simp [Pm.encs], fun i hi => by omega⟩
  have HBS := hide hb
  have HM := hide hm
  have hlen := hb.len_run Tryd.elemB
  obtain ⟨ao, cap, rfl, _, _⟩ := hb.shape
  clear hR1 hR2 hN2 bel1 bel2 hm hb
  go_enter Tryd.func10, Tryd.ntmps10
  go_wp2
  go_loopw [5, 11] (fun ee kk wr => ∃ (k a : Nat) (x : Pm.Pg), k ≤ 6 ∧ kk = .int .i64 k ∧ ee = .int .i64 a ∧ Hid (DI bs w wr x k a)) (fun _ kk _ => 7 - (intOf kk).toNat)
  case atStart => exact ⟨0, 0, Pm.no, by omega, rfl, rfl, d0⟩
  case round =>
    obtain ⟨k, a, x, hk, rfl, rfl, D⟩ := hrel
    have hal := D.out.le
    have belr := D.out.2.2.1
    have szr := belr.size
    have lt0 := blk_lt D.out.1
    have lt1 := blk_lt D.out.2.1
    clear d0 bel02
    rcases (show k = 0 ∨ k = 1 ∨ k = 2 ∨ k = 3 ∨ k = 4 ∨ k = 5 ∨ k = 6 by omega) with rfl | rfl | rfl | rfl | rfl | rfl | rfl
    · obtain ⟨vs, hsl, isl⟩ := (HBS.out.below belr).slice_l Tryd.elemB Tryd.sizeE a hal
      obtain ⟨m0, m1, m2, m3, m4, m5⟩ := HM.out.below belr
      obtain ⟨u, i, g, hS⟩ := sres_is (bs.drop a) ((1048576 : Nat) : Int)
      have HS := hide hS
      have ST := hide (sres_step (most := 1048576) (by omega) hS)
      have hdl : (bs.drop a).length = bs.length - a := by rw [List.length_drop]
      clear hS
      go_wp2_with fail
      go_region_with (go_at_call 26; refine (small_any _ (bs.drop a) 1048576 u i g _ (isl.drewN 1) (by omega) (by omega) (by omega) HS.out).mono ?_; rintro E w4 ⟨rfl, rfl⟩)
      all_goals
        clear isl hsl m0 m1 m2 m3 m4 m5 HS
        have B0 : (wr.drewN 1).heap[w.heap.size]? = some (.cells #[.int .i64 0, .int .u8 0, .int .i64 0, .int .u8 0, .int .i64 0, .int .i64 0] 25 (0, 0)) := D.out.1
        have B1 : (wr.drewN 1).heap[w.heap.size + 1]? = some (.cells #[.int .i64 x.e, .int .i64 x.r, .int .i64 x.a, .int .i64 x.p, .int .i64 x.f, .int .i64 x.b] 49 (0, 0)) := D.out.2.1
        rcases ST.out with ⟨z, rfl, rfl, rfl, hz, hp⟩ | ⟨rfl, rfl, rfl, hn⟩
        · have hs10 := Vm.sz_le10 (x := z) (by omega)
          have hwr := wrap_i64_small ((a : Int) + (Vm.sz z : Int)) (by omega) (by omega)
          obtain ⟨V, hV, bV, gV, fz⟩ := put_at B1 0 (.int .i64 z)
          have cz := blk_cell B1 0 rfl
          have DN : Hid (DI bs w V { x with e := z } 1 (a + Vm.sz z)) := D.out.next (y := { x with e := z }) (by omega) rfl rfl (by simp [mst]; omega) hp rfl bV gV
          clear B0 B1 bV gV hp D ST
          go_wp2
          go_roundw
          case rel => exact ⟨1, a + Vm.sz z, _, by omega, rfl, by go_num, DN⟩
          case measure => simp [intOf]
        · have HD := hide (D.out.bad (by omega) (m := 1048576) rfl hn)
          obtain ⟨z0, z1, z2, z3, z4, z5⟩ := six_of B0
          have s0 : (wr.drewN 1).setCell ⟨w.heap.size, 0, none⟩ (.int .i64 0) = wr.drewN 1 := set_same B0 (j := 0) rfl
          have s1 : (wr.drewN 1).setCell ⟨w.heap.size, 1, none⟩ (.int .u8 0) = wr.drewN 1 := set_same B0 (j := 1) rfl
          have s2 : (wr.drewN 1).setCell ⟨w.heap.size, 2, none⟩ (.int .i64 0) = wr.drewN 1 := set_same B0 (j := 2) rfl
          have s3 : (wr.drewN 1).setCell ⟨w.heap.size, 3, none⟩ (.int .u8 0) = wr.drewN 1 := set_same B0 (j := 3) rfl
          have s4 : (wr.drewN 1).setCell ⟨w.heap.size, 4, none⟩ (.int .i64 0) = wr.drewN 1 := set_same B0 (j := 4) rfl
          have s5 : (wr.drewN 1).setCell ⟨w.heap.size, 5, none⟩ (.int .i64 0) = wr.drewN 1 := set_same B0 (j := 5) rfl
          have f0 := blk_froz B0 0; have f1 := blk_froz B0 1; have f2 := blk_froz B0 2; have f3 := blk_froz B0 3; have f4 := blk_froz B0 4; have f5 := blk_froz B0 5
          clear B0 B1 hn D ST
          go_wp2
          refine bodyPost_ret (v := .tuple #[.agg #[.int .i64 0, .int .u8 0, .int .i64 0, .int .u8 0, .int .i64 0, .int .i64 0], .int .i64 5]) (by simp [results, Tryd.results10, go_sem, z0, z1, z2, z3, z4, z5]) rfl ?_
          exact ⟨Pm.no, 5, rfl, HD, fit_no, below_drewN belr 1⟩
    · obtain ⟨vs, hsl, isl⟩ := (HBS.out.below belr).slice_l Tryd.elemB Tryd.sizeE a hal
      obtain ⟨m0, m1, m2, m3, m4, m5⟩ := HM.out.below belr
      obtain ⟨u, i, g, hS⟩ := sres_is (bs.drop a) ((3 : Nat) : Int)
      have HS := hide hS
      have ST := hide (sres_step (most := 3) (by omega) hS)
      have hdl : (bs.drop a).length = bs.length - a := by rw [List.length_drop]
      clear hS
      go_wp2_with fail
      go_region_with (go_at_call 26; refine (small_any _ (bs.drop a) 3 u i g _ (isl.drewN 1) (by omega) (by omega) (by omega) HS.out).mono ?_; rintro E w4 ⟨rfl, rfl⟩)
      all_goals
        clear isl hsl m0 m1 m2 m3 m4 m5 HS
        have B0 : (wr.drewN 1).heap[w.heap.size]? = some (.cells #[.int .i64 0, .int .u8 0, .int .i64 0, .int .u8 0, .int .i64 0, .int .i64 0] 25 (0, 0)) := D.out.1
        have B1 : (wr.drewN 1).heap[w.heap.size + 1]? = some (.cells #[.int .i64 x.e, .int .i64 x.r, .int .i64 x.a, .int .i64 x.p, .int .i64 x.f, .int .i64 x.b] 49 (0, 0)) := D.out.2.1
        rcases ST.out with ⟨z, rfl, rfl, rfl, hz, hp⟩ | ⟨rfl, rfl, rfl, hn⟩
        · have hs10 := Vm.sz_le10 (x := z) (by omega)
          have hwr := wrap_i64_small ((a : Int) + (Vm.sz z : Int)) (by omega) (by omega)
          obtain ⟨V, hV, bV, gV, fz⟩ := put_at B1 1 (.int .i64 z)
          have cz := blk_cell B1 1 rfl
          have DN : Hid (DI bs w V { x with r := z } 2 (a + Vm.sz z)) := D.out.next (y := { x with r := z }) (by omega) rfl rfl (by simp [mst]; omega) hp rfl bV gV
          clear B0 B1 bV gV hp D ST
          go_wp2
          go_roundw
          case rel => exact ⟨2, a + Vm.sz z, _, by omega, rfl, by go_num, DN⟩
          case measure => simp [intOf]
        · have HD := hide (D.out.bad (by omega) (m := 3) rfl hn)
          obtain ⟨z0, z1, z2, z3, z4, z5⟩ := six_of B0
          have s0 : (wr.drewN 1).setCell ⟨w.heap.size, 0, none⟩ (.int .i64 0) = wr.drewN 1 := set_same B0 (j := 0) rfl
          have s1 : (wr.drewN 1).setCell ⟨w.heap.size, 1, none⟩ (.int .u8 0) = wr.drewN 1 := set_same B0 (j := 1) rfl
          have s2 : (wr.drewN 1).setCell ⟨w.heap.size, 2, none⟩ (.int .i64 0) = wr.drewN 1 := set_same B0 (j := 2) rfl
          have s3 : (wr.drewN 1).setCell ⟨w.heap.size, 3, none⟩ (.int .u8 0) = wr.drewN 1 := set_same B0 (j := 3) rfl
          have s4 : (wr.drewN 1).setCell ⟨w.heap.size, 4, none⟩ (.int .i64 0) = wr.drewN 1 := set_same B0 (j := 4) rfl
          have s5 : (wr.drewN 1).setCell ⟨w.heap.size, 5, none⟩ (.int .i64 0) = wr.drewN 1 := set_same B0 (j := 5) rfl
          have f0 := blk_froz B0 0; have f1 := blk_froz B0 1; have f2 := blk_froz B0 2; have f3 := blk_froz B0 3; have f4 := blk_froz B0 4; have f5 := blk_froz B0 5
          clear B0 B1 hn D ST
          go_wp2
          refine bodyPost_ret (v := .tuple #[.agg #[.int .i64 0, .int .u8 0, .int .i64 0, .int .u8 0, .int .i64 0, .int .i64 0], .int .i64 5]) (by simp [results, Tryd.results10, go_sem, z0, z1, z2, z3, z4, z5]) rfl ?_
          exact ⟨Pm.no, 5, rfl, HD, fit_no, below_drewN belr 1⟩
    · obtain ⟨vs, hsl, isl⟩ := (HBS.out.below belr).slice_l Tryd.elemB Tryd.sizeE a hal
      obtain ⟨m0, m1, m2, m3, m4, m5⟩ := HM.out.below belr
      obtain ⟨u, i, g, hS⟩ := sres_is (bs.drop a) ((1048576 : Nat) : Int)
      have HS := hide hS
      have ST := hide (sres_step (most := 1048576) (by omega) hS)
      have hdl : (bs.drop a).length = bs.length - a := by rw [List.length_drop]
      clear hS
      go_wp2_with fail
      go_region_with (go_at_call 26; refine (small_any _ (bs.drop a) 1048576 u i g _ (isl.drewN 1) (by omega) (by omega) (by omega) HS.out).mono ?_; rintro E w4 ⟨rfl, rfl⟩)
      all_goals
        clear isl hsl m0 m1 m2 m3 m4 m5 HS
        have B0 : (wr.drewN 1).heap[w.heap.size]? = some (.cells #[.int .i64 0, .int .u8 0, .int .i64 0, .int .u8 0, .int .i64 0, .int .i64 0] 25 (0, 0)) := D.out.1
        have B1 : (wr.drewN 1).heap[w.heap.size + 1]? = some (.cells #[.int .i64 x.e, .int .i64 x.r, .int .i64 x.a, .int .i64 x.p, .int .i64 x.f, .int .i64 x.b] 49 (0, 0)) := D.out.2.1
        rcases ST.out with ⟨z, rfl, rfl, rfl, hz, hp⟩ | ⟨rfl, rfl, rfl, hn⟩
        · have hs10 := Vm.sz_le10 (x := z) (by omega)
          have hwr := wrap_i64_small ((a : Int) + (Vm.sz z : Int)) (by omega) (by omega)
          obtain ⟨V, hV, bV, gV, fz⟩ := put_at B1 2 (.int .i64 z)
          have cz := blk_cell B1 2 rfl
          have DN : Hid (DI bs w V { x with a := z } 3 (a + Vm.sz z)) := D.out.next (y := { x with a := z }) (by omega) rfl rfl (by simp [mst]; omega) hp rfl bV gV
          clear B0 B1 bV gV hp D ST
          go_wp2
          go_roundw
          case rel => exact ⟨3, a + Vm.sz z, _, by omega, rfl, by go_num, DN⟩
          case measure => simp [intOf]
        · have HD := hide (D.out.bad (by omega) (m := 1048576) rfl hn)
          obtain ⟨z0, z1, z2, z3, z4, z5⟩ := six_of B0
          have s0 : (wr.drewN 1).setCell ⟨w.heap.size, 0, none⟩ (.int .i64 0) = wr.drewN 1 := set_same B0 (j := 0) rfl
          have s1 : (wr.drewN 1).setCell ⟨w.heap.size, 1, none⟩ (.int .u8 0) = wr.drewN 1 := set_same B0 (j := 1) rfl
          have s2 : (wr.drewN 1).setCell ⟨w.heap.size, 2, none⟩ (.int .i64 0) = wr.drewN 1 := set_same B0 (j := 2) rfl
          have s3 : (wr.drewN 1).setCell ⟨w.heap.size, 3, none⟩ (.int .u8 0) = wr.drewN 1 := set_same B0 (j := 3) rfl
          have s4 : (wr.drewN 1).setCell ⟨w.heap.size, 4, none⟩ (.int .i64 0) = wr.drewN 1 := set_same B0 (j := 4) rfl
          have s5 : (wr.drewN 1).setCell ⟨w.heap.size, 5, none⟩ (.int .i64 0) = wr.drewN 1 := set_same B0 (j := 5) rfl
          have f0 := blk_froz B0 0; have f1 := blk_froz B0 1; have f2 := blk_froz B0 2; have f3 := blk_froz B0 3; have f4 := blk_froz B0 4; have f5 := blk_froz B0 5
          clear B0 B1 hn D ST
          go_wp2
          refine bodyPost_ret (v := .tuple #[.agg #[.int .i64 0, .int .u8 0, .int .i64 0, .int .u8 0, .int .i64 0, .int .i64 0], .int .i64 5]) (by simp [results, Tryd.results10, go_sem, z0, z1, z2, z3, z4, z5]) rfl ?_
          exact ⟨Pm.no, 5, rfl, HD, fit_no, below_drewN belr 1⟩
    · obtain ⟨vs, hsl, isl⟩ := (HBS.out.below belr).slice_l Tryd.elemB Tryd.sizeE a hal
      obtain ⟨m0, m1, m2, m3, m4, m5⟩ := HM.out.below belr
      obtain ⟨u, i, g, hS⟩ := sres_is (bs.drop a) ((4 : Nat) : Int)
      have HS := hide hS
      have ST := hide (sres_step (most := 4) (by omega) hS)
      have hdl : (bs.drop a).length = bs.length - a := by rw [List.length_drop]
      clear hS
      go_wp2_with fail
      go_region_with (go_at_call 26; refine (small_any _ (bs.drop a) 4 u i g _ (isl.drewN 1) (by omega) (by omega) (by omega) HS.out).mono ?_; rintro E w4 ⟨rfl, rfl⟩)
      all_goals
        clear isl hsl m0 m1 m2 m3 m4 m5 HS
        have B0 : (wr.drewN 1).heap[w.heap.size]? = some (.cells #[.int .i64 0, .int .u8 0, .int .i64 0, .int .u8 0, .int .i64 0, .int .i64 0] 25 (0, 0)) := D.out.1
        have B1 : (wr.drewN 1).heap[w.heap.size + 1]? = some (.cells #[.int .i64 x.e, .int .i64 x.r, .int .i64 x.a, .int .i64 x.p, .int .i64 x.f, .int .i64 x.b] 49 (0, 0)) := D.out.2.1
        rcases ST.out with ⟨z, rfl, rfl, rfl, hz, hp⟩ | ⟨rfl, rfl, rfl, hn⟩
        · have hs10 := Vm.sz_le10 (x := z) (by omega)
          have hwr := wrap_i64_small ((a : Int) + (Vm.sz z : Int)) (by omega) (by omega)
          obtain ⟨V, hV, bV, gV, fz⟩ := put_at B1 3 (.int .i64 z)
          have cz := blk_cell B1 3 rfl
          have DN : Hid (DI bs w V { x with p := z } 4 (a + Vm.sz z)) := D.out.next (y := { x with p := z }) (by omega) rfl rfl (by simp [mst]; omega) hp rfl bV gV
          clear B0 B1 bV gV hp D ST
          go_wp2
          go_roundw
          case rel => exact ⟨4, a + Vm.sz z, _, by omega, rfl, by go_num, DN⟩
          case measure => simp [intOf]
        · have HD := hide (D.out.bad (by omega) (m := 4) rfl hn)
          obtain ⟨z0, z1, z2, z3, z4, z5⟩ := six_of B0
          have s0 : (wr.drewN 1).setCell ⟨w.heap.size, 0, none⟩ (.int .i64 0) = wr.drewN 1 := set_same B0 (j := 0) rfl
          have s1 : (wr.drewN 1).setCell ⟨w.heap.size, 1, none⟩ (.int .u8 0) = wr.drewN 1 := set_same B0 (j := 1) rfl
          have s2 : (wr.drewN 1).setCell ⟨w.heap.size, 2, none⟩ (.int .i64 0) = wr.drewN 1 := set_same B0 (j := 2) rfl
          have s3 : (wr.drewN 1).setCell ⟨w.heap.size, 3, none⟩ (.int .u8 0) = wr.drewN 1 := set_same B0 (j := 3) rfl
          have s4 : (wr.drewN 1).setCell ⟨w.heap.size, 4, none⟩ (.int .i64 0) = wr.drewN 1 := set_same B0 (j := 4) rfl
          have s5 : (wr.drewN 1).setCell ⟨w.heap.size, 5, none⟩ (.int .i64 0) = wr.drewN 1 := set_same B0 (j := 5) rfl
          have f0 := blk_froz B0 0; have f1 := blk_froz B0 1; have f2 := blk_froz B0 2; have f3 := blk_froz B0 3; have f4 := blk_froz B0 4; have f5 := blk_froz B0 5
          clear B0 B1 hn D ST
          go_wp2
          refine bodyPost_ret (v := .tuple #[.agg #[.int .i64 0, .int .u8 0, .int .i64 0, .int .u8 0, .int .i64 0, .int .i64 0], .int .i64 5]) (by simp [results, Tryd.results10, go_sem, z0, z1, z2, z3, z4, z5]) rfl ?_
          exact ⟨Pm.no, 5, rfl, HD, fit_no, below_drewN belr 1⟩
    · obtain ⟨vs, hsl, isl⟩ := (HBS.out.below belr).slice_l Tryd.elemB Tryd.sizeE a hal
      obtain ⟨m0, m1, m2, m3, m4, m5⟩ := HM.out.below belr
      obtain ⟨u, i, g, hS⟩ := sres_is (bs.drop a) ((1048576 : Nat) : Int)
      have HS := hide hS
      have ST := hide (sres_step (most := 1048576) (by omega) hS)
      have hdl : (bs.drop a).length = bs.length - a := by rw [List.length_drop]
      clear hS
      go_wp2_with fail
      go_region_with (go_at_call 26; refine (small_any _ (bs.drop a) 1048576 u i g _ (isl.drewN 1) (by omega) (by omega) (by omega) HS.out).mono ?_; rintro E w4 ⟨rfl, rfl⟩)
      all_goals
        clear isl hsl m0 m1 m2 m3 m4 m5 HS
        have B0 : (wr.drewN 1).heap[w.heap.size]? = some (.cells #[.int .i64 0, .int .u8 0, .int .i64 0, .int .u8 0, .int .i64 0, .int .i64 0] 25 (0, 0)) := D.out.1
        have B1 : (wr.drewN 1).heap[w.heap.size + 1]? = some (.cells #[.int .i64 x.e, .int .i64 x.r, .int .i64 x.a, .int .i64 x.p, .int .i64 x.f, .int .i64 x.b] 49 (0, 0)) := D.out.2.1
        rcases ST.out with ⟨z, rfl, rfl, rfl, hz, hp⟩ | ⟨rfl, rfl, rfl, hn⟩
        · have hs10 := Vm.sz_le10 (x := z) (by omega)
          have hwr := wrap_i64_small ((a : Int) + (Vm.sz z : Int)) (by omega) (by omega)
          obtain ⟨V, hV, bV, gV, fz⟩ := put_at B1 4 (.int .i64 z)
          have cz := blk_cell B1 4 rfl
          have DN : Hid (DI bs w V { x with f := z } 5 (a + Vm.sz z)) := D.out.next (y := { x with f := z }) (by omega) rfl rfl (by simp [mst]; omega) hp rfl bV gV
          clear B0 B1 bV gV hp D ST
          go_wp2
          go_roundw
          case rel => exact ⟨5, a + Vm.sz z, _, by omega, rfl, by go_num, DN⟩
          case measure => simp [intOf]
        · have HD := hide (D.out.bad (by omega) (m := 1048576) rfl hn)
          obtain ⟨z0, z1, z2, z3, z4, z5⟩ := six_of B0
          have s0 : (wr.drewN 1).setCell ⟨w.heap.size, 0, none⟩ (.int .i64 0) = wr.drewN 1 := set_same B0 (j := 0) rfl
          have s1 : (wr.drewN 1).setCell ⟨w.heap.size, 1, none⟩ (.int .u8 0) = wr.drewN 1 := set_same B0 (j := 1) rfl
          have s2 : (wr.drewN 1).setCell ⟨w.heap.size, 2, none⟩ (.int .i64 0) = wr.drewN 1 := set_same B0 (j := 2) rfl
          have s3 : (wr.drewN 1).setCell ⟨w.heap.size, 3, none⟩ (.int .u8 0) = wr.drewN 1 := set_same B0 (j := 3) rfl
          have s4 : (wr.drewN 1).setCell ⟨w.heap.size, 4, none⟩ (.int .i64 0) = wr.drewN 1 := set_same B0 (j := 4) rfl
          have s5 : (wr.drewN 1).setCell ⟨w.heap.size, 5, none⟩ (.int .i64 0) = wr.drewN 1 := set_same B0 (j := 5) rfl
          have f0 := blk_froz B0 0; have f1 := blk_froz B0 1; have f2 := blk_froz B0 2; have f3 := blk_froz B0 3; have f4 := blk_froz B0 4; have f5 := blk_froz B0 5
          clear B0 B1 hn D ST
          go_wp2
          refine bodyPost_ret (v := .tuple #[.agg #[.int .i64 0, .int .u8 0, .int .i64 0, .int .u8 0, .int .i64 0, .int .i64 0], .int .i64 5]) (by simp [results, Tryd.results10, go_sem, z0, z1, z2, z3, z4, z5]) rfl ?_
          exact ⟨Pm.no, 5, rfl, HD, fit_no, below_drewN belr 1⟩
    · obtain ⟨vs, hsl, isl⟩ := (HBS.out.below belr).slice_l Tryd.elemB Tryd.sizeE a hal
      obtain ⟨m0, m1, m2, m3, m4, m5⟩ := HM.out.below belr
      obtain ⟨u, i, g, hS⟩ := sres_is (bs.drop a) ((1073741824 : Nat) : Int)
      have HS := hide hS
      have ST := hide (sres_step (most := 1073741824) (by omega) hS)
      have hdl : (bs.drop a).length = bs.length - a := by rw [List.length_drop]
      clear hS
      go_wp2_with fail
      go_region_with (go_at_call 26; refine (small_any _ (bs.drop a) 1073741824 u i g _ (isl.drewN 1) (by omega) (by omega) (by omega) HS.out).mono ?_; rintro E w4 ⟨rfl, rfl⟩)
      all_goals
        clear isl hsl m0 m1 m2 m3 m4 m5 HS
        have B0 : (wr.drewN 1).heap[w.heap.size]? = some (.cells #[.int .i64 0, .int .u8 0, .int .i64 0, .int .u8 0, .int .i64 0, .int .i64 0] 25 (0, 0)) := D.out.1
        have B1 : (wr.drewN 1).heap[w.heap.size + 1]? = some (.cells #[.int .i64 x.e, .int .i64 x.r, .int .i64 x.a, .int .i64 x.p, .int .i64 x.f, .int .i64 x.b] 49 (0, 0)) := D.out.2.1
        rcases ST.out with ⟨z, rfl, rfl, rfl, hz, hp⟩ | ⟨rfl, rfl, rfl, hn⟩
        · have hs10 := Vm.sz_le10 (x := z) (by omega)
          have hwr := wrap_i64_small ((a : Int) + (Vm.sz z : Int)) (by omega) (by omega)
          obtain ⟨V, hV, bV, gV, fz⟩ := put_at B1 5 (.int .i64 z)
          have cz := blk_cell B1 5 rfl
          have DN : Hid (DI bs w V { x with b := z } 6 (a + Vm.sz z)) := D.out.next (y := { x with b := z }) (by omega) rfl rfl (by simp [mst]; omega) hp rfl bV gV
          clear B0 B1 bV gV hp D ST
          go_wp2
          go_roundw
          case rel => exact ⟨6, a + Vm.sz z, _, by omega, rfl, by go_num, DN⟩
          case measure => simp [intOf]
        · have HD := hide (D.out.bad (by omega) (m := 1073741824) rfl hn)
          obtain ⟨z0, z1, z2, z3, z4, z5⟩ := six_of B0
          have s0 : (wr.drewN 1).setCell ⟨w.heap.size, 0, none⟩ (.int .i64 0) = wr.drewN 1 := set_same B0 (j := 0) rfl
          have s1 : (wr.drewN 1).setCell ⟨w.heap.size, 1, none⟩ (.int .u8 0) = wr.drewN 1 := set_same B0 (j := 1) rfl
          have s2 : (wr.drewN 1).setCell ⟨w.heap.size, 2, none⟩ (.int .i64 0) = wr.drewN 1 := set_same B0 (j := 2) rfl
          have s3 : (wr.drewN 1).setCell ⟨w.heap.size, 3, none⟩ (.int .u8 0) = wr.drewN 1 := set_same B0 (j := 3) rfl
          have s4 : (wr.drewN 1).setCell ⟨w.heap.size, 4, none⟩ (.int .i64 0) = wr.drewN 1 := set_same B0 (j := 4) rfl
          have s5 : (wr.drewN 1).setCell ⟨w.heap.size, 5, none⟩ (.int .i64 0) = wr.drewN 1 := set_same B0 (j := 5) rfl
          have f0 := blk_froz B0 0; have f1 := blk_froz B0 1; have f2 := blk_froz B0 2; have f3 := blk_froz B0 3; have f4 := blk_froz B0 4; have f5 := blk_froz B0 5
          clear B0 B1 hn D ST
          go_wp2
          refine bodyPost_ret (v := .tuple #[.agg #[.int .i64 0, .int .u8 0, .int .i64 0, .int .u8 0, .int .i64 0, .int .i64 0], .int .i64 5]) (by simp [results, Tryd.results10, go_sem, z0, z1, z2, z3, z4, z5]) rfl ?_
          exact ⟨Pm.no, 5, rfl, HD, fit_no, below_drewN belr 1⟩
    · have hdone := D.out.done
      have DG := hide hdone.1
      have DB := hide hdone.2.1
      have hfit := up_fit hdone.2.2
      have B0 := D.out.1
      obtain ⟨c0, c1, c2, c3, c4, c5⟩ := six_of D.out.2.1
      have H0 := hide B0
      have HF := hide hfit
      clear hdone D B0 hfit
      go_wp2_with fail
      refine (pageOf_any x _ HF.out).mono ?_
      rintro E w5 ⟨rfl, bel5⟩
      have HV : Hid (vp x = .agg #[.int .i64 x.e, .int .u8 x.r, .int .i64 x.a, .int .u8 x.p, .int .i64 x.f, .int .i64 x.b]) := rfl
      rw [HV.out]
      have sz5 := bel5.size
      have H5 := hide ((bel5.block _ lt0).trans H0.out)
      have bel05 := belr.trans (bel5.mono (by omega))
      obtain ⟨w6, hw6', hw6, sz6, bel6, hP, e0, e1, e2, e3, e4, e5⟩ := new6 w5 25 (.int .i64 0) (.int .u8 0) (.int .i64 0) (.int .u8 0) (.int .i64 0) (.int .i64 0) (.int .i64 x.e) (.int .u8 x.r) (.int .i64 x.a) (.int .u8 x.p) (.int .i64 x.f) (.int .i64 x.b)
      have H6 := hide ((bel6.block _ (by omega)).trans H5.out)
      have bel06 := bel05.trans (bel6.mono (by omega))
      have HP := hide hP
      have HM6 := hide (HM.out.below bel06)
      clear c0 c1 c2 c3 c4 c5 H0 hP bel5 bel05 bel6 belr
      by_cases ha : a = bs.length
      · have ha' : (bs.length : Int) ≤ (a : Int) := by omega
        have HA := hide ha
        clear ha
        go_wp2_with fail
        refine (check_any x _ HF.out HM6.out).mono ?_
        rintro E w7 ⟨rfl, bel7⟩
        have sz7 := bel7.size
        have B7 := (bel7.block _ (blk_lt H6.out)).trans H6.out
        have hP7 := (bel7.block _ (blk_lt HP.out)).trans HP.out
        have bel07 := bel06.trans (bel7.mono (by omega))
        obtain ⟨d0, d1, d2, d3, d4, d5⟩ := six_of hP7
        clear H6 HP e0 e1 e2 e3 e4 e5 hw6 hw6' hP7 bel06 bel7
        by_cases ho : Pm.Ok x
        · rw [Pm.chk_ok ho]
          have HD := hide (DG.out ho HA.out)
          obtain ⟨V, hV, bV, gV, ⟨a0, a1, a2, a3, a4, a5⟩, fr, ⟨z0, z1, z2, z3, z4, z5⟩⟩ := put6 B7 (.int .i64 x.e) (.int .u8 x.r) (.int .i64 x.a) (.int .u8 x.p) (.int .i64 x.f) (.int .i64 x.b)
          have f0 := fr 0; have f1 := fr 1; have f2 := fr 2; have f3 := fr 3; have f4 := fr 4; have f5 := fr 5
          have belV := below_put bel07 gV (by omega) (by omega)
          clear ho B7 bV gV fr bel07 DG DB
          go_wp2
          refine bodyPost_ret (v := .tuple #[.agg #[.int .i64 x.e, .int .u8 x.r, .int .i64 x.a, .int .u8 x.p, .int .i64 x.f, .int .i64 x.b], .int .i64 0]) (by simp [results, Tryd.results10, go_sem, z0, z1, z2, z3, z4, z5]) rfl ?_
          exact ⟨x, 0, rfl, HD, HF.out, belV⟩
        · rw [Pm.chk_no ho]
          have HD := hide (DB.out (.inl ho))
          obtain ⟨z0, z1, z2, z3, z4, z5⟩ := six_of B7
          have s0 : w7.setCell ⟨w.heap.size, 0, none⟩ (.int .i64 0) = w7 := set_same B7 (j := 0) rfl
          have s1 : w7.setCell ⟨w.heap.size, 1, none⟩ (.int .u8 0) = w7 := set_same B7 (j := 1) rfl
          have s2 : w7.setCell ⟨w.heap.size, 2, none⟩ (.int .i64 0) = w7 := set_same B7 (j := 2) rfl
          have s3 : w7.setCell ⟨w.heap.size, 3, none⟩ (.int .u8 0) = w7 := set_same B7 (j := 3) rfl
          have s4 : w7.setCell ⟨w.heap.size, 4, none⟩ (.int .i64 0) = w7 := set_same B7 (j := 4) rfl
          have s5 : w7.setCell ⟨w.heap.size, 5, none⟩ (.int .i64 0) = w7 := set_same B7 (j := 5) rfl
          have f0 := blk_froz B7 0; have f1 := blk_froz B7 1; have f2 := blk_froz B7 2; have f3 := blk_froz B7 3; have f4 := blk_froz B7 4; have f5 := blk_froz B7 5
          clear B7 DG DB
          go_wp2
          refine bodyPost_ret (v := .tuple #[.agg #[.int .i64 0, .int .u8 0, .int .i64 0, .int .u8 0, .int .i64 0, .int .i64 0], .int .i64 5]) (by simp [results, Tryd.results10, go_sem, z0, z1, z2, z3, z4, z5]) rfl ?_
          exact ⟨Pm.no, 5, rfl, HD, fit_no, bel07⟩
      · have ha' : (a : Int) < (bs.length : Int) := by omega
        have HD := hide (DB.out (.inr ha))
        have B7 := H6.out
        have hlt5 : w.heap.size < w5.heap.size := blk_lt H5.out
        have hne5 : w.heap.size ≠ w5.heap.size := by omega
        obtain ⟨y0, y1, y2, y3, y4, y5⟩ := six_of H5.out
        have q0 := blk_froz H5.out 0; have q1 := blk_froz H5.out 1; have q2 := blk_froz H5.out 2; have q3 := blk_froz H5.out 3; have q4 := blk_froz H5.out 4; have q5 := blk_froz H5.out 5
        clear ha H6 HP e0 e1 e2 e3 e4 e5
        obtain ⟨z0, z1, z2, z3, z4, z5⟩ := six_of B7
        have s0 : w6.setCell ⟨w.heap.size, 0, none⟩ (.int .i64 0) = w6 := set_same B7 (j := 0) rfl
        have s1 : w6.setCell ⟨w.heap.size, 1, none⟩ (.int .u8 0) = w6 := set_same B7 (j := 1) rfl
        have s2 : w6.setCell ⟨w.heap.size, 2, none⟩ (.int .i64 0) = w6 := set_same B7 (j := 2) rfl
        have s3 : w6.setCell ⟨w.heap.size, 3, none⟩ (.int .u8 0) = w6 := set_same B7 (j := 3) rfl
        have s4 : w6.setCell ⟨w.heap.size, 4, none⟩ (.int .i64 0) = w6 := set_same B7 (j := 4) rfl
        have s5 : w6.setCell ⟨w.heap.size, 5, none⟩ (.int .i64 0) = w6 := set_same B7 (j := 5) rfl
        have f0 := blk_froz B7 0; have f1 := blk_froz B7 1; have f2 := blk_froz B7 2; have f3 := blk_froz B7 3; have f4 := blk_froz B7 4; have f5 := blk_froz B7 5
        clear B7 DG DB
        go_wp2
        refine bodyPost_ret (v := .tuple #[.agg #[.int .i64 0, .int .u8 0, .int .i64 0, .int .u8 0, .int .i64 0, .int .i64 0], .int .i64 5]) (by simp [results, Tryd.results10, go_sem, z0, z1, z2, z3, z4, z5]) rfl ?_
        exact ⟨Pm.no, 5, rfl, HD, fit_no, bel06⟩

end Go.Proofs.YtdfbagnnieoonaaDoor
