/- Texts of one layer, one behind the other. -/
import Derived.Test.YtkpnkknolobioaaG18
import Derived.Test.YtkpnkknolobioaaG16
import Derived.Test.YtkpnkknolobioaaG13
import Derived.Test.YtkpnkknolobioaaG15
import Derived.Test.YtkpnkknolobioaaG5
import Derived.Test.YtkpnkknolobioaaG9
/- The program's readHeader and readCommit (layer 19). -/
namespace Go.Proofs.Ytkpnkknolobioaa
open Go.RowKit
set_option linter.unusedVariables false

/-- A block that is written over by what it holds. -/
theorem zero_blk {S : Nat} {t : TypeId} {a b c : Value} (W : World) (h : W.heap[S]? = some (.cells #[a, b, c] t (0, 0))) : (W.setCell ⟨S, 0, none⟩ a = W ∧ W.setCell ⟨S, 1, none⟩ b = W ∧ W.setCell ⟨S, 2, none⟩ c = W) ∧ (W.frozen? ⟨S, 0, none⟩ = false ∧ W.frozen? ⟨S, 1, none⟩ = false ∧ W.frozen? ⟨S, 2, none⟩ = false) ∧ (W.cell? ⟨S, 0, none⟩ = some a ∧ W.cell? ⟨S, 1, none⟩ = some b ∧ W.cell? ⟨S, 2, none⟩ = some c) :=
  ⟨⟨set_same h (j := 0) rfl, set_same h (j := 1) rfl, set_same h (j := 2) rfl⟩, ⟨blk_froz h 0, blk_froz h 1, blk_froz h 2⟩, blk_cell h 0 rfl, blk_cell h 1 rfl, blk_cell h 2 rfl⟩

theorem put3at {V : World} {R : Nat} {t : TypeId} {cs : Array Value} (hR : V.heap[R]? = some (.cells cs t (0, 0))) (k : Nat) (c : Value) (hk : k < cs.size) :
    ∃ V', V.setCell ⟨R, k, none⟩ c = V' ∧ V'.heap[R]? = some (.cells (cs.setIfInBounds k c) t (0, 0)) ∧ V.grownBy V' (some R) ∧ V.cell? ⟨R, k, none⟩ = some cs[k] ∧ V.frozen? ⟨R, k, none⟩ = false := by
  obtain ⟨V', h1, h2, h3, h4⟩ := put_c hR k c
  exact ⟨V', h1, h2, h3, blk_cell hR k (Array.getElem?_eq_getElem hk), h4⟩

/-- In the midst of a header. -/
structure HI (bs : List Int) (w wr : World) (k x y m a : Nat) : Prop where
  res : wr.heap[w.heap.size]? = some (.cells #[.int .i64 0, .int .i64 0, .slice none 0 0] 24 (0, 0))
  num : wr.heap[w.heap.size + 1]? = some (.cells #[.int .i64 x, .int .i64 y, .int .i64 m] 94 (0, 0))
  bel : Below w.heap.size w wr
  at' : a = (if 1 ≤ k then Vm.sz x else 0) + (if 2 ≤ k then Vm.sz y else 0) + (if 3 ≤ k then Vm.sz m else 0)
  h1 : 1 ≤ k → x ≤ 1048576 ∧ Vm.enc x <+: bs
  h2 : 2 ≤ k → y ≤ 1048576 ∧ Vm.enc y <+: bs.drop (Vm.sz x)
  h3 : 3 ≤ k → m ≤ 1048576 ∧ Vm.enc m <+: bs.drop (Vm.sz x + Vm.sz y)

theorem HI.le {bs : List Int} {w wr : World} {k x y m a : Nat} (h : HI bs w wr k x y m a) : a ≤ bs.length := by
  have e := h.at'
  by_cases q3 : 3 ≤ k
  · have p3 := (h.h3 q3).2.length_le
    have p2 := (h.h2 (by omega)).2.length_le
    have p1 := (h.h1 (by omega)).2.length_le
    rw [if_pos (by omega), if_pos (by omega), if_pos q3] at e
    rw [List.length_drop] at p2 p3
    have e1 := (show (Vm.enc x).length = Vm.sz x from rfl); have e2 := (show (Vm.enc y).length = Vm.sz y from rfl); have e3 := (show (Vm.enc m).length = Vm.sz m from rfl)
    omega
  · rw [if_neg q3] at e
    by_cases q2 : 2 ≤ k
    · have p2 := (h.h2 q2).2.length_le
      have p1 := (h.h1 (by omega)).2.length_le
      rw [if_pos (by omega), if_pos q2] at e
      rw [List.length_drop] at p2
      have e1 := (show (Vm.enc x).length = Vm.sz x from rfl); have e2 := (show (Vm.enc y).length = Vm.sz y from rfl)
      omega
    · rw [if_neg q2] at e
      by_cases q1 : 1 ≤ k
      · have p1 := (h.h1 q1).2.length_le
        rw [if_pos q1] at e
        have e1 := (show (Vm.enc x).length = Vm.sz x from rfl)
        omega
      · rw [if_neg q1] at e
        omega

theorem HI.base {bs : List Int} {w wr V : World} {k x y m a : Nat} {cs : Array Value} (h : HI bs w wr k x y m a) (hV : V.heap[w.heap.size + 1]? = some (.cells cs 94 (0, 0))) (gV : wr.grownBy V (some (w.heap.size + 1))) :
    V.heap[w.heap.size]? = some (.cells #[.int .i64 0, .int .i64 0, .slice none 0 0] 24 (0, 0)) ∧ Below w.heap.size w V :=
  ⟨(gV.block _ (blk_lt h.res) (by simp)).trans h.res, below_put h.bel gV (by omega) h.bel.size⟩

theorem HI.next0 {bs : List Int} {w wr V : World} {x y m a z : Nat} (h : HI bs w wr 0 x y m a) (hz : z ≤ 1048576) (hp : Vm.enc z <+: bs.drop a) (hV : V.heap[w.heap.size + 1]? = some (.cells ((#[.int .i64 x, .int .i64 y, .int .i64 m] : Array Value).setIfInBounds 0 (.int .i64 z)) 94 (0, 0))) (gV : wr.grownBy V (some (w.heap.size + 1))) : HI bs w V 1 z y m (a + Vm.sz z) := by
  have e : a = 0 := by simpa using h.at'
  subst e
  exact ⟨(h.base hV gV).1, hV, (h.base hV gV).2, by simp, fun _ => ⟨hz, by simpa using hp⟩, fun q => by omega, fun q => by omega⟩
theorem HI.next1 {bs : List Int} {w wr V : World} {x y m a z : Nat} (h : HI bs w wr 1 x y m a) (hz : z ≤ 1048576) (hp : Vm.enc z <+: bs.drop a) (hV : V.heap[w.heap.size + 1]? = some (.cells ((#[.int .i64 x, .int .i64 y, .int .i64 m] : Array Value).setIfInBounds 1 (.int .i64 z)) 94 (0, 0))) (gV : wr.grownBy V (some (w.heap.size + 1))) : HI bs w V 2 x z m (a + Vm.sz z) := by
  have e : a = Vm.sz x := by simpa using h.at'
  subst e
  exact ⟨(h.base hV gV).1, hV, (h.base hV gV).2, by simp, fun _ => h.h1 (by omega), fun _ => ⟨hz, hp⟩, fun q => by omega⟩
theorem HI.next2 {bs : List Int} {w wr V : World} {x y m a z : Nat} (h : HI bs w wr 2 x y m a) (hz : z ≤ 1048576) (hp : Vm.enc z <+: bs.drop a) (hV : V.heap[w.heap.size + 1]? = some (.cells ((#[.int .i64 x, .int .i64 y, .int .i64 m] : Array Value).setIfInBounds 2 (.int .i64 z)) 94 (0, 0))) (gV : wr.grownBy V (some (w.heap.size + 1))) : HI bs w V 3 x y z (a + Vm.sz z) := by
  have e : a = Vm.sz x + Vm.sz y := by simpa using h.at'
  subst e
  exact ⟨(h.base hV gV).1, hV, (h.base hV gV).2, by simp, fun _ => h.h1 (by omega), fun _ => h.h2 (by omega), fun _ => ⟨hz, hp⟩⟩
theorem HI.no0 {bs : List Int} {w wr : World} {x y m a : Nat} (h : HI bs w wr 0 x y m a) (hn : ∀ u : Nat, u ≤ 1048576 → ¬ Vm.enc u <+: bs.drop a) : Orp.NoH bs := by
  have e : a = 0 := by simpa using h.at'
  subst e
  exact Orp.noh1 (by simpa using hn)
theorem HI.no1 {bs : List Int} {w wr : World} {x y m a : Nat} (h : HI bs w wr 1 x y m a) (hn : ∀ u : Nat, u ≤ 1048576 → ¬ Vm.enc u <+: bs.drop a) : Orp.NoH bs := by
  have e : a = Vm.sz x := by simpa using h.at'
  subst e
  exact Orp.noh2 (h.h1 (by omega)).2 hn
theorem HI.no2 {bs : List Int} {w wr : World} {x y m a : Nat} (h : HI bs w wr 2 x y m a) (hn : ∀ u : Nat, u ≤ 1048576 → ¬ Vm.enc u <+: bs.drop a) : Orp.NoH bs := by
  have e : a = Vm.sz x + Vm.sz y := by simpa using h.at'
  subst e
  exact Orp.noh3 (h.h1 (by omega)).2 (h.h2 (by omega)).2 hn

/-- What a header is. -/
def HdR (bs : List Int) (x y m : Nat) (g : Bool) : Prop := (g = true ∧ (x ≤ 1048576 ∧ y ≤ 1048576 ∧ m ≤ 1048576) ∧ Vm.enc x ++ (Vm.enc y ++ Vm.enc m) = bs) ∨ (g = false ∧ Orp.NoH bs)

set_option maxRecDepth 20000 in
set_option maxHeartbeats 4000000 in
theorem pohd_any (vb : Value) (bs : List Int) (w : World) (hb : Is .u8 w vb bs) (hl : bs.length ≤ 140737488355328) :
    Calls Try.prog 74 #[vb] w fun E w' => ∃ (x y m : Nat) (g : Bool), E = .returned (.tuple #[.agg #[.int .i64 x, .int .i64 y, .slice none 0 0], .int .i64 m, .bool g]) ∧ Hid (HdR bs x y m g) ∧ Below w.heap.size w w' := by
  obtain ⟨w1, hw1, sz1, bel1, hR1⟩ := blk_step w #[.int .i64 0, .int .i64 0, .slice none 0 0] 24
  obtain ⟨w2, hw2, sz2, bel2, hN2⟩ := blk_step w1 #[.int .i64 0, .int .i64 0, .int .i64 0] 94
  have hR2 := (bel2.block _ (blk_lt hR1)).trans hR1
  rw [sz1] at hN2
  have bel02 := bel1.trans (bel2.mono (by omega))
  have D0 : Hid (HI bs w w2 0 0 0 0 0) := hide ⟨hR2, hN2, bel02, by simp, fun q => by omega, fun q => by omega, fun q => by omega⟩
  have HB := hide hb
  have hlen := hb.len_run Try.elemB
  have ZERO : Hid (∀ W : World, W.heap[w.heap.size]? = some (.cells #[.int .i64 0, .int .i64 0, .slice none 0 0] 24 (0, 0)) → _) := hide fun W h => zero_blk W h
  obtain ⟨ao, cap, hvb, _, _⟩ := hb.shape
  rw [hvb] at HB
  subst hvb
  clear hR1 hR2 hN2 bel1 bel2 bel02 hb
  go_enter Try.func74, Try.ntmps74
  go_wp2
  go_loopw [6, 11] (fun ee kk wr => ∃ (k a x y m : Nat), k ≤ 3 ∧ kk = .int .i64 k ∧ ee = .int .i64 a ∧ Hid (HI bs w wr k x y m a)) (fun _ kk _ => 4 - (intOf kk).toNat)
  case atStart => exact ⟨0, 0, 0, 0, 0, by omega, rfl, rfl, D0⟩
  case round =>
    obtain ⟨k, a, x, y, m, hk, rfl, rfl, D⟩ := hrel
    have hal := D.out.le
    have lt0 := blk_lt D.out.res
    clear D0
    rcases (show k = 0 ∨ k = 1 ∨ k = 2 ∨ k = 3 by omega) with rfl | rfl | rfl | rfl
    · obtain ⟨vs, hsl, isl⟩ := (HB.out.below D.out.bel).slice_l Try.elemB Try.sizeE a hal
      obtain ⟨u, i, g, hS⟩ := sres_is (bs.drop a) ((1048576 : Nat) : Int)
      have SM := hide (small_any vs (bs.drop a) 1048576 u i g wr isl (by rw [List.length_drop]; omega) (by omega) (by omega) hS)
      have ST := hide (sres_step (most := 1048576) (by omega) hS)
      clear isl hS
      go_wp2_with fail
      refine SM.out.mono ?_
      rintro E w4 ⟨rfl, rfl⟩
      clear hsl SM
      rcases ST.out with ⟨z, rfl, rfl, rfl, hz, hp⟩ | ⟨rfl, rfl, rfl, hn⟩
      · have hs10 := Vm.sz_le10 (x := z) (by omega)
        have hwr := wrap_i64_small ((a : Int) + (Vm.sz z : Int)) (by omega) (by omega)
        obtain ⟨V, hV, bV, gV, cz, fz⟩ := put3at D.out.num 0 (.int .i64 z) (by simp)
        have DN : Hid (HI bs w V 1 z y m (a + Vm.sz z)) := hide (D.out.next0 hz hp bV gV)
        clear bV gV hp D ST
        go_wp2
        go_roundw
        case rel => exact ⟨1, a + Vm.sz z, z, y, m, by omega, rfl, by go_num, DN⟩
        case measure => simp [intOf]
      · have HN := hide (D.out.no0 hn)
        obtain ⟨⟨s0, s1, s2⟩, ⟨f0, f1, f2⟩, z0, z1, z2⟩ := ZERO.out wr D.out.res
        have BB := hide D.out.bel
        clear hn D ST
        go_wp2
        refine bodyPost_ret (v := .tuple #[.agg #[.int .i64 0, .int .i64 0, .slice none 0 0], .int .i64 0, .bool false]) (by simp [results, Try.results74, go_sem, z0, z1, z2]) rfl ?_
        exact ⟨0, 0, 0, false, rfl, hide (.inr ⟨rfl, HN.out⟩), BB.out⟩
    · obtain ⟨vs, hsl, isl⟩ := (HB.out.below D.out.bel).slice_l Try.elemB Try.sizeE a hal
      obtain ⟨u, i, g, hS⟩ := sres_is (bs.drop a) ((1048576 : Nat) : Int)
      have SM := hide (small_any vs (bs.drop a) 1048576 u i g wr isl (by rw [List.length_drop]; omega) (by omega) (by omega) hS)
      have ST := hide (sres_step (most := 1048576) (by omega) hS)
      clear isl hS
      go_wp2_with fail
      refine SM.out.mono ?_
      rintro E w4 ⟨rfl, rfl⟩
      clear hsl SM
      rcases ST.out with ⟨z, rfl, rfl, rfl, hz, hp⟩ | ⟨rfl, rfl, rfl, hn⟩
      · have hs10 := Vm.sz_le10 (x := z) (by omega)
        have hwr := wrap_i64_small ((a : Int) + (Vm.sz z : Int)) (by omega) (by omega)
        obtain ⟨V, hV, bV, gV, cz, fz⟩ := put3at D.out.num 1 (.int .i64 z) (by simp)
        have DN : Hid (HI bs w V 2 x z m (a + Vm.sz z)) := hide (D.out.next1 hz hp bV gV)
        clear bV gV hp D ST
        go_wp2
        go_roundw
        case rel => exact ⟨2, a + Vm.sz z, x, z, m, by omega, rfl, by go_num, DN⟩
        case measure => simp [intOf]
      · have HN := hide (D.out.no1 hn)
        obtain ⟨⟨s0, s1, s2⟩, ⟨f0, f1, f2⟩, z0, z1, z2⟩ := ZERO.out wr D.out.res
        have BB := hide D.out.bel
        clear hn D ST
        go_wp2
        refine bodyPost_ret (v := .tuple #[.agg #[.int .i64 0, .int .i64 0, .slice none 0 0], .int .i64 0, .bool false]) (by simp [results, Try.results74, go_sem, z0, z1, z2]) rfl ?_
        exact ⟨0, 0, 0, false, rfl, hide (.inr ⟨rfl, HN.out⟩), BB.out⟩
    · obtain ⟨vs, hsl, isl⟩ := (HB.out.below D.out.bel).slice_l Try.elemB Try.sizeE a hal
      obtain ⟨u, i, g, hS⟩ := sres_is (bs.drop a) ((1048576 : Nat) : Int)
      have SM := hide (small_any vs (bs.drop a) 1048576 u i g wr isl (by rw [List.length_drop]; omega) (by omega) (by omega) hS)
      have ST := hide (sres_step (most := 1048576) (by omega) hS)
      clear isl hS
      go_wp2_with fail
      refine SM.out.mono ?_
      rintro E w4 ⟨rfl, rfl⟩
      clear hsl SM
      rcases ST.out with ⟨z, rfl, rfl, rfl, hz, hp⟩ | ⟨rfl, rfl, rfl, hn⟩
      · have hs10 := Vm.sz_le10 (x := z) (by omega)
        have hwr := wrap_i64_small ((a : Int) + (Vm.sz z : Int)) (by omega) (by omega)
        obtain ⟨V, hV, bV, gV, cz, fz⟩ := put3at D.out.num 2 (.int .i64 z) (by simp)
        have DN : Hid (HI bs w V 3 x y z (a + Vm.sz z)) := hide (D.out.next2 hz hp bV gV)
        clear bV gV hp D ST
        go_wp2
        go_roundw
        case rel => exact ⟨3, a + Vm.sz z, x, y, z, by omega, rfl, by go_num, DN⟩
        case measure => simp [intOf]
      · have HN := hide (D.out.no2 hn)
        obtain ⟨⟨s0, s1, s2⟩, ⟨f0, f1, f2⟩, z0, z1, z2⟩ := ZERO.out wr D.out.res
        have BB := hide D.out.bel
        clear hn D ST
        go_wp2
        refine bodyPost_ret (v := .tuple #[.agg #[.int .i64 0, .int .i64 0, .slice none 0 0], .int .i64 0, .bool false]) (by simp [results, Try.results74, go_sem, z0, z1, z2]) rfl ?_
        exact ⟨0, 0, 0, false, rfl, hide (.inr ⟨rfl, HN.out⟩), BB.out⟩
    · have e : a = Vm.sz x + Vm.sz y + Vm.sz m := by simpa using D.out.at'
      by_cases hae : a = bs.length
      · have hab : ((a : Int) != (bs.length : Int)) = false := by simp [hae]
        have HH : Hid (HdR bs x y m true) := hide (.inl ⟨rfl, ⟨(D.out.h1 (by omega)).1, (D.out.h2 (by omega)).1, (D.out.h3 (by omega)).1⟩, Orp.hdr_is (D.out.h1 (by omega)).2 (D.out.h2 (by omega)).2 (D.out.h3 (by omega)).2 (by omega)⟩)
        obtain ⟨Z, hZ, bZ, gZ, ⟨a0, a1, a2⟩, ⟨f0, f1, f2⟩, z0, z1, z2⟩ := res_step D.out.res (.int .i64 x) (.int .i64 y) (.slice none 0 0)
        have n0 : wr.cell? ⟨w.heap.size + 1, 0, none⟩ = some (.int .i64 x) := blk_cell D.out.num 0 rfl
        have n1 : wr.cell? ⟨w.heap.size + 1, 1, none⟩ = some (.int .i64 y) := blk_cell D.out.num 1 rfl
        have n2 : wr.cell? ⟨w.heap.size + 1, 2, none⟩ = some (.int .i64 m) := blk_cell D.out.num 2 rfl
        have m2 : Z.cell? ⟨w.heap.size + 1, 2, none⟩ = some (.int .i64 m) := blk_cell ((gZ.block _ (blk_lt D.out.num) (by simp)).trans D.out.num) 2 rfl
        have BZ := hide (below_put D.out.bel gZ (Nat.le_refl _) D.out.bel.size)
        clear D ZERO bZ gZ hae e hlen
        go_wp2
        go_region
        go_wp2
        refine bodyPost_ret (v := .tuple #[.agg #[.int .i64 x, .int .i64 y, .slice none 0 0], .int .i64 m, .bool true]) (by simp [results, Try.results74, go_sem, z0, z1, z2]) rfl ?_
        exact ⟨x, y, m, true, rfl, HH, below_drewN BZ.out 1⟩
      · have hab : ((a : Int) != (bs.length : Int)) = true := by simp; omega
        have HN : Hid (Orp.NoH bs) := hide (Orp.noh4 (D.out.h1 (by omega)).2 (D.out.h2 (by omega)).2 (D.out.h3 (by omega)).2 (by omega))
        obtain ⟨⟨s0, s1, s2⟩, ⟨f0, f1, f2⟩, z0, z1, z2⟩ := ZERO.out wr D.out.res
        have BB := hide D.out.bel
        clear D ZERO e
        go_wp2
        refine bodyPost_ret (v := .tuple #[.agg #[.int .i64 0, .int .i64 0, .slice none 0 0], .int .i64 0, .bool false]) (by simp [results, Try.results74, go_sem, z0, z1, z2]) rfl ?_
        exact ⟨0, 0, 0, false, rfl, hide (.inr ⟨rfl, HN.out⟩), BB.out⟩

/-- What a commit's frame is read as. -/
def CmO (w : World) (bs : List Int) (E : Ending) (w' : World) : Prop :=
  ∃ (c : Cw) (n : Nat) (g : Bool), E = .returned (.tuple #[.agg #[.int .i64 c.e, .int .i64 c.n, c.v], .int .i64 n, .bool g]) ∧ Hid (OwnO 66 w.heap.size w' c.v c.l ∧ Below w.heap.size w w' ∧
    ((g = true ∧ ∃ r, Fm.Rd bs r n 0 ∧ Cm.CRes r c.e c.n c.l 0) ∨ (g = false ∧ ((∃ r n e, Fm.Rd bs r n e ∧ e ≠ 0) ∨ ∃ r n e k l g, Fm.Rd bs r n 0 ∧ Cm.CRes r e k l g ∧ g ≠ 0))))

set_option maxRecDepth 20000 in
set_option maxHeartbeats 4000000 in
theorem pocm_any (vb : Value) (bs : List Int) (w : World) (hb : Is .u8 w vb bs) (hl : bs.length ≤ 140737488355328) : Calls Try.prog 75 #[vb] w (CmO w bs) := by
  obtain ⟨w1, hw1, sz1, bel1, hR1⟩ := blk_step w #[.int .i64 0, .int .i64 0, .slice none 0 0] 32
  have F1 := hide (fread_any vb bs w1 (hb.below bel1) (by omega))
  obtain ⟨ao, cap, hvb, _, _⟩ := hb.shape
  rw [hvb] at F1
  subst hvb
  have B1 := hide bel1
  have R1 := hide hR1
  clear hb hR1 bel1
  go_enter Try.func75, Try.ntmps75
  go_wp2_with fail
  refine F1.out.mono ?_
  rintro E w2 ⟨vh, hs, n0, e0, rfl, ownh, bel2, HRd⟩
  have hR2 := (bel2.block w.heap.size (by omega)).trans R1.out
  have B2 := hide (B1.out.trans (bel2.mono B1.out.size))
  obtain ⟨ah, ch, hvh, _, _⟩ := ownh.is.shape
  clear F1
  by_cases he0 : e0 = 0
  · subst he0
    have CD := hide (cdec_any vh hs w2 ownh.is (by
      rcases HRd.out with ⟨_, h1, _⟩ | ⟨h1, _⟩
      · omega
      · simp at h1))
    rw [hvh] at CD
    subst hvh
    clear ownh
    go_wp2_with fail
    refine CD.out.mono ?_
    rintro E w3 ⟨ce, cn, g, cv, cl, rfl, own3, HCR, bel3⟩
    unfold cmv
    obtain ⟨ca, ck, hcv, _, _⟩ := own3.is.shape
    have hR3 := (bel3.block _ (blk_lt hR2)).trans hR2
    have B3 := B2.out.trans (bel3.mono B2.out.size)
    obtain ⟨Z, hZ, bZ, gZ, ⟨a0, a1, a2⟩, ⟨f0, f1, f2⟩, z0, z1, z2⟩ := res_step hR3 (.int .i64 ce) (.int .i64 cn) cv
    have BZ := hide (below_put B3 gZ (Nat.le_refl _) B3.size)
    have OZ := hide ((own3.keptg gZ (blk_lt hR2)).rebase (base' := w.heap.size) B2.out.size)
    have CR := hide HCR
    have ZB := hide bZ
    obtain ⟨⟨s0, s1, s2⟩, ⟨g0, g1, g2⟩, _⟩ := zero_blk Z bZ
    rw [hcv] at hZ z2 OZ ZB s2
    subst hcv
    clear CD bel3 own3 HCR hR3 B3 gZ bZ bel2 hR2
    by_cases hg : g = 0
    · subst hg
      clear ZB
      go_wp2
      refine bodyPost_ret (v := .tuple #[.agg #[.int .i64 ce, .int .i64 cn, .slice ca cl.length ck], .int .i64 n0, .bool true]) (by simp [results, Try.results75, go_sem, z0, z1, z2]) rfl ?_
      exact ⟨⟨ce, cn, .slice ca cl.length ck, cl⟩, n0, true, rfl, hide ⟨OZ.out, BZ.out, .inl ⟨rfl, hs, HRd.out, CR.out⟩⟩⟩
    · have hgb : (g != 0) = true := by simp [hg]
      have NO := hide hg
      obtain ⟨Y, hY, bY, gY, _, _, y0, y1, y2⟩ := res_step ZB.out (.int .i64 0) (.int .i64 0) (.slice none 0 0)
      have BY := hide (below_put BZ.out gY (Nat.le_refl _) BZ.out.size)
      clear ZB gY bY hg
      go_wp2
      refine bodyPost_ret (v := .tuple #[.agg #[.int .i64 0, .int .i64 0, .slice none 0 0], .int .i64 0, .bool false]) (by simp [results, Try.results75, go_sem, y0, y1, y2]) rfl ?_
      exact ⟨⟨0, 0, .slice none 0 0, []⟩, 0, false, rfl, hide ⟨OwnO.nil _ _ _, BY.out, .inr ⟨rfl, .inr ⟨hs, n0, ce, cn, cl, g, HRd.out, CR.out, NO.out⟩⟩⟩⟩
  · have heb : (e0 != 0) = true := by simp [he0]
    obtain ⟨⟨s0, s1, s2⟩, ⟨f0, f1, f2⟩, z0, z1, z2⟩ := zero_blk w2 hR2
    have NO := hide he0
    subst hvh
    clear ownh bel2 hR2 he0
    go_wp2
    refine bodyPost_ret (v := .tuple #[.agg #[.int .i64 0, .int .i64 0, .slice none 0 0], .int .i64 0, .bool false]) (by simp [results, Try.results75, go_sem, z0, z1, z2]) rfl ?_
    exact ⟨⟨0, 0, .slice none 0 0, []⟩, 0, false, rfl, hide ⟨OwnO.nil _ _ _, B2.out, .inr ⟨rfl, .inl ⟨hs, n0, e0, HRd.out, NO.out⟩⟩⟩⟩

end Go.Proofs.Ytkpnkknolobioaa

/- The program's reading of a section (layer 19). -/
namespace Go.Proofs.Ytkpnkknolobioaa
open Go.RowKit
set_option linter.unusedVariables false

/-- In the midst of the commits: the section that is told is what was read so far. -/
structure MdP (w wr : World) (bs : List Int) (x y m a : Nat) (v : Value) (cs : List Cw) : Prop where
  blk : wr.heap[w.heap.size]? = some (.cells #[.int .i64 x, .int .i64 y, v] 24 (0, 0))
  sh : ShS (w.heap.size + 1) wr v cs
  bel : Below w.heap.size w wr
  hh : Fm.frm (Vm.enc x ++ (Vm.enc y ++ Vm.enc m)) <+: bs
  hl : Wl.lgb (cvs cs) <+: bs.drop (Fm.frm (Vm.enc x ++ (Vm.enc y ++ Vm.enc m))).length
  hc : ∀ c ∈ cvs cs, Cm.chk c.e c.n c.l = 0
  at' : a = (Fm.frm (Vm.enc x ++ (Vm.enc y ++ Vm.enc m))).length + (Wl.lgb (cvs cs)).length
  len : cs.length ≤ m
  num : x ≤ 1048576 ∧ y ≤ 1048576 ∧ m ≤ 1048576

theorem MdP.le {w wr : World} {bs : List Int} {x y m a : Nat} {v : Value} {cs : List Cw} (h : MdP w wr bs x y m a v cs) : a ≤ bs.length := by
  have h1 := h.hh.length_le
  have h2 := h.hl.length_le
  rw [List.length_drop] at h2
  rw [h.at']
  omega

/-- No commit follows. -/
theorem MdP.no {w wr : World} {bs : List Int} {x y m a : Nat} {v : Value} {cs : List Cw} (h : MdP w wr bs x y m a v cs) (hlt : cs.length < m) (hn : (∃ r n e, Fm.Rd (bs.drop a) r n e ∧ e ≠ 0) ∨ ∃ r n e k l g, Fm.Rd (bs.drop a) r n 0 ∧ Cm.CRes r e k l g ∧ g ≠ 0) : Orp.No bs := by
  refine Orp.no_mid h.hh h.hl h.hc (by rw [cvs_many]; exact hlt) fun c hc hp => ?_
  rw [← h.at'] at hp
  rcases hn with ⟨r, n, e, hr, he⟩ | ⟨r, n, e, k, l, g, hr, hd, hg⟩
  · rcases hr with ⟨h1, _⟩ | ⟨_, _, _, hn⟩
    · exact he h1
    · exact hn _ (by have := Wl.rec_small hc; omega) hp
  · rcases hr with ⟨_, _, _, hq⟩ | ⟨h1, _⟩
    · rcases hd with ⟨h1, _⟩ | ⟨_, _, _, _, hn⟩
      · exact hg h1
      · exact hn _ _ _ hc (Fm.frm_one hp hq)
    · simp at h1

/-- A commit more. -/
theorem MdP.push {w wr w6 : World} {bs : List Int} {x y m a : Nat} {v : Value} {cs : List Cw} (h : MdP w wr bs x y m a v cs) (hb : Below wr.heap.size wr w6) (hlt : cs.length < m) {r : List Int} {n : Nat} (hr : Fm.Rd (bs.drop a) r n 0) {e k : Int} {l : List Bm.Ov} (hd : Cm.CRes r e k l 0) {v' : Value} (ho : OwnO 66 wr.heap.size w6 v' l) :
    ∃ V, w6.alloc (.cells #[.int .i64 e, .int .i64 k, v'] 32) = V ∧ V.cell? ⟨w.heap.size, 2, none⟩ = some v ∧ Hid (∀ ty, ∃ v2 w2, (Builtin.append_ #[22, 22] ty #[v, .slice (some ⟨w6.heap.size, 0, none⟩) 1 1]).run Try.prog V = .ok v2 w2 ∧
      ((∃ U, w2.setCell ⟨w.heap.size, 2, none⟩ v2 = U ∧ MdP w U bs x y m (a + n) v2 (cs ++ [⟨e, k, v', l⟩])) ∧ w2.cell? ⟨w.heap.size, 2, none⟩ = some v ∧ w2.frozen? ⟨w.heap.size, 2, none⟩ = false ∧ ∃ a n k, v2 = .slice a n k)) := by
  obtain ⟨g1, g2, g3, g4, g5, g6⟩ := mdo_next (v' := v') h.hl h.hc h.at' hr hd
  have hS := blk_lt h.blk
  obtain ⟨V, hV, belV, szV, hpu⟩ := h.sh.push (by omega) hb ⟨e, k, v', l⟩ ho (cfit_ok g1) (by have := h.num; have := h.len; omega)
  have bwV : Below wr.heap.size wr V := hb.trans (belV.mono hb.size)
  have hBV := (bwV.block w.heap.size hS).trans h.blk
  refine ⟨V, hV, blk_cell hBV 2 rfl, hide fun ty => ?_⟩
  obtain ⟨v2, w2, hrun, sh2, gr2, hsl⟩ := hpu ty
  have hvb : ∀ g, v.ownBlock = some g → w.heap.size + 1 ≤ g := fun g hg => (World.ownsRow.lt h.sh.c g hg).1
  have hB2 := (gr2.block w.heap.size (blk_lt hBV) fun e => by have := hvb _ e.symm; omega).trans hBV
  obtain ⟨U, hU, bU, gU, fU⟩ := put_c hB2 2 v2
  refine ⟨v2, w2, hrun, ⟨⟨U, hU, ?_⟩, blk_cell hB2 2 rfl, fU, hsl⟩⟩
  have b2 : Below w.heap.size w w2 := (h.bel.trans (bwV.mono h.bel.size)).grown gr2 (by have := bwV.size; have := h.bel.size; omega) fun g hg => by have := hvb g hg; omega
  exact ⟨by rw [bU]; rfl, sh2.out (F := fun g => g = w.heap.size) (Out.of_grown gU fun g hg => by simp at hg; exact hg.symm) (fun g hg => by rw [hg]; omega), below_put b2 gU (Nat.le_refl _) b2.size, h.hh, g4, g5, g6, by rw [List.length_append, List.length_singleton]; omega, h.num⟩

set_option maxRecDepth 20000 in
set_option maxHeartbeats 8000000 in
theorem poread_any (vb : Value) (bs : List Int) (w : World) (hb : Is .u8 w vb bs) (hl : bs.length ≤ 140737488355328) : Calls Try.prog 42 #[vb] w (RdO w bs) := by
  obtain ⟨w1, hw1, sz1, bel1, hR1⟩ := blk_step w #[.int .i64 0, .int .i64 0, .slice none 0 0] 24
  have HB := hide hb
  have F1 := hide (fread_any vb bs w1 (hb.below bel1) (by omega))
  obtain ⟨ao, cap, hvb, _, _⟩ := hb.shape
  rw [hvb] at HB F1
  subst hvb
  have B1 := hide bel1
  have R1 := hide hR1
  clear hb hR1 bel1
  go_enter Try.func42, Try.ntmps42
  go_wp2_with fail
  refine F1.out.mono ?_
  rintro E w2 ⟨vh, hs, n0, e0, rfl, ownh, bel2, HRd⟩
  have hR2 := (bel2.block w.heap.size (by omega)).trans R1.out
  have B2 := hide (B1.out.trans (bel2.mono B1.out.size))
  obtain ⟨ah, ch, hvh, _, _⟩ := ownh.is.shape
  clear F1 R1
  by_cases he0 : e0 = 0
  · subst he0
    have HF : Hid (Fm.frm hs <+: bs ∧ n0 = (Fm.frm hs).length ∧ hs.length ≤ 131072) := hide (by
      rcases HRd.out with ⟨_, h1, h2, h3⟩ | ⟨h1, _⟩
      · exact ⟨h3, by rw [h2, Fm.frm_len], h1⟩
      · simp at h1)
    have HD := hide (pohd_any vh hs w2 ownh.is (by have := HF.out.2.2; omega))
    rw [hvh] at HD
    subst hvh
    clear ownh bel2 HRd
    go_wp2_with fail
    refine HD.out.mono ?_
    rintro E w3 ⟨x, y, m, g, rfl, HX, bel3⟩
    have hR3 := (bel3.block _ (blk_lt hR2)).trans hR2
    have B3 := B2.out.trans (bel3.mono B2.out.size)
    obtain ⟨Z, hZ, bZ, gZ, ⟨a0, a1, a2⟩, ⟨f0, f1, f2⟩, z0, z1, z2⟩ := res_step hR3 (.int .i64 x) (.int .i64 y) (.slice none 0 0)
    have BZ := hide (below_put B3 gZ (Nat.le_refl _) B3.size)
    have ZB := hide bZ
    clear HD hR2 hR3 B3 B2 bel3 gZ bZ
    cases g with
    | false =>
      have NO : Hid (Orp.No bs) := hide (Orp.no_hdr HF.out.1 (by
        rcases HX.out with ⟨h1, _⟩ | ⟨_, h⟩
        · simp at h1
        · exact h))
      obtain ⟨Y, hY, bY, gY, _, ⟨g0, g1, g2⟩, y0, y1, y2⟩ := res_step ZB.out (.int .i64 0) (.int .i64 0) (.slice none 0 0)
      have BY := hide (below_put BZ.out gY (Nat.le_refl _) BZ.out.size)
      clear ZB gY bY BZ HX HF HB
      go_wp2
      refine bodyPost_ret (v := .tuple #[.agg #[.int .i64 0, .int .i64 0, .slice none 0 0], .int .i64 0, .bool false]) (by simp [results, Try.results42, go_sem, y0, y1, y2]) rfl ?_
      exact rdo_no BY.out NO.out
    | true =>
      have MM : Hid (MdP w Z bs x y m n0 (.slice none 0 0) []) := hide (by
        rcases HX.out with ⟨_, h1, h2⟩ | ⟨h1, _⟩
        · exact ⟨ZB.out, ShS.nil _ _, BZ.out, by rw [h2]; exact HF.out.1, by simp [cvs, Wl.lgb, Fm.cat], fun c hc => by simp [cvs] at hc, by rw [h2]; simpa [cvs, Wl.lgb, Fm.cat] using HF.out.2.1, Nat.zero_le _, h1⟩
        · simp at h1)
      have hm := MM.out.num.2.2
      have hn0 := MM.out.le
      clear ZB BZ HX HF
      go_wp2
      go_loopw [3, 31] (fun av kv wr => ∃ (a : Nat) (v : Value) (cs : List Cw), a ≤ bs.length ∧ cs.length ≤ m ∧ av = .int .i64 a ∧ kv = .int .i64 cs.length ∧ Hid (MdP w wr bs x y m a v cs)) (fun _ kv _ => m - (intOf kv).toNat)
      case atStart => exact ⟨n0, _, [], hn0, by simp, rfl, rfl, MM⟩
      case round =>
        clear MM z0 z1 z2
        obtain ⟨a, v, cs, hle, hcl, rfl, rfl, M⟩ := hrel
        obtain ⟨av, kv, hvv, _, _⟩ := M.out.sh.c.row.shape
        rw [hvv] at M
        subst hvv
        obtain ⟨c0, c1, c2⟩ : wr.cell? ⟨w.heap.size, 0, none⟩ = some (.int .i64 x) ∧ wr.cell? ⟨w.heap.size, 1, none⟩ = some (.int .i64 y) ∧ wr.cell? ⟨w.heap.size, 2, none⟩ = some (.slice av cs.length kv) := ⟨blk_cell M.out.blk 0 rfl, blk_cell M.out.blk 1 rfl, blk_cell M.out.blk 2 rfl⟩
        by_cases hlt : cs.length < m
        · have hlt' : (cs.length : Int) < m := by omega
          obtain ⟨vs, hsl, isl⟩ := (HB.out.below M.out.bel).slice_l Try.elemB Try.sizeE a hle
          have FR := hide (pocm_any vs (bs.drop a) wr isl (by rw [List.length_drop]; omega))
          clear isl c0 c1 c2
          go_wp2_with fail
          refine FR.out.mono ?_
          rintro E w9 ⟨c, n, g, rfl, H9⟩
          obtain ⟨ca, ck, hcv, _, _⟩ := H9.out.1.is.shape
          have bel9 := H9.out.2.1
          obtain ⟨wb, hwb, hwb', szb, belb, bb, k0, k1, k2⟩ := new_step w9 32 (.int .i64 0) (.int .i64 0) (.slice none 0 0) (.int .i64 c.e) (.int .i64 c.n) c.v
          have belrb : Below wr.heap.size wr wb := bel9.trans (belb.mono bel9.size)
          have OB := hide (H9.out.1.below belb)
          have BRB := hide belrb
          rw [hcv] at hwb hwb' k2 ⊢
          have HCV := hide hcv
          clear FR hsl bb belb bel9 belrb
          cases g with
          | false =>
            have NO : Hid (Orp.No bs) := hide (M.out.no hlt (by
              rcases H9.out.2.2 with ⟨h1, _⟩ | ⟨_, h⟩
              · simp at h1
              · exact h))
            have hBb := (BRB.out.block _ (blk_lt M.out.blk)).trans M.out.blk
            have bwb := M.out.bel.trans (BRB.out.mono M.out.bel.size)
            obtain ⟨Y, hY, bY, gY, ⟨i0, i1, i2⟩, ⟨g0, g1, g2⟩, y0, y1, y2⟩ := res_step hBb (.int .i64 0) (.int .i64 0) (.slice none 0 0)
            have BY := hide (below_put bwb gY (Nat.le_refl _) bwb.size)
            clear gY bY bwb hBb M H9 OB BRB szb
            go_wp2
            refine bodyPost_ret (v := .tuple #[.agg #[.int .i64 0, .int .i64 0, .slice none 0 0], .int .i64 0, .bool false]) (by simp [results, Try.results42, go_sem, y0, y1, y2]) rfl ?_
            exact rdo_no BY.out NO.out
          | true =>
            have HR : Hid (∃ r, Fm.Rd (bs.drop a) r n 0 ∧ Cm.CRes r c.e c.n c.l 0) := hide (by
              rcases H9.out.2.2 with ⟨_, h⟩ | ⟨h1, _⟩
              · exact h
              · simp at h1)
            obtain ⟨r, hr1, hr2⟩ := HR.out
            obtain ⟨V, hV, cV, XX⟩ := M.out.push BRB.out hlt hr1 hr2 OB.out
            have NN := hide (mdo_next (v' := c.v) M.out.hl M.out.hc M.out.at' hr1 hr2)
            have cb2 : wb.cell? ⟨w.heap.size, 2, none⟩ = some (.slice av cs.length kv) := (BRB.out.cell (p := ⟨w.heap.size, 2, none⟩) (blk_lt M.out.blk)).trans (blk_cell M.out.blk 2 rfl)
            have hna := NN.out.2.2.1
            rw [HCV.out] at hV
            clear NN OB HR hr1 hr2 BRB H9 M szb HCV
            go_wp2_with (at_builtin; refine wpList_append_at rfl (.tmp 45) (.tmp 47) 22 rfl (.slice av cs.length kv) (.slice (some ⟨wb.heap.size, 0, none⟩) 1 1) rfl rfl XX.out ?_)
            rintro v8 w8 MU c8 f8 a8 n8 k8 rfl
            obtain ⟨U, hU⟩ : ∃ U, w8.setCell ⟨w.heap.size, 2, none⟩ (.slice a8 n8 k8) = U := ⟨_, rfl⟩
            rw [hU] at MU
            have MU2 := hide MU
            have HL2 : Hid (∀ d : Cw, (cs ++ [d]).length = cs.length + 1) := hide fun d => by simp
            clear MU XX
            go_wp2
            go_roundw
            case rel => exact ⟨a + n, _, _, by omega, by rw [HL2.out]; omega, by go_num, by rw [HL2.out]; go_num, MU2⟩
            case measure => simp [intOf]; omega
        · have hlt' : ¬ (cs.length : Int) < m := by omega
          have hlm : cs.length = m := by omega
          have hcl : (cvs cs).length = m := by rw [cvs_many]; exact hlm
          obtain ⟨ck, hck⟩ : ∃ z, Orp.chk ⟨x, y, cvs cs⟩ = z := ⟨_, rfl⟩
          have RDX : Hid ((ck = 0 → Orp.Rd bs ⟨x, y, cvs cs⟩ a true) ∧ (ck ≠ 0 → Orp.No bs)) := hide (by
            have h1 := M.out.hh
            have h2 := M.out.hl
            have h3 := M.out.at'
            rw [← hcl] at h1 h2 h3
            refine ⟨fun h0 => ?_, fun h0 => Orp.no_end h1 h2 M.out.hc (by rw [hck]; exact h0)⟩
            obtain ⟨k1, k2⟩ := Orp.is_end h1 h2
            exact .inl ⟨rfl, by rw [hck]; exact h0, k1, by rw [k2]; exact h3⟩)
          have IX : Hid (In64 (x : Int) ∧ In64 (y : Int)) := hide ⟨⟨by omega, by have := M.out.num; omega⟩, ⟨by omega, by have := M.out.num; omega⟩⟩
          have CK := hide (pochk_any x y (.slice av cs.length kv) cs wr M.out.sh.isC M.out.sh.f (by omega))
          unfold cmv at CK
          rw [hck] at CK
          clear hck hcl hlm HB
          go_wp2_with fail
          refine CK.out.mono ?_
          rintro E w9 ⟨rfl, bel9⟩
          have hB9 := (bel9.block _ (blk_lt M.out.blk)).trans M.out.blk
          have sh9 := M.out.sh.below bel9
          have b9 := M.out.bel.trans (bel9.mono M.out.bel.size)
          by_cases h0 : ck = 0
          · subst h0
            obtain ⟨⟨s0, s1, s2⟩, ⟨f0, f1, f2⟩, z0, z1, z2⟩ := zero_blk w9 hB9
            have RD0 := hide (RDX.out.1 rfl)
            have SH := hide (sh9.rebase (b' := w.heap.size) (by omega))
            have BB := hide b9
            clear hB9 sh9 b9 bel9 CK M c0 c1 c2
            go_wp2
            refine bodyPost_ret (v := .tuple #[.agg #[.int .i64 x, .int .i64 y, .slice av cs.length kv], .int .i64 a, .bool true]) (by simp [results, Try.results42, go_sem, z0, z1, z2]) rfl ?_
            exact ⟨⟨x, y, .slice av cs.length kv, cs⟩, a, true, rfl, hide ⟨SH.out, IX.out.1, IX.out.2, RD0.out, BB.out⟩⟩
          · have hne : (ck != 0) = true := by simp [h0]
            have NO := hide (RDX.out.2 h0)
            obtain ⟨Y, hY, bY, gY, ⟨i0, i1, i2⟩, ⟨g0, g1, g2⟩, y0, y1, y2⟩ := res_step hB9 (.int .i64 0) (.int .i64 0) (.slice none 0 0)
            have BY := hide (below_put b9 gY (Nat.le_refl _) b9.size)
            clear gY bY b9 hB9 M sh9 bel9 CK h0 c0 c1 c2
            go_wp2
            refine bodyPost_ret (v := .tuple #[.agg #[.int .i64 0, .int .i64 0, .slice none 0 0], .int .i64 0, .bool false]) (by simp [results, Try.results42, go_sem, y0, y1, y2]) rfl ?_
            exact rdo_no BY.out NO.out
  · have heb : (e0 != 0) = true := by simp [he0]
    have NO : Hid (Orp.No bs) := hide (Orp.no_frm (by
      rcases HRd.out with ⟨h1, _⟩ | ⟨_, _, _, h⟩
      · exact absurd h1 he0
      · exact h))
    obtain ⟨⟨s0, s1, s2⟩, ⟨f0, f1, f2⟩, z0, z1, z2⟩ := zero_blk w2 hR2
    subst hvh
    clear HRd ownh bel2 hR2
    go_wp2
    refine bodyPost_ret (v := .tuple #[.agg #[.int .i64 0, .int .i64 0, .slice none 0 0], .int .i64 0, .bool false]) (by simp [results, Try.results42, go_sem, z0, z1, z2]) rfl ?_
    exact rdo_no B2.out NO.out

end Go.Proofs.Ytkpnkknolobioaa

/- A row of commits or runs of one's own: an element is stored. No program. -/
namespace Go.Proofs.Ytkpnkknolobioaa
open Go.RowKit
set_option linter.unusedVariables false

theorem ccells_set (l : List Cw) (i : Nat) (c : Cw) (hi : i < l.length) : (((ccells l).set (i * 3) (.int .i64 c.e)).set (i * 3 + 1) (.int .i64 c.n)).set (i * 3 + 2) c.v = ccells (l.set i c) := by
  induction l generalizing i with
  | nil => simp at hi
  | cons d l ih =>
    cases i with
    | zero => simp [ccells, ccell]
    | succ i =>
      have := ih i (by simpa using hi)
      rw [show (i + 1) * 3 = i * 3 + 3 by omega]
      simp only [ccells, ccell, List.set_cons_succ, List.cons_append, List.nil_append]
      rw [← this]

theorem own_putC {e base g n cap : Nat} {w : World} {l : List Cw} (h : OwnR e base w (.slice (some ⟨g, 0, none⟩) n cap) l) (hn : l.length = n) (i : Nat) (hi : i < n) (c : Cw) :
    ∃ W, ((w.setCell ⟨g, i * 3, none⟩ (.int .i64 c.e)).setCell ⟨g, i * 3 + 1, none⟩ (.int .i64 c.n)).setCell ⟨g, i * 3 + 2, none⟩ c.v = W ∧ OwnR e base W (.slice (some ⟨g, 0, none⟩) n cap) (l.set i c) ∧ w.grownBy W (some g) := by
  subst hn
  unfold OwnR at h
  have s1 := h.stored (i * 3) (.int .i64 c.e)
  have s2 := s1.1.stored (i * 3 + 1) (.int .i64 c.n)
  have s3 := s2.1.stored (i * 3 + 2) c.v
  refine ⟨_, rfl, ?_, grown_trans s1.2 (grown_trans s2.2 s3.2)⟩
  unfold OwnR
  rw [List.length_set, ← ccells_set l i c hi]
  exact s3.1

theorem own_atC {e base g n cap : Nat} {w : World} {l : List Cw} (h : OwnR e base w (.slice (some ⟨g, 0, none⟩) n cap) l) (hn : l.length = n) (i : Nat) (c : Cw) (hc : l[i]? = some c) :
    (w.cell? ⟨g, i * 3, none⟩ = some (.int .i64 c.e) ∧ w.cell? ⟨g, i * 3 + 1, none⟩ = some (.int .i64 c.n) ∧ w.cell? ⟨g, i * 3 + 2, none⟩ = some c.v) ∧ (w.frozen? ⟨g, i * 3, none⟩ = false ∧ w.frozen? ⟨g, i * 3 + 1, none⟩ = false ∧ w.frozen? ⟨g, i * 3 + 2, none⟩ = false) := by
  subst hn
  unfold OwnR at h
  obtain ⟨hi, rfl⟩ := List.getElem?_eq_some_iff.1 hc
  obtain ⟨a0, a1, a2⟩ := ccells_at l i hi
  exact ⟨⟨by rw [h.cellAt (i * 3) (by omega)]; exact a0, by rw [h.cellAt (i * 3 + 1) (by omega)]; exact a1, by rw [h.cellAt (i * 3 + 2) (by omega)]; exact a2⟩, h.frozenAt _, h.frozenAt _, h.frozenAt _⟩

end Go.Proofs.Ytkpnkknolobioaa

/- Copies of commits, one after the other, in a row of one's own. No program. -/
namespace Go.Proofs.Ytkpnkknolobioaa
open Go.RowKit
set_option linter.unusedVariables false

/-- The copies so far. -/
structure Fst (w wr : World) (g m cap : Nat) (rest : List Cw) (k : Nat) (rk : List Cw) : Prop where
  row : OwnR 32 w.heap.size wr (.slice (some ⟨g, 0, none⟩) m cap) rk
  len : rk.length = m
  left : rk.drop k = rest.drop k
  cop : CopyR w.heap.size wr (rk.take k)
  is : cvs rk = cvs rest
  ap : ApC (rk.take k)
  bel : Below w.heap.size w wr

theorem Fst.next {w wr w2 w3 : World} {g m cap : Nat} {rest rk : List Cw} {k : Nat} (h : Fst w wr g m cap rest k rk) {c : Cw} (hc : rest[k]? = some c) (hk : k < m) {v' : Value} (ho : OwnO 66 wr.heap.size w2 v' c.l) (hb : Below wr.heap.size wr w2)
    (hr : OwnR 32 w.heap.size w3 (.slice (some ⟨g, 0, none⟩) m cap) (rk.set k ⟨c.e, c.n, v', c.l⟩)) (hg : w2.grownBy w3 (some g)) : Fst w w3 g m cap rest (k + 1) (rk.set k ⟨c.e, c.n, v', c.l⟩) := by
  have hlen := h.len
  have hrk : rk[k]? = some c := by
    have e1 : (rk.drop k)[0]? = (rest.drop k)[0]? := by rw [h.left]
    rw [List.getElem?_drop, List.getElem?_drop] at e1
    simpa using e1.trans (by simpa using hc)
  have htk : (rk.set k ⟨c.e, c.n, v', c.l⟩).take (k + 1) = rk.take k ++ [⟨c.e, c.n, v', c.l⟩] := by
    rw [List.take_succ_eq_append_getElem (by rw [List.length_set]; omega), List.take_set_of_le (Nat.le_refl _)]
    simp
  have hrow2 : OwnR 32 w.heap.size w2 (.slice (some ⟨g, 0, none⟩) m cap) rk := h.row.below hb
  have kt : KeepT 32 w2 w3 := KeepT.of_row hrow2 hg
  refine ⟨hr, by rw [List.length_set]; exact hlen, ?_, ?_, ?_, ?_, ?_⟩
  · rw [List.drop_set_of_lt (by omega), ← List.drop_drop, h.left, List.drop_drop]
  · rw [htk]
    exact ((h.cop.below hb).keepT kt).snoc (c := ⟨c.e, c.n, v', c.l⟩) ((ho.keepT kt (by decide)).rebase h.bel.size)
  · rw [← h.is]
    unfold cvs
    rw [List.map_set]
    apply List.ext_getElem?
    intro i
    rw [List.getElem?_set]
    by_cases hik : k = i
    · subst hik
      rw [if_pos rfl, if_pos (by rw [List.length_map]; omega), List.getElem?_map, hrk]
      rfl
    · rw [if_neg hik]
  · rw [htk]
    refine apc_snoc (N := wr.heap.size) h.ap (fun d hd b hb => ((h.cop d hd).block b hb).2) fun b hb => (OwnO.block ho b hb).1
  · have b2 := h.bel.trans (hb.mono h.bel.size)
    refine b2.grown hg b2.size fun i hi => ?_
    have := (World.ownsRow.lt h.row g rfl).1
    simp only [Option.some.injEq] at hi
    omega

end Go.Proofs.Ytkpnkknolobioaa
