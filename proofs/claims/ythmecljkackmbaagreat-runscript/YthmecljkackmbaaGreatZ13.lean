/- Texts of one layer, one behind the other. -/
import Derived.Test.YthmecljkackmbaaGreatZ9
import Derived.Test.YthmecljkackmbaaGreatZ12
import Derived.Test.YthmecljkackmbaaGreatZ7
import Derived.Test.YthmecljkackmbaaGreatZ10
import Derived.Test.YthmecljkackmbaaGreatZ11
/- The contracts of run.read and run.Decode. -/
namespace Go.Proofs.YthmecljkackmbaaGreat
open Go.RowKit
open Bm (Ov)
set_option linter.unusedVariables false

theorem Tryz.elemB3 : Tryz.prog.underlying 112 = some (.slice (Tryz.prog.elem 112)) := by kernel_rfl

theorem Tryz.sizeB3 (wx : World) : (sizeOf (Tryz.prog.elem 112)).run Tryz.prog wx = .ok 1 wx := by kernel_rfl

theorem swap_cells {w : World} {g : Nat} {cs : Array Value} {t : TypeId} {fr : Nat × Nat} (hg : w.heap[g]? = some (.cells cs t fr)) (a b : Value) : (w.setCell ⟨g, 1, none⟩ b).setCell ⟨g, 0, none⟩ a = (w.setCell ⟨g, 0, none⟩ a).setCell ⟨g, 1, none⟩ b := by
  have : ((w.setCell ⟨g, 1, none⟩ b).setCell ⟨g, 0, none⟩ a).heap = ((w.setCell ⟨g, 0, none⟩ a).setCell ⟨g, 1, none⟩ b).heap := by
    apply Array.ext_getElem?
    intro i
    by_cases h : i = g
    · subst h
      rw [set_cells (set_cells hg 1 b) 0 a, set_cells (set_cells hg 0 a) 1 b, Array.setIfInBounds_comm _ _ (by decide)]
    · rw [Below.heap_setCell _ _ _ _ h, Below.heap_setCell _ _ _ _ h, Below.heap_setCell _ _ _ _ h, Below.heap_setCell _ _ _ _ h]
  have e : (w.setCell ⟨g, 1, none⟩ b).setCell ⟨g, 0, none⟩ a = { w with heap := ((w.setCell ⟨g, 1, none⟩ b).setCell ⟨g, 0, none⟩ a).heap } := rfl
  rw [e, this]
  rfl

/-- A cell of a block is written. -/
theorem put_at3 {V : World} {R : Nat} {t : TypeId} {cs : Array Value} (hR : V.heap[R]? = some (.cells cs t (0, 0))) (j : Nat) (u : Value) :
    ∃ V', V.setCell ⟨R, j, none⟩ u = V' ∧ V'.heap[R]? = some (.cells (cs.setIfInBounds j u) t (0, 0)) ∧ V.grownBy V' (some R) ∧ V.frozen? ⟨R, j, none⟩ = false :=
  ⟨_, rfl, set_cells hR j u, grown_setCell _ _ _, blk_froz hR j⟩

/-- The first k numbers are read. -/
def Nr (bs : List Int) (x y m k a : Nat) : Prop := match k with
  | 0 => a = 0
  | 1 => Vm.enc x <+: bs ∧ a = Vm.sz x ∧ x ≤ 1048576
  | 2 => Vm.enc x <+: bs ∧ Vm.enc y <+: bs.drop (Vm.sz x) ∧ a = Vm.sz x + Vm.sz y ∧ x ≤ 1048576 ∧ y ≤ 1048576
  | _ => Vm.enc x <+: bs ∧ Vm.enc y <+: bs.drop (Vm.sz x) ∧ Vm.enc m <+: bs.drop (Vm.sz x + Vm.sz y) ∧ a = Vm.sz x + Vm.sz y + Vm.sz m ∧ x ≤ 1048576 ∧ y ≤ 1048576 ∧ m ≤ 1048576

theorem enc_in {bs : List Int} {x a : Nat} (h : Vm.enc x <+: bs.drop a) (ha : a ≤ bs.length) : a + Vm.sz x ≤ bs.length := by
  have := h.length_le
  rw [List.length_drop] at this
  have e : (Vm.enc x).length = Vm.sz x := rfl
  omega

theorem Nr.le {bs : List Int} {x y m k a : Nat} (h : Nr bs x y m k a) : a ≤ bs.length := by
  unfold Nr at h
  split at h
  · omega
  · have := h.1.length_le
    have e : (Vm.enc x).length = Vm.sz x := rfl
    omega
  · obtain ⟨h1, h2, h3, _⟩ := h
    have := h1.length_le
    have e : (Vm.enc x).length = Vm.sz x := rfl
    have := enc_in h2 (by omega)
    omega
  · obtain ⟨h1, h2, h3, h4, _⟩ := h
    have := h1.length_le
    have e : (Vm.enc x).length = Vm.sz x := rfl
    have := enc_in h2 (by omega)
    have := enc_in h3 (by omega)
    omega

/-- What reading a run comes to. -/
def RdR (bs : List Int) (x y : Int) (l : List Ov) (a e : Int) : Prop :=
  (e = 5 ∧ x = 0 ∧ y = 0 ∧ l = [] ∧ a = 0 ∧ Rn.No bs) ∨
  (e = 0 ∧ ∃ X Y : Nat, x = X ∧ y = Y ∧ X ≤ 1048576 ∧ Y ≤ 1048576 ∧ l.length ≤ 1048576 ∧ Vm.enc X <+: bs ∧ Vm.enc Y <+: bs.drop (Vm.sz X) ∧ Vm.enc l.length <+: bs.drop (Vm.sz X + Vm.sz Y) ∧ Rn.ens l <+: bs.drop (Vm.sz X + Vm.sz Y + Vm.sz l.length) ∧ (∀ o ∈ l, o.c = 0) ∧ a = ((Vm.sz X + Vm.sz Y + Vm.sz l.length + (Rn.ens l).length : Nat) : Int))

/-- In the midst of the ops. -/
structure RdO (bs : List Int) (w wr : World) (x y m a : Nat) (v : Value) (l : List Ov) : Prop where
  blk : wr.heap[w.heap.size]? = some (.cells #[.int .i64 x, .int .i64 y, v] 93 (0, 0))
  own : OwnO 81 (w.heap.size + 2) wr v l
  bel : Below w.heap.size w wr
  sz : w.heap.size + 2 ≤ wr.heap.size
  nr : Nr bs x y m 3 (Vm.sz x + Vm.sz y + Vm.sz m)
  ens : Rn.ens l <+: bs.drop (Vm.sz x + Vm.sz y + Vm.sz m)
  ok : ∀ o ∈ l, o.c = 0
  a : a = Vm.sz x + Vm.sz y + Vm.sz m + (Rn.ens l).length

theorem RdO.le {bs : List Int} {w wr : World} {x y m a : Nat} {v : Value} {l : List Ov} (h : RdO bs w wr x y m a v l) : a ≤ bs.length := by
  have h1 := h.nr.le
  have h2 := h.ens.length_le
  have h3 := h.a
  rw [List.length_drop] at h2
  omega

theorem RdO.bad {bs : List Int} {w wr : World} {x y m a : Nat} {v : Value} {l : List Ov} (h : RdO bs w wr x y m a v l) (hlt : l.length < m) {p : Bool} {k u : List UInt8} {n : Int} (hr : Om.ORes (bs.drop a) p k u n 5) : Rn.No bs := by
  obtain ⟨h1, h2, h3, _⟩ := h.nr
  refine Rn.no4 h1 h2 h3 h.ens h.ok hlt fun o ho hp => ?_
  rcases hr with ⟨h0, _⟩ | ⟨_, _, _, _, _, hn⟩
  · cases h0
  · rw [h.a] at hn
    exact hn o.p o.kl o.vl ho hp

theorem RdO.more {bs : List Int} {w wr : World} {x y m a : Nat} {v : Value} {l : List Ov} (h : RdO bs w wr x y m a v l) {o : Ov} {n : Int} (hr : Om.ORes (bs.drop a) o.p o.kl o.vl n 0) :
    o.c = 0 ∧ Rn.ens (l ++ [o]) <+: bs.drop (Vm.sz x + Vm.sz y + Vm.sz m) ∧ (∀ q ∈ l ++ [o], q.c = 0) ∧ ∃ j : Nat, n = (j : Int) ∧ a + j = Vm.sz x + Vm.sz y + Vm.sz m + (Rn.ens (l ++ [o])).length ∧ j ≤ 51 := by
  rcases hr with ⟨_, h1, h2, h3⟩ | ⟨h0, _⟩
  · refine ⟨h1, ?_, fun q hq => ?_, (Om.opEnc o.p o.kl o.vl).length, h3, ?_, Om.opEnc_le h1⟩
    · rw [Rn.ens_snoc, Bm.pre_app, List.drop_drop, ← h.a]
      exact ⟨h.ens, h2⟩
    · rcases List.mem_append.1 hq with hq | hq
      · exact h.ok q hq
      · rw [List.mem_singleton.1 hq]; exact h1
    · rw [Rn.ens_snoc, List.length_append, h.a]
      omega
  · cases h0

theorem RdO.fin {bs : List Int} {w wr : World} {x y m a : Nat} {v : Value} {l : List Ov} (h : RdO bs w wr x y m a v l) (hm : l.length = m) : RdR bs x y l a 0 := by
  have hn := h.nr
  have he := h.ens
  have ha := h.a
  subst hm
  obtain ⟨h1, h2, h3, _, h5, h6, h7⟩ := hn
  exact .inr ⟨rfl, x, y, rfl, rfl, h5, h6, h7, h1, h2, h3, he, h.ok, by rw [ha]⟩

set_option maxRecDepth 20000 in
set_option maxHeartbeats 4000000 in
theorem hread_any (vb : Value) (bs : List Int) (w : World) (hb : Is .u8 w vb bs) (hl : bs.length ≤ 140737488355328) :
    Calls Tryz.prog 173 #[vb] w fun E w' => ∃ (x y a e : Int) (v : Value) (l : List Ov), E = .returned (.tuple #[cmv x y v, .int .i64 a, .int .i64 e]) ∧ OwnO 81 w.heap.size w' v l ∧ Hid (RdR bs x y l a e) ∧ Below w.heap.size w w' := by
  unfold cmv
  obtain ⟨w1, hw1, sz1, bel1, hR1⟩ := blk_step w #[.int .i64 0, .int .i64 0, .slice none 0 0] 93
  obtain ⟨w2, hw2, sz2, bel2, hN2⟩ := blk_step w1 #[.int .i64 0, .int .i64 0, .int .i64 0] 179
  have hR2 := (bel2.block _ (blk_lt hR1)).trans hR1
  rw [sz1] at hN2
  have bel02 := bel1.trans (bel2.mono (by omega))
  have HBS := hide hb
  obtain ⟨ao, cap, hvb, _, _⟩ := hb.shape
  have D0 : Hid (w2.heap[w.heap.size]? = some (.cells #[.int .i64 0, .int .i64 0, .slice none 0 0] 93 (0, 0)) ∧ w2.heap[w.heap.size + 1]? = some (.cells #[.int .i64 (0 : Nat), .int .i64 (0 : Nat), .int .i64 (0 : Nat)] 179 (0, 0)) ∧ Below w.heap.size w w2 ∧ Nr bs 0 0 0 0 0) := hide ⟨hR2, hN2, bel02, rfl⟩
  subst hvb
  clear hR1 hR2 hN2 bel1 bel2 hb bel02
  go_enter Tryz.func173, Tryz.ntmps173
  go_wp2
  go_loopw [3, 13] (fun aa kk wr => ∃ (k a x y m : Nat), k ≤ 3 ∧ kk = .int .i64 k ∧ aa = .int .i64 a ∧ Hid (wr.heap[w.heap.size]? = some (.cells #[.int .i64 0, .int .i64 0, .slice none 0 0] 93 (0, 0)) ∧ wr.heap[w.heap.size + 1]? = some (.cells #[.int .i64 x, .int .i64 y, .int .i64 m] 179 (0, 0)) ∧ Below w.heap.size w wr ∧ Nr bs x y m k a)) (fun _ kk _ => 4 - (intOf kk).toNat)
  case atStart => exact ⟨0, 0, 0, 0, 0, by omega, rfl, rfl, D0⟩
  case round =>
    clear D0
    obtain ⟨k, a, x, y, m, hk, rfl, rfl, D⟩ := hrel
    obtain ⟨B0, B1, belr, hn⟩ := D.out
    have szr := belr.size
    have hal := hn.le
    have lt0 := blk_lt B0
    have lt1 := blk_lt B1
    by_cases hk3 : k < 3
    · obtain ⟨vs, hsl, isl⟩ := (HBS.out.below belr).slice_l Tryz.elemB3 Tryz.sizeB3 a hal
      obtain ⟨u, i, g, hS⟩ := sres_is (bs.drop a) ((1048576 : Nat) : Int)
      have HS := hide hS
      have ST := hide (sres_step (most := 1048576) (by omega) hS)
      have hdl : (bs.drop a).length = bs.length - a := by rw [List.length_drop]
      have HN := hide hn
      have HK := hide hk3
      have hk3' : (k : Int) < 3 := by omega
      have hsm : Hid (∀ W, Is .u8 W vs (bs.drop a) → Calls Tryz.prog 172 #[vs, .int .i64 1048576] W fun E w' => E = .returned (.tuple #[.int .i64 u, .int .i64 i, .int .i64 g]) ∧ W = w') := hide fun W hW => small_any vs (bs.drop a) 1048576 u i g W hW (by omega) (by omega) (by omega) HS.out
      clear hS hn hk3 HS
      go_wp2_with fail
      refine (hsm.out _ isl).mono ?_
      rintro E w4 ⟨rfl, rfl⟩
      clear isl hsl hsm
      rcases ST.out with ⟨z, rfl, rfl, rfl, hz, hp⟩ | ⟨rfl, rfl, rfl, hno⟩
      · have hs10 := Vm.sz_le10 (x := z) (by omega)
        have hwr := wrap_i64_small ((a : Int) + (Vm.sz z : Int)) (by omega) (by omega)
        rcases (show k = 0 ∨ k = 1 ∨ k = 2 by have := HK.out; omega) with rfl | rfl | rfl
        · obtain ⟨V, hV, bV, gV, fz⟩ := put_at3 B1 0 (.int .i64 z)
          have cz := blk_cell B1 0 rfl
          have DN : Hid (V.heap[w.heap.size]? = some (.cells #[.int .i64 0, .int .i64 0, .slice none 0 0] 93 (0, 0)) ∧ V.heap[w.heap.size + 1]? = some (.cells #[.int .i64 z, .int .i64 y, .int .i64 m] 179 (0, 0)) ∧ Below w.heap.size w V ∧ Nr bs z y m 1 (a + Vm.sz z)) :=
            hide ⟨(gV.block _ lt0 (by simp)).trans B0, bV, below_put belr gV (by omega) belr.size, by
              have h0 : a = 0 := HN.out
              subst h0
              rw [List.drop_zero] at hp
              exact ⟨hp, by omega, hz⟩⟩
          clear B0 B1 bV gV hp D ST HN HK
          go_wp2
          go_roundw
          case rel => exact ⟨1, a + Vm.sz z, z, y, m, by omega, rfl, by go_num, DN⟩
          case measure => simp [intOf]
        · obtain ⟨V, hV, bV, gV, fz⟩ := put_at3 B1 1 (.int .i64 z)
          have cz := blk_cell B1 1 rfl
          have DN : Hid (V.heap[w.heap.size]? = some (.cells #[.int .i64 0, .int .i64 0, .slice none 0 0] 93 (0, 0)) ∧ V.heap[w.heap.size + 1]? = some (.cells #[.int .i64 x, .int .i64 z, .int .i64 m] 179 (0, 0)) ∧ Below w.heap.size w V ∧ Nr bs x z m 2 (a + Vm.sz z)) :=
            hide ⟨(gV.block _ lt0 (by simp)).trans B0, bV, below_put belr gV (by omega) belr.size, by
              obtain ⟨h1, h2, h3⟩ := HN.out
              subst h2
              exact ⟨h1, hp, rfl, h3, hz⟩⟩
          clear B0 B1 bV gV hp D ST HN HK
          go_wp2
          go_roundw
          case rel => exact ⟨2, a + Vm.sz z, x, z, m, by omega, rfl, by go_num, DN⟩
          case measure => simp [intOf]
        · obtain ⟨V, hV, bV, gV, fz⟩ := put_at3 B1 2 (.int .i64 z)
          have cz := blk_cell B1 2 rfl
          have DN : Hid (V.heap[w.heap.size]? = some (.cells #[.int .i64 0, .int .i64 0, .slice none 0 0] 93 (0, 0)) ∧ V.heap[w.heap.size + 1]? = some (.cells #[.int .i64 x, .int .i64 y, .int .i64 z] 179 (0, 0)) ∧ Below w.heap.size w V ∧ Nr bs x y z 3 (a + Vm.sz z)) :=
            hide ⟨(gV.block _ lt0 (by simp)).trans B0, bV, below_put belr gV (by omega) belr.size, by
              obtain ⟨h1, h2, h3, h4, h5⟩ := HN.out
              subst h3
              exact ⟨h1, h2, hp, rfl, h4, h5, hz⟩⟩
          clear B0 B1 bV gV hp D ST HN HK
          go_wp2
          go_roundw
          case rel => exact ⟨3, a + Vm.sz z, x, y, z, by omega, rfl, by go_num, DN⟩
          case measure => simp [intOf]
      · have HNO : Hid (Rn.No bs) := hide (by
          have h0 := HN.out
          rcases (show k = 0 ∨ k = 1 ∨ k = 2 by have := HK.out; omega) with rfl | rfl | rfl
          · have ha : a = 0 := h0
            subst ha
            exact Rn.no1 (by simpa using hno)
          · obtain ⟨h1, h2, h3⟩ := h0
            subst h2
            exact Rn.no2 h1 hno
          · obtain ⟨h1, h2, h3, h4, h5⟩ := h0
            subst h3
            exact Rn.no3 h1 h2 (by omega) hno)
        obtain ⟨z0, z1, z2⟩ : wr.cell? ⟨w.heap.size, 0, none⟩ = some (.int .i64 0) ∧ wr.cell? ⟨w.heap.size, 1, none⟩ = some (.int .i64 0) ∧ wr.cell? ⟨w.heap.size, 2, none⟩ = some (.slice none 0 0) := ⟨blk_cell B0 0 rfl, blk_cell B0 1 rfl, blk_cell B0 2 rfl⟩
        have s0 : wr.setCell ⟨w.heap.size, 0, none⟩ (.int .i64 0) = wr := set_same B0 (j := 0) rfl
        have s1 : wr.setCell ⟨w.heap.size, 1, none⟩ (.int .i64 0) = wr := set_same B0 (j := 1) rfl
        have s2 : wr.setCell ⟨w.heap.size, 2, none⟩ (.slice none 0 0) = wr := set_same B0 (j := 2) rfl
        have f0 := blk_froz B0 0; have f1 := blk_froz B0 1; have f2 := blk_froz B0 2
        clear B0 B1 hno D ST HN HK
        go_wp2
        refine bodyPost_ret (v := .tuple #[.agg #[.int .i64 0, .int .i64 0, .slice none 0 0], .int .i64 0, .int .i64 5]) (by simp [results, Tryz.results173, go_sem, z0, z1, z2]) rfl ?_
        exact ⟨0, 0, 0, 5, _, [], rfl, OwnO.nil _ _ _, hide (.inl ⟨rfl, rfl, rfl, rfl, rfl, HNO.out⟩), belr⟩
    · obtain rfl : k = 3 := by omega
      obtain ⟨q0, q1, q2⟩ : wr.cell? ⟨w.heap.size + 1, 0, none⟩ = some (.int .i64 x) ∧ wr.cell? ⟨w.heap.size + 1, 1, none⟩ = some (.int .i64 y) ∧ wr.cell? ⟨w.heap.size + 1, 2, none⟩ = some (.int .i64 m) := ⟨blk_cell B1 0 rfl, blk_cell B1 1 rfl, blk_cell B1 2 rfl⟩
      have f0 := blk_froz B0 0; have f1 := blk_froz B0 1
      have z0 := blk_cell B0 0 rfl; have z1 := blk_cell B0 1 rfl
      simp only [List.getElem_toArray, List.getElem_cons_zero, List.getElem_cons_succ] at z0 z1
      obtain ⟨V, hV, RO, v2⟩ : ∃ V, ((wr.setCell ⟨w.heap.size, 0, none⟩ (.int .i64 x)).setCell ⟨w.heap.size, 1, none⟩ (.int .i64 y)).drew = V ∧ RdO bs w V x y m a (.slice none 0 0) [] ∧ V.cell? ⟨w.heap.size + 1, 2, none⟩ = some (.int .i64 m) := by
        have g2 : wr.grownBy ((wr.setCell ⟨w.heap.size, 0, none⟩ (.int .i64 x)).setCell ⟨w.heap.size, 1, none⟩ (.int .i64 y)) (some w.heap.size) := grown_trans (grown_setCell wr ⟨w.heap.size, 0, none⟩ (.int .i64 x)) (grown_setCell _ ⟨w.heap.size, 1, none⟩ (.int .i64 y))
        have ha : a = Vm.sz x + Vm.sz y + Vm.sz m := hn.2.2.2.1
        refine ⟨_, rfl, ⟨set_cells (set_cells B0 0 _) 1 _, OwnO.nil _ _ _, (below_put belr g2 (Nat.le_refl _) belr.size).drew, Nat.le_trans (show w.heap.size + 2 ≤ wr.heap.size by omega) g2.size, by rw [← ha]; exact hn, by simp [Rn.ens], by simp, by simp [Rn.ens]; exact ha⟩, ?_⟩
        exact blk_cell ((g2.block _ lt1 (by simp)).trans B1) 2 rfl
      have HRO := hide RO
      have hm20 : m ≤ 1048576 := hn.2.2.2.2.2.2
      clear B0 B1 D hn RO
      go_wp2
      go_region
      clear hV q0 q1 q2 f0 f1 z0 z1 belr szr lt0 lt1
      go_wp2
      go_loopw [3, 43] (fun aa kk ws => ∃ (k a : Nat) (v : Value) (l : List Ov), k ≤ m ∧ kk = .int .i64 k ∧ aa = .int .i64 a ∧ l.length = k ∧ Hid (RdO bs w ws x y m a v l)) (fun _ kk _ => m - (intOf kk).toNat)
      case atStart => exact ⟨0, a, _, [], by omega, rfl, rfl, rfl, HRO⟩
      case round =>
        clear HRO v2
        obtain ⟨k, a, v, l, hk, rfl, rfl, hlk, RO⟩ := hrel
        have hal := RO.out.le
        have szr := RO.out.sz
        obtain ⟨av, nv, kv, hvv⟩ : ∃ a n k, v = .slice a n k := by
          obtain ⟨a1, k1, h1, _⟩ := RO.out.own.is.shape
          exact ⟨a1, _, k1, h1⟩
        subst hvv
        by_cases hkm : k < m
        · have hkm' : (k : Int) < m := by omega
          obtain ⟨vs, hsl, isl⟩ := (HBS.out.below RO.out.bel).slice_l Tryz.elemB3 Tryz.sizeB3 a hal
          have HRD := hide (oread_any vs (bs.drop a) wr isl (by rw [List.length_drop]; omega))
          have hdl : (bs.drop a).length = bs.length - a := by rw [List.length_drop]
          unfold opv at HRD
          clear isl
          go_wp2_with fail
          refine HRD.out.mono ?_
          rintro E w5 ⟨p, ky, vl, n, e, rfl, hor, bel5⟩
          have sz5 := bel5.size
          obtain ⟨w6, hw6, hw6', sz6, bel6, b6, x0, x1, x2⟩ := new_step w5 81 (.bool false) (.string ⟨#[]⟩) (.string ⟨#[]⟩) (.bool p) (.string ky) (.string vl)
          have bel56 := bel5.trans (bel6.mono sz5)
          have B6 := (bel56.block _ (blk_lt RO.out.blk)).trans RO.out.blk
          have own6 := RO.out.own.below bel56
          have bel06 := RO.out.bel.trans (bel56.mono RO.out.bel.size)
          have HOR := hide hor
          have he : e = 0 ∨ e = 5 := by
            rcases hor with ⟨h, _⟩ | ⟨h, _⟩
            · exact .inl h
            · exact .inr h
          clear hor bel5 bel6 HRD hsl
          rcases he with rfl | rfl
          · obtain ⟨hoc, he1, he2, j, rfl, hj1, hj2⟩ := RO.out.more (o := ⟨p, ky, vl⟩) HOR.out
            have hwr := wrap_i64_small ((a : Int) + (j : Int)) (by omega) (by omega)
            have y2 := blk_cell B6 2 rfl
            have f2 := blk_froz B6 2
            simp only [List.getElem_toArray, List.getElem_cons_zero, List.getElem_cons_succ] at y2
            obtain ⟨w7, hw7, sz7, bel7, own7⟩ := ops_step 81 w6 #[.bool p, .string ky, .string vl] 1 [⟨p, ky, vl⟩] rfl rfl (by simp [maxLen])
            have own67 := own6.below bel7
            have is7 : IsO w7 (.slice (some ⟨w5.heap.size + 1, 0, none⟩) 1 1) [⟨p, ky, vl⟩] := by rw [← sz6]; exact own7.is
            have B7 := (bel7.block _ (blk_lt B6)).trans B6
            have hz7 : w.heap.size + 2 ≤ w7.heap.size := by omega
            have hlen : (l.length + [(⟨p, ky, vl⟩ : Ov)].length) * 40 ≤ 140737488355328 := by simp; omega
            have HOK := hide (show Rn.ens (l ++ [⟨p, ky, vl⟩]) <+: bs.drop (Vm.sz x + Vm.sz y + Vm.sz m) ∧ (∀ q ∈ l ++ [(⟨p, ky, vl⟩ : Ov)], q.c = 0) ∧ a + j = Vm.sz x + Vm.sz y + Vm.sz m + (Rn.ens (l ++ [⟨p, ky, vl⟩])).length from ⟨he1, he2, hj1⟩)
            have HB7 := hide (show w7.heap[w.heap.size]? = some (.cells #[.int .i64 x, .int .i64 y, .slice av nv kv] 93 (0, 0)) ∧ Below w.heap.size w w7 from ⟨B7, bel06.trans (bel7.mono bel06.size)⟩)
            have c0 := blk_cell B7 2 rfl
            have g0 := blk_froz B7 2
            clear own7 own6 B6 B7 b6 bel7 bel06 he1 he2 hj1 HOR
            go_wp2_with (at_builtin; refine wpList_append_ops rfl (.tmp 58) (.tmp 60) 53 rfl 81 (w.heap.size + 2) Tryz.underlying53 Tryz.info81 _ l rfl own67 _ [⟨p, ky, vl⟩] rfl is7 hlen hz7 ?_)
            rintro v8 w8 own8 bel8 gr8
            obtain ⟨a8, n8, k8, hv8⟩ : ∃ a n k, v8 = .slice a n k := by
              obtain ⟨a1, k1, h1, _⟩ := own8.is.shape
              exact ⟨a1, _, k1, h1⟩
            subst hv8
            have B8 := (bel8.block w.heap.size (by omega)).trans HB7.out.1
            have bel08 := HB7.out.2.trans (bel8.mono (by omega))
            have hz8 := bel8.size
            obtain ⟨V, hV, bV, gV, fz⟩ := put_at3 B8 2 (.slice a8 n8 k8)
            have cz := blk_cell B8 2 rfl
            simp only [List.getElem_toArray, List.getElem_cons_zero, List.getElem_cons_succ] at cz
            have RN : Hid (RdO bs w V x y m (a + j) (.slice a8 n8 k8) (l ++ [⟨p, ky, vl⟩])) := hide ⟨bV, own8.kept gV (by
                cases hq : (Value.slice a8 n8 k8).ownBlock with
                | none => exact .inl rfl
                | some b => exact .inr (by have := (own8.block b hq).1; simp; omega)), below_put bel08 gV (Nat.le_refl _) bel08.size, by have := gV.size; omega, RO.out.nr, HOK.out.1, HOK.out.2.1, HOK.out.2.2⟩
            clear own8 own67 is7 B8 bV gV bel8 bel08 gr8 HB7 HOK RO x0 x1 x2 c0 g0 y2 f2
            go_wp2
            go_roundw
            case rel =>
              iterate 29 apply Exists.intro
              refine And.intro ?_ rfl
              exact ⟨k + 1, a + j, _, _, by omega, by go_num, by go_num, by simp [hlk], RN⟩
            case measure => simp [intOf]; omega
          · have HNO : Hid (Rn.No bs) := hide (RO.out.bad (by omega) HOR.out)
            obtain ⟨V, hV, bV, gV, ⟨z0, z1, z2⟩, ⟨f0, f1, f2⟩, ⟨t0, t1, t2⟩⟩ := res_step B6 (.int .i64 0) (.int .i64 0) (.slice none 0 0)
            have belV : Below w.heap.size w V := below_put bel06 gV (Nat.le_refl _) bel06.size
            clear B6 bV gV own6 bel06 bel56 HOR RO b6
            go_wp2
            refine bodyPost_ret (v := .tuple #[.agg #[.int .i64 0, .int .i64 0, .slice none 0 0], .int .i64 0, .int .i64 5]) (by simp [results, Tryz.results173, go_sem, t0, t1, t2]) rfl ?_
            exact ⟨0, 0, 0, 5, _, [], rfl, OwnO.nil _ _ _, hide (.inl ⟨rfl, rfl, rfl, rfl, rfl, HNO.out⟩), belV⟩
        · have hkm' : ¬ (k : Int) < m := by omega
          have HF := hide (RO.out.fin (by omega))
          have B0 := RO.out.blk
          obtain ⟨z0, z1, z2⟩ : wr.cell? ⟨w.heap.size, 0, none⟩ = some (.int .i64 x) ∧ wr.cell? ⟨w.heap.size, 1, none⟩ = some (.int .i64 y) ∧ wr.cell? ⟨w.heap.size, 2, none⟩ = some (.slice av nv kv) := ⟨blk_cell B0 0 rfl, blk_cell B0 1 rfl, blk_cell B0 2 rfl⟩
          have s0 : wr.setCell ⟨w.heap.size, 0, none⟩ (.int .i64 x) = wr := set_same B0 (j := 0) rfl
          have s1 : wr.setCell ⟨w.heap.size, 1, none⟩ (.int .i64 y) = wr := set_same B0 (j := 1) rfl
          have s2 : wr.setCell ⟨w.heap.size, 2, none⟩ (.slice av nv kv) = wr := set_same B0 (j := 2) rfl
          have f0 := blk_froz B0 0; have f1 := blk_froz B0 1; have f2 := blk_froz B0 2
          have OW := hide (RO.out.own.rebase (base' := w.heap.size) (by omega))
          have BE := hide RO.out.bel
          clear B0 RO
          go_wp2
          refine bodyPost_ret (v := .tuple #[.agg #[.int .i64 x, .int .i64 y, .slice av nv kv], .int .i64 a, .int .i64 0]) (by simp [results, Tryz.results173, go_sem, z0, z1, z2]) rfl ?_
          first | exact ⟨x, y, a, 0, _, l, rfl, OW.out, HF, BE.out⟩ | exact ⟨x, y, a, 0, _, rfl, l, OW.out, HF, BE.out⟩

end Go.Proofs.YthmecljkackmbaaGreat

/- The contract of run.Decode. -/
namespace Go.Proofs.YthmecljkackmbaaGreat
open Go.RowKit
open Bm (Ov)
set_option linter.unusedVariables false

/-- Ops that may be are small. -/
theorem fit_c {l : List Ov} (h : ∀ o ∈ l, o.c = 0) : FitO l := fun o ho => by
  obtain ⟨_, h2, h3, _⟩ := Om.chk_ok' (h o ho)
  have e1 : o.k.size = o.k.data.toList.length := rfl
  have e2 : o.v.size = o.v.data.toList.length := rfl
  have e3 : o.kl = o.k.data.toList := rfl
  have e4 : o.vl = o.v.data.toList := rfl
  rw [e3] at h2
  rw [e4] at h3
  omega

theorem RdR.good {bs : List Int} {x y a : Int} {l : List Ov} (h : RdR bs x y l a 0) : (∀ o ∈ l, o.c = 0) ∧ l.length ≤ 1048576 ∧ In64 x ∧ In64 y ∧ (0 ≤ a ∧ a ≤ bs.length) ∧ (a = bs.length ∧ Rn.chk x y l = 0 → Rn.Dc bs x y l 0) ∧ (¬ (a = bs.length ∧ Rn.chk x y l = 0) → Rn.No bs) := by
  rcases h with ⟨h0, _⟩ | ⟨_, X, Y, rfl, rfl, h1, h2, h3, h4, h5, h6, h7, h8, ha⟩
  · cases h0
  · have q1 := h4.length_le
    have e1 : (Vm.enc X).length = Vm.sz X := rfl
    have q2 := enc_in h5 (by omega)
    have q3 := enc_in h6 (by omega)
    have q4 := h7.length_le
    rw [List.length_drop] at q4
    refine ⟨h8, h3, ⟨by omega, by omega⟩, ⟨by omega, by omega⟩, ⟨by omega, by omega⟩, fun h => .inl ⟨rfl, h.2, Rn.ok5 h4 h5 h6 h7 (by have := h.1; omega)⟩, fun h => ?_⟩
    refine Rn.no5 h4 h5 h6 h7 h8 ?_
    by_cases hc : Rn.chk X Y l = 0
    · exact .inl fun e => h ⟨by omega, hc⟩
    · exact .inr hc

set_option maxRecDepth 20000 in
set_option maxHeartbeats 2000000 in
theorem hdec_any (vb : Value) (bs : List Int) (w : World) (hb : Is .u8 w vb bs) (hl : bs.length ≤ 140737488355328) :
    Calls Tryz.prog 129 #[vb] w fun E w' => ∃ (x y g : Int) (v : Value) (l : List Ov), E = .returned (.tuple #[cmv x y v, .int .i64 g]) ∧ OwnO 81 w.heap.size w' v l ∧ Hid (Rn.Dc bs x y l g) ∧ Below w.heap.size w w' := by
  unfold cmv
  obtain ⟨w1, hw1, sz1, bel1, hR1⟩ := blk_step w #[.int .i64 0, .int .i64 0, .slice none 0 0] 93
  have HRD := hide (hread_any vb bs w1 (hb.below bel1) hl)
  unfold cmv at HRD
  obtain ⟨ao, cap, hvb, _, _⟩ := hb.shape
  subst hvb
  clear hb
  go_enter Tryz.func129, Tryz.ntmps129
  go_wp2_with fail
  refine HRD.out.mono ?_
  rintro E w2 ⟨x, y, a, e, v, l, rfl, own2, HR, bel2⟩
  have sz2 := bel2.size
  obtain ⟨av, nv, kv, hvv⟩ : ∃ a n k, v = .slice a n k := by
    obtain ⟨a1, k1, h1, _⟩ := own2.is.shape
    exact ⟨a1, _, k1, h1⟩
  subst hvv
  obtain ⟨w3, hw3, hw3', sz3, bel3, b3, x0, x1, x2⟩ := new_step w2 93 (.int .i64 0) (.int .i64 0) (.slice none 0 0) (.int .i64 x) (.int .i64 y) (.slice av nv kv)
  have bel13 := bel2.trans (bel3.mono sz2)
  have B0 := (bel13.block _ (blk_lt hR1)).trans hR1
  have own3 := own2.below bel3
  have bel03 := bel1.trans (bel13.mono bel1.size)
  clear bel1 bel2 bel3 bel13 own2 HRD hR1
  have he : e = 0 ∨ e = 5 := by
    rcases HR.out with ⟨h, _⟩ | ⟨h, _⟩
    · exact .inr h
    · exact .inl h
  have BAD : Hid (Rn.No bs → Rn.Dc bs 0 0 [] 5) := hide fun h => .inr ⟨rfl, rfl, rfl, rfl, h⟩
  rcases he with rfl | rfl
  · obtain ⟨g1, g2, g3, g4, g5, g6, g7⟩ := HR.out.good
    have HG6 := hide g6
    have HG7 := hide g7
    by_cases ha : a = bs.length
    · have hne : (a != (bs.length : Int)) = false := by simp [ha]
      have HA := hide ha
      have HC := hide (hcheck_any x y (.slice av nv kv) l w3 own3.is (fit_c g1) (by omega))
      unfold cmv at HC
      obtain ⟨ck, hck⟩ : ∃ c, Rn.chk x y l = c := ⟨_, rfl⟩
      rw [hck] at HC
      have HCK := hide hck
      generalize bs.length = nb at *
      clear g1 g6 g7 ha hck
      go_wp2_with fail
      refine HC.out.mono ?_
      rintro E w4 ⟨rfl, bel4⟩
      have sz4 := bel4.size
      have B4 := (bel4.block _ (blk_lt B0)).trans B0
      have C4 := (bel4.block _ (blk_lt b3)).trans b3
      have own4 := own3.below bel4
      have bel04 := bel03.trans (bel4.mono bel03.size)
      clear B0 b3 own3 bel03 x0 x1 x2 HC bel4
      by_cases hc0 : ck = 0
      · subst hc0
        have DC := hide (HG6.out ⟨HA.out, HCK.out⟩)
        obtain ⟨V, hV, bV, gV, ⟨z0, z1, z2⟩, ⟨f0, f1, f2⟩, ⟨t0, t1, t2⟩⟩ := res_step B4 (.int .i64 x) (.int .i64 y) (.slice av nv kv)
        have y0 := blk_cell C4 0 rfl
        have y1 := blk_cell C4 1 rfl
        have y2 := blk_cell C4 2 rfl
        have OV := hide ((own4.kept gV (by
          cases hq : (Value.slice av nv kv).ownBlock with
          | none => exact .inl rfl
          | some b => exact .inr (by have := (own4.block b hq).1; simp; omega))).rebase (base' := w.heap.size) (by omega))
        have BV := hide (below_put bel04 gV (Nat.le_refl _) bel04.size)
        clear B4 C4 bV gV own4 bel04 HG6 HG7 HR
        go_wp2
        refine bodyPost_ret (v := .tuple #[.agg #[.int .i64 x, .int .i64 y, .slice av nv kv], .int .i64 0]) (by simp [results, Tryz.results129, go_sem, t0, t1, t2]) rfl ?_
        first | exact ⟨x, y, 0, _, l, rfl, OV.out, DC, BV.out⟩ | exact ⟨x, y, 0, _, rfl, l, OV.out, DC, BV.out⟩
      · have DC := hide (BAD.out (HG7.out fun h => hc0 (by rw [← HCK.out]; exact h.2)))
        have hcb : (ck != 0) = true := by simp [hc0]
        obtain ⟨z0, z1, z2⟩ : w4.cell? ⟨w.heap.size, 0, none⟩ = some (.int .i64 0) ∧ w4.cell? ⟨w.heap.size, 1, none⟩ = some (.int .i64 0) ∧ w4.cell? ⟨w.heap.size, 2, none⟩ = some (.slice none 0 0) := ⟨blk_cell B4 0 rfl, blk_cell B4 1 rfl, blk_cell B4 2 rfl⟩
        have s0 : w4.setCell ⟨w.heap.size, 0, none⟩ (.int .i64 0) = w4 := set_same B4 (j := 0) rfl
        have s1 : w4.setCell ⟨w.heap.size, 1, none⟩ (.int .i64 0) = w4 := set_same B4 (j := 1) rfl
        have s2 : w4.setCell ⟨w.heap.size, 2, none⟩ (.slice none 0 0) = w4 := set_same B4 (j := 2) rfl
        have f0 := blk_froz B4 0; have f1 := blk_froz B4 1; have f2 := blk_froz B4 2
        clear B4 C4 own4 HG6 HG7 HR
        go_wp2
        refine bodyPost_ret (v := .tuple #[.agg #[.int .i64 0, .int .i64 0, .slice none 0 0], .int .i64 5]) (by simp [results, Tryz.results129, go_sem, z0, z1, z2]) rfl ?_
        first | exact ⟨0, 0, 5, _, [], rfl, OwnO.nil _ _ _, DC, bel04⟩ | exact ⟨0, 0, 5, _, rfl, [], OwnO.nil _ _ _, DC, bel04⟩
    · have hne : (a != (bs.length : Int)) = true := by simp [ha]
      have DC := hide (BAD.out (HG7.out fun h => ha h.1))
      generalize bs.length = nb at *
      obtain ⟨z0, z1, z2⟩ : w3.cell? ⟨w.heap.size, 0, none⟩ = some (.int .i64 0) ∧ w3.cell? ⟨w.heap.size, 1, none⟩ = some (.int .i64 0) ∧ w3.cell? ⟨w.heap.size, 2, none⟩ = some (.slice none 0 0) := ⟨blk_cell B0 0 rfl, blk_cell B0 1 rfl, blk_cell B0 2 rfl⟩
      have s0 : w3.setCell ⟨w.heap.size, 0, none⟩ (.int .i64 0) = w3 := set_same B0 (j := 0) rfl
      have s1 : w3.setCell ⟨w.heap.size, 1, none⟩ (.int .i64 0) = w3 := set_same B0 (j := 1) rfl
      have s2 : w3.setCell ⟨w.heap.size, 2, none⟩ (.slice none 0 0) = w3 := set_same B0 (j := 2) rfl
      have f0 := blk_froz B0 0; have f1 := blk_froz B0 1; have f2 := blk_froz B0 2
      clear B0 b3 own3 HG6 HG7 g1 g6 g7 HR ha
      go_wp2
      refine bodyPost_ret (v := .tuple #[.agg #[.int .i64 0, .int .i64 0, .slice none 0 0], .int .i64 5]) (by simp [results, Tryz.results129, go_sem, z0, z1, z2]) rfl ?_
      first | exact ⟨0, 0, 5, _, [], rfl, OwnO.nil _ _ _, DC, bel03⟩ | exact ⟨0, 0, 5, _, rfl, [], OwnO.nil _ _ _, DC, bel03⟩
  · have DC := hide (BAD.out (by
      rcases HR.out with ⟨_, _, _, _, _, h⟩ | ⟨h, _⟩
      · exact h
      · cases h))
    obtain ⟨z0, z1, z2⟩ : w3.cell? ⟨w.heap.size, 0, none⟩ = some (.int .i64 0) ∧ w3.cell? ⟨w.heap.size, 1, none⟩ = some (.int .i64 0) ∧ w3.cell? ⟨w.heap.size, 2, none⟩ = some (.slice none 0 0) := ⟨blk_cell B0 0 rfl, blk_cell B0 1 rfl, blk_cell B0 2 rfl⟩
    have s0 : w3.setCell ⟨w.heap.size, 0, none⟩ (.int .i64 0) = w3 := set_same B0 (j := 0) rfl
    have s1 : w3.setCell ⟨w.heap.size, 1, none⟩ (.int .i64 0) = w3 := set_same B0 (j := 1) rfl
    have s2 : w3.setCell ⟨w.heap.size, 2, none⟩ (.slice none 0 0) = w3 := set_same B0 (j := 2) rfl
    have f0 := blk_froz B0 0; have f1 := blk_froz B0 1; have f2 := blk_froz B0 2
    clear B0 b3 own3 HR
    go_wp2
    refine bodyPost_ret (v := .tuple #[.agg #[.int .i64 0, .int .i64 0, .slice none 0 0], .int .i64 5]) (by simp [results, Tryz.results129, go_sem, z0, z1, z2]) rfl ?_
    first | exact ⟨0, 0, 5, _, [], rfl, OwnO.nil _ _ _, DC, bel03⟩ | exact ⟨0, 0, 5, _, rfl, [], OwnO.nil _ _ _, DC, bel03⟩

end Go.Proofs.YthmecljkackmbaaGreat

/- slices.Clone of a list of ops. -/
namespace Go.Proofs.YthmecljkackmbaaGreat
open Go.RowKit
set_option linter.unusedVariables false

set_option maxHeartbeats 400000 in
theorem cloneO_any (vl : Value) (l : List Bm.Ov) (w : World) (h : IsO w vl l) (hl : l.length * 40 ≤ 140737488351232) :
    Calls Tryz.prog 165 #[vl] w fun e w' => ∃ v, e = .returned v ∧ OwnO 81 w.heap.size w' v l ∧ Below w.heap.size w w' := by
  have q : ∀ (w : World) (a : Option Addr) (n c n' c' : Nat), (binOp .eql 53 (.slice a n c) (.slice none n' c')).run Tryz.prog w = .ok (.bool a.isNone) w := fun w a n c n' c' => Lib.run_eql_slice_nil w _ _ a n c n' c' Tryz.underlying53
  by_cases hn : vl = .slice none 0 0
  · subst hn
    have : l = [] := by
      rcases h with ⟨_, h⟩ | ⟨ad, cap, h, _⟩
      · exact h
      · simp at h
    subst this
    clear h hl
    go_enter Tryz.func165, Tryz.ntmps165
    go_wp2
    go_ret
    exact ⟨_, rfl, OwnO.nil _ _ _, Below.refl _ _⟩
  · obtain ⟨ad, cap, rfl⟩ : ∃ ad cap, vl = .slice (some ad) l.length cap := by
      rcases h with ⟨h, _⟩ | ⟨ad, cap, h, _⟩
      · exact absurd h hn
      · exact ⟨ad, cap, h⟩
    clear hn
    obtain ⟨w1, hw1, sz1, bel1, own1⟩ := ops_step 81 w #[] 0 [] rfl rfl (by simp [maxLen])
    have h1 := h.below bel1
    go_enter Tryz.func165, Tryz.ntmps165
    go_wp2_with (at_builtin; refine wpList_append_ops rfl (.tmp 5) (.tmp 6) 53 rfl 81 w.heap.size Tryz.underlying53 Tryz.info81 _ [] rfl own1 _ l rfl h1 (by simp; omega) (by omega) ?_)
    intro v2 w2 own2 bel2 _
    go_wp2
    go_ret
    exact ⟨_, rfl, by simpa using own2, bel1.trans bel2⟩

end Go.Proofs.YthmecljkackmbaaGreat

/- The contracts of the document's disk: what it tells (On, Pending, Steps, Read, Durable), Fuse. -/
namespace Go.Proofs.YthmecljkackmbaaGreat
open Go.RowKit
set_option linter.unusedVariables false


set_option maxHeartbeats 400000 in
theorem onR_any (p : Nat) (F : Nat → Prop) (w : World) (st : Dm.Ds) (h : Dk p F w st) : Calls Tryz.prog 109 #[.pointer (some ⟨p, 0, none⟩)] w fun E w' => E = .returned (.bool st.on) ∧ w = w' := by
  have hn := noneR_any p F w st h
  obtain ⟨s, wv, rs, h⟩ := h
  have c6 := h.c6
  have HN := hide hn
  clear h hn
  go_enter Tryz.func109, Tryz.ntmps109
  go_wp2_with fail
  refine HN.out.mono ?_
  rintro E w1 ⟨rfl, rfl⟩
  go_wp2
  go_ret
  exact ⟨rfl, rfl⟩

set_option maxHeartbeats 400000 in
theorem stepsR_any (p : Nat) (F : Nat → Prop) (w : World) (st : Dm.Ds) (h : Dk p F w st) : Calls Tryz.prog 33 #[.pointer (some ⟨p, 0, none⟩)] w fun E w' => E = .returned (.int .i64 st.count) ∧ w = w' := by
  have hn := noneR_any p F w st h
  obtain ⟨s, wv, rs, h⟩ := h
  have c9 := h.c9
  have HN := hide hn
  clear h hn
  go_enter Tryz.func33, Tryz.ntmps33
  go_wp2_with fail
  refine HN.out.mono ?_
  rintro E w1 ⟨rfl, rfl⟩
  go_wp2
  go_ret
  exact ⟨rfl, rfl⟩

theorem DkV.len {p : Nat} {F : Nat → Prop} {w : World} {st : Dm.Ds} {s : Nat → Value} {wv : Value} {rs : List Rv} (h : DkV p F w st s wv rs) : st.wait.length = rs.length := by rw [← h.wait, List.length_map]

set_option maxHeartbeats 400000 in
theorem fuseR_any (p : Nat) (F : Nat → Prop) (w : World) (st : Dm.Ds) (n : Int) (h : Dk p F w st) :
    Calls Tryz.prog 22 #[.pointer (some ⟨p, 0, none⟩), .int .i64 n] w fun E w' => E = .returned (.int .i64 (Dm.fuse st n).1) ∧ DStep p F w w' (Dm.fuse st n).2 := by
  have ha := askedR_any p F w st h
  have HK := hide h
  obtain ⟨s, wv, rs, h⟩ := h
  have c7 := h.c7
  have f7 := h.froz 7
  have HA := hide ha
  clear ha
  unfold Dm.fuse
  cases hon : st.on
  · rw [if_pos rfl]
    have hk := ask_off hon
    clear hon h
    go_enter Tryz.func22, Tryz.ntmps22
    go_wp2_with fail
    refine HA.out.mono ?_
    rintro E w1 ⟨rfl, rfl⟩
    rw [hk]
    go_wp2
    go_ret
    exact ⟨rfl, DStep.same HK.out (Below.refl _ _)⟩
  · rw [if_neg (by simp)]
    have hk := ask_on hon
    by_cases hn : n < 0
    · rw [if_pos hn]
      clear hon h
      go_enter Tryz.func22, Tryz.ntmps22
      go_wp2_with fail
      refine HA.out.mono ?_
      rintro E w1 ⟨rfl, rfl⟩
      rw [hk]
      go_wp2
      go_ret
      exact ⟨rfl, DStep.same HK.out (Below.refl _ _)⟩
    · rw [if_neg hn]
      have hcast : ((n.toNat : Nat) : Int) = n := by omega
      have R1 := h.put (st' := { st with has := true }) (s' := s) (wv' := wv) (rs' := rs) 7 (.bool true) rfl h.file h.row h.inr h.raw h.wait h.ok
      have R2 := R1.1.put (st' := { st with has := true, left := n.toNat }) (s' := s) (wv' := wv) (rs' := rs) 8 (.int .i64 n) (by simp [dcells, hcast]) R1.1.file R1.1.row R1.1.inr R1.1.raw h.wait h.ok
      have HR : Hid (DStep p F w ((w.setCell ⟨p, 7, none⟩ (.bool true)).setCell ⟨p, 8, none⟩ (.int .i64 n)) { st with has := true, left := n.toNat }) := DStep.mk' ⟨_, _, _, R2.1⟩ (R1.2.trans R2.2 fun g hg => .inl hg)
      have d8 := R1.1.c8
      have g8 := R1.1.froz 8
      have hs : { st with has := true, left := n.toNat } = ({ sure := st.sure, wait := st.wait, on := true, has := true, left := n.toNat, count := st.count } : Dm.Ds) := by rw [← hon]
      rw [hs] at HR
      clear h R1 R2 hs hcast hon
      go_enter Tryz.func22, Tryz.ntmps22
      go_wp2_with fail
      refine HA.out.mono ?_
      rintro E w1 ⟨rfl, rfl⟩
      rw [hk]
      go_wp2
      go_ret
      exact ⟨rfl, HR.out⟩

set_option maxHeartbeats 4000000 in
theorem withR_any (vb : Value) (bs : List Int) (r : Rv) (w : World) (hb : Is .u8 w vb bs) (hv : Is .u8 w r.v r.bytes) (hto : r.cut = true → r.to ≤ bs.length) (hl : bs.length + r.bytes.length ≤ 140737488355328) :
    Calls Tryz.prog 134 #[vb, .agg #[.int .i64 r.file, .bool r.cut, .int .i64 r.to, r.v]] w fun E w' => ∃ v, E = .returned v ∧ Own .u8 5 w.heap.size w' v (Dm.wth bs r.r) ∧ Below w.heap.size w w' := by
  obtain ⟨w1, hw1, sz1, bel1, hB⟩ := blk_step w #[.int .i64 r.file, .bool r.cut, .int .i64 r.to, r.v] 169
  have c1 : w1.cell? ⟨w.heap.size, 1, none⟩ = some (.bool r.cut) := blk_cell hB 1 rfl
  have c2 : w1.cell? ⟨w.heap.size, 2, none⟩ = some (.int .i64 r.to) := blk_cell hB 2 rfl
  have c3 : w1.cell? ⟨w.heap.size, 3, none⟩ = some r.v := blk_cell hB 3 rfl
  have hb1 := hb.below bel1
  have hv1 := hv.below bel1
  have BB := hide hB
  clear hB
  cases hc : r.cut
  · have e : Dm.wth bs r.r = bs ++ r.bytes := by simp [Dm.wth, Rv.r, hc]
    rw [e]
    rw [hc] at hw1
    have c1' : w1.cell? ⟨w.heap.size, 1, none⟩ = some (.bool false) := by rw [← hc]; exact c1
    clear c1 c2 hto hc e
    go_enter Tryz.func134, Tryz.ntmps134
    go_wp2_with (at_builtin; refine wpList_append_is rfl (.tmp 14) (.tmp 15) 112 rfl .u8 5 w1.heap.size 1 Tryz.underlying112 Tryz.info5 (by decide) _ [] rfl (Own.nil _ _ _ _) _ bs rfl hb1 (by simp; omega) (Nat.le_refl _) ?_)
    intro v2 w2 own2 bel2 _
    have sz2 := bel2.size
    have d3 := (bel2.cell (p := ⟨w.heap.size, 3, none⟩) (by simp)).trans c3
    have hv2 := hv1.below (bel2.mono (by omega))
    clear c3 c1' hb1 hv1
    go_wp2_with (at_builtin; refine wpList_append_is rfl (.tmp 17) (.tmp 19) 112 rfl .u8 5 (w.heap.size + 1) 1 Tryz.underlying112 Tryz.info5 (by decide) _ bs rfl own2 _ r.bytes rfl hv2 (by omega) (by omega) ?_)
    intro v3 w3 own3 bel3 _
    have own3' := own3.rebase (base' := w.heap.size) (by omega)
    have bel03 : Below w.heap.size w w3 := (bel1.trans (bel2.mono (by omega))).trans (bel3.mono (by omega))
    go_wp2
    go_ret
    exact ⟨_, rfl, own3', bel03⟩
  · have e : Dm.wth bs r.r = bs.take r.to := by simp [Dm.wth, Rv.r, hc]
    rw [e]
    have hto' := hto hc
    obtain ⟨vs, hsl, isl⟩ := hb1.slice_h Tryz.elemP Tryz.sizeP r.to hto'
    rw [hc] at hw1
    have c1' : w1.cell? ⟨w.heap.size, 1, none⟩ = some (.bool true) := by rw [← hc]; exact c1
    clear c1 c3 hto hc e
    go_enter Tryz.func134, Tryz.ntmps134
    go_wp2_with (at_builtin; refine wpList_append_is rfl (.tmp 8) (.tmp 12) 112 rfl .u8 5 w1.heap.size 1 Tryz.underlying112 Tryz.info5 (by decide) _ [] rfl (Own.nil _ _ _ _) _ _ rfl isl (by simp; omega) (Nat.le_refl _) ?_)
    intro v2 w2 own2 bel2 _
    have own2' := own2.rebase (base' := w.heap.size) (by omega)
    have bel02 : Below w.heap.size w w2 := bel1.trans (bel2.mono (by omega))
    go_wp2
    go_ret
    exact ⟨_, rfl, own2', bel02⟩

theorem raw_at {p : Nat} {F : Nat → Prop} {w : World} {st : Dm.Ds} {s : Nat → Value} {wv : Value} {rs : List Rv} (h : DkV p F w st s wv rs) {k : Nat} {r : Rv} (hk : rs[k]? = some r) : st.wait[k]? = some r.r := by
  rw [← h.wait, List.getElem?_map, hk]
  rfl

theorem wtake_next {l : List Dm.Rw} {k : Nat} {r : Dm.Rw} (h : l[k]? = some r) : l.take (k + 1) = l.take k ++ [r] := by
  obtain ⟨hk, rfl⟩ := List.getElem?_eq_some_iff.1 h
  exact List.take_succ_eq_append_getElem hk

theorem bulk_take : ∀ (l : List Dm.Rw) (k : Nat), Dm.bulk (l.take k) ≤ Dm.bulk l
  | [], k => by simp [Dm.bulk]
  | r :: l, 0 => by simp [Dm.bulk]
  | r :: l, k + 1 => by
    have := bulk_take l k
    simp only [List.take_succ_cons, Dm.bulk]
    omega

theorem bulk_at {l : List Dm.Rw} {k : Nat} {r : Dm.Rw} (h : l[k]? = some r) : Dm.bulk (l.take k) + r.bytes.length ≤ Dm.bulk l := by
  have h1 := bulk_take l (k + 1)
  rw [wtake_next h, Dm.bulk_app] at h1
  simp only [Dm.bulk] at h1
  omega

theorem hold_next {l : List Dm.Rw} {k : Nat} {r : Dm.Rw} (h : l[k]? = some r) (f : Nat) (b : List Int) : Dm.hold f b (l.take (k + 1)) = if r.file = f then Dm.wth (Dm.hold f b (l.take k)) r else Dm.hold f b (l.take k) := by
  rw [wtake_next h, Dm.hold_snoc]

set_option maxHeartbeats 1000000 in
theorem holdsR_any (p : Nat) (F : Nat → Prop) (w : World) (st : Dm.Ds) (f : Nat) (h : Dk p F w st) (hf : f < 4) (hsz : (st.sure f).length + Dm.bulk st.wait ≤ 140737488355000) (hw : st.wait.length ≤ 1000000) :
    Calls Tryz.prog 64 #[.pointer (some ⟨p, 0, none⟩), .int .i64 f] w fun E w' => ∃ v, E = .returned v ∧ Own .u8 5 w.heap.size w' v (Dm.hold f (st.sure f) st.wait) ∧ Below w.heap.size w w' := by
  obtain ⟨s, wv, rs, h⟩ := h
  have cf := h.cf f hf
  have c5 := h.c5
  have hp := h.lt p h.inp
  have isf := (h.file f hf).1
  have hlr := h.len
  obtain ⟨ao, cap, hv, hcap, hcm⟩ := h.row.row.shape
  have hrow : 0 < rs.length → ∃ b off c, wv = .slice (some ⟨b, off, none⟩) rs.length c ∧ b < w.heap.size ∧ ∀ i a, rs[i]? = some a → ∀ j u, (rawc a)[j]? = some u → w.cell? ⟨b, off + i * 4 + j, none⟩ = some u := by
    intro h0
    obtain ⟨b, off, c, h1, _, _, h4, h5⟩ := h.row.row.full rawc_len (by decide) h0
    exact ⟨b, off, c, h1, h4, h5⟩
  have H := hide h
  have HROW := hide hrow
  subst hv
  clear h hrow
  have hf0 : (0 : Int) ≤ (f : Int) := by omega
  have hf4 : (f : Int) < 4 := by omega
  go_enter Tryz.func64, Tryz.ntmps64
  go_wp2_with (at_builtin; refine wpList_append_is rfl (.tmp 7) (.tmp 13) 112 rfl .u8 5 w.heap.size 1 Tryz.underlying112 Tryz.info5 (by decide) _ [] rfl (Own.nil _ _ _ _) _ (st.sure f) rfl isf (by simp; omega) (Nat.le_refl _) ?_)
  intro v1 w1 own1 bel1 _
  clear cf isf
  go_wp2
  go_loopw [5, 6] (fun bv iv wr => ∃ k : Nat, k ≤ rs.length ∧ iv = .int .i64 k ∧ Hid (Own .u8 5 w.heap.size wr bv (Dm.hold f (st.sure f) (st.wait.take k))) ∧ Below w.heap.size w wr) (fun _ iv _ => rs.length - (intOf iv).toNat)
  case atStart => exact ⟨0, by omega, rfl, hide (by simpa [Dm.hold] using own1), bel1⟩
  case round =>
    obtain ⟨k, hk, rfl, HT, bel⟩ := hrel
    have sz := bel.size
    have d5 := (bel.cell (p := ⟨p, 5, none⟩) hp).trans c5
    by_cases hlt : k < rs.length
    · obtain ⟨b, off, cq, hvx, hB, hcell⟩ := HROW.out (by omega)
      simp only [Value.slice.injEq, true_and] at hvx
      obtain ⟨rfl, rfl⟩ := hvx
      obtain ⟨r, hr⟩ : ∃ r, rs[k]? = some r := ⟨rs[k], by rw [List.getElem?_eq_getElem]⟩
      have e0 : wr.cell? ⟨b, off + k * 4, none⟩ = some (.int .i64 r.file) := (bel.cell (p := ⟨b, off + k * 4, none⟩) hB).trans (hcell k r hr 0 _ rfl)
      have e1 : wr.cell? ⟨b, off + k * 4 + 1, none⟩ = some (.bool r.cut) := (bel.cell (p := ⟨b, off + k * 4 + 1, none⟩) hB).trans (hcell k r hr 1 _ rfl)
      have e2 : wr.cell? ⟨b, off + k * 4 + 2, none⟩ = some (.int .i64 r.to) := (bel.cell (p := ⟨b, off + k * 4 + 2, none⟩) hB).trans (hcell k r hr 2 _ rfl)
      have e3 : wr.cell? ⟨b, off + k * 4 + 3, none⟩ = some r.v := (bel.cell (p := ⟨b, off + k * 4 + 3, none⟩) hB).trans (hcell k r hr 3 _ rfl)
      have hst := raw_at H.out hr
      have hbl := bulk_at hst
      have hhl := Dm.hold_len (st.wait.take k) (st.sure f) f
      have hfit := Dm.valid_at H.out.ok hst
      have ir := ((H.out.raw r (List.mem_of_getElem? hr)).1).below bel
      have HN := hide (hold_next hst f (st.sure f))
      have hlt' : (k : Int) < rs.length := by omega
      have hk0 : (0 : Int) ≤ (k : Int) := by omega
      by_cases hff : r.file = f
      · have hfe : ((r.file : Int) == (f : Int)) = true := by simp [hff]
        have hto : r.cut = true → r.to ≤ (Dm.hold f (st.sure f) (st.wait.take k)).length := by
          intro hc
          have := hfit.2.1 hc
          rw [show r.r.file = f from hff, ← Dm.hold_dof] at this
          exact this
        have HO := hide HT.out.is
        have HTO := hide hto
        have hlen : (Dm.hold f (st.sure f) (st.wait.take k)).length + r.bytes.length ≤ 140737488355328 := by
          have : r.r.bytes = r.bytes := rfl
          rw [this] at hbl
          omega
        have hff' : r.r.file = f := hff
        have HFF := hide hff'
        clear hst hbl hhl hfit hto hff hff' hcell hr
        go_wp2_with fail
        refine (withR_any _ _ r _ HO.out ir HTO.out hlen).mono ?_
        rintro E w2 ⟨v2, rfl, own2, bel2⟩
        have HT2 : Hid (Own .u8 5 w.heap.size w2 v2 (Dm.hold f (st.sure f) (st.wait.take (k + 1)))) := hide (by
          rw [HN.out, if_pos HFF.out]
          exact own2.rebase (by omega))
        have belR := bel.trans (bel2.mono (by omega))
        clear own2 bel2 HO HTO hlen
        go_wp2
        go_roundw
        case rel => exact ⟨k + 1, by omega, by go_num, HT2, belR⟩
        case measure => simp [intOf]; omega
      · have hfe : ((r.file : Int) == (f : Int)) = false := by simp; omega
        have HT2 := hide (show Own .u8 5 w.heap.size wr _ (Dm.hold f (st.sure f) (st.wait.take (k + 1))) by rw [HN.out, if_neg (show ¬ r.r.file = f from hff)]; exact HT.out)
        clear hst hbl hhl hfit hcell hr hff
        go_wp2
        go_roundw
        case rel => exact ⟨k + 1, by omega, by go_num, HT2, bel⟩
        case measure => simp [intOf]; omega
    · have hlt' : ¬ (k : Int) < rs.length := by omega
      have HT2 := HT.out
      rw [List.take_of_length_le (by omega)] at HT2
      clear HT
      go_wp2
      go_ret
      exact ⟨_, rfl, HT2, bel⟩

end Go.Proofs.YthmecljkackmbaaGreat

/- The program's disk: what a file holds behind a raw step, copies, Read, Durable. -/
namespace Go.Proofs.YthmecljkackmbaaGreat
open Go.RowKit
set_option linter.unusedVariables false

set_option maxHeartbeats 2000000 in
theorem behind_any (base : Nat) (vb : Value) (bs : List Int) (r : Rv) (w : World) (hb : Own .u8 5 base w vb bs) (hbase : base ≤ w.heap.size) (hv : Is .u8 w r.v r.bytes) (hto : r.cut = true → r.to ≤ bs.length) (hl : bs.length + r.bytes.length ≤ 140737488355328) :
    Calls Tryz.prog 171 #[.agg #[.int .i64 (kof r), .int .i64 r.file, r.v, .int .i64 r.to], vb] w fun E w' => ∃ v, E = .returned v ∧ Own .u8 5 base w' v (Dm.wth bs r.r) ∧ Out (fun g => vb.ownBlock = some g) w w' ∧ ∀ b, v.ownBlock = some b → vb.ownBlock = some b ∨ w.heap.size ≤ b := by
  cases hc : r.cut
  · have hk : kof r = 0 := by simp [kof, hc]
    have e : Dm.wth bs r.r = bs ++ r.bytes := by simp [Dm.wth, Rv.r, hc]
    rw [e, hk]
    obtain ⟨w1, hw1, sz1, bel1, hB⟩ := blk_step w #[.int .i64 0, .int .i64 r.file, r.v, .int .i64 r.to] 196
    have c0 : w1.cell? ⟨w.heap.size, 0, none⟩ = some (.int .i64 0) := blk_cell hB 0 rfl
    have c2 : w1.cell? ⟨w.heap.size, 2, none⟩ = some r.v := blk_cell hB 2 rfl
    have hb1 := hb.below bel1
    have hv1 := hv.below bel1
    have X : Hid (∀ ty, ∃ v' w', (Builtin.append_ #[112, 112] ty #[vb, r.v]).run Tryz.prog w1 = .ok v' w' ∧ (Own .u8 5 base w' v' (bs ++ r.bytes) ∧ w1.grownBy w' vb.ownBlock ∧ (v'.ownBlock = vb.ownBlock ∨ v'.ownBlock = some w1.heap.size))) := hide fun ty =>
      run_append_is_at 112 ty .u8 5 base 1 Tryz.underlying112 Tryz.info5 (by decide) vb bs hb1 r.v r.bytes hv1 (by omega) (by omega)
    clear hB hb1 hv1 hto hc e hk
    go_enter Tryz.func171, Tryz.ntmps171
    go_wp2_with (at_builtin; refine wpList_append_at rfl (.tmp 9) (.tmp 11) 112 rfl vb r.v rfl rfl X.out ?_)
    intro v2 w2 own2 gr2 at2
    have ho : Out (fun g => vb.ownBlock = some g) w w2 := (Out.of_below bel1).trans (G := fun g => vb.ownBlock = some g) (Out.of_grown gr2 fun g hg => hg) fun g hg => .inl hg
    have hat : ∀ b, v2.ownBlock = some b → vb.ownBlock = some b ∨ w.heap.size ≤ b := by
      intro b hb'
      rcases at2 with h | h
      · exact .inl (by rw [← h]; exact hb')
      · rw [hb'] at h
        simp at h
        exact .inr (by omega)
    have HO := hide ho
    have HAT := hide hat
    clear ho hat at2 gr2
    go_wp2
    go_ret
    exact ⟨_, rfl, own2, HO.out, HAT.out⟩
  · have hk : kof r = 1 := by simp [kof, hc]
    have e : Dm.wth bs r.r = bs.take r.to := by simp [Dm.wth, Rv.r, hc]
    rw [e, hk]
    have hto' := hto hc
    obtain ⟨w1, hw1, sz1, bel1, hB⟩ := blk_step w #[.int .i64 1, .int .i64 r.file, r.v, .int .i64 r.to] 196
    have c0 : w1.cell? ⟨w.heap.size, 0, none⟩ = some (.int .i64 1) := blk_cell hB 0 rfl
    have c3 : w1.cell? ⟨w.heap.size, 3, none⟩ = some (.int .i64 r.to) := blk_cell hB 3 rfl
    obtain ⟨vs, hsl, own, hat⟩ := (hb.below bel1).slice_h Tryz.elemP Tryz.sizeP r.to hto'
    have HO : Hid (Out (fun g => vb.ownBlock = some g) w w1) := hide (Out.of_below bel1)
    have HAT : Hid (∀ b, vs.ownBlock = some b → vb.ownBlock = some b ∨ w.heap.size ≤ b) := hide fun b hb' => .inl (hat b hb')
    clear hB hat hto hc e hk
    go_enter Tryz.func171, Tryz.ntmps171
    go_wp2
    go_ret
    exact ⟨_, rfl, own, HO.out, HAT.out⟩

set_option maxHeartbeats 2000000 in
theorem held_any (p : Nat) (F : Nat → Prop) (w : World) (st : Dm.Ds) (f : Nat) (h : Pk p F w st) (hf : f < 4) (hsz : (st.sure f).length + Dm.bulk st.wait ≤ 140737488355000) (hw : st.wait.length ≤ 1000000) :
    Calls Tryz.prog 127 #[.pointer (some ⟨p, 0, none⟩), .int .i64 f] w fun E w' => ∃ v, E = .returned v ∧ Own .u8 5 w.heap.size w' v (Dm.hold f (st.sure f) st.wait) ∧ Below w.heap.size w w' := by
  obtain ⟨s, wv, rs, h, rfl⟩ := h
  have cf := h.cf f hf
  have c7 := h.c7
  have hp := h.lt p (.inl rfl)
  have isf := (h.con.file f hf).is
  have hlr := h.con.len
  obtain ⟨ao, cap, hv, hcap, hcm⟩ := h.con.row.row.shape
  have hrow : 0 < rs.length → ∃ b off c, wv = .slice (some ⟨b, off, none⟩) rs.length c ∧ b < w.heap.size ∧ ∀ i a, rs[i]? = some a → ∀ j u, (stepc a)[j]? = some u → w.cell? ⟨b, off + i * 4 + j, none⟩ = some u := by
    intro h0
    obtain ⟨b, off, c, h1, _, _, h4, h5⟩ := h.con.row.row.full stepc_len (by decide) h0
    exact ⟨b, off, c, h1, h4, h5⟩
  have H := hide h
  have HROW := hide hrow
  subst hv
  clear h hrow
  have hf0 : (0 : Int) ≤ (f : Int) := by omega
  have hf4 : (f : Int) < 4 := by omega
  go_enter Tryz.func127, Tryz.ntmps127
  go_wp2_with fail
  refine (bclone_any _ _ _ isf (by omega)).mono ?_
  rintro E w1 ⟨v1, rfl, own1, bel1⟩
  have d7 := (bel1.cell (p := ⟨p, 7, none⟩) hp).trans c7
  clear cf isf
  go_wp2
  go_loopw [5, 20] (fun bv iv wr => ∃ k : Nat, k ≤ rs.length ∧ iv = .int .i64 k ∧ Hid (Own .u8 5 w.heap.size wr bv (Dm.hold f (st.sure f) (st.wait.take k))) ∧ Below w.heap.size w wr) (fun _ iv _ => rs.length - (intOf iv).toNat)
  case atStart => exact ⟨0, by omega, rfl, hide (by simpa [Dm.hold] using own1), bel1⟩
  case round =>
    obtain ⟨k, hk, rfl, HT, bel⟩ := hrel
    have sz := bel.size
    by_cases hlt : k < rs.length
    · obtain ⟨b, off, cq, hvx, hB, hcell⟩ := HROW.out (by omega)
      simp only [Value.slice.injEq, true_and] at hvx
      obtain ⟨rfl, rfl⟩ := hvx
      obtain ⟨r, hr⟩ : ∃ r, rs[k]? = some r := ⟨rs[k], by rw [List.getElem?_eq_getElem]⟩
      have e0 : wr.cell? ⟨b, off + k * 4, none⟩ = some (.int .i64 (kof r)) := (bel.cell (p := ⟨b, off + k * 4, none⟩) hB).trans (hcell k r hr 0 _ rfl)
      have e1 : wr.cell? ⟨b, off + k * 4 + 1, none⟩ = some (.int .i64 r.file) := (bel.cell (p := ⟨b, off + k * 4 + 1, none⟩) hB).trans (hcell k r hr 1 _ rfl)
      have e2 : wr.cell? ⟨b, off + k * 4 + 2, none⟩ = some r.v := (bel.cell (p := ⟨b, off + k * 4 + 2, none⟩) hB).trans (hcell k r hr 2 _ rfl)
      have e3 : wr.cell? ⟨b, off + k * 4 + 3, none⟩ = some (.int .i64 r.to) := (bel.cell (p := ⟨b, off + k * 4 + 3, none⟩) hB).trans (hcell k r hr 3 _ rfl)
      obtain ⟨V, hV, hV2, szV, belV, bV, x0, x1, x2, x3⟩ := new_four wr 196 (.int .i64 0) (.int .i64 0) (.slice none 0 0) (.int .i64 0) (.int .i64 (kof r)) (.int .i64 r.file) r.v (.int .i64 r.to)
      have hst : st.wait[k]? = some r.r := by rw [← H.out.con.wait, List.getElem?_map, hr]; rfl
      have hbl := bulk_at hst
      have hhl := Dm.hold_len (st.wait.take k) (st.sure f) f
      have hfit := Dm.valid_at H.out.ok hst
      obtain ⟨ar, cr, hrv, _, _⟩ := (H.out.con.raw r (List.mem_of_getElem? hr)).1.shape
      have ir := (((H.out.con.raw r (List.mem_of_getElem? hr)).1).below bel).below belV
      have HN := hide (hold_next hst f (st.sure f))
      have hlt' : (k : Int) < rs.length := by omega
      have hk0 : (0 : Int) ≤ (k : Int) := by omega
      have belRV := bel.trans (belV.mono (by omega))
      have HTV := hide (HT.out.below belV)
      by_cases hff : r.file = f
      · have hfe : ((r.file : Int) == (f : Int)) = true := by simp [hff]
        have hto : r.cut = true → r.to ≤ (Dm.hold f (st.sure f) (st.wait.take k)).length := by
          intro hc
          have := hfit.2.1 hc
          rw [show r.r.file = f from hff, ← Dm.hold_dof] at this
          exact this
        have HTO := hide hto
        have hlen : (Dm.hold f (st.sure f) (st.wait.take k)).length + r.bytes.length ≤ 140737488355328 := by
          have : r.r.bytes = r.bytes := rfl
          rw [this] at hbl
          omega
        have hff' : r.r.file = f := hff
        have HFF := hide hff'
        have BI := hide (fun (v0 : Value) (h0 : Own .u8 5 w.heap.size V v0 (Dm.hold f (st.sure f) (st.wait.take k))) => behind_any w.heap.size v0 _ r V h0 (by omega) ir HTO.out hlen)
        have HB2 := hide bV
        have HRV := hide hrv
        rw [hrv] at e2 hV hV2 x2
        rw [hrv] at BI
        clear hst hbl hhl hfit hto hff hff' hcell hr HTO hlen ir hrv bV
        go_wp2_with fail
        refine (BI.out _ HTV.out).mono ?_
        rintro E w2 ⟨v2, rfl, own2, out2, at2⟩
        have bel2 : Below w.heap.size V w2 := out2.below (fun g hg => (HTV.out.block g hg).1) (by omega)
        have HT2 : Hid (Own .u8 5 w.heap.size w2 v2 (Dm.hold f (st.sure f) (st.wait.take (k + 1)))) := hide (by
          rw [HN.out, if_pos HFF.out]
          exact own2)
        have belR := belRV.trans bel2
        clear own2 bel2 out2 at2
        go_wp2
        go_roundw
        case rel => exact ⟨k + 1, by omega, by go_num, HT2, belR⟩
        case measure => simp [intOf]; omega
      · have hfe : ((r.file : Int) == (f : Int)) = false := by simp; omega
        have HT2 := hide (show Own .u8 5 w.heap.size V _ (Dm.hold f (st.sure f) (st.wait.take (k + 1))) by rw [HN.out, if_neg (show ¬ r.r.file = f from hff)]; exact HTV.out)
        rw [hrv] at e2 hV hV2 x2
        clear hst hbl hhl hfit hcell hr hff ir hrv bV
        go_wp2
        go_roundw
        case rel => exact ⟨k + 1, by omega, by go_num, HT2, belRV⟩
        case measure => simp [intOf]; omega
    · have hlt' : ¬ (k : Int) < rs.length := by omega
      have HT2 := HT.out
      rw [List.take_of_length_le (by omega)] at HT2
      clear HT
      go_wp2
      go_ret
      exact ⟨_, rfl, HT2, bel⟩

end Go.Proofs.YthmecljkackmbaaGreat
