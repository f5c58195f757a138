/- StartsOf: the walk. -/
import Derived.Test.YtklpbcdkgjoheaaSap
import Derived.Test.YtklpbcdkgjoheaaSw
import Derived.Test.YtklpbcdkgjoheaaSn
import Derived.Test.YtklpbcdkgjoheaaCs
import Derived.Deep.CutRange
namespace Go.Proofs.Ytklpbcdkgjoheaa
open Go.RowKit
set_option linter.unusedVariables false

/-- Two in a table. -/
def duoO {α : Type} (a b : α) : Nat → α | 0 => a | _ => b

theorem listsS_low {w : World} {vt vx vu : Value} {zx zu : List Sm.S} {s1 : Nat} (hx : RowS w vx zx) (hu : RowS w vu zu) (bt : ∀ g, vt.ownBlock = some g → s1 ≤ g ∧ g < w.heap.size) (bx : ∀ g, vx.ownBlock = some g → g < s1) (bu : ∀ g, vu.ownBlock = some g → g < s1) (lx : zx.length ≤ 1000) (lu : zu.length ≤ 1000) :
    ListsS 2 w.heap.size (w.alloc (.cells #[vx, vu] 22)) vt (duoO vx vu) (duoO zx zu) := by
  have bel : Below w.heap.size w (w.alloc (.cells #[vx, vu] 22)) := (Below.refl _ _).alloc (Nat.le_refl _) _
  have two : ∀ i, i < 2 → i = 0 ∨ i = 1 := by omega
  refine ⟨fun i hi => ?_, fun i hi => ?_, fun i hi g hg e => ?_, fun e => ?_, fun i hi => ?_⟩
  · rcases two i hi with rfl | rfl <;> simp [duoO]
  · rcases two i hi with rfl | rfl
    · exact hx.below bel
    · exact hu.below bel
  · rcases two i hi with rfl | rfl
    · have := bt g hg; have := bx g e; omega
    · have := bt g hg; have := bu g e; omega
  · have := bt _ e; omega
  · rcases two i hi with rfl | rfl
    · exact lx
    · exact lu

/-- What the three lent ones are. -/
structure Lent3 (B : Nat) (w0 w : World) (vf vx : Value) (R : Nat) (r : List Cw) (a : List Sm.S) (e n : Int) (o : List Bm.Ov) : Prop where
  com : ∃ rs, RowC w vf (rs ++ [behC, behC, behC]) ∧ cvs rs = cvs r ∧ LentR B w rs
  sts : OwnS B w vx (a ++ beS)
  one : ∃ ao co, w.heap[R]? = some (.cells #[.int .i64 e, .int .i64 n, .slice ao o.length co] 40 (0, 0)) ∧ LentV B w (.slice ao o.length co) o
  bel : Below B w0 w
  ge : B ≤ R

theorem LentR.rebase {base base' : Nat} {w : World} {rs : List Cw} (h : LentR base w rs) (hb : base' ≤ base) : LentR base' w rs := fun c hc => (h c hc).rebase hb

/-- What the first call has made. -/
def L1 (B : Nat) (w : World) (vf : Value) (r : List Cw) : Prop := ∃ rs, RowC w vf (rs ++ [behC, behC, behC]) ∧ cvs rs = cvs r ∧ LentR B w rs

theorem L1.below {B : Nat} {w w' : World} {vf : Value} {r : List Cw} (h : L1 B w vf r) (hb : Below w.heap.size w w') : L1 B w' vf r := by
  obtain ⟨rs, h1, h2, h3⟩ := h
  exact ⟨rs, h1.below hb, h2, h3.below hb⟩

theorem KeepT.of_put {w w' : World} {R : Nat} {cs : Array Value} {t : TypeId} {fr : Nat × Nat} (hR : w.heap[R]? = some (.cells cs t fr)) (hg : w.grownBy w' (some R)) : KeepT t w w' := by
  intro g cs' t' fr' hc ht
  refine (hg.block g (blk_lt hc) fun e1 => ?_).trans hc
  have e2 := Option.some.inj e1
  subst e2
  rw [hR] at hc
  simp at hc
  exact ht hc.2.1.symm

theorem L1.put {B R : Nat} {w w' : World} {vf : Value} {r : List Cw} {cs : Array Value} {fr : Nat × Nat} (h : L1 B w vf r) (hR : w.heap[R]? = some (.cells cs 40 fr)) (hg : w.grownBy w' (some R)) (hne : vf.ownBlock ≠ some R) : L1 B w' vf r := by
  obtain ⟨rs, h1, h2, h3⟩ := h
  refine ⟨rs, ?_, h2, fun c hc => (h3 c hc).keepT (KeepT.of_put hR hg) (by decide)⟩
  rcases h1 with h1 | ⟨ad, cap, hv, k1, k2, hcell⟩
  · exact .inl h1
  · refine .inr ⟨ad, cap, hv, k1, k2, fun j u hj => hg.cell (hcell j u hj) fun e => ?_⟩
    have eb : (ad.add j).block = ad.block := by unfold Addr.add; split <;> rfl
    rw [eb] at e
    exact hne (by rw [hv]; exact e)

theorem ownS_put {B R : Nat} {w w' : World} {v : Value} {l : List Sm.S} {cs : Array Value} {fr : Nat × Nat} (h : OwnS B w v l) (hR : w.heap[R]? = some (.cells cs 40 fr)) (hg : w.grownBy w' (some R)) : OwnS B w' v l :=
  h.agree fun b hb => by
    obtain ⟨cs', hc⟩ := OwnG.type h hb
    rw [hc]
    exact KeepT.of_put hR hg b _ _ _ hc (by decide)

/-- The third one is stored in a block that was made ahead. -/
theorem lent3_put {B R : Nat} {w0 w w' : World} {vf vx : Value} {r : List Cw} {a : List Sm.S} {e n : Int} {o : List Bm.Ov} {ah : Option Addr} {ch : Nat} {x y z : Value} (A : L1 B w vf r) (X : OwnS B w vx (a ++ beS)) (V : LentV B w (.slice ah o.length ch) o) (hR : w.heap[R]? = some (.cells #[x, y, z] 40 (0, 0))) (hg : w.grownBy w' (some R)) (hb : w'.heap[R]? = some (.cells #[.int .i64 e, .int .i64 n, .slice ah o.length ch] 40 (0, 0))) (hne : vf.ownBlock ≠ some R) (bel : Below B w0 w') (ge : B ≤ R) : Lent3 B w0 w' vf vx R r a e n o :=
  ⟨A.put hR hg hne, ownS_put X hR hg, ⟨ah, ch, hb, V.keepT (KeepT.of_put hR hg) (by decide)⟩, bel, ge⟩

/-- .. or in one that is made for it. -/
theorem lent3_new {B R : Nat} {w0 w w' : World} {vf vx : Value} {r : List Cw} {a : List Sm.S} {e n : Int} {o : List Bm.Ov} {ah : Option Addr} {ch : Nat} (A : L1 B w vf r) (X : OwnS B w vx (a ++ beS)) (V : LentV B w (.slice ah o.length ch) o) (hn : Below w.heap.size w w') (hb : w'.heap[R]? = some (.cells #[.int .i64 e, .int .i64 n, .slice ah o.length ch] 40 (0, 0))) (bel : Below B w0 w') (ge : B ≤ R) : Lent3 B w0 w' vf vx R r a e n o :=
  ⟨A.below hn, ownS_below X hn, ⟨ah, ch, hb, V.below hn⟩, bel, ge⟩

set_option maxRecDepth 100000 in
set_option maxHeartbeats 8000000 in
theorem startsOf_walk (v0 : Value) (r : List Cw) (v1 : Value) (a : List Sm.S) (en e n : Int) (vo : Value) (o : List Bm.Ov) (w : World) (h0 : IsC w v0 r) (f0 : FitC r) (l0 : r.length * 40 ≤ 140737488351232) (h1 : RowS w v1 a) (l1 : a.length * 16 ≤ 140737488351232) (hen : (Lit.int .i64 en).wf = true) (he : In64 e) (hn : In64 n) (ho : IsO w vo o) (fo : FitO o) (lo : o.length * 40 ≤ 140737488351232) :
    Calls Try.prog 5 #[v0, v1, .int .i64 en, cmv e n vo] w fun E w' => E = .returned (.bool true) ∧ Below w.heap.size w w' := by
  unfold cmv
  obtain ⟨a0, c0, hv0, k0, _⟩ := h0.1.shape
  obtain ⟨a1, c1, hv1, k1, _⟩ := h1.shape
  obtain ⟨a2, c2, hv2, k2, _⟩ := ho.shape
  subst hv0 hv1 hv2
  obtain ⟨wb, hwb, szb, belb, hB⟩ := blk_step w #[.int .i64 e, .int .i64 n, .slice a2 o.length c2] 40
  have R0 := hide (h0.below belb)
  have R1 := hide (h1.below belb)
  have RO := hide (ho.below belb)
  have F0 := hide f0
  have FO := hide fo
  have HBx := hide hB
  have LO40 := hide lo
  have HE := hide he
  have HN := hide hn
  clear h0 h1 ho f0 fo hen lo he hn hB
  go_enter Try.func5, Try.ntmps5
  go_wp2_with fail
  refine (lives_any wb).mono ?_
  rintro E w2 ⟨rfl, bel2⟩
  have s2 := bel2.size
  have hB2 := (bel2.block w.heap.size (by omega)).trans HBx.out
  have q2 := blk_cell hB2 2 rfl
  have belw : Below w.heap.size w w2 := belb.trans (bel2.mono (by omega))
  by_cases g0 : 40 < r.length
  · have g0' : (40 : Int) < (r.length : Int) := by omega
    go_wp2
    go_ret
    exact ⟨rfl, belw⟩
  have g0' : ¬ (40 : Int) < (r.length : Int) := by omega
  by_cases g1 : 40 < a.length
  · have g1' : (40 : Int) < (a.length : Int) := by omega
    go_wp2
    go_ret
    exact ⟨rfl, belw⟩
  have g1' : ¬ (40 : Int) < (a.length : Int) := by omega
  by_cases g2 : 40 < o.length
  · have g2' : (40 : Int) < (o.length : Int) := by omega
    go_wp2
    go_ret
    exact ⟨rfl, belw⟩
  have g2' : ¬ (40 : Int) < (o.length : Int) := by omega
  replace R0 := hide (R0.out.below bel2)
  replace R1 := hide (R1.out.below bel2)
  replace RO := hide (RO.out.below bel2)
  have HB2 := hide hB2
  have LR : Hid (r.length ≤ 40) := hide (by omega)
  have LA : Hid (a.length ≤ 40) := hide (by omega)
  have LO : Hid (o.length ≤ 40) := hide (by omega)
  have KC : Hid (∀ W, Below w2.heap.size w2 W → W.cell? ⟨w.heap.size, 0, none⟩ = some (.int .i64 e) ∧ W.cell? ⟨w.heap.size, 1, none⟩ = some (.int .i64 n) ∧ W.cell? ⟨w.heap.size, 2, none⟩ = some (.slice a2 o.length c2)) := hide fun W hW => by
    have hB6 := (hW.block w.heap.size (by omega)).trans HB2.out
    exact ⟨blk_cell hB6 0 rfl, blk_cell hB6 1 rfl, blk_cell hB6 2 rfl⟩
  have CC : Hid (∀ W, Below w2.heap.size w2 W → _) := hide fun W hW => lentCs_any _ r W (R0.out.below hW) F0.out (by have := LR.out; omega)
  have CS : Hid (∀ W, Below w2.heap.size w2 W → _) := hide fun W hW => lentS_any _ a W (R1.out.below hW) (by have := LA.out; omega)
  have CO : Hid (∀ W, Below w2.heap.size w2 W → _) := hide fun W hW => lentC_any e n _ o W (RO.out.below hW) LO40.out
  unfold cmv at CO
  obtain ⟨wz, hwz, szz, belz, hz⟩ := blk_step w2 #[.int .i64 0, .int .i64 0, .slice none 0 0] 40
  have HZ0 := hide hz
  have b20 : Below w2.heap.size w2 w2 := Below.refl _ _
  obtain ⟨d0, d1, d2⟩ := KC.out _ b20
  clear l0 l1 g0 g1 g2 bel2 hB2 hz HBx q2
  go_wp2_with fail
  go_cut [9, 10, 11] from 36 to 41 (fun v9 v10 v11 wx => ∃ R, v11 = .pointer (some ⟨R, 0, none⟩) ∧ Lent3 w2.heap.size w2 wx v9 v10 R r a e n o)
  case first =>
    go_region_held3 (fun w' => w'.cell? ⟨w.heap.size, 0, none⟩ = some (.int .i64 e) ∧ w'.cell? ⟨w.heap.size, 1, none⟩ = some (.int .i64 n) ∧ w'.cell? ⟨w.heap.size, 2, none⟩ = some (.slice a2 o.length c2)) (first | exact ⟨d0, d1, d2⟩ | exact KC.out _ b20.drew | exact KC.out _ belz.drew | exact KC.out _ b3 | exact KC.out _ bz3 | exact KC.out _ b4 | exact KC.out _ bz4 | exact KC.out _ b5 | exact KC.out _ bz5 | exact KC.out _ b6 | go_keep)
      (first
      | (go_at_call 22; guard_target =~ Calls _ _ _ wz.drew _; refine (CC.out _ belz.drew).mono ?_; rintro E w3 ⟨vf, rs, rfl, ownf, ef, lf, bel3⟩; have s3 := bel3.size; have szd : wz.drew.heap.size = wz.heap.size := rfl; have b3 : Below w2.heap.size w2 w3 := belz.drew.trans (bel3.mono (by omega)); have hZ := (bel3.block w2.heap.size (by omega)).trans HZ0.out; have GE : Hid (w2.heap.size ≤ w2.heap.size) := hide (Nat.le_refl _); have NR : Hid (vf.ownBlock ≠ some w2.heap.size) := hide (fun e => by have := World.ownsRow.lt ownf _ e; omega); have A1 : Hid (L1 w2.heap.size w3 vf r) := hide ⟨rs, ownf.row, ef, lf.rebase (by omega)⟩; have ZZ := hide hZ; clear bel3 ownf ef lf hZ)
      | (go_at_call 22; refine (CC.out _ b20.drew).mono ?_; rintro E w3 ⟨vf, rs, rfl, ownf, ef, lf, bel3⟩; have s3 := bel3.size; have szd : w2.drew.heap.size = w2.heap.size := rfl; have b3 : Below w2.heap.size w2 w3 := b20.drew.trans (bel3.mono (by omega)); obtain ⟨wz3, hwz3, szz3, belz3, hz3⟩ := blk_step w3 #[.int .i64 0, .int .i64 0, .slice none 0 0] 40; have bz3 := b3.trans (belz3.mono (by omega)); have HZ3 := hide hz3; have BV3 : Hid (∀ g, vf.ownBlock = some g → g < w3.heap.size) := hide (fun g e => (World.ownsRow.lt ownf g e).2); have A1 : Hid (L1 w2.heap.size w3 vf r) := hide ⟨rs, ownf.row, ef, lf.rebase (by omega)⟩; have A13 := hide (A1.out.below belz3); clear bel3 ownf ef lf hz3)
      | (go_at_call 15; have zz := ZZ.out; refine (CS.out _ b3).mono ?_; rintro E w4 ⟨vx, rfl, ownx, bel4⟩; have s4 := bel4.size; have b4 := b3.trans (bel4.mono b3.size); have lz := blk_lt zz; replace ZZ := hide ((bel4.block _ lz).trans zz); replace A1 := hide (A1.out.below bel4); have X1 := hide (ownS_rebase (base' := w2.heap.size) ownx b3.size); clear bel4 ownx zz lz)
      | (go_at_call 15; guard_target =~ Calls _ _ _ wz3 _; refine (CS.out _ bz3).mono ?_; rintro E w4 ⟨vx, rfl, ownx, bel4⟩; have s4 := bel4.size; have b4 := bz3.trans (bel4.mono bz3.size); have ZZ := hide ((bel4.block w3.heap.size (by omega)).trans HZ3.out); have GE : Hid (w2.heap.size ≤ w3.heap.size) := hide b3.size; have NR : Hid (vf.ownBlock ≠ some w3.heap.size) := hide (fun e => by have := BV3.out _ e; omega); replace A1 := hide (A13.out.below bel4); have X1 := hide (ownS_rebase (base' := w2.heap.size) ownx bz3.size); clear bel4 ownx)
      | (go_at_call 15; refine (CS.out _ b3).mono ?_; rintro E w4 ⟨vx, rfl, ownx, bel4⟩; have s4 := bel4.size; have b4 := b3.trans (bel4.mono b3.size); replace A1 := hide (A1.out.below bel4); have X1 := hide (ownS_rebase (base' := w2.heap.size) ownx b3.size); obtain ⟨wz4, hwz4, szz4, belz4, hz4⟩ := blk_step w4 #[.int .i64 0, .int .i64 0, .slice none 0 0] 40; have bz4 := b4.trans (belz4.mono b4.size); have HZ4 := hide hz4; have A14 := hide (A1.out.below belz4); have X14 := hide (ownS_below X1.out belz4); clear bel4 ownx hz4)
      | (go_at_call 23; have zz0 := ZZ.out; refine (CO.out _ b4).mono ?_; rintro E w5 ⟨v5, rfl, lv5, bel5⟩; have s5 := bel5.size; obtain ⟨ah, ch, hv5, _, _⟩ := lv5.is.shape; subst hv5; have b5 := b4.trans (bel5.mono b4.size); have zz := (bel5.block _ (blk_lt zz0)).trans zz0; replace A1 := hide (A1.out.below bel5); replace X1 := hide (ownS_below X1.out bel5); have lv6 := lv5.rebase (base' := w2.heap.size) b4.size; obtain ⟨w6, hw6, bV, gV, ⟨p0, p1, p2⟩, ⟨f0, f1, f2⟩, ⟨z0, z1, z2⟩⟩ := res_step zz (.int .i64 e) (.int .i64 n) (.slice ah o.length ch); have b6 := below_put b5 gV GE.out b5.size; have L3 := hide (lent3_put A1.out X1.out lv6 zz gV bV NR.out b6 GE.out); clear bV gV zz lv6)
      | (go_at_call 23; guard_target =~ Calls _ _ _ wz4 _; refine (CO.out _ bz4).mono ?_; rintro E w5 ⟨v5, rfl, lv5, bel5⟩; have s5 := bel5.size; obtain ⟨ah, ch, hv5, _, _⟩ := lv5.is.shape; subst hv5; have b5 := bz4.trans (bel5.mono bz4.size); have zz := (bel5.block w4.heap.size (by omega)).trans HZ4.out; have GE : Hid (w2.heap.size ≤ w4.heap.size) := hide b4.size; have NR : Hid (vf.ownBlock ≠ some w4.heap.size) := hide (fun e => by have := BV3.out _ e; omega); replace A1 := hide (A14.out.below bel5); replace X1 := hide (ownS_below X14.out bel5); have lv6 := lv5.rebase (base' := w2.heap.size) bz4.size; obtain ⟨w6, hw6, bV, gV, ⟨p0, p1, p2⟩, ⟨f0, f1, f2⟩, ⟨z0, z1, z2⟩⟩ := res_step zz (.int .i64 e) (.int .i64 n) (.slice ah o.length ch); have b6 := below_put b5 gV GE.out b5.size; have L3 := hide (lent3_put A1.out X1.out lv6 zz gV bV NR.out b6 GE.out); clear bV gV zz lv6)
      | (go_at_call 23; refine (CO.out _ b4).mono ?_; rintro E w5 ⟨v5, rfl, lv5, bel5⟩; have s5 := bel5.size; obtain ⟨ah, ch, hv5, _, _⟩ := lv5.is.shape; subst hv5; have b5 := b4.trans (bel5.mono b4.size); replace A1 := hide (A1.out.below bel5); replace X1 := hide (ownS_below X1.out bel5); have lv6 := lv5.rebase (base' := w2.heap.size) b4.size; obtain ⟨w6, hw6, hw6', sz6, bel6, hF6, q0, q1, q2⟩ := new_step w5 40 (.int .i64 0) (.int .i64 0) (.slice none 0 0) (.int .i64 e) (.int .i64 n) (.slice ah o.length ch); have b6 := b5.trans (bel6.mono b5.size); obtain ⟨wz5, hwz5, szz5, belz5, hz5⟩ := blk_step w5 #[.int .i64 0, .int .i64 0, .slice none 0 0] 40; have bz5 := b5.trans (belz5.mono b5.size); have L3 := hide (lent3_new A1.out X1.out lv6 bel6 hF6 b6 b5.size); clear bel6 hF6 lv6 hwz5 hz5))
    all_goals
      go_wp2_with fail
      go_meet
      exact ⟨_, rfl, L3.out⟩
  case rest =>
    obtain ⟨R, rfl, L3⟩ := hcut
    obtain ⟨w6, hw6⟩ : ∃ x, x = wc := ⟨_, rfl⟩
    rw [← hw6] at L3 ⊢
    obtain ⟨⟨rs, rowf, ers, lr⟩, ownx, ⟨ao, co, hR, lv⟩, bel6, geR⟩ := L3
    have lrs : rs.length = r.length := cvs_len ers
    have lf : (rs ++ [behC, behC, behC]).length = r.length + 3 := by rw [List.length_append, lrs]; rfl
    have lx : (a ++ beS).length = a.length + 3 := by rw [List.length_append]; rfl
    obtain ⟨af, cf, hvf, hf1, _⟩ := rowf.shape
    obtain ⟨ax, cx, hvx, hx1, hx2, hx3⟩ := rowS_shape ownx.row
    rw [lf] at hvf hf1
    rw [lx] at hvx hx1
    subst hvf hvx
    have BX := hide (OwnG.lt ownx)
    have s6 := bel6.size
    replace R0 := hide (R0.out.below bel6)
    replace R1 := hide (R1.out.below bel6)
    replace RO := hide (RO.out.below bel6)
    have RF := hide rowf
    have LRR := hide lr
    have RX := hide ownx.row
    have LV := hide lv
    have HRb := hide hR
    have B2 := hide bel6
    replace belw := belw.trans (bel6.mono belw.size)
    obtain ⟨vq, hsl, rowq⟩ := rowf.slice_h Try.elemC Try.sizeC r.length (by rw [lf]; omega)
    rw [show (rs ++ [behC, behC, behC]).take r.length = rs by rw [← lrs, List.take_left]] at rowq
    have OFQ := of_any vq rs w6 ⟨rowq, lr.inC ers R0.out.2⟩ (fit_same ers F0.out) (by rw [lrs]; have := LR.out; omega)
    have ERS := hide ers
    rw [ers] at OFQ
    obtain ⟨fl, hfl⟩ : ∃ f, Cm.fol 0 0 0 (cvs r) = f := ⟨_, rfl⟩
    obtain ⟨fe, fp⟩ := fl
    have HFL := hide hfl
    unfold flv at OFQ
    rw [hfl] at OFQ
    simp only at OFQ
    have OQ := hide OFQ
    have hslx := run_frontS ax (a.length + 3) cx a.length (by omega) hx3
    have HSX := hide hslx
    have ROX := hide (ownx.row.frontS a.length (by rw [lx]; omega))
    rw [List.take_left' rfl] at ROX
    have LOF : Hid ((ofs (cvs r)).length ≤ 40) := hide (by
      unfold ofs
      split
      · exact Nat.le_trans (told_len _ _) (by unfold cvs; rw [List.length_map]; exact LR.out)
      · simp)
    clear hw6 rowf ers lr ownx hR lv bel6 lrs lf lx hf1 hx1 hx2 hx3 rowq OFQ hfl hslx d0 d1 d2 hwz szz belz HZ0 CC CS CO b20
    go_wp2_with fail
    refine OQ.out.mono ?_
    rintro E w7 ⟨v12, rfl, own12, bel7⟩
    obtain ⟨a12, c12, hv12, _, _⟩ := own12.row.shape
    subst hv12
    have R12 := hide own12.row
    have B12 := hide (OwnG.lt own12)
    have s7 := bel7.size
    replace R0 := hide (R0.out.below bel7)
    replace R1 := hide (R1.out.below bel7)
    replace RO := hide (RO.out.below bel7)
    replace RF := hide (RF.out.below bel7)
    replace LRR := hide (LRR.out.below bel7)
    replace RX := hide (RX.out.below bel7)
    replace LV := hide (LV.out.below bel7)
    replace ROX := hide (ROX.out.below bel7)
    replace HRb := hide ((bel7.block _ (blk_lt HRb.out)).trans HRb.out)
    replace B2 := hide (B2.out.trans (bel7.mono B2.out.size))
    replace belw := belw.trans (bel7.mono belw.size)
    obtain ⟨w8, hw8, hw8', sz8, bel8, hF8, x0, x1⟩ := new_two w7 44 (.int .i64 0) (.int .i64 0) (.int .i64 fe) (.int .i64 fp)
    have FA := hide hF8
    replace R0 := hide (R0.out.below bel8)
    replace R1 := hide (R1.out.below bel8)
    replace RO := hide (RO.out.below bel8)
    replace RF := hide (RF.out.below bel8)
    replace LRR := hide (LRR.out.below bel8)
    replace RX := hide (RX.out.below bel8)
    replace LV := hide (LV.out.below bel8)
    replace ROX := hide (ROX.out.below bel8)
    replace R12 := hide (R12.out.below bel8)
    replace HRb := hide ((bel8.block _ (blk_lt HRb.out)).trans HRb.out)
    replace B2 := hide (B2.out.trans (bel8.mono B2.out.size))
    replace belw := belw.trans (bel8.mono belw.size)
    have OR := ofR_any _ r w8 R0.out F0.out (by have := LR.out; omega)
    unfold flv at OR
    rw [HFL.out] at OR
    simp only at OR
    have OQ2 := hide OR
    clear OR own12 bel7 bel8 hF8 x0 x1 hsl OQ
    go_wp2_with fail
    refine OQ2.out.mono ?_
    rintro E w9 ⟨v14, rfl, own14, bel9⟩
    have R14 := hide own14.row
    have s9 := bel9.size
    replace R0 := hide (R0.out.below bel9)
    replace R1 := hide (R1.out.below bel9)
    replace RO := hide (RO.out.below bel9)
    replace RF := hide (RF.out.below bel9)
    replace LRR := hide (LRR.out.below bel9)
    replace RX := hide (RX.out.below bel9)
    replace LV := hide (LV.out.below bel9)
    replace ROX := hide (ROX.out.below bel9)
    replace R12 := hide (R12.out.below bel9)
    replace HRb := hide ((bel9.block _ (blk_lt HRb.out)).trans HRb.out)
    replace FA := hide ((bel9.block _ (blk_lt FA.out)).trans FA.out)
    replace B2 := hide (B2.out.trans (bel9.mono B2.out.size))
    replace belw := belw.trans (bel9.mono belw.size)
    obtain ⟨w10, hw10, hw10', sz10, bel10, hF10, x0, x1⟩ := new_two w9 44 (.int .i64 0) (.int .i64 0) (.int .i64 fe) (.int .i64 fp)
    have FB := hide hF10
    replace R0 := hide (R0.out.below bel10)
    replace R1 := hide (R1.out.below bel10)
    replace RO := hide (RO.out.below bel10)
    replace RF := hide (RF.out.below bel10)
    replace LRR := hide (LRR.out.below bel10)
    replace RX := hide (RX.out.below bel10)
    replace LV := hide (LV.out.below bel10)
    replace ROX := hide (ROX.out.below bel10)
    replace R12 := hide (R12.out.below bel10)
    replace R14 := hide (R14.out.below bel10)
    replace HRb := hide ((bel10.block _ (blk_lt HRb.out)).trans HRb.out)
    replace FA := hide ((bel10.block _ (blk_lt FA.out)).trans FA.out)
    replace B2 := hide (B2.out.trans (bel10.mono B2.out.size))
    replace belw := belw.trans (bel10.mono belw.size)
    have r0 := blk_cell HRb.out 0 rfl
    have r1 := blk_cell HRb.out 1 rfl
    have r2 := blk_cell HRb.out 2 rfl
    have GR := grown_any _ a en e n _ o w10.drew (ROX.out.below ((Below.refl _ _).drew)) (by have := LA.out; omega) (LV.out.is.below ((Below.refl _ _).drew)) FO.out LO40.out HE.out HN.out
    unfold cmv at GR
    have GG := hide GR
    have hslx := HSX.out
    clear GR own14 bel9 bel10 hF10 x0 x1 OQ2
    go_wp2_with fail
    go_region_held3 (fun w' => w'.cell? ⟨R, 0, none⟩ = some (.int .i64 e) ∧ w'.cell? ⟨R, 1, none⟩ = some (.int .i64 n) ∧ w'.cell? ⟨R, 2, none⟩ = some (.slice ao o.length co)) (first | exact ⟨r0, r1, r2⟩ | exact ⟨y0, y1, y2⟩ | go_keep)
      (first
      | (go_at_call 26; refine GG.out.mono ?_; rintro E w11 ⟨v16, rfl, own16', bel11'⟩; have bel11 : Below w10.heap.size w10 w11 := ((Below.refl _ _).drew).trans bel11'; have own16 : OwnS w10.heap.size w11 v16 (grL a en e n o) := own16'; have hR11 := (bel11.block _ (blk_lt HRb.out)).trans HRb.out; have y0 := blk_cell hR11 0 rfl; have y1 := blk_cell hR11 1 rfl; have y2 := blk_cell hR11 2 rfl; clear own16' bel11' hR11))
    have U16 := hide own16
    have BT := hide (OwnG.lt own16)
    have s11 := bel11.size
    replace R0 := hide (R0.out.below bel11)
    replace R1 := hide (R1.out.below bel11)
    replace RO := hide (RO.out.below bel11)
    replace RF := hide (RF.out.below bel11)
    replace LRR := hide (LRR.out.below bel11)
    replace RX := hide (RX.out.below bel11)
    replace LV := hide (LV.out.below bel11)
    replace R12 := hide (R12.out.below bel11)
    replace R14 := hide (R14.out.below bel11)
    replace HRb := hide ((bel11.block _ (blk_lt HRb.out)).trans HRb.out)
    replace FA := hide ((bel11.block _ (blk_lt FA.out)).trans FA.out)
    replace FB := hide ((bel11.block _ (blk_lt FB.out)).trans FB.out)
    replace B2 := hide (B2.out.trans (bel11.mono B2.out.size))
    replace belw := belw.trans (bel11.mono belw.size)
    obtain ⟨d0, d1, d2⟩ := KC.out _ B2.out
    have GR2 := grownR_any _ a en e n _ o w11 R1.out (by have := LA.out; omega) RO.out FO.out LO40.out
    unfold cmv at GR2
    have GG2 := hide GR2
    have LG : Hid ((grL a en e n o).length ≤ 41) := hide (by
      unfold grL
      split
      · exact Nat.le_trans (Sm.grw_len _ _ _) (by have := LA.out; omega)
      · simp)
    generalize grL a en e n o = gl at *
    generalize grE a en e n o = ge at *
    clear own16 bel11 GR2 GG r0 r1 r2 y0 y1 y2 hslx HSX ROX hw8 hw8' hw10 hw10'
    go_wp2_with fail
    refine GG2.out.mono ?_
    rintro E w12 ⟨v18, rfl, own18, bel12⟩
    have R18 := hide own18.row
    have s12 := bel12.size
    replace R0 := hide (R0.out.below bel12)
    replace R1 := hide (R1.out.below bel12)
    replace RO := hide (RO.out.below bel12)
    replace RF := hide (RF.out.below bel12)
    replace LRR := hide (LRR.out.below bel12)
    replace RX := hide (RX.out.below bel12)
    replace LV := hide (LV.out.below bel12)
    replace R12 := hide (R12.out.below bel12)
    replace R14 := hide (R14.out.below bel12)
    replace HRb := hide ((bel12.block _ (blk_lt HRb.out)).trans HRb.out)
    replace FA := hide ((bel12.block _ (blk_lt FA.out)).trans FA.out)
    replace FB := hide ((bel12.block _ (blk_lt FB.out)).trans FB.out)
    replace U16 := hide (ownS_below U16.out bel12)
    replace B2 := hide (B2.out.trans (bel12.mono B2.out.size))
    replace belw := belw.trans (bel12.mono belw.size)
    have x0 := blk_cell FA.out 0 rfl
    have x1 := blk_cell FA.out 1 rfl
    have y0 := blk_cell FB.out 0 rfl
    have y1 := blk_cell FB.out 1 rfl
    have hnq := Try.neqF fe fp fe fp
    have hgd := Try.guardF
    rw [show (!((fe == fe) && (fp == fp))) = false by simp] at hnq
    clear own18 bel12 GG2 d0 d1 d2
    go_wp2_with fail
    refine (sameS_yes _ v14 (ofs (cvs r)) w12 R12.out R14.out (by have := LOF.out; omega)).mono ?_
    rintro E w13' ⟨rfl, m13, hw13⟩
    obtain ⟨w13, h13⟩ : ∃ x, x = w13' := ⟨_, rfl⟩
    have bel13 : Below w12.heap.size w12 w13 := by rw [h13, hw13]; exact below_drewN (Below.refl _ _) m13
    rw [← h13]
    have s13 := bel13.size
    replace R0 := hide (R0.out.below bel13)
    replace R1 := hide (R1.out.below bel13)
    replace RO := hide (RO.out.below bel13)
    replace RF := hide (RF.out.below bel13)
    replace LRR := hide (LRR.out.below bel13)
    replace RX := hide (RX.out.below bel13)
    replace LV := hide (LV.out.below bel13)
    replace R12 := hide (R12.out.below bel13)
    replace R18 := hide (R18.out.below bel13)
    replace HRb := hide ((bel13.block _ (blk_lt HRb.out)).trans HRb.out)
    replace U16 := hide (ownS_below U16.out bel13)
    replace B2 := hide (B2.out.trans (bel13.mono B2.out.size))
    replace belw := belw.trans (bel13.mono belw.size)
    clear bel13 h13 hw13 R14 x0 x1 y0 y1 FA FB
    go_wp2_with fail
    refine (sameS_yes v16 v18 gl w13 U16.out.row R18.out (by have := LG.out; omega)).mono ?_
    rintro E w14' ⟨rfl, m14, hw14⟩
    obtain ⟨w14, h14⟩ : ∃ x, x = w14' := ⟨_, rfl⟩
    have bel14 : Below w13.heap.size w13 w14 := by rw [h14, hw14]; exact below_drewN (Below.refl _ _) m14
    rw [← h14]
    have s14 := bel14.size
    replace R0 := hide (R0.out.below bel14)
    replace R1 := hide (R1.out.below bel14)
    replace RO := hide (RO.out.below bel14)
    replace RF := hide (RF.out.below bel14)
    replace LRR := hide (LRR.out.below bel14)
    replace RX := hide (RX.out.below bel14)
    replace LV := hide (LV.out.below bel14)
    replace R12 := hide (R12.out.below bel14)
    replace HRb := hide ((bel14.block _ (blk_lt HRb.out)).trans HRb.out)
    replace U16 := hide (ownS_below U16.out bel14)
    replace B2 := hide (B2.out.trans (bel14.mono B2.out.size))
    replace belw := belw.trans (bel14.mono belw.size)
    clear bel14 h14 hw14 R18
    go_wp2_with fail
    refine (keptCs_yes _ _ rs r _ w14 RF.out ERS.out LRR.out R0.out F0.out (by have := LR.out; omega)).mono ?_
    rintro E w15 ⟨rfl, bel15⟩
    have s15 := bel15.size
    replace R1 := hide (R1.out.below bel15)
    replace RO := hide (RO.out.below bel15)
    replace RX := hide (RX.out.below bel15)
    replace LV := hide (LV.out.below bel15)
    replace R12 := hide (R12.out.below bel15)
    replace HRb := hide ((bel15.block _ (blk_lt HRb.out)).trans HRb.out)
    replace U16 := hide (ownS_below U16.out bel15)
    replace B2 := hide (B2.out.trans (bel15.mono B2.out.size))
    replace belw := belw.trans (bel15.mono belw.size)
    clear bel15 R0 RF LRR
    go_wp2_with fail
    refine (keptS_yes _ _ a w15 RX.out R1.out (by have := LA.out; omega)).mono ?_
    rintro E w16 ⟨rfl, bel16⟩
    have s16 := bel16.size
    replace RO := hide (RO.out.below bel16)
    replace RX := hide (RX.out.below bel16)
    replace LV := hide (LV.out.below bel16)
    replace R12 := hide (R12.out.below bel16)
    replace HRb := hide ((bel16.block _ (blk_lt HRb.out)).trans HRb.out)
    replace U16 := hide (ownS_below U16.out bel16)
    replace B2 := hide (B2.out.trans (bel16.mono B2.out.size))
    replace belw := belw.trans (bel16.mono belw.size)
    clear bel16 R1
    have r0 := blk_cell HRb.out 0 rfl
    have r1 := blk_cell HRb.out 1 rfl
    have r2 := blk_cell HRb.out 2 rfl
    obtain ⟨d0, d1, d2⟩ := KC.out _ B2.out
    have KP := keptC_yes e n _ _ o _ w16 LV.out RO.out LO40.out
    unfold cmv at KP
    have KK := hide KP
    clear KP
    go_wp2_with fail
    refine KK.out.mono ?_
    rintro E w17 ⟨rfl, bel17⟩
    have s17 := bel17.size
    replace RX := hide (RX.out.below bel17)
    replace R12 := hide (R12.out.below bel17)
    replace U16 := hide (ownS_below U16.out bel17)
    replace belw := belw.trans (bel17.mono belw.size)
    clear bel17 KK r0 r1 r2 d0 d1 d2 RO LV
    have LS := hide (listsS_low (s1 := w10.heap.size) RX.out R12.out (fun g hg => ⟨(BT.out g hg).1, by have := BT.out g hg; omega⟩) (fun g hg => by have := BX.out g hg; omega) (fun g hg => by have := B12.out g hg; omega) (by rw [List.length_append]; have := LA.out; show _ + 3 ≤ _; omega) (by have := LOF.out; omega))
    have belA : Below w17.heap.size w17 (w17.alloc (.cells #[.slice ax (a.length + 3) cx, .slice a12 (ofs (cvs r)).length c12] 22)) := (Below.refl _ _).alloc (Nat.le_refl _) _
    have OA := hide (ownS_below U16.out belA)
    have APS := hide (apartS_yes 2 w17.heap.size 2 w10.heap.size v16 gl _ _ _ (by decide) (Nat.le_refl _) (by have := belA.size; omega) OA.out (by have := LG.out; omega) LS.out (by decide))
    have belF := belw.trans (belA.mono belw.size)
    have s0 : w.heap.size ≤ w10.heap.size := by omega
    clear belA LS OA
    go_wp2_with fail
    refine APS.out.mono ?_
    rintro E w18 ⟨rfl, bel18⟩
    go_wp2
    go_ret
    exact ⟨rfl, belF.trans (bel18.mono s0)⟩

end Go.Proofs.Ytklpbcdkgjoheaa
