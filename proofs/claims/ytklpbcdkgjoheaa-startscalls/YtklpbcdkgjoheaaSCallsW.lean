/- StartsCalls: the walk. -/
import Derived.Test.YtklpbcdkgjoheaaSap
import Derived.Test.YtklpbcdkgjoheaaSv
import Derived.Test.YtklpbcdkgjoheaaSn
namespace Go.Proofs.Ytklpbcdkgjoheaa
open Go.RowKit
set_option linter.unusedVariables false

/-- Two in a table. -/
def duoS {α : Type} (a b : α) : Nat → α | 0 => a | _ => b

theorem listsS_two {w : World} {vt vx vu : Value} {zx zu : List Sm.S} {s1 s2 : Nat} (hx : RowS w vx zx) (hu : RowS w vu zu) (bt : ∀ g, vt.ownBlock = some g → s1 ≤ g ∧ g < s2) (bx : ∀ g, vx.ownBlock = some g → g < s1) (bu : ∀ g, vu.ownBlock = some g → s2 ≤ g) (hs : s2 ≤ w.heap.size) (lx : zx.length ≤ 1000) (lu : zu.length ≤ 1000) :
    ListsS 2 w.heap.size (w.alloc (.cells #[vx, vu] 22)) vt (duoS vx vu) (duoS zx zu) := by
  have bel : Below w.heap.size w (w.alloc (.cells #[vx, vu] 22)) := (Below.refl _ _).alloc (Nat.le_refl _) _
  have two : ∀ i, i < 2 → i = 0 ∨ i = 1 := by omega
  refine ⟨fun i hi => ?_, fun i hi => ?_, fun i hi g hg e => ?_, fun e => ?_, fun i hi => ?_⟩
  · rcases two i hi with rfl | rfl <;> simp [duoS]
  · rcases two i hi with rfl | rfl
    · exact hx.below bel
    · exact hu.below bel
  · rcases two i hi with rfl | rfl
    · have := bt g hg; have := bx g e; omega
    · have := bt g hg; have := bu g e; omega
  · have := bt _ e; omega
  · rcases two i hi with rfl | rfl
    · exact lx
    · exact lu

theorem trm_len (l : List Sm.S) (en n : Int) : (trm l en n).length ≤ l.length := by
  unfold trm
  split
  · exact Sm.beg_le n l
  · simp

set_option maxRecDepth 100000 in
set_option maxHeartbeats 8000000 in
theorem startsCalls_walk (v0 : Value) (a : List Sm.S) (ae : Int) (v2 : Value) (b : List Sm.S) (be n : Int) (w : World) (h0 : RowS w v0 a) (l0 : a.length * 16 ≤ 140737488351232) (hae : (Lit.int .i64 ae).wf = true) (h2 : RowS w v2 b) (l2 : b.length * 16 ≤ 140737488351232) (hbe : (Lit.int .i64 be).wf = true) (hn : (Lit.int .i64 n).wf = true) :
    Calls Try.prog 4 #[v0, .int .i64 ae, v2, .int .i64 be, .int .i64 n] w fun e w' => e = .returned (.bool true) ∧ Below w.heap.size w w' := by
  obtain ⟨a0, c0, hv0, k0, _⟩ := h0.shape
  obtain ⟨a2, c2, hv2, k2, _⟩ := h2.shape
  subst hv0 hv2
  have R0 := hide h0
  have R2 := hide h2
  clear h0 h2 hae hbe hn
  go_enter Try.func4, Try.ntmps4
  go_wp2_with fail
  refine (lives_any w).mono ?_
  rintro E w1 ⟨rfl, belw⟩
  by_cases g0 : 40 < a.length
  · have g0' : (40 : Int) < (a.length : Int) := by omega
    go_wp2
    go_ret
    exact ⟨rfl, belw⟩
  by_cases g2 : 40 < b.length
  · have g0' : ¬ (40 : Int) < (a.length : Int) := by omega
    have g2' : (40 : Int) < (b.length : Int) := by omega
    go_wp2
    go_ret
    exact ⟨rfl, belw⟩
  have g0' : ¬ (40 : Int) < (a.length : Int) := by omega
  have g2' : ¬ (40 : Int) < (b.length : Int) := by omega
  replace R0 := hide (R0.out.below belw)
  replace R2 := hide (R2.out.below belw)
  have LA : Hid (a.length ≤ 40) := hide (by omega)
  have LB : Hid (b.length ≤ 40) := hide (by omega)
  have LA2 : Hid (a.length ≤ 140737488355328) := hide (by omega)
  have LB2 : Hid (b.length ≤ 140737488355328) := hide (by omega)
  clear l0 l2 g0 g2
  go_wp2_with fail
  refine (lentS_any _ a w1 R0.out (by have := LA.out; omega)).mono ?_
  rintro E w2 ⟨vx, rfl, ownx, bel2⟩
  have RX := hide ownx.row
  have BX := hide (OwnG.lt ownx)
  replace R0 := hide (R0.out.below bel2)
  replace R2 := hide (R2.out.below bel2)
  replace belw := belw.trans (bel2.mono belw.size)
  clear bel2 ownx
  go_wp2_with fail
  refine (lentS_any _ b w2 R2.out (by have := LB.out; omega)).mono ?_
  rintro E w3 ⟨vy, rfl, owny, bel3⟩
  have RY := hide owny.row
  have s23 := bel3.size
  replace R0 := hide (R0.out.below bel3)
  replace R2 := hide (R2.out.below bel3)
  replace RX := hide (RX.out.below bel3)
  replace belw := belw.trans (bel3.mono belw.size)
  clear bel3 owny
  obtain ⟨ax, cx, hvx, hx1, hx2, hx3⟩ := rowS_shape RX.out
  obtain ⟨ay, cy, hvy, hy1, hy2, hy3⟩ := rowS_shape RY.out
  have lx : (a ++ beS).length = a.length + 3 := by rw [List.length_append]; rfl
  have ly : (b ++ beS).length = b.length + 3 := by rw [List.length_append]; rfl
  rw [lx] at hvx hx1
  rw [ly] at hvy hy1
  have hslx := run_frontS ax (a.length + 3) cx a.length (by omega) hx3
  have hsly := run_frontS ay (b.length + 3) cy b.length (by omega) hy3
  subst hvx hvy
  have ROX := hide (RX.out.frontS a.length (by rw [lx]; omega))
  have ROY := hide (RY.out.frontS b.length (by rw [ly]; omega))
  rw [List.take_left' rfl] at ROX ROY
  clear hx1 hx2 hx3 hy1 hy2 hy3 lx ly
  go_wp2
  go_quiet (fail)
  have belq : Below w3.heap.size w3 (w3.drewN nq) := below_drewN (Below.refl _ _) nq
  have sq : (w3.drewN nq).heap.size = w3.heap.size := rfl
  generalize w3.drewN nq = w4 at *
  replace R0 := hide (R0.out.below belq)
  replace R2 := hide (R2.out.below belq)
  replace RX := hide (RX.out.below belq)
  replace RY := hide (RY.out.below belq)
  replace ROX := hide (ROX.out.below belq)
  replace ROY := hide (ROY.out.below belq)
  replace belw := belw.trans (belq.mono belw.size)
  clear belq hslx hsly
  go_wp2_with fail
  refine (at_any _ a ae n w4 ROX.out LA2.out).mono ?_
  rintro E w5 ⟨rfl, bel5⟩
  have s5 := bel5.size
  replace R0 := hide (R0.out.below bel5)
  replace R2 := hide (R2.out.below bel5)
  replace RX := hide (RX.out.below bel5)
  replace RY := hide (RY.out.below bel5)
  replace ROX := hide (ROX.out.below bel5)
  replace ROY := hide (ROY.out.below bel5)
  replace belw := belw.trans (bel5.mono belw.size)
  clear bel5
  go_wp2_with fail
  refine (atR_any _ a ae n w5 R0.out LA2.out).mono ?_
  rintro E w6' ⟨rfl, m6, hw6⟩
  obtain ⟨w6, h6⟩ : ∃ x, x = w6' := ⟨_, rfl⟩
  have bel6 : Below w5.heap.size w5 w6 := by rw [h6, hw6]; exact below_drewN (Below.refl _ _) m6
  rw [← h6]
  have s6 := bel6.size
  replace R0 := hide (R0.out.below bel6)
  replace R2 := hide (R2.out.below bel6)
  replace RX := hide (RX.out.below bel6)
  replace RY := hide (RY.out.below bel6)
  replace ROX := hide (ROX.out.below bel6)
  replace ROY := hide (ROY.out.below bel6)
  replace belw := belw.trans (bel6.mono belw.size)
  clear bel6 h6 hw6
  go_wp2_with fail
  refine (sfork_any _ _ a b ae be w6 ROX.out ROY.out LA2.out LB2.out).mono ?_
  rintro E w7 ⟨k, rfl, frk, bel7⟩
  have FK := hide frk
  have s7 := bel7.size
  replace R0 := hide (R0.out.below bel7)
  replace R2 := hide (R2.out.below bel7)
  replace RX := hide (RX.out.below bel7)
  replace RY := hide (RY.out.below bel7)
  replace ROX := hide (ROX.out.below bel7)
  replace belw := belw.trans (bel7.mono belw.size)
  clear bel7 frk ROY
  go_wp2_with fail
  refine (sforkR_any _ _ a b ae be w7 R0.out R2.out (by have := LA.out; omega) (by have := LB.out; omega)).mono ?_
  rintro E w8 ⟨k', rfl, frk, bel8⟩
  obtain rfl := fr_one FK.out frk
  have s8 := bel8.size
  replace R0 := hide (R0.out.below bel8)
  replace R2 := hide (R2.out.below bel8)
  replace RX := hide (RX.out.below bel8)
  replace RY := hide (RY.out.below bel8)
  replace ROX := hide (ROX.out.below bel8)
  replace belw := belw.trans (bel8.mono belw.size)
  have sw8 := belw.size
  clear bel8 frk FK
  go_wp2_with fail
  refine (trim_any _ a ae n w8 ROX.out (by have := LA.out; omega)).mono ?_
  rintro E w9 ⟨vt, rfl, ownt, bel9⟩
  have OT := hide ownt
  have BT := hide (OwnG.lt ownt)
  have s9 := bel9.size
  replace R0 := hide (R0.out.below bel9)
  replace R2 := hide (R2.out.below bel9)
  replace RX := hide (RX.out.below bel9)
  replace RY := hide (RY.out.below bel9)
  replace ROX := hide (ROX.out.below bel9)
  replace belw := belw.trans (bel9.mono belw.size)
  clear bel9 ownt
  go_wp2_with fail
  refine (trimR_any _ a ae n w9 R0.out (by have := LA.out; omega)).mono ?_
  rintro E w10 ⟨vu, rfl, ownu, bel10⟩
  obtain ⟨au, cu, hvu, _, _⟩ := ownu.row.shape
  subst hvu
  have RU := hide ownu.row
  have BU := hide (OwnG.lt ownu)
  have s10 := bel10.size
  replace OT := hide (ownS_below OT.out bel10)
  replace R0 := hide (R0.out.below bel10)
  replace R2 := hide (R2.out.below bel10)
  replace RX := hide (RX.out.below bel10)
  replace RY := hide (RY.out.below bel10)
  replace ROX := hide (ROX.out.below bel10)
  replace belw := belw.trans (bel10.mono belw.size)
  have TL := hide (trm_len a ae n)
  generalize trm a ae n = tl at *
  generalize atV a ae n = av at *
  generalize atE a ae n = ee at *
  generalize frE a ae b be = fe at *
  clear bel10 ownu
  go_wp2_with fail
  refine (scheck_any _ a ae w10 ROX.out LA2.out).mono ?_
  rintro E w11 ⟨rfl, bel11⟩
  have s11 := bel11.size
  replace OT := hide (ownS_below OT.out bel11)
  replace R0 := hide (R0.out.below bel11)
  replace R2 := hide (R2.out.below bel11)
  replace RX := hide (RX.out.below bel11)
  replace RY := hide (RY.out.below bel11)
  replace RU := hide (RU.out.below bel11)
  replace belw := belw.trans (bel11.mono belw.size)
  clear bel11 ROX
  go_wp2_with fail
  refine (scheckR_any _ a ae w11 R0.out LA2.out).mono ?_
  rintro E w12' ⟨rfl, m12, hw12⟩
  obtain ⟨w12, h12⟩ : ∃ x, x = w12' := ⟨_, rfl⟩
  have bel12 : Below w11.heap.size w11 w12 := by rw [h12, hw12]; exact below_drewN (Below.refl _ _) m12
  rw [← h12]
  have s12 := bel12.size
  replace OT := hide (ownS_below OT.out bel12)
  replace R0 := hide (R0.out.below bel12)
  replace R2 := hide (R2.out.below bel12)
  replace RX := hide (RX.out.below bel12)
  replace RY := hide (RY.out.below bel12)
  replace RU := hide (RU.out.below bel12)
  replace belw := belw.trans (bel12.mono belw.size)
  generalize Sm.chk a ae = ck at *
  clear bel12 h12 hw12
  go_wp2_with fail
  refine (sameS_yes vt _ tl w12 OT.out.row RU.out (by have := TL.out; have := LA.out; omega)).mono ?_
  rintro E w13' ⟨rfl, m13, hw13⟩
  obtain ⟨w13, h13⟩ : ∃ x, x = w13' := ⟨_, rfl⟩
  have bel13 : Below w12.heap.size w12 w13 := by rw [h13, hw13]; exact below_drewN (Below.refl _ _) m13
  rw [← h13]
  have s13 := bel13.size
  replace OT := hide (ownS_below OT.out bel13)
  replace R0 := hide (R0.out.below bel13)
  replace R2 := hide (R2.out.below bel13)
  replace RX := hide (RX.out.below bel13)
  replace RY := hide (RY.out.below bel13)
  replace RU := hide (RU.out.below bel13)
  replace belw := belw.trans (bel13.mono belw.size)
  clear bel13 h13 hw13
  go_wp2_with fail
  refine (keptS_yes _ _ a w13 RX.out R0.out (by have := LA.out; omega)).mono ?_
  rintro E w14 ⟨rfl, bel14⟩
  have s14 := bel14.size
  replace OT := hide (ownS_below OT.out bel14)
  replace R2 := hide (R2.out.below bel14)
  replace RX := hide (RX.out.below bel14)
  replace RY := hide (RY.out.below bel14)
  replace RU := hide (RU.out.below bel14)
  replace belw := belw.trans (bel14.mono belw.size)
  clear bel14 R0
  go_wp2_with fail
  refine (keptS_yes _ _ b w14 RY.out R2.out (by have := LB.out; omega)).mono ?_
  rintro E w15 ⟨rfl, bel15⟩
  have s15 := bel15.size
  replace OT := hide (ownS_below OT.out bel15)
  replace RX := hide (RX.out.below bel15)
  replace RU := hide (RU.out.below bel15)
  replace belw := belw.trans (bel15.mono belw.size)
  clear bel15 R2 RY
  have LS := hide (listsS_two RX.out RU.out BT.out (fun g hg => by have := BX.out g hg; omega) (fun g hg => (BU.out g hg).1) (by omega) (by rw [List.length_append]; have := LA.out; show _ + 3 ≤ _; omega) (by have := TL.out; have := LA.out; omega))
  have belA : Below w15.heap.size w15 (w15.alloc (.cells #[.slice ax (a.length + 3) cx, .slice au tl.length cu] 22)) := (Below.refl _ _).alloc (Nat.le_refl _) _
  have OA := hide (ownS_below OT.out belA)
  have s8w : w.heap.size ≤ w8.heap.size := sw8
  have APS := hide (apartS_yes 2 w15.heap.size 2 w8.heap.size vt tl _ _ _ (by decide) (Nat.le_refl _) (by have := belA.size; omega) OA.out (by have := TL.out; have := LA.out; omega) LS.out (by decide))
  have belF := belw.trans (belA.mono belw.size)
  clear belA LS OA
  go_wp2_with fail
  refine APS.out.mono ?_
  rintro E w16 ⟨rfl, bel16⟩
  go_wp2
  go_ret
  exact ⟨rfl, belF.trans (bel16.mono s8w)⟩

end Go.Proofs.Ytklpbcdkgjoheaa
