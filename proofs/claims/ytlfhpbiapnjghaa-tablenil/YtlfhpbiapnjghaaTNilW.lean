/- The walk of TableNil. -/
import Derived.Test.YtlfhpbiapnjghaaTn
import Derived.Deep.RegionHeld3
import Derived.Deep.CutRange
import Derived.BigQuiet
namespace Go.Proofs.Ytlfhpbiapnjghaa
open Go.RowKit
open Bm (Ov)
set_option linter.unusedVariables false

set_option maxRecDepth 100000 in
set_option maxHeartbeats 16000000 in
theorem tableNil_walk (p : Bool) (k v : ByteArray) (w : World) (hk : k.size ≤ 140737488351232) (hv : v.size ≤ 140737488351232) :
    Calls Try.prog 5 #[opv p k v] w fun E w' => E = .returned (.bool true) ∧ Below w.heap.size w w' := by
  unfold opv
  obtain ⟨w1, hw1, sz1, bel1, B1⟩ := blk_step w #[.bool p, .string k, .string v] 28
  obtain ⟨w2, hw2, sz2, bel2, B2⟩ := blk_step w1 #[.map none] 52
  obtain ⟨w3, hw3, sz3, bel3, B3⟩ := blk_step w2 #[.pointer none, .pointer (some ⟨w.heap.size + 1, 0, none⟩)] 23
  rw [sz1] at B2 bel2
  rw [show w2.heap.size = w.heap.size + 2 by omega] at B3 bel3
  have zz : w3.heap.size = w.heap.size + 3 := by omega
  have bel03 : Below w.heap.size w w3 := (bel1.trans (bel2.mono (by omega))).trans (bel3.mono (by omega))
  have FA : Hid (∀ W, Below w3.heap.size w3 W → ∀ j : Nat, j < 2 → ∃ q, (W.cell? ⟨w.heap.size + 2, j, none⟩ = some (.pointer q) ∧ W.cell? ⟨w.heap.size, 0, none⟩ = some (.bool p) ∧ W.cell? ⟨w.heap.size, 1, none⟩ = some (.string k) ∧ W.cell? ⟨w.heap.size, 2, none⟩ = some (.string v)) ∧ NoT W (.pointer q)) := hide fun W hb j hj => by
    have p3 := (hb.block (w.heap.size + 2) (by omega)).trans B3
    have p2 := (hb.block (w.heap.size + 1) (by omega)).trans ((bel3.block _ (by omega)).trans B2)
    have p1 := (hb.block w.heap.size (by omega)).trans ((bel3.block _ (by omega)).trans ((bel2.block _ (by omega)).trans B1))
    rcases (show j = 0 ∨ j = 1 by omega) with rfl | rfl
    · exact ⟨none, ⟨blk_cell p3 0 rfl, blk_cell p1 0 rfl, blk_cell p1 1 rfl, blk_cell p1 2 rfl⟩, .inl rfl⟩
    · exact ⟨_, ⟨blk_cell p3 1 rfl, blk_cell p1 0 rfl, blk_cell p1 1 rfl, blk_cell p1 2 rfl⟩, .inr ⟨_, rfl, blk_cell p2 0 rfl⟩⟩
  have HB := hide bel03
  replace sz2 : w2.heap.size = w.heap.size + 2 := by omega
  have Z3 := hide zz
  clear B1 B2 B3 bel1 bel2 bel3 bel03 sz3 zz
  go_enter Try.func5, Try.ntmps5
  go_wp2
  go_loopw [4] (fun i wr => ∃ (j : Nat), j ≤ 2 ∧ i = .int .i64 j ∧ Below w3.heap.size w3 wr) (fun i _ => 2 - (intOf i).toNat)
  case atStart => exact ⟨0, by omega, rfl, Below.refl _ _⟩
  case round =>
    obtain ⟨j, hj, rfl, bel⟩ := hrel
    by_cases hlt : j < 2
    · have hlt' : (j : Int) < 2 := by omega
      have hj0 : (0 : Int) ≤ (j : Int) := by omega
      obtain ⟨q, ⟨c0, c1, c2, c3⟩, hno⟩ := FA.out wr bel j hlt
      have X1 : Hid (∀ m, Calls Try.prog 11 #[.pointer q, .string k] (wr.drewN m) fun E w' => E = .returned (.tuple #[.string ⟨#[]⟩, .bool false, .bool false]) ∧ ∃ n, w' = (wr.drewN m).drewN n) := hide fun m => by
        refine (tgetN _ k _ (hno.below (below_drewN (Below.refl _ _) m))).mono ?_
        rintro E w' ⟨rfl, rfl⟩
        exact ⟨rfl, 0, rfl⟩
      have HNO := hide hno
      have HBEL := hide bel
      clear hno bel
      go_wp2_with fail
      go_quiet ((go_at_call 11; refine Calls.quiet_of (X1.out _)))
      obtain ⟨wa, hwa⟩ : ∃ wa, wr.drewN nq = wa := ⟨_, rfl⟩
      have ba : Below wr.heap.size wr wa := by rw [← hwa]; exact below_drewN (Below.refl _ _) _
      rw [hwa]
      have HBa := hide (HBEL.out.trans (ba.mono HBEL.out.size))
      have HNa := hide (HNO.out.below ba)
      have FB : Hid (∀ W, Below wa.heap.size wa W → W.cell? ⟨w.heap.size + 2, j, none⟩ = some (.pointer q) ∧ W.cell? ⟨w.heap.size, 0, none⟩ = some (.bool p) ∧ W.cell? ⟨w.heap.size, 1, none⟩ = some (.string k) ∧ W.cell? ⟨w.heap.size, 2, none⟩ = some (.string v)) := hide fun W hb => by
        have h3 := HBEL.out.size
        have h4 := ba.size
        have h5 := Z3.out
        have hbb : Below wr.heap.size wr W := ba.trans (hb.mono h4)
        exact ⟨(hbb.cell (p := ⟨w.heap.size + 2, j, none⟩) (show w.heap.size + 2 < wr.heap.size by omega)).trans c0, (hbb.cell (p := ⟨w.heap.size, 0, none⟩) (show w.heap.size < wr.heap.size by omega)).trans c1, (hbb.cell (p := ⟨w.heap.size, 1, none⟩) (show w.heap.size < wr.heap.size by omega)).trans c2, (hbb.cell (p := ⟨w.heap.size, 2, none⟩) (show w.heap.size < wr.heap.size by omega)).trans c3⟩
      have XA : Hid (∀ lv W, Below wa.heap.size wa W → Calls Try.prog 10 #[.pointer q, lv] W fun E w' => E = .returned (.int .i64 1) ∧ Below wa.heap.size wa w') := hide fun lv W hb => by
        refine (tapplyN _ lv W (HNa.out.below hb)).mono ?_
        rintro E w' ⟨rfl, rfl⟩
        exact ⟨rfl, hb⟩
      have XL : Hid (∀ W, Below wa.heap.size wa W → Calls Try.prog 12 #[.pointer q] W fun E w' => E = .returned (.int .i64 0) ∧ Below wa.heap.size wa w') := hide fun W hb => by
        refine (tlenN _ W (HNa.out.below hb)).mono ?_
        rintro E w' ⟨rfl, rfl⟩
        exact ⟨rfl, hb⟩
      have XAL : Hid (∀ W, Below wa.heap.size wa W → Calls Try.prog 24 #[.pointer q, .int .i64 3] W fun E w' => ∃ ao cap, E = .returned (.slice ao 0 cap) ∧ Below wa.heap.size wa w') := hide fun W hb => by
        refine (lallN _ 3 W (HNa.out.below hb)).mono ?_
        rintro E w' ⟨ao, cap, rfl, b⟩
        exact ⟨ao, cap, rfl, hb.trans (b.mono hb.size)⟩
      have XLI : Hid (∀ W, Below wa.heap.size wa W → Calls Try.prog 14 #[.pointer q] W fun E w' => ∃ ao cap, E = .returned (.slice ao 0 cap) ∧ Below wa.heap.size wa w') := hide fun W hb => by
        refine (lliveN _ W (HNa.out.below hb)).mono ?_
        rintro E w' ⟨ao, cap, rfl, b⟩
        exact ⟨ao, cap, rfl, hb.trans (b.mono hb.size)⟩
      have XN : Hid (∀ W, Below wa.heap.size wa W → Calls Try.prog 16 #[] W fun E w' => ∃ p b, E = .returned (.pointer (some ⟨p, 0, none⟩)) ∧ Hid (Tb p b w' []) ∧ Below wa.heap.size wa w') := hide fun W hb => by
        refine (tnew_any W).mono ?_
        rintro E w' ⟨rfl, T, b⟩
        exact ⟨_, _, rfl, hide T, hb.trans (b.mono hb.size)⟩
      have XS : Hid (∀ v1 W, Below wa.heap.size wa W → (v1 = .pointer q ∨ ∃ p b t, v1 = .pointer (some ⟨p, 0, none⟩) ∧ Tb p b W t) → Calls Try.prog 15 #[v1, .pointer q] W fun E w' => E = .returned (.bool false) ∧ Below wa.heap.size wa w') := hide fun v1 W hb h1 => by
        refine (tsameN _ W (HNa.out.below hb) v1 h1).mono ?_
        rintro E w' ⟨rfl, b⟩
        exact ⟨rfl, hb.trans (b.mono hb.size)⟩
      clear c0 c1 c2 c3 X1 ba hwa HNO
      have ZB := hide (Below.refl wa.heap.size wa)
      obtain ⟨d0, d1, d2, d3⟩ := FB.out wa ZB.out
      go_wp2_with fail
      go_region_held3 (fun w' => w'.cell? ⟨w.heap.size + 2, j, none⟩ = some (.pointer q) ∧ w'.cell? ⟨w.heap.size, 0, none⟩ = some (.bool p) ∧ w'.cell? ⟨w.heap.size, 1, none⟩ = some (.string k) ∧ w'.cell? ⟨w.heap.size, 2, none⟩ = some (.string v))
        (first | exact FB.out _ bg | exact FB.out _ bf | exact FB.out _ bd | exact FB.out _ bc | exact FB.out _ bb | exact FB.out _ ba | exact FB.out _ ((ZB.out.drew).alloc (Nat.le_refl _) _) | exact FB.out _ (ZB.out.drew) | go_keep)
        (first
        | (go_at_call 10; refine (XA.out _ _ ((ZB.out.drew).alloc (Nat.le_refl _) _)).mono ?_; rintro E wb ⟨rfl, ba⟩)
        | (go_at_call 12; refine (XL.out _ ba).mono ?_; rintro E wc ⟨rfl, bb⟩)
        | (go_at_call 24; refine (XAL.out _ bb).mono ?_; rintro E wd ⟨ao, cap, rfl, bc⟩)
        | (go_at_call 14; refine (XLI.out _ bc).mono ?_; rintro E we ⟨ao2, cap2, rfl, bd⟩)
        | (go_at_call 16; refine (XN.out _ bg).mono ?_; rintro E wg ⟨np, nb, rfl, nT, bf⟩)
        | (go_at_call 15; refine (XS.out _ _ (by first | exact bf | exact bd) (by first | exact .inl rfl | exact .inr ⟨_, _, _, rfl, nT.out⟩)).mono ?_; first | (rintro E wh ⟨rfl, bg⟩) ))
      have HE := hide (HBa.out.trans (bg.mono HBa.out.size))
      clear XA XL XAL XLI XN XS FB d0 d1 d2 d3 bg bf bd bc bb ba nT
      go_wp2
      go_roundw
      case rel => exact ⟨j + 1, by omega, by go_num, HE.out⟩
      case measure => simp [intOf]; omega
    · have hlt' : ¬ (j : Int) < 2 := by omega
      go_wp2_with fail
      refine (lives_any _).mono ?_
      rintro E wz ⟨rfl, bz⟩
      have h3 := bel.size
      have h4 := Z3.out
      have HE := hide (HB.out.trans ((bel.mono (show w.heap.size ≤ w3.heap.size by omega)).trans (bz.mono (by omega))))
      clear bz bel
      go_wp2
      go_ret
      exact ⟨rfl, HE.out⟩

end Go.Proofs.Ytlfhpbiapnjghaa
