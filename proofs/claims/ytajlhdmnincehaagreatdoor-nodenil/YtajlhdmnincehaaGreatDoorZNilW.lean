/- Texts of one layer, one behind the other. -/
import Derived.Test.YtajlhdmnincehaaGreatDoorH35
import Derived.Test.YtajlhdmnincehaaGreatDoorH26
import Derived.Test.YtajlhdmnincehaaGreatDoorH12
import Derived.Test.YtajlhdmnincehaaGreatDoorH37
import Derived.Test.YtajlhdmnincehaaGreatDoorH38
/- NodeNil (layer 23). -/
namespace Go.Proofs.YtajlhdmnincehaaGreatDoor
open Go.RowKit
set_option linter.unusedVariables false

set_option maxRecDepth 20000 in
set_option maxHeartbeats 8000000 in
theorem nodeNil_walk (a : Av23) (w : World) (h : AvOk3 w a) (hm : Mst w) :
    Calls Tryz.prog 3 #[avv3 a] w fun E w' => E = .returned (.bool true) ∧ Below w.heap.size w w' := by
  obtain ⟨oa, ok, hv, _, _⟩ := h.ops.shape
  obtain ⟨ba, bk, hb, _, _⟩ := h.by8.shape
  obtain ⟨sa, so, hvs, _, _⟩ := h.msg.s.shape
  obtain ⟨ca, co, hvc, _, _⟩ := h.msg.c.1.shape
  obtain ⟨ak, an, at', key, av, al, am, ab, abs⟩ := a
  obtain ⟨mk, me, mr, mn, mvs, mss, mf, mp, mvc, mcs⟩ := am
  dsimp only at hv hb hvs hvc
  subst hv hb hvs hvc
  generalize al.length = on at *
  generalize abs.length = bn at *
  generalize mss.length = sn at *
  generalize mcs.length = cn at *
  obtain ⟨w1, hw1, s1, b1, P1⟩ := blk_step w #[.int .i64 ak, .int .i64 an, .int .i64 at', .string key, .slice oa on ok, .int .i64 mk, .int .i64 me, .int .u8 mr, .int .i64 mn, .slice sa sn so, .int .i64 mf, .int .i64 mp, .slice ca cn co, .slice ba bn bk] 30
  obtain ⟨w2, hw2, s2, b2, P2⟩ := blk_step w1 #[.int .i64 0, .int .i64 0, .pointer none, .pointer none, .int .i64 0, .int .i64 0, .int .i64 0, .int .i64 0, .int .u8 0, .int .i64 0, .slice none 0 0, .int .i64 0, .int .i64 0, .slice none 0 0] 37
  obtain ⟨w3, hw3, s3, b3, P3⟩ := blk_step w2 #[.pointer none, .pointer (some ⟨w1.heap.size, 0, none⟩)] 31
  have b03 : Below w.heap.size w w3 := (b1.trans (b2.mono (by omega))).trans (b3.mono (by omega))
  have CE : Hid (∀ W, Below w3.heap.size w3 W → W.cell? ⟨w.heap.size, 3, none⟩ = some (.string key) ∧ W.cell? ⟨w.heap.size, 4, none⟩ = some (.slice oa on ok) ∧ W.cell? ⟨w.heap.size, 13, none⟩ = some (.slice ba bn bk) ∧ W.cell? ⟨w2.heap.size, 0, none⟩ = some (.pointer none) ∧ W.cell? ⟨w2.heap.size, 1, none⟩ = some (.pointer (some ⟨w1.heap.size, 0, none⟩)) ∧ NoN W (some ⟨w1.heap.size, 0, none⟩)) := hide fun W hW => by
    have q1 := (hW.block w.heap.size (by omega)).trans ((b3.block _ (by omega)).trans ((b2.block _ (by omega)).trans P1))
    have q2 := (hW.block w1.heap.size (by omega)).trans ((b3.block _ (by omega)).trans P2)
    have q3 := (hW.block w2.heap.size (by omega)).trans P3
    exact ⟨blk_cell q1 3 rfl, blk_cell q1 4 rfl, blk_cell q1 13 rfl, blk_cell q3 0 rfl, blk_cell q3 1 rfl, .inr ⟨_, rfl, blk_cell q2 2 rfl⟩⟩
  have HM := hide hm
  have B03 := hide b03
  obtain ⟨nb, hnb⟩ : ∃ z, w1.heap.size = z := ⟨_, rfl⟩
  have hrb : w2.heap.size = nb + 1 := by omega
  rw [hrb, hnb] at CE
  rw [hnb] at hw3
  have hnb' : w.heap.size + 1 = nb := by omega
  unfold avv3 avc3
  dsimp only
  clear h hm P1 P2 P3 b1 b2 b3 b03 s3
  go_enter Tryz.func3, Tryz.ntmps3
  go_wp2_with fail
  go_loopw [4] (fun iv wr => ∃ i : Nat, i ≤ 2 ∧ iv = .int .i64 i ∧ Hid (Below w3.heap.size w3 wr)) (fun iv _ => 2 - (intOf iv).toNat)
  case atStart => exact ⟨0, by omega, rfl, hide (Below.refl _ _)⟩
  case round =>
    obtain ⟨i, hi, rfl, BR⟩ := hrel
    by_cases hlt : i < 2
    · obtain ⟨oo, ho, hN⟩ : ∃ o, wr.cell? ⟨nb + 1, i, none⟩ = some (.pointer o) ∧ NoN wr o := by
        obtain ⟨_, _, _, k0, k1, k2⟩ := CE.out wr BR.out
        obtain rfl | rfl : i = 0 ∨ i = 1 := by omega
        · exact ⟨none, k0, .inl rfl⟩
        · exact ⟨_, k1, k2⟩
      have hlt' : (i : Int) < 2 := by omega
      obtain ⟨e3, e4, e13, _, _, _⟩ := CE.out wr BR.out
      have NN := hide hN
      clear hN
      have C1 := hide (zcommit_no oo oa on ok wr NN.out)
      go_wp2_with fail
      refine C1.out.mono ?_
      rintro E x1 ⟨rfl, c1⟩
      have B1 := hide (BR.out.trans (c1.mono BR.out.size))
      have N1 := hide (NN.out.below c1)
      obtain ⟨e3, e4, e13, _, _, _⟩ := CE.out x1 B1.out
      clear C1 NN BR c1
      have NN := N1
      clear N1
      have C2 := hide (zread_no oo key x1 NN.out)
      go_wp2_with fail
      refine C2.out.mono ?_
      rintro E x2 ⟨rfl, c2⟩
      have B2 := hide (B1.out.trans (c2.mono B1.out.size))
      have N2 := hide (NN.out.below c2)
      obtain ⟨e3, e4, e13, _, _, _⟩ := CE.out x2 B2.out
      clear C2 NN B1 c2
      have NN := N2
      clear N2
      have C3 := hide (ztick_no oo x2 NN.out)
      go_wp2_with fail
      refine C3.out.mono ?_
      rintro E x3 ⟨rfl, c3⟩
      have B3 := hide (B2.out.trans (c3.mono B2.out.size))
      have N3 := hide (NN.out.below c3)
      obtain ⟨e3, e4, e13, _, _, _⟩ := CE.out x3 B3.out
      clear C3 NN B2 c3
      have NN := N3
      clear N3
      have C4 := hide (zreceive_no oo ba bn bk x3 NN.out)
      go_wp2_with fail
      refine C4.out.mono ?_
      rintro E x4 ⟨rfl, c4⟩
      have B4 := hide (B3.out.trans (c4.mono B3.out.size))
      have N4 := hide (NN.out.below c4)
      obtain ⟨e3, e4, e13, _, _, _⟩ := CE.out x4 B4.out
      clear C4 NN B3 c4
      have NN := N4
      clear N4
      have C5 := hide (zpromote_no oo x4 NN.out)
      go_wp2_with fail
      refine C5.out.mono ?_
      rintro E x5 ⟨rfl, c5⟩
      have B5 := hide (B4.out.trans (c5.mono B4.out.size))
      have N5 := hide (NN.out.below c5)
      obtain ⟨e3, e4, e13, _, _, _⟩ := CE.out x5 B5.out
      clear C5 NN B4 c5
      have NN := N5
      clear N5
      have C6 := hide (zknown_no oo x5 NN.out)
      go_wp2_with fail
      refine C6.out.mono ?_
      rintro E u6 ⟨rfl, rfl⟩
      clear C6
      have C7 := hide (zopen_no oo x5 NN.out)
      go_wp2_with fail
      refine C7.out.mono ?_
      rintro E u7 ⟨rfl, rfl⟩
      clear C7
      have C8 := hide (zdown_no oo x5 NN.out)
      go_wp2_with fail
      refine C8.out.mono ?_
      rintro E u8 ⟨rfl, rfl⟩
      clear C8
      have C9 := hide (zflush_no oo x5 NN.out)
      go_wp2_with fail
      refine C9.out.mono ?_
      rintro E x9 ⟨rfl, c9⟩
      have B9 := hide (B5.out.trans (c9.mono B5.out.size))
      have N9 := hide (NN.out.below c9)
      obtain ⟨e3, e4, e13, _, _, _⟩ := CE.out x9 B9.out
      clear C9 NN B5 c9
      have NN := N9
      clear N9
      have C10 := hide (zup_no oo x9 NN.out)
      go_wp2_with fail
      refine C10.out.mono ?_
      rintro E u10 ⟨rfl, rfl⟩
      clear C10
      have C11 := hide (zout_no oo x9 NN.out)
      go_wp2_with fail
      refine C11.out.mono ?_
      rintro E x11 ⟨rfl, c11⟩
      have B11 := hide (B9.out.trans (c11.mono B9.out.size))
      have N11 := hide (NN.out.below c11)
      obtain ⟨e3, e4, e13, _, _, _⟩ := CE.out x11 B11.out
      clear C11 NN B9 c11
      have NN := N11
      clear N11
      have C12 := hide (zlog_no oo x11 NN.out)
      go_wp2_with fail
      refine C12.out.mono ?_
      rintro E u12 ⟨rfl, rfl⟩
      clear C12
      have C13 := hide (zruns_no oo x11 NN.out)
      go_wp2_with fail
      refine C13.out.mono ?_
      rintro E u13 ⟨rfl, rfl⟩
      clear C13
      have C14 := hide (zpage_no oo x11 NN.out)
      rw [show vp Pm.no = .agg #[.int .i64 0, .int .u8 0, .int .i64 0, .int .u8 0, .int .i64 0, .int .i64 0] from rfl] at C14
      go_wp2_with fail
      refine C14.out.mono ?_
      rintro E x14 ⟨rfl, c14⟩
      have B14 := hide (B11.out.trans (c14.mono B11.out.size))
      have N14 := hide (NN.out.below c14)
      obtain ⟨e3, e4, e13, _, _, _⟩ := CE.out x14 B14.out
      clear C14 NN B11 c14
      have NN := N14
      clear N14
      have C15 := hide (samePage_any Pm.no Pm.no x14)
      unfold vp at C15
      rw [show same Pm.no Pm.no = true by decide] at C15
      simp only [Pm.no] at C15
      go_wp2_with fail
      refine C15.out.mono ?_
      rintro E x15 ⟨rfl, c15⟩
      have B15 := hide (B14.out.trans (c15.mono B14.out.size))
      clear C15 NN B14 c15 e3 e4 e13
      go_wp2
      go_roundw
      case rel => exact ⟨i + 1, by omega, by simp, B15⟩
      case measure => simp [intOf]; omega
    · obtain rfl : i = 2 := by omega
      have LI := hide (fun W hm => lives23_any W hm)
      have B3 := hide (B03.out.trans (BR.out.mono B03.out.size))
      obtain ⟨V, hV, sV, bV, PV⟩ := blk_step wr #[.bool false, .bool false, .int .i64 0, .slice none 0 0, .slice none 0 0, .slice none 0 0, .slice none 0 0, .slice none 0 0, .int .i64 0] 67
      have BV := hide (B3.out.trans (bV.mono B3.out.size))
      have NW := hide (nnew_nil 0 1 V (.pointer (some ⟨wr.heap.size, 0, none⟩)) (.inr ⟨_, rfl, blk_cell PV 0 rfl⟩))
      clear bV PV sV CE BR B03 B3
      go_wp2_with fail
      refine NW.out.mono ?_
      rintro E y1 ⟨rfl, d1⟩
      have BY := hide (BV.out.trans (d1.mono BV.out.size))
      have L1 := hide (LI.out y1 (HM.out.below BY.out))
      clear NW BV d1 LI
      go_wp2_with fail
      refine L1.out.mono ?_
      rintro E y2 ⟨rfl, d2⟩
      have BZ := hide (BY.out.trans (d2.mono BY.out.size))
      clear L1 BY d2
      go_wp2
      go_ret
      exact ⟨rfl, BZ.out⟩

end Go.Proofs.YtajlhdmnincehaaGreatDoor
