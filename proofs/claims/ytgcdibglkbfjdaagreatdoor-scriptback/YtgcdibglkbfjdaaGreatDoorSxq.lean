/- The library's strings.Lines: what its iterator yields. -/
import Derived.Test.YtgcdibglkbfjdaaGreatDoorSxp
import Derived.Test.YtgcdibglkbfjdaaGreatDoorSxk
import Derived.Test.YtgcdibglkbfjdaaGreatDoorShelf
import Derived.Test.YtgcdibglkbfjdaaGreatDoorBlk
import Derived.Test.YtgcdibglkbfjdaaGreatDoorCut
import Derived.Lib.IndexLaws
import Derived.Shelf.Abstract
import Derived.Shelf.RegionOpen
import Derived.WalkKit
import Derived.OwnWalkIn
import Derived.TacticsInMore
import Derived.LoopNIn
import Derived.LoopIn
namespace Go.Proofs.YtgcdibglkbfjdaaGreatDoor
open Go.RowKit Go.Shelf
set_option linter.unusedVariables false
set_option maxRecDepth 100000
attribute [local go_sem] Oper.semAt_some

/-- A text's lines, each with its end. -/
def lnB : Nat → ByteArray → List ByteArray
  | 0, _ => []
  | f + 1, s => if s.size = 0 then [] else if 0 ≤ Lib.indexByte s.data.toList 10 then s.extract 0 ((Lib.indexByte s.data.toList 10).toNat + 1) :: lnB f (s.extract ((Lib.indexByte s.data.toList 10).toNat + 1) s.size) else [s]

/-- What the iterator's variable holds. -/
def vStr (w : World) (V : Nat) : Nat := match w.cell? ⟨V, 0, none⟩ with | some (.string s) => s.size | _ => 0

theorem ext_size (s : ByteArray) (a b : Nat) : (s.extract a b).size = min b s.size - a := by simp

theorem idx_lt {s : ByteArray} {i : Nat} (h : Lib.indexByte s.data.toList 10 = i) : i < s.size := by
  have h1 := (Go.Lib.indexByte_some h).1
  have := (List.getElem?_eq_some_iff.1 h1).1
  rw [Lib.size_eq]
  exact this

theorem lnB_fuel : ∀ (f f' : Nat) (s : ByteArray), s.size ≤ f → s.size ≤ f' → lnB f s = lnB f' s
  | 0, 0, s, _, _ => rfl
  | 0, f' + 1, s, h, _ => by rw [lnB, lnB, if_pos (by omega)]
  | f + 1, 0, s, _, h => by rw [lnB, lnB, if_pos (by omega)]
  | f + 1, f' + 1, s, h, h' => by
    rw [lnB, lnB]
    split
    · rfl
    · split
      · rw [lnB_fuel f f' _ (by rw [ext_size]; omega) (by rw [ext_size]; omega)]
      · rfl

theorem lnB_end {s : ByteArray} (h : s.size = 0) (f : Nat) : lnB f s = [] := by
  cases f with
  | zero => rfl
  | succ f => rw [lnB, if_pos h]
theorem lnB_cut {s : ByteArray} {i : Nat} (h : Lib.indexByte s.data.toList 10 = i) : lnB s.size s = s.extract 0 (i + 1) :: lnB (s.extract (i + 1) s.size).size (s.extract (i + 1) s.size) := by
  have hl := idx_lt h
  obtain ⟨f, hf⟩ : ∃ f, s.size = f + 1 := ⟨s.size - 1, by omega⟩
  rw [hf, lnB, if_neg (by omega), h, if_pos (by omega), Int.toNat_natCast, ← hf]
  exact congrArg _ (lnB_fuel _ _ _ (by rw [ext_size]; omega) (Nat.le_refl _))
theorem lnB_last {s : ByteArray} (h : Lib.indexByte s.data.toList 10 < 0) (h0 : 0 < s.size) : lnB s.size s = [s] := by
  obtain ⟨f, hf⟩ : ∃ f, s.size = f + 1 := ⟨s.size - 1, by omega⟩
  rw [hf, lnB, if_neg (by omega), if_neg (by omega)]

set_option maxHeartbeats 4000000 in
theorem lines_seq (n : Nat) (hn : 2 ≤ n) (V : Nat) (s : ByteArray) (hs : s.size ≤ 140737488355328) (w : World) (hV : w.heap[V]? = some (.cells #[.string s] 9 (0, 0))) :
    SeqV n Tryz.prog 62 #[.pointer (some ⟨V, 0, none⟩)] Value.string V (lnB s.size s) w := fun l J Jx W hW hJ hY h0 => by
  have hro : Fence.wide.round = none := rfl
  have blk0 := (hW.block V (blk_lt hV)).trans hV
  clear hV hW
  refine callsIn_of_wp Tryz.func62 rfl trivial ?_ hro
  simp only [Tryz.ntmps62, List.size_toArray, List.length_cons, List.length_nil, Nat.reduceAdd, Nat.reduceSub, Array.replicate_succ, Array.replicate_zero, List.push_toArray, List.append_toArray, List.nil_append, List.cons_append]
  gi_wp2
  have HJ0 := hide hJ
  have HY := hide hY
  clear hJ hY
  gi_loopw [3] (fun lv wr => ∃ (pre : List ByteArray) (r : ByteArray), Hid (lnB s.size s = pre ++ lnB r.size r) ∧ wr.heap[V]? = some (.cells #[.string r] 9 (0, 0)) ∧ Hid (J pre wr) ∧ r.size ≤ s.size) (fun _ wr => vStr wr V)
  case atStart => exact ⟨[], s, hide rfl, blk0, h0, Nat.le_refl _⟩
  case round =>
    obtain ⟨pre, r, HL, blk, HJ, hr⟩ := hrel
    have c0 := blk_cell blk 0 rfl
    have f0 := blk_froz blk 0
    have vr : vStr wr V = r.size := by unfold vStr; rw [blk_cell blk 0 rfl]; rfl
    by_cases h0r : 0 < r.size
    · have hpos : (0 : Int) < r.size := by omega
      have IX : Hid (Calls Tryz.prog 63 #[.string r, .int .u8 10] wr fun E w' => E = .returned (.int .i64 (Lib.indexByte r.data.toList 10)) ∧ wr = w') := hide ((Tryz.strings_IndexByte r 10 wr).mono fun E w' h => ⟨h.1, h.2.symm⟩)
      have hge := Go.Lib.indexByte_ge r.data.toList 10
      obtain ⟨q, hq⟩ : ∃ q, Lib.indexByte r.data.toList 10 = q := ⟨_, rfl⟩
      rw [hq] at IX hge
      have BLK := hide blk
      clear blk
      gi_wp2_with fail
      refine ⟨trivial, fun _ => by omega, (callsIn_wide.2 IX.out).mono ?_⟩
      rintro E w1 ⟨rfl, rfl⟩
      clear IX
      by_cases hq0 : 0 ≤ q
      · obtain ⟨i, rfl⟩ : ∃ i : Nat, q = i := ⟨q.toNat, by omega⟩
        have hi := idx_lt hq
        have CUT := hide (lnB_cut hq)
        clear hq
        have hi1 : (i : Int) + 1 ≤ 140737488355328 := by omega
        gi_wp2
        gi_region
        obtain ⟨W2, hW2⟩ : ∃ W2, (wr.setCell { block := V, off := 0 } (Value.string (r.extract (i + 1) r.size))).drew = W2 := ⟨_, rfl⟩
        have blk2 : W2.heap[V]? = some (.cells #[.string (r.extract (i + 1) r.size)] 9 (0, 0)) := by rw [← hW2]; exact set_cells BLK.out 0 (.string (r.extract (i + 1) r.size))
        have g2 : wr.grownBy W2 (some V) := by
          have h := grown_setCell wr ⟨V, 0, none⟩ (.string (r.extract (i + 1) r.size))
          rw [← hW2]
          exact ⟨h.os, h.tape, h.output, h.size, h.block⟩
        have hJ2 := HJ0.out _ _ _ _ HJ.out g2 (fun k e => by cases e; rfl)
        obtain ⟨fn, tmps, assign, body, hy, hR⟩ := HY.out pre (r.extract 0 (i + 1)) W2 ⟨lnB (r.extract (i + 1) r.size).size (r.extract (i + 1) r.size), by rw [HL.out, CUT.out]; simp⟩ hJ2
        have HR := hide hR
        have BLK2 := hide blk2
        have GO := hide (show lnB s.size s = (pre ++ [r.extract 0 (i + 1)]) ++ lnB (r.extract (i + 1) r.size).size (r.extract (i + 1) r.size) by rw [HL.out, CUT.out]; simp)
        rw [hW2]
        clear hR blk2 g2 hJ2 hW2 c0 f0 blk0
        gi_wp2
        refine ⟨fun _ => by omega, HR.out.mono ?_⟩
        rintro e W3 (⟨rfl, hJ3, hk3⟩ | ⟨rfl, hJx3⟩)
        · have hJ4 := hide hJ3
          have blk3 := hide (hk3.trans BLK2.out)
          clear hJ3 hk3 HR
          gi_wp2
          go_roundw
          case rel => exact ⟨_, _, GO, blk3.out, hJ4, by rw [ext_size]; omega⟩
          case measure =>
            have v3 : vStr W3 V = ((r.extract (i + 1) r.size) : ByteArray).size := by unfold vStr; rw [blk_cell blk3.out 0 rfl]; rfl
            rw [v3, vr]
            rw [ext_size]; omega
        · have hJ4 := hide hJx3
          clear hJx3 HR
          gi_wp2
          refine bodyPost_ret (results_none rfl _ _ _) rfl ?_
          exact ⟨⟨_, rfl⟩, .inr ⟨_, hJ4.out⟩⟩
      · have hqn : q < 0 := by omega
        have LAST := hide (lnB_last (by rw [hq]; exact hqn) h0r)
        clear hq
        obtain ⟨W2, hW2⟩ : ∃ W2, wr.setCell { block := V, off := 0 } (Value.string { data := #[] }) = W2 := ⟨_, rfl⟩
        have blk2 : W2.heap[V]? = some (.cells #[.string ⟨#[]⟩] 9 (0, 0)) := by rw [← hW2]; exact set_cells BLK.out 0 (.string ⟨#[]⟩)
        have g2 : wr.grownBy W2 (some V) := by
          have h := grown_setCell wr ⟨V, 0, none⟩ (.string ⟨#[]⟩)
          rw [← hW2]
          exact ⟨h.os, h.tape, h.output, h.size, h.block⟩
        have hJ2 := HJ0.out _ _ _ _ HJ.out g2 (fun k e => by cases e; rfl)
        obtain ⟨fn, tmps, assign, body, hy, hR⟩ := HY.out pre r W2 ⟨[], by rw [HL.out, LAST.out]; simp⟩ hJ2
        have HR := hide hR
        have BLK2 := hide blk2
        have GO := hide (show lnB s.size s = (pre ++ [r]) ++ lnB (ByteArray.mk #[]).size ⟨#[]⟩ by rw [HL.out, LAST.out, lnB_end rfl]; simp)
        clear hR blk2 g2 hJ2 blk0
        gi_wp2
        refine ⟨fun _ => by omega, HR.out.mono ?_⟩
        rintro e W3 (⟨rfl, hJ3, hk3⟩ | ⟨rfl, hJx3⟩)
        · have hJ4 := hide hJ3
          have blk3 := hide (hk3.trans BLK2.out)
          clear hJ3 hk3 HR
          gi_wp2
          go_roundw
          case rel => exact ⟨_, _, GO, blk3.out, hJ4, Nat.zero_le _⟩
          case measure =>
            have v3 : vStr W3 V = (⟨#[]⟩ : ByteArray).size := by unfold vStr; rw [blk_cell blk3.out 0 rfl]; rfl
            rw [v3, vr]
            show (ByteArray.mk #[]).size < r.size; exact h0r
        · have hJ4 := hide hJx3
          clear hJx3 HR
          gi_wp2
          refine bodyPost_ret (results_none rfl _ _ _) rfl ?_
          exact ⟨⟨_, rfl⟩, .inr ⟨_, hJ4.out⟩⟩
    · have hz : r.size = 0 := by omega
      have D := hide (show J (lnB s.size s) wr by
        rw [HL.out, lnB_end hz, List.append_nil]
        exact HJ.out)
      gi_wp2
      go_end0
      exact ⟨⟨_, rfl⟩, .inl D.out⟩

end Go.Proofs.YtgcdibglkbfjdaaGreatDoor
