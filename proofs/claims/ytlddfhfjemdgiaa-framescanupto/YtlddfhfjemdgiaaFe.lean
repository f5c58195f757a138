/- The statement's own: lives. -/
import Derived.Test.YtlddfhfjemdgiaaFd
import Derived.Lib.SlBytesConst
namespace Go.Proofs.Ytlddfhfjemdgiaa
open Go.RowKit
set_option linter.unusedVariables false

theorem no_frame {c : Int} {bs : List Int} (h0 : 0 ≤ c) (h : c < 128) (hl : (bs.length : Int) < c) (s : List Int) : ¬ Fm.frm s <+: c :: bs := by
  intro hp
  obtain ⟨h1, _, h3⟩ := Fm.frm_pre hp
  have h2 := (Vm.pre_lo h).1 h1
  have := Vm.sz_pos s.length
  simp at h3
  omega

theorem frm_lo {r : List Int} (h : r.length < 128) : Fm.frm r = (r.length : Int) :: r := by
  unfold Fm.frm
  rw [Vm.enc_lo h]
  rfl

theorem sc_ex : Fm.Sc [1, 97, 0, 2, 98] [[97], []] := by
  refine ⟨by simp, ?_, fun s _ => ?_⟩
  · simp [Fm.cat, frm_lo]
  · have : (Fm.cat [[97], []]).length = 3 := by simp [Fm.cat, frm_lo]
    rw [this]
    exact no_frame (by omega) (by omega) (by simp) s

theorem sc_ex3 : Fm.Sc [0, 0, 0] [[], [], []] := by
  refine ⟨by simp, ?_, fun s _ => ?_⟩
  · simp [Fm.cat, frm_lo]
  · have : (Fm.cat [[], [], []]).length = 3 := by simp [Fm.cat, frm_lo]
    rw [this]
    intro hp
    have h1 := hp.length_le
    have h2 := Fm.frm_pos s
    have h3 : (List.drop 3 [(0 : Int), 0, 0]).length = 0 := rfl
    omega

/-- A text's bytes, laid in a new block. -/
theorem lit2_step (w : World) (x y : Int) (hz : ∀ z ∈ [x, y], (Lit.int .u8 z).wf = true) : ∃ W, w.alloc (.cells #[.int .u8 x, .int .u8 y] 5 (2, 3)) = W ∧ W.heap.size = w.heap.size + 1 ∧ Below w.heap.size w W ∧ Is .u8 W (.slice (some ⟨w.heap.size, 0, none⟩) 2 2) [x, y] := by
  refine ⟨_, rfl, by simp, (Below.refl _ _).alloc (Nat.le_refl _) _, hz, .inr ⟨⟨w.heap.size, 0, none⟩, 2, rfl, by simp, by decide, fun i hi => ?_⟩⟩
  have : i = 0 ∨ i = 1 := by simp at hi; omega
  rcases this with rfl | rfl
  · rw [add_at]
    exact blk_cell (heap_alloc_new w _) 0 rfl
  · rw [add_at]
    exact blk_cell (heap_alloc_new w _) 1 rfl

theorem below_dr {w w' : World} {m base : Nat} (h : Below base w w') : Below base w (w'.drewN m) := below_drewN h m

set_option maxHeartbeats 4000000 in
theorem lives_any (w : World) : Calls Try.prog 11 #[] w fun E w' => E = .returned (.bool true) ∧ Below w.heap.size w w' := by
  have kc := fun (w : World) (C : Array Value) (n c : Nat) => Lib.run_convert_bytes_const (P := Try.prog) w 22 5 C n c Try.underlying22 Try.underlying5
  obtain ⟨w1, hw1, sz1, bel1, own1⟩ := own_step .u8 5 w #[.int .u8 1, .int .u8 97, .int .u8 0, .int .u8 2, .int .u8 98] 5 [1, 97, 0, 2, 98] rfl rfl (by simp [maxLen]) (by decide)
  have C1 := hide (scan_any _ _ w1 own1.is (by simp))
  clear own1
  go_enter Try.func11, Try.ntmps11
  go_wp2_with fail
  refine C1.out.mono ?_
  rintro E w2 ⟨v2, r, rfl, ob2, bel2, S⟩
  clear C1
  have hr := Fm.sc_one S.out sc_ex
  have hc : (Fm.cat (lsts r)).length = 3 := by rw [hr]; simp [Fm.cat, frm_lo]
  rw [hc]
  have HR := hide hr
  have OB := hide ob2
  have b2 : Below w.heap.size w w2 := bel1.trans (bel2.mono (by omega))
  have s2 := b2.size
  obtain ⟨w3, hw3, sz3, bel3, own3⟩ := lit2_step w2 97 98 (by decide)
  have C3 := hide (fapp_any (.slice none 0 0) _ [] _ w3 (Own.nil .u8 5 0 w3).is own3 (by simp) (by simp))
  replace OB := hide (OB.out.below bel3)
  have b3 : Below w.heap.size w w3 := b2.trans (bel3.mono (by omega))
  clear own3 ob2 bel1 bel2 bel3 b2 S hr hc sz1 hw1
  go_wp2_with fail
  refine C3.out.mono ?_
  rintro E w4 ⟨v4, rfl, own4, bel4⟩
  clear C3
  have e1 : ape [97, 98] = 0 := rfl
  have e2 : apd [] [97, 98] = [2, 97, 98] := by simp [apd, frm_lo]
  rw [e1]
  rw [e2] at own4
  clear e1 e2
  replace OB := hide (OB.out.below bel4)
  have b4 : Below w.heap.size w w4 := b3.trans (bel4.mono b3.size)
  have O4 := hide own4
  clear bel4 own4 b3
  have s4 := b4.size
  obtain ⟨w5, hw5, sz5, bel5, own5⟩ := own_step .u8 5 w4 #[.int .u8 97] 1 [97] rfl rfl (by simp [maxLen]) (by decide)
  obtain ⟨w6, hw6, sz6, bel6, own6⟩ := own_step .u8 5 w5 #[] 0 [] rfl rfl (by simp [maxLen]) (by decide)
  obtain ⟨w7, hw7, sz7, bel7, rown⟩ := rows_step bwc 1 bwc_len 22 w6 #[.slice (some ⟨w4.heap.size, 0, none⟩) 1 1, .slice (some ⟨w5.heap.size, 0, none⟩) 0 0] 2 [⟨.slice (some ⟨w4.heap.size, 0, none⟩) 1 1, [97]⟩, ⟨.slice (some ⟨w5.heap.size, 0, none⟩) 0 0, []⟩] rfl rfl (by unfold maxLen; omega)
  have b47 : Below w4.heap.size w4 w7 := (bel5.trans (bel6.mono (by omega))).trans (bel7.mono (by omega))
  have isb : IsBB w7 (.slice (some ⟨w6.heap.size, 0, none⟩) 2 2) [⟨.slice (some ⟨w4.heap.size, 0, none⟩) 1 1, [97]⟩, ⟨.slice (some ⟨w5.heap.size, 0, none⟩) 0 0, []⟩] := by
    refine ⟨rown.row, fun a ha => ?_⟩
    simp at ha
    rcases ha with rfl | rfl
    · exact ((own5.below bel6).below bel7).is
    · exact (own6.below bel7).is
  have C7 := hide (records_any _ _ r _ w7 (OB.out.below b47).is isb (by
      intro a ha
      have h1 : a.l ∈ lsts r := List.mem_map_of_mem ha
      rw [HR.out] at h1
      simp at h1
      rcases h1 with h | h <;> simp [h]) (by simp) (by have := congrArg List.length HR.out; rw [lsts_len] at this; simp at this; omega) (by simp))
  rw [decide_eq_true (by rw [HR.out]; rfl)] at C7
  replace O4 := hide (O4.out.below b47)
  have b7 : Below w.heap.size w w7 := b4.trans (b47.mono s4)
  have s7 := b7.size
  clear own5 own6 rown isb b47 b4 bel5 bel6 bel7 sz5 sz6 sz7 sz3 s2 s4 OB hw3
  clear kc
  go_wp2_with fail
  refine C7.out.mono ?_
  rintro E w8 ⟨rfl, m, hw8⟩
  have b78 : Below w7.heap.size w7 w8 := by rw [hw8]; exact below_drewN (Below.refl _ _) m
  clear hw8 C7 hw5 hw6 hw7
  obtain ⟨w9, hw9, sz9, bel9, own9⟩ := own_step .u8 5 w8 #[.int .u8 2, .int .u8 97, .int .u8 98] 3 [2, 97, 98] rfl rfl (by simp [maxLen]) (by decide)
  have C9 := hide (same_yes v4 _ [2, 97, 98] [2, 97, 98] w9 ((O4.out.below b78).below bel9).is own9.is (by simp) rfl)
  have b8 : Below w.heap.size w w8 := b7.trans (b78.mono s7)
  have b9 : Below w.heap.size w w9 := b8.trans (bel9.mono b8.size)
  have s9 := b9.size
  clear own9 bel9 b8 b78 O4 sz9
  go_wp2_with fail
  refine C9.out.mono ?_
  rintro E w10 ⟨rfl, bel10⟩
  clear C9
  go_wp2
  go_ret
  exact ⟨rfl, b9.trans (bel10.mono s9)⟩

end Go.Proofs.Ytlddfhfjemdgiaa
