/- The statement's own: lives. -/
import Derived.Test.YtdfbagnnieoonaaDoorFd
import Derived.Lib.SlBytesConst
namespace Go.Proofs.YtdfbagnnieoonaaDoor
open Go.RowKit
set_option linter.unusedVariables false

theorem no_frame {c : Int} {bs : List Int} (h0 : 0 ≤ c) (h : c < 128) (hl : (bs.length : Int) < c) (s : List Int) : ¬ Fm.frm s <+: c :: bs := by
  intro hp
  obtain ⟨h1, _, h3⟩ := Fm.frm_pre hp
  have h2 := (Vm.pre_lo h).1 h1
  have := Vm.sz_pos s.length
  simp at h3
  omega

theorem frm_lo {r : List Int} (h : r.length < 128) : Fm.frm r = (r.length : Int) :: r := by
  unfold Fm.frm
  rw [Vm.enc_lo h]
  rfl

theorem sc_ex : Fm.Sc [1, 97, 0, 2, 98] [[97], []] := by
  refine ⟨by simp, ?_, fun s _ => ?_⟩
  · simp [Fm.cat, frm_lo]
  · have : (Fm.cat [[97], []]).length = 3 := by simp [Fm.cat, frm_lo]
    rw [this]
    exact no_frame (by omega) (by omega) (by simp) s

theorem sc_ex3 : Fm.Sc [0, 0, 0] [[], [], []] := by
  refine ⟨by simp, ?_, fun s _ => ?_⟩
  · simp [Fm.cat, frm_lo]
  · have : (Fm.cat [[], [], []]).length = 3 := by simp [Fm.cat, frm_lo]
    rw [this]
    intro hp
    have h1 := hp.length_le
    have h2 := Fm.frm_pos s
    have h3 : (List.drop 3 [(0 : Int), 0, 0]).length = 0 := rfl
    omega

/-- A text's bytes, laid in a new block. -/
theorem lit2_step (w : World) (x y : Int) (hz : ∀ z ∈ [x, y], (Lit.int .u8 z).wf = true) : ∃ W, w.alloc (.cells #[.int .u8 x, .int .u8 y] 5 (2, 3)) = W ∧ W.heap.size = w.heap.size + 1 ∧ Below w.heap.size w W ∧ Is .u8 W (.slice (some ⟨w.heap.size, 0, none⟩) 2 2) [x, y] := by
  refine ⟨_, rfl, by simp, (Below.refl _ _).alloc (Nat.le_refl _) _, hz, .inr ⟨⟨w.heap.size, 0, none⟩, 2, rfl, by simp, by decide, fun i hi => ?_⟩⟩
  have : i = 0 ∨ i = 1 := by simp at hi; omega
  rcases this with rfl | rfl
  · rw [add_at]
    exact blk_cell (heap_alloc_new w _) 0 rfl
  · rw [add_at]
    exact blk_cell (heap_alloc_new w _) 1 rfl

theorem below_dr {w w' : World} {m base : Nat} (h : Below base w w') : Below base w (w'.drewN m) := below_drewN h m

end Go.Proofs.YtdfbagnnieoonaaDoor
