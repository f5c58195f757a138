/- bytes.Clone. -/
import Derived.Test.YtdfbagnnieoonaaDoorGa
import Derived.Test.YtdfbagnnieoonaaDoorBytes
import Derived.Lib.SliceRun
namespace Go.Proofs.YtdfbagnnieoonaaDoor
open Go.RowKit
set_option linter.unusedVariables false

theorem Tryd.eqnil (w : World) (a : Option Addr) (n c : Nat) : (binOp .eql 31 (.slice a n c) (.slice none 0 0)).run Tryd.prog w = .ok (.bool a.isNone) w := Lib.run_eql_slice_nil w 31 5 a n c 0 0 Tryd.underlying31

set_option maxHeartbeats 1000000 in
theorem bclone_any (v : Value) (bs : List Int) (w : World) (h : Is .u8 w v bs) (hl : bs.length ≤ 140737488355328) :
    Calls Tryd.prog 47 #[v] w fun E w' => ∃ v', E = .returned v' ∧ Own .u8 5 w.heap.size w' v' bs ∧ Below w.heap.size w w' := by
  rcases h.2 with ⟨hv, hz⟩ | ⟨ad, cap, hv, h1, h2, hc⟩
  · subst hz hv
    have hq := Tryd.eqnil w none 0 0
    clear h
    go_enter Tryd.func47, Tryd.ntmps47
    go_wp2
    go_ret
    exact ⟨_, rfl, Own.nil _ _ _ _, Below.refl _ _⟩
  · obtain ⟨w1, hw1, sz1, bel1, own1⟩ := own_step .u8 5 w #[] 0 [] rfl rfl (by simp) (by simp)
    have hq := Tryd.eqnil w (some ad) bs.length cap
    simp only [Option.isNone_some] at hq
    have h1' := h.below bel1
    subst hv
    have X : Hid (∀ ty, ∃ v' w', (Builtin.append_ #[31, 31] ty #[.slice (some ⟨w.heap.size, 0, none⟩) 0 0, .slice (some ad) bs.length cap]).run Tryd.prog w1 = .ok v' w' ∧ (Own .u8 5 w.heap.size w' v' bs ∧ Below w.heap.size w w')) := hide fun ty => by
      obtain ⟨v', w', hr, ho, hg, _⟩ := run_append_is_at (P := Tryd.prog) 31 ty .u8 5 w.heap.size 1 Tryd.underlying31 Tryd.info5 (by decide) _ [] own1 _ bs h1' (by simp; omega) (by omega)
      exact ⟨v', w', hr, by simpa using ho, bel1.grown hg (by omega) fun k hk => by simp [Value.ownBlock] at hk; omega⟩
    clear own1 h1' h hc
    go_enter Tryd.func47, Tryd.ntmps47
    go_wp2_with (at_builtin; refine wpList_append_at rfl (.tmp 5) (.tmp 6) 31 rfl _ _ rfl rfl X.out ?_)
    intro v2 w2 own2 bel2
    go_wp2
    go_ret
    exact ⟨_, rfl, own2, bel2⟩

end Go.Proofs.YtdfbagnnieoonaaDoor
