/- A table that is nil, or that nobody made: each call of it. -/
import Derived.Test.YtlfhpbiapnjghaaTx
namespace Go.Proofs.Ytlfhpbiapnjghaa
open Go.RowKit
open Bm (Ov)
set_option linter.unusedVariables false

/-- No table, or one that nobody made. -/
def NoT (w : World) (v : Value) : Prop := v = .pointer none ∨ ∃ q, v = .pointer (some ⟨q, 0, none⟩) ∧ w.cell? ⟨q, 0, none⟩ = some (.map none)

theorem NoT.below {w w' : World} {v : Value} (h : NoT w v) (hb : Below w.heap.size w w') : NoT w' v := by
  rcases h with h | ⟨q, h1, h2⟩
  · exact .inl h
  · exact .inr ⟨q, h1, (hb.cell (World.block_lt_of_cell? _ _ h2)).trans h2⟩

theorem tmadeN (v : Value) (w : World) (h : NoT w v) : Calls Try.prog 26 #[v] w fun E w' => E = .returned (.bool false) ∧ w = w' := by
  rcases h with rfl | ⟨q, rfl, hc⟩
  · exact made_nil w
  · exact made_none q w hc

theorem tapplyN (v lv : Value) (w : World) (h : NoT w v) : Calls Try.prog 10 #[v, lv] w fun E w' => E = .returned (.int .i64 1) ∧ w = w' := by
  have HN := hide (tmadeN v w h)
  clear h
  go_enter Try.func10, Try.ntmps10
  go_wp2_with fail
  refine HN.out.mono ?_
  rintro E w1 ⟨rfl, rfl⟩
  go_wp2
  go_ret
  exact ⟨rfl, rfl⟩

theorem tgetN (v : Value) (k : ByteArray) (w : World) (h : NoT w v) : Calls Try.prog 11 #[v, .string k] w fun E w' => E = .returned (.tuple #[.string ⟨#[]⟩, .bool false, .bool false]) ∧ w = w' := by
  have HN := hide (tmadeN v w h)
  clear h
  go_enter Try.func11, Try.ntmps11
  go_wp2_with fail
  refine HN.out.mono ?_
  rintro E w1 ⟨rfl, rfl⟩
  go_wp2
  go_ret3
  exact ⟨rfl, rfl⟩

theorem tlenN (v : Value) (w : World) (h : NoT w v) : Calls Try.prog 12 #[v] w fun E w' => E = .returned (.int .i64 0) ∧ w = w' := by
  have HN := hide (tmadeN v w h)
  clear h
  go_enter Try.func12, Try.ntmps12
  go_wp2_with fail
  refine HN.out.mono ?_
  rintro E w1 ⟨rfl, rfl⟩
  go_wp2
  go_ret
  exact ⟨rfl, rfl⟩

theorem topsN (v : Value) (w : World) (h : NoT w v) : ∀ w1, Below w.heap.size w w1 → Calls Try.prog 37 #[v] w1 fun E w' => ∃ v, E = .returned v ∧ OwnO 28 w1.heap.size w' v [] ∧ Below w1.heap.size w1 w' := fun w1 hb => by
  refine (tops_no v w1 (tmadeN v w1 (h.below hb))).mono ?_
  rintro E w' ⟨rfl, rfl⟩
  exact ⟨_, rfl, OwnO.nil _ _ _, Below.refl _ _⟩

theorem lallN (v : Value) (n : Nat) (w : World) (h : NoT w v) : Calls Try.prog 24 #[v, .int .i64 n] w fun E w' => ∃ ao cap, E = .returned (.slice ao 0 cap) ∧ Below w.heap.size w w' := by
  refine (lall_any v w [] n (by simp) (topsN v w h)).mono ?_
  rintro E w' ⟨u, rfl, ho, b⟩
  obtain ⟨ao, cap, hv, _, _⟩ := ho.is.shape
  simp at hv
  subst hv
  exact ⟨ao, cap, rfl, b⟩

theorem lliveN (v : Value) (w : World) (h : NoT w v) : Calls Try.prog 14 #[v] w fun E w' => ∃ ao cap, E = .returned (.slice ao 0 cap) ∧ Below w.heap.size w w' := by
  refine (llive_any v w [] (by simp) (topsN v w h)).mono ?_
  rintro E w' ⟨u, rfl, ho, b⟩
  obtain ⟨ao, cap, hv, _, _⟩ := ho.is.shape
  simp [Tm.live] at hv
  subst hv
  exact ⟨ao, cap, rfl, b⟩

theorem tsameN (v : Value) (w : World) (h : NoT w v) (v1 : Value) (h1 : v1 = v ∨ ∃ p b t, v1 = .pointer (some ⟨p, 0, none⟩) ∧ Tb p b w t) : Calls Try.prog 15 #[v1, v] w fun E w' => E = .returned (.bool false) ∧ Below w.heap.size w w' := by
  rcases h1 with rfl | ⟨p, b, t, rfl, T⟩
  · exact tsame_no1 _ _ w fun m => tmadeN _ _ (h.below (below_drewN (Below.refl _ _) m))
  · exact tsame_no2 p b v w t T fun m => tmadeN _ _ (h.below (below_drewN (Below.refl _ _) m))

end Go.Proofs.Ytlfhpbiapnjghaa
