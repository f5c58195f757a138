/- The chapter's examples: the two that open each law ('lives'). -/
import Derived.Test.YtklpbcdkgjoheaaSl
namespace Go.Proofs.Ytklpbcdkgjoheaa
open Go.RowKit
set_option linter.unusedVariables false

/-- Starts that are written out. -/
theorem ofL (w : World) (cs : Array Value) (zs : List Int) (n m : Nat) (r : List Sm.S) (hcs : cs.toList = zs.map (Value.int .i64)) (hn : zs.length = n) (hm : n = 2 * m) (hm0 : 0 < m) (hms : m ≤ 1000) (hw : ∀ z ∈ zs, (Lit.int .i64 z).wf = true) (hr : prs zs = r) :
    Calls Try.prog 8 #[.slice (some ⟨w.heap.size, 0, none⟩) n n] (w.alloc (.cells cs 3)) fun E w' => ∃ v, E = .returned v ∧ OwnS w.heap.size w' v r ∧ Below w.heap.size w w' := by
  obtain ⟨W, hW, sz, bel, own⟩ := own_step .i64 3 w cs n zs hn hcs (by unfold maxLen; omega) hw
  rw [hW]
  refine (of_list _ zs m W own.is (by omega) hm0 hms).mono ?_
  rintro E w' ⟨v, rfl, o, b⟩
  subst hr
  exact ⟨v, rfl, ownS_rebase o (by omega), bel.trans (b.mono (by omega))⟩

theorem okA : Sm.Ok [(1, 1), (3, 4)] 5 := by simp [Sm.Ok, Sm.Up]
theorem okB : Sm.Ok [(1, 1), (2, 3)] 4 := by simp [Sm.Ok, Sm.Up]

theorem frAB : frE [(1, 1), (3, 4)] 5 [(1, 1), (2, 3)] 4 = 0 ∧ ∀ n, Fr [(1, 1), (3, 4)] 5 [(1, 1), (2, 3)] 4 n → n = 2 := by
  have h : frE [(1, 1), (3, 4)] 5 [(1, 1), (2, 3)] 4 = 0 := by unfold frE; rw [Sm.chk_ok okA, Sm.chk_ok okB]; rfl
  refine ⟨h, fun n hn => fr_one hn (.inl ⟨h, by decide, by decide, by decide, by decide, fun m h1 h2 h3 => ?_⟩)⟩
  rcases (by omega : m = 3 ∨ m = 4) with rfl | rfl <;> decide

theorem atA (n : Int) (h : 0 ≤ n ∧ n ≤ 5) : atE [(1, 1), (3, 4)] 5 n = 0 ∧ atV [(1, 1), (3, 4)] 5 n = Sm.epo n 0 [(1, 1), (3, 4)] := atE_ok (Sm.chk_ok okA) (by omega)

set_option maxRecDepth 100000 in
set_option maxHeartbeats 1000000 in
theorem lives_any (w : World) : Calls Try.prog 13 #[] w fun E w' => E = .returned (.bool true) ∧ Below w.heap.size w w' := by
  have FA := hide frAB
  have AA := hide (atA 4 (by decide))
  have A3 : Hid (Sm.epo 4 0 [(1, 1), (3, 4)] = 3) := hide rfl
  go_enter Try.func13, Try.ntmps13
  go_wp2_with fail
  refine (ofL _ _ [1, 1, 3, 4] 4 2 [(1, 1), (3, 4)] rfl rfl rfl (by decide) (by decide) (by decide) rfl).mono ?_
  rintro E w1 ⟨v1, rfl, own1, bel1⟩
  go_wp2_with fail
  refine (ofL _ _ [1, 1, 2, 3] 4 2 [(1, 1), (2, 3)] rfl rfl rfl (by decide) (by decide) (by decide) rfl).mono ?_
  rintro E w2 ⟨v2, rfl, own2, bel2⟩
  have bel02 := bel1.trans (bel2.mono bel1.size)
  go_wp2_with fail
  refine (sfork_any v1 v2 [(1, 1), (3, 4)] [(1, 1), (2, 3)] 5 4 w2 (own1.row.below bel2) own2.row (by decide) (by decide)).mono ?_
  rintro E w3 ⟨n, rfl, hfr, bel3⟩
  obtain rfl := FA.out.2 n hfr
  rw [FA.out.1]
  have bel03 := bel02.trans (bel3.mono bel02.size)
  clear own1 own2 bel1 bel2 bel02 hfr bel3
  go_wp2_with fail
  refine (ofL _ _ [1, 1, 3, 4] 4 2 [(1, 1), (3, 4)] rfl rfl rfl (by decide) (by decide) (by decide) rfl).mono ?_
  rintro E w4 ⟨v4, rfl, own4, bel4⟩
  have bel04 := bel03.trans (bel4.mono bel03.size)
  go_wp2_with fail
  refine (at_any v4 [(1, 1), (3, 4)] 5 4 w4 own4.row (by decide)).mono ?_
  rintro E w5 ⟨rfl, bel5⟩
  rw [AA.out.1, AA.out.2, A3.out]
  have bel05 := bel04.trans (bel5.mono bel04.size)
  clear own4 bel4 bel04 bel5 bel03
  go_wp2
  go_ret
  exact ⟨rfl, bel05⟩

end Go.Proofs.Ytklpbcdkgjoheaa
