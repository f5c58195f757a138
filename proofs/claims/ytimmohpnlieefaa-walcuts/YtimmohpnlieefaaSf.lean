/- The contracts of cmp.Or, of starts' Fork, grow, Of and Grown. -/
import Derived.Test.YtimmohpnlieefaaA3
namespace Go.Proofs.Ytimmohpnlieefaa
open Go.RowKit
set_option linter.unusedVariables false

/-- What Fork comes to: the error. -/
def frE (a : List Sm.S) (ae : Int) (b : List Sm.S) (be : Int) : Int := if Sm.chk a ae = 0 then Sm.chk b be else Sm.chk a ae

theorem frE_zero {a b : List Sm.S} {ae be : Int} (h : frE a ae b be = 0) : Sm.Ok a ae ∧ Sm.Ok b be := by
  unfold frE at h
  split at h
  · rename_i h1
    exact ⟨Sm.chk_zero.1 h1, Sm.chk_zero.1 h⟩
  · rename_i h1
    exact absurd h h1

/-- What Fork comes to. -/
def Fr (a : List Sm.S) (ae : Int) (b : List Sm.S) (be n : Int) : Prop := (frE a ae b be = 0 ∧ Sm.Fk a ae b be n) ∨ (frE a ae b be ≠ 0 ∧ n = 0)

theorem fr_one {a b : List Sm.S} {ae be n m : Int} (h : Fr a ae b be n) (k : Fr a ae b be m) : n = m := by
  rcases h with ⟨h1, h2⟩ | ⟨h1, h2⟩ <;> rcases k with ⟨k1, k2⟩ | ⟨k1, k2⟩
  · exact Sm.fk_one h2 k2
  · exact absurd h1 k1
  · exact absurd k1 h1
  · rw [h2, k2]

set_option maxHeartbeats 1000000 in
theorem grow_any (base : Nat) (v : Value) (l : List Sm.S) (e n : Int) (ao : Option Addr) (no co : Nat) (w : World) (h : OwnS base w v l) (hl : (l.length + 1) * 16 ≤ 140737488355328) (hb : base ≤ w.heap.size) :
    Calls Try.prog 71 #[v, cmv e n (.slice ao no co)] w fun E w' => ∃ v', E = .returned v' ∧ OwnS base w' v' (Sm.grw l e n) ∧ Below base w w' := by
  unfold cmv
  obtain ⟨w1, hw1, sz1, bel1, hB⟩ := blk_step w #[.int .i64 e, .int .i64 n, .slice ao no co] 32
  have own1 := ownS_below h bel1
  have c0 := blk_cell hB 0 rfl
  have c1 := blk_cell hB 1 rfl
  have X : Hid (∀ m, _) := hide fun m => lastE_any v l (w1.drewN m) (rowS_drewN own1.row m) (by omega)
  have HL : Hid ((l.length + [((e, n) : Sm.S)].length) * 16 ≤ 140737488355328) := hide hl
  have HB := hide hB
  clear hl h hB
  by_cases hq : e = Sm.lst l
  · have hg : Sm.grw l e n = l := by unfold Sm.grw; rw [if_pos hq]
    rw [hg]
    have hq' : (e == Sm.lst l) = true := by simpa using hq
    generalize Sm.lst l = u at *
    clear hq hg HL
    go_enter Try.func71, Try.ntmps71
    go_wp2
    go_quiet ((go_at_call 94; refine Calls.quiet_of ((X.out _).mono (by rintro E w1 ⟨rfl, rfl⟩; exact ⟨rfl, 0, rfl⟩))))
    go_wp2
    go_ret
    exact ⟨_, rfl, own1.agree fun _ _ => rfl, below_drewN (bel1.mono hb) _⟩
  · have hg : Sm.grw l e n = l ++ [(e, n)] := by unfold Sm.grw; rw [if_neg hq]
    rw [hg]
    have hq' : (e == Sm.lst l) = false := by simpa using hq
    generalize Sm.lst l = u at *
    clear hq hg
    go_enter Try.func71, Try.ntmps71
    go_wp2
    go_quiet ((go_at_call 94; refine Calls.quiet_of ((X.out _).mono (by rintro E w1 ⟨rfl, rfl⟩; exact ⟨rfl, 0, rfl⟩))))
    have own1' : OwnS base (w1.drewN nq) v l := own1.agree fun _ _ => rfl
    have szq : (w1.drewN nq).heap.size = w1.heap.size := rfl
    have d0 : (w1.drewN nq).cell? ⟨w.heap.size, 0, none⟩ = some (.int .i64 e) := c0
    have d1 : (w1.drewN nq).cell? ⟨w.heap.size, 1, none⟩ = some (.int .i64 n) := c1
    have belq : Below base w (w1.drewN nq) := below_drewN (bel1.mono hb) nq
    generalize w1.drewN nq = wq at *
    obtain ⟨w2, hw2, sz2, bel2, own2⟩ := sts_step wq #[.int .i64 e, .int .i64 n] 1 [(e, n)] rfl rfl (by simp [maxLen])
    have own3 := ownS_below own1' bel2
    rw [szq, sz1] at own2
    clear own1 own1' c0 c1 X HB
    go_wp2_with (at_builtin; refine wpList_append_sts rfl (.tmp 11) (.tmp 17) rfl base _ l rfl own3 _ [(e, n)] rfl own2.row HL.out (by omega) ?_)
    intro v2 w3 own4 bel3 _
    go_wp2
    go_ret
    exact ⟨_, rfl, own4, (belq.trans (bel2.mono (by omega))).trans bel3⟩

end Go.Proofs.Ytimmohpnlieefaa
