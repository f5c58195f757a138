/- The contracts of cmp.Or, of starts' Fork, grow, Of and Grown. -/
import Derived.Test.YtklpbcdkgjoheaaSe
namespace Go.Proofs.Ytklpbcdkgjoheaa
open Go.RowKit
set_option linter.unusedVariables false

set_option maxHeartbeats 400000 in
theorem or_any (x y : Int) (g : Nat) (w : World) (h0 : w.cell? ⟨g, 0, none⟩ = some (.int .i64 x)) (h1 : w.cell? ⟨g, 1, none⟩ = some (.int .i64 y)) :
    Calls Try.prog 35 #[.slice (some ⟨g, 0, none⟩) 2 2] w fun E w' => E = .returned (.int .i64 (if x = 0 then y else x)) ∧ w' = w := by
  obtain ⟨z, hz⟩ : ∃ z, (if x = 0 then y else x) = z := ⟨_, rfl⟩
  rw [hz]
  have HZ := hide hz
  clear hz
  go_enter Try.func35, Try.ntmps35
  go_wp2
  go_loopw [8] (fun iv wr => ∃ k : Nat, k ≤ 2 ∧ iv = .int .i64 k ∧ Hid ((1 ≤ k → x = 0) ∧ (2 ≤ k → y = 0)) ∧ wr = w) (fun iv _ => 2 - (intOf iv).toNat)
  case atStart => exact ⟨0, by omega, rfl, hide ⟨fun h => by omega, fun h => by omega⟩, rfl⟩
  case round =>
    obtain ⟨k, hk, rfl, HT, rfl⟩ := hrel
    rcases (by omega : k = 0 ∨ k = 1 ∨ k = 2) with rfl | rfl | rfl
    · by_cases hx : x = 0
      · subst hx
        go_wp2
        go_roundw
        case rel => exact ⟨1, by omega, rfl, hide ⟨fun _ => by trivial, fun h => by omega⟩, trivial⟩
        case measure => simp [intOf]
      · have hx' : (x != 0) = true := by simpa using hx
        obtain rfl : x = z := by rw [← HZ.out, if_neg hx]
        go_wp2
        go_ret
        exact ⟨rfl, rfl⟩
    · obtain rfl := HT.out.1 (by omega)
      obtain rfl : y = z := by rw [← HZ.out, if_pos rfl]
      by_cases hy : y = 0
      · subst hy
        go_wp2
        go_roundw
        case rel => exact ⟨2, by omega, rfl, hide ⟨fun _ => by trivial, fun _ => by trivial⟩, by trivial⟩
        case measure => simp [intOf]
      · have hy' : (y != 0) = true := by simpa using hy
        go_wp2
        go_ret
        exact ⟨rfl, rfl⟩
    · obtain rfl := HT.out.1 (by omega)
      obtain rfl := HT.out.2 (by omega)
      obtain rfl : 0 = z := by rw [← HZ.out, if_pos rfl]
      go_wp2
      go_ret
      exact ⟨rfl, rfl⟩

/-- What Fork comes to: the error. -/
def frE (a : List Sm.S) (ae : Int) (b : List Sm.S) (be : Int) : Int := if Sm.chk a ae = 0 then Sm.chk b be else Sm.chk a ae

theorem frE_zero {a b : List Sm.S} {ae be : Int} (h : frE a ae b be = 0) : Sm.Ok a ae ∧ Sm.Ok b be := by
  unfold frE at h
  split at h
  · rename_i h1
    exact ⟨Sm.chk_zero.1 h1, Sm.chk_zero.1 h⟩
  · rename_i h1
    exact absurd h h1

/-- What Fork comes to. -/
def Fr (a : List Sm.S) (ae : Int) (b : List Sm.S) (be n : Int) : Prop := (frE a ae b be = 0 ∧ Sm.Fk a ae b be n) ∨ (frE a ae b be ≠ 0 ∧ n = 0)

theorem fr_one {a b : List Sm.S} {ae be n m : Int} (h : Fr a ae b be n) (k : Fr a ae b be m) : n = m := by
  rcases h with ⟨h1, h2⟩ | ⟨h1, h2⟩ <;> rcases k with ⟨k1, k2⟩ | ⟨k1, k2⟩
  · exact Sm.fk_one h2 k2
  · exact absurd h1 k1
  · exact absurd k1 h1
  · rw [h2, k2]

set_option maxHeartbeats 1000000 in
theorem sfork_any (va vb : Value) (a b : List Sm.S) (ae be : Int) (w : World) (ha : RowS w va a) (hb : RowS w vb b) (hla : a.length ≤ 140737488355328) (hlb : b.length ≤ 140737488355328) :
    Calls Try.prog 10 #[va, .int .i64 ae, vb, .int .i64 be] w fun E w' => ∃ n, E = .returned (.tuple #[.int .i64 n, .int .i64 (frE a ae b be)]) ∧ Fr a ae b be n ∧ Below w.heap.size w w' := by
  have X := hide (scheck_any va a ae w ha hla)
  have Y : Hid (∀ w1, Below w.heap.size w w1 → _) := hide fun w1 b1 => scheck_any vb b be w1 (hb.below b1) hlb
  have Z : Hid (∀ w1, Below w.heap.size w w1 → frE a ae b be = 0 → _) := hide fun w1 b1 h0 => fork_any va vb a b ae be w1 (ha.below b1) (hb.below b1) hla hlb (frE_zero h0).1 (frE_zero h0).2
  obtain ⟨x, hx⟩ : ∃ x, Sm.chk a ae = x := ⟨_, rfl⟩
  obtain ⟨y, hy⟩ : ∃ y, Sm.chk b be = y := ⟨_, rfl⟩
  have he : frE a ae b be = if x = 0 then y else x := by unfold frE; rw [hx, hy]
  rw [hx] at X
  rw [hy] at Y
  clear ha hb hx hy hla hlb
  have FR : Hid (∀ n, (frE a ae b be = 0 → Sm.Fk a ae b be n) → (frE a ae b be ≠ 0 → n = 0) → Fr a ae b be n) := hide fun n h1 h2 => by
    by_cases h : frE a ae b be = 0
    · exact .inl ⟨h, h1 h⟩
    · exact .inr ⟨h, h2 h⟩
  rw [he] at Z FR ⊢
  obtain ⟨z, hz⟩ : ∃ z, (if x = 0 then y else x) = z := ⟨_, rfl⟩
  rw [hz] at Z FR ⊢
  have HZ := hide hz
  clear hz he
  go_enter Try.func10, Try.ntmps10
  go_wp2_with fail
  refine X.out.mono ?_
  rintro E w1 ⟨rfl, bel1⟩
  go_wp2_with fail
  refine (Y.out _ bel1).mono ?_
  rintro E w2 ⟨rfl, bel2⟩
  have s1 := bel1.size
  have s2 := bel2.size
  obtain ⟨w3, hw3, sz3, bel3, hB⟩ := blk_step w2 #[.int .i64 x, .int .i64 y] 24
  have c0 := blk_cell hB 0 rfl
  have c1 := blk_cell hB 1 rfl
  have belA : Below w.heap.size w w3 := (bel1.trans (bel2.mono s1)).trans (bel3.mono (by omega))
  clear hB bel1 bel2 bel3 s1 s2
  go_wp2_with fail
  refine (or_any x y _ w3 c0 c1).mono ?_
  rintro E w4 ⟨rfl, rfl⟩
  rw [HZ.out]
  clear HZ c0 c1
  by_cases h0 : z = 0
  · subst h0
    go_wp2_with fail
    refine (Z.out _ belA (by trivial)).mono ?_
    rintro E w5 ⟨n, rfl, hfk, m, rfl⟩
    have HF := hide hfk
    clear hfk
    go_wp2
    go_ret2
    exact ⟨_, rfl, FR.out _ (fun _ => HF.out) (fun h => absurd rfl h), below_drewN belA _⟩
  · have hz : (z != 0) = true := by simpa using h0
    have F0 := hide (FR.out 0 (fun h => absurd h h0) (fun _ => rfl))
    clear h0 FR
    go_wp2
    go_ret2
    exact ⟨_, rfl, F0.out, belA⟩

set_option maxHeartbeats 1000000 in
theorem grow_any (base : Nat) (v : Value) (l : List Sm.S) (e n : Int) (ao : Option Addr) (no co : Nat) (w : World) (h : OwnS base w v l) (hl : (l.length + 1) * 16 ≤ 140737488355328) (hb : base ≤ w.heap.size) :
    Calls Try.prog 43 #[v, cmv e n (.slice ao no co)] w fun E w' => ∃ v', E = .returned v' ∧ OwnS base w' v' (Sm.grw l e n) ∧ Below base w w' := by
  unfold cmv
  obtain ⟨w1, hw1, sz1, bel1, hB⟩ := blk_step w #[.int .i64 e, .int .i64 n, .slice ao no co] 40
  have own1 := ownS_below h bel1
  have c0 := blk_cell hB 0 rfl
  have c1 := blk_cell hB 1 rfl
  have X : Hid (∀ m, _) := hide fun m => lastE_any v l (w1.drewN m) (rowS_drewN own1.row m) (by omega)
  have HL : Hid ((l.length + [((e, n) : Sm.S)].length) * 16 ≤ 140737488355328) := hide hl
  have HB := hide hB
  clear hl h hB
  by_cases hq : e = Sm.lst l
  · have hg : Sm.grw l e n = l := by unfold Sm.grw; rw [if_pos hq]
    rw [hg]
    have hq' : (e == Sm.lst l) = true := by simpa using hq
    generalize Sm.lst l = u at *
    clear hq hg HL
    go_enter Try.func43, Try.ntmps43
    go_wp2
    go_quiet ((go_at_call 33; refine Calls.quiet_of ((X.out _).mono (by rintro E w1 ⟨rfl, rfl⟩; exact ⟨rfl, 0, rfl⟩))))
    go_wp2
    go_ret
    exact ⟨_, rfl, own1.agree fun _ _ => rfl, below_drewN (bel1.mono hb) _⟩
  · have hg : Sm.grw l e n = l ++ [(e, n)] := by unfold Sm.grw; rw [if_neg hq]
    rw [hg]
    have hq' : (e == Sm.lst l) = false := by simpa using hq
    generalize Sm.lst l = u at *
    clear hq hg
    go_enter Try.func43, Try.ntmps43
    go_wp2
    go_quiet ((go_at_call 33; refine Calls.quiet_of ((X.out _).mono (by rintro E w1 ⟨rfl, rfl⟩; exact ⟨rfl, 0, rfl⟩))))
    have own1' : OwnS base (w1.drewN nq) v l := own1.agree fun _ _ => rfl
    have szq : (w1.drewN nq).heap.size = w1.heap.size := rfl
    have d0 : (w1.drewN nq).cell? ⟨w.heap.size, 0, none⟩ = some (.int .i64 e) := c0
    have d1 : (w1.drewN nq).cell? ⟨w.heap.size, 1, none⟩ = some (.int .i64 n) := c1
    have belq : Below base w (w1.drewN nq) := below_drewN (bel1.mono hb) nq
    generalize w1.drewN nq = wq at *
    obtain ⟨w2, hw2, sz2, bel2, own2⟩ := sts_step wq #[.int .i64 e, .int .i64 n] 1 [(e, n)] rfl rfl (by simp [maxLen])
    have own3 := ownS_below own1' bel2
    rw [szq, sz1] at own2
    clear own1 own1' c0 c1 X HB
    go_wp2_with (at_builtin; refine wpList_append_sts rfl (.tmp 11) (.tmp 17) rfl base _ l rfl own3 _ [(e, n)] rfl own2.row HL.out (by omega) ?_)
    intro v2 w3 own4 bel3 _
    go_wp2
    go_ret
    exact ⟨_, rfl, own4, (belq.trans (bel2.mono (by omega))).trans bel3⟩

end Go.Proofs.Ytklpbcdkgjoheaa
