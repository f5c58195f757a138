/- The contracts of the document's At, Trimmed and Fork of starts. -/
import Derived.Test.YtklpbcdkgjoheaaSl
import Derived.Test.YtklpbcdkgjoheaaSx
namespace Go.Proofs.Ytklpbcdkgjoheaa
open Go.RowKit
set_option linter.unusedVariables false

set_option maxHeartbeats 400000 in
theorem atR_any (v : Value) (l : List Sm.S) (en n : Int) (w : World) (h : RowS w v l) (hl : l.length ≤ 140737488355328) :
    Calls Try.prog 16 #[v, .int .i64 en, .int .i64 n] w fun E w' => E = .returned (.tuple #[.int .i64 (atV l en n), .int .i64 (atE l en n)]) ∧ ∃ m, w' = w.drewN m := by
  have X := hide (scheckR_any v l en w h hl)
  have Y : Hid (∀ m, _) := hide (fun m => epoR_any v l n (w.drewN m) (rowS_drewN h m) hl)
  clear h hl
  by_cases h0 : Sm.chk l en = 0
  · rw [h0] at X
    by_cases hn : n < 0 ∨ en < n
    · obtain ⟨e1, e2⟩ := atE_two h0 hn
      rw [e1, e2]
      clear e1 e2 h0 Y
      go_enter Try.func16, Try.ntmps16
      go_wp2_with fail
      refine X.out.mono ?_
      rintro E w2 ⟨rfl, mm, rfl⟩
      by_cases h1 : n < 0
      · clear hn
        go_wp2
        go_ret2
        exact ⟨rfl, mm, rfl⟩
      · have h2 : en < n := by omega
        clear hn
        go_wp2
        go_ret2
        exact ⟨rfl, mm, rfl⟩
    · obtain ⟨e1, e2⟩ := atE_ok h0 hn
      rw [e1, e2]
      have h1 : ¬ n < 0 := by omega
      have h2 : ¬ en < n := by omega
      clear e1 e2 h0 hn
      go_enter Try.func16, Try.ntmps16
      go_wp2_with fail
      refine X.out.mono ?_
      rintro E w2 ⟨rfl, mm, rfl⟩
      go_wp2_with fail
      refine (Y.out mm).mono ?_
      rintro E w3 ⟨rfl, rfl⟩
      go_wp2
      go_ret2
      exact ⟨rfl, mm, rfl⟩
  · obtain ⟨e0, e1, e2⟩ := atE_five (n := n) h0
    rw [e1, e2]
    rw [e0] at X
    clear e0 e1 e2 h0 Y
    go_enter Try.func16, Try.ntmps16
    go_wp2_with fail
    refine X.out.mono ?_
    rintro E w2 ⟨rfl, mm, rfl⟩
    go_wp2
    go_ret2
    exact ⟨rfl, mm, rfl⟩

theorem beg_drop {l : List Sm.S} {k : Nat} {s : Sm.S} {n : Int} (h : l[k]? = some s) : Sm.beg n (l.drop k) = if s.2 ≤ n then s :: Sm.beg n (l.drop (k + 1)) else [] := by
  have hk := (List.getElem?_eq_some_iff.1 h).1
  rw [List.drop_eq_getElem_cons hk, (List.getElem?_eq_some_iff.1 h).2]
  rfl

set_option maxRecDepth 100000 in
set_option maxHeartbeats 2000000 in
theorem trimR_any (v : Value) (l : List Sm.S) (en n : Int) (w : World) (h : RowS w v l) (hl : l.length ≤ 1000000) :
    Calls Try.prog 18 #[v, .int .i64 en, .int .i64 n] w fun E w' => ∃ v', E = .returned (.tuple #[v', .int .i64 (atE l en n)]) ∧ OwnS w.heap.size w' v' (trm l en n) ∧ Below w.heap.size w w' := by
  have X := hide (scheckR_any v l en w h (by omega))
  by_cases h0 : Sm.chk l en = 0
  · rw [h0] at X
    by_cases hn : n < 0 ∨ en < n
    · obtain ⟨e1, e2⟩ := atE_two h0 hn
      have hv : trm l en n = [] := by unfold trm; rw [if_neg (by rw [e1]; decide)]
      rw [e1, hv]
      clear e1 e2 h0 hv h
      go_enter Try.func18, Try.ntmps18
      go_wp2_with fail
      refine X.out.mono ?_
      rintro E w2 ⟨rfl, mm, rfl⟩
      by_cases h1 : n < 0
      · clear hn
        go_wp2
        go_ret2
        exact ⟨_, rfl, OwnG.nil _ _ _ _ _, below_drewN (Below.refl _ _) _⟩
      · have h2 : en < n := by omega
        clear hn
        go_wp2
        go_ret2
        exact ⟨_, rfl, OwnG.nil _ _ _ _ _, below_drewN (Below.refl _ _) _⟩
    · obtain ⟨e1, e2⟩ := atE_ok h0 hn
      have hv : trm l en n = Sm.beg n l := by unfold trm; rw [if_pos e1]
      rw [e1, hv]
      have h1 : ¬ n < 0 := by omega
      have h2 : ¬ en < n := by omega
      clear e1 e2 h0 hn hv
      obtain ⟨ans, hans⟩ : ∃ r, Sm.beg n l = r := ⟨_, rfl⟩
      rw [hans]
      have HA := hide hans
      clear hans
      by_cases hz : l.length = 0
      · have : l = [] := List.eq_nil_of_length_eq_zero hz
        subst this
        obtain ⟨ao, cap, rfl, _, _⟩ := h.shape
        have hfo := HA.out
        simp only [Sm.beg] at hfo
        subst hfo
        simp only [List.length_nil] at X ⊢
        clear HA h hl hz
        go_enter Try.func18, Try.ntmps18
        go_wp2_with fail
        refine X.out.mono ?_
        rintro E w2 ⟨rfl, mm, rfl⟩
        go_wp2
        refine wp_loop_rounds 1 ?_
        rw [rounds_succ]
        go_wp2
        go_ret2
        exact ⟨_, rfl, OwnG.nil _ _ _ _ _, below_drewN (Below.refl _ _) _⟩
      obtain ⟨b, off, cap, hvl, _, _, hB, hc⟩ := rowS_full h (by omega)
      subst hvl
      have HC := hide hc
      generalize hm : l.length = m at *
      have HN := hide hm
      clear h hc hm
      go_enter Try.func18, Try.ntmps18
      go_wp2_with fail
      refine X.out.mono ?_
      rintro E w2 ⟨rfl, mm, rfl⟩
      have bel0 : Below w.heap.size w (w.drewN mm) := below_drewN (Below.refl _ _) mm
      go_wp2
      go_loopw [9, 10] (fun ov iv wr => ∃ (k : Nat), k ≤ m ∧ iv = .int .i64 k ∧ OwnS w.heap.size wr ov (l.take k) ∧ Hid (l.take k ++ Sm.beg n (l.drop k) = ans) ∧ Below w.heap.size w wr) (fun _ iv _ => m - (intOf iv).toNat)
      case atStart => exact ⟨0, by omega, rfl, OwnG.nil _ _ _ _ _, hide HA.out, bel0⟩
      case round =>
        obtain ⟨k, hk, rfl, own, HT, bel⟩ := hrel
        have sz := bel.size
        by_cases hlt : k < m
        · obtain ⟨s, hs⟩ := at_of (l := l) (k := k) (by have := HN.out; omega)
          obtain ⟨e0, e1⟩ := HC.out k s hs
          have d0 := (bel.cell (p := ⟨b, off + k * 2, none⟩) hB).trans e0
          have d1 := (bel.cell (p := ⟨b, off + k * 2 + 1, none⟩) hB).trans e1
          have hlt' : (k : Int) < m := by omega
          have HD := hide (beg_drop (n := n) hs)
          by_cases hg : s.2 ≤ n
          · have HT1 : Hid (l.take k ++ [s] = l.take (k + 1)) := hide (by rw [List.take_add_one, hs]; rfl)
            have HT2 : Hid (l.take (k + 1) ++ Sm.beg n (l.drop (k + 1)) = ans) := hide (by
              rw [← HT.out, HD.out, if_pos hg, ← HT1.out, List.append_assoc]
              rfl)
            have HLL : Hid (((l.take k).length + [s].length) * 16 ≤ 140737488355328) := hide (by rw [List.length_take, List.length_singleton]; omega)
            obtain ⟨w3, hw3, sz3, bel3, own3⟩ := sts_step wr #[.int .i64 s.1, .int .i64 s.2] 1 [s] rfl rfl (by simp [maxLen])
            have own' := ownS_below own bel3
            have bel4 := bel.trans (bel3.mono sz)
            generalize l.take k = u at *
            clear e0 e1 hs HT HD own bel bel3
            go_wp2_with (at_builtin; refine wpList_append_sts rfl (.tmp 39) (.tmp 44) rfl w.heap.size _ _ rfl own' _ [s] rfl own3.row HLL.out (by omega) ?_)
            intro v5 w5 own5 bel5 _
            rw [HT1.out] at own5
            have bel6 := bel4.trans bel5
            clear own' own3 bel4 bel5 HLL HT1
            go_wp2
            go_roundw
            case rel => exact ⟨k + 1, by omega, by go_num, own5, HT2, bel6⟩
            case measure => simp [intOf]; omega
          · have hfo : l.take k = ans := by rw [← HT.out, HD.out, if_neg hg, List.append_nil]
            rw [hfo] at own
            clear e0 e1 hs HT HD hfo
            go_wp2
            go_ret2
            exact ⟨_, rfl, own, bel⟩
        · have hlt' : ¬ (k : Int) < m := by omega
          have hfo : l.take k = ans := by rw [← HT.out, List.drop_of_length_le (by have := HN.out; omega), Sm.beg, List.append_nil]
          rw [hfo] at own
          clear HT hfo
          go_wp2
          go_ret2
          exact ⟨_, rfl, own, bel⟩
  · obtain ⟨e0, e1, e2⟩ := atE_five (n := n) h0
    have hv : trm l en n = [] := by unfold trm; rw [if_neg (by rw [e1]; decide)]
    rw [e1, hv]
    rw [e0] at X
    clear e0 e1 e2 h0 hv h
    go_enter Try.func18, Try.ntmps18
    go_wp2_with fail
    refine X.out.mono ?_
    rintro E w2 ⟨rfl, mm, rfl⟩
    go_wp2
    go_ret2
    exact ⟨_, rfl, OwnG.nil _ _ _ _ _, below_drewN (Below.refl _ _) _⟩

end Go.Proofs.Ytklpbcdkgjoheaa
