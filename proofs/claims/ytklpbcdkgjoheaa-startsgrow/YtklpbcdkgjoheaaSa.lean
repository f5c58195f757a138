/- Rows of starts in memory; the contracts of starts' lastEpoch, rise and Check, and of the document's Check and epoch. -/
import Derived.Test.YtklpbcdkgjoheaaGr
import Derived.Test.YtklpbcdkgjoheaaSm
import Derived.Test.YtklpbcdkgjoheaaCf
namespace Go.Proofs.Ytklpbcdkgjoheaa
open Go.RowKit
set_option linter.unusedVariables false

/-- A start's cells. -/
def stc (s : Sm.S) : List Value := [.int .i64 s.1, .int .i64 s.2]
theorem stc_len (s : Sm.S) : (stc s).length = 2 := rfl

abbrev RowS (w : World) (v : Value) (l : List Sm.S) : Prop := RowG stc w v l
abbrev OwnS (base : Nat) (w : World) (v : Value) (l : List Sm.S) : Prop := OwnG stc 2 58 base w v l

theorem stc_one : ∀ (l : List Sm.S), ∀ u ∈ gcells stc l, u.oneCell' = true
  | [], u, h => by simp [gcells] at h
  | s :: r, u, h => by
    rcases List.mem_append.1 h with h | h
    · simp only [stc, List.mem_cons, List.not_mem_nil, or_false] at h
      rcases h with rfl | rfl <;> rfl
    · exact stc_one r u h

theorem rowS_full {w : World} {v : Value} {l : List Sm.S} (h : RowS w v l) (hne : 0 < l.length) :
    ∃ b off cap, v = .slice (some ⟨b, off, none⟩) l.length cap ∧ l.length ≤ cap ∧ cap ≤ maxLen ∧ b < w.heap.size ∧ ∀ (i : Nat) (s : Sm.S), l[i]? = some s → w.cell? ⟨b, off + i * 2, none⟩ = some (.int .i64 s.1) ∧ w.cell? ⟨b, off + i * 2 + 1, none⟩ = some (.int .i64 s.2) := by
  obtain ⟨b, off, cap, h1, h2, h3, h4, h5⟩ := h.full stc_len (by decide) hne
  exact ⟨b, off, cap, h1, h2, h3, h4, fun i s hs => ⟨h5 i s hs 0 _ rfl, h5 i s hs 1 _ rfl⟩⟩

theorem rowS_drewN {w : World} {v : Value} {l : List Sm.S} (h : RowS w v l) (n : Nat) : RowS (w.drewN n) v l := h.agree fun _ _ => rfl

/-- An element of a row. -/
theorem at_of {α : Type} {l : List α} {k : Nat} (h : k < l.length) : ∃ s, l[k]? = some s := ⟨l[k], List.getElem?_eq_getElem h⟩

set_option maxHeartbeats 400000 in
theorem lastE_any (v : Value) (l : List Sm.S) (w : World) (h : RowS w v l) (hl : l.length ≤ 140737488355328) :
    Calls Try.prog 33 #[v] w fun E w' => E = .returned (.int .i64 (Sm.lst l)) ∧ w' = w := by
  by_cases hz : l.length = 0
  · have : l = [] := List.eq_nil_of_length_eq_zero hz
    subst this
    obtain ⟨ao, cap, rfl, _, _⟩ := h.shape
    simp only [List.length_nil]
    clear h hl hz
    go_enter Try.func33, Try.ntmps33
    go_wp2
    go_ret
    exact ⟨rfl, rfl⟩
  · obtain ⟨b, off, cap, rfl, _, _, hB, hc⟩ := rowS_full h (by omega)
    obtain ⟨s, hs⟩ := at_of (l := l) (k := l.length - 1) (by omega)
    obtain ⟨c0, c1⟩ := hc _ _ hs
    rw [Sm.lst_at hs]
    generalize hn : l.length = n at *
    obtain ⟨k, rfl⟩ : ∃ k, n = k + 1 := ⟨n - 1, by omega⟩
    simp only [Nat.add_sub_cancel] at c0 c1
    clear h hc hs hn
    have hne : ((((k + 1 : Nat) : Int)) == 0) = false := by simp; omega
    have hsub : (((k + 1 : Nat) : Int)) - 1 = (k : Int) := by omega
    go_enter Try.func33, Try.ntmps33
    go_wp2
    go_ret
    exact ⟨rfl, rfl⟩

/-- They rise, and the first begins at 1. -/
def updS (en : Int) (l : List Sm.S) : Bool := Sm.upb en 0 0 l && decide ((l.map Prod.snd).headD 1 = 1)
theorem updS_iff {en : Int} {l : List Sm.S} : updS en l = true ↔ Sm.Up en 0 0 l ∧ (l.map Prod.snd).headD 1 = 1 := by
  unfold updS
  rw [Bool.and_eq_true, Sm.upb_iff, decide_eq_true_iff]
theorem updS_no {en : Int} {l : List Sm.S} (h : ¬ (Sm.Up en 0 0 l ∧ (l.map Prod.snd).headD 1 = 1)) : updS en l = false := by
  cases hu : updS en l with
  | false => rfl
  | true => exact absurd (updS_iff.1 hu) h

theorem head_at {l : List Sm.S} {s : Sm.S} (h : l[0]? = some s) : (l.map Prod.snd).headD 1 = s.2 := by
  cases l with
  | nil => simp at h
  | cons t r => simp at h; subst h; rfl

set_option maxHeartbeats 1000000 in
theorem rise_any (v : Value) (l : List Sm.S) (en : Int) (w : World) (h : RowS w v l) (hl : l.length ≤ 140737488355328) :
    Calls Try.prog 37 #[v, .int .i64 en] w fun E w' => E = .returned (.bool (updS en l)) ∧ Below w.heap.size w w' := by
  obtain ⟨ans, hans⟩ : ∃ r, updS en l = r := ⟨_, rfl⟩
  rw [hans]
  have HA := hide hans
  clear hans
  obtain ⟨w1, hw1, sz1, bel1, hR⟩ := blk_step w #[.int .i64 0, .int .i64 0] 58
  have h1 := h.below bel1
  by_cases hz : l.length = 0
  · have : l = [] := List.eq_nil_of_length_eq_zero hz
    subst this
    obtain ⟨ao, cap, rfl, _, _⟩ := h.shape
    have hfo := HA.out
    have hfe : updS en [] = true := rfl
    rw [hfe] at hfo
    subst hfo
    clear h h1 hl hz HA hR
    simp only [List.length_nil]
    go_enter Try.func37, Try.ntmps37
    go_wp2
    go_loopw [10] (fun iv wr => iv = .int .i64 0 ∧ wr = w1) (fun _ _ => 0)
    case atStart => exact ⟨rfl, rfl⟩
    case round =>
      obtain ⟨rfl, rfl⟩ := hrel
      go_wp2
      go_ret
      exact ⟨rfl, bel1⟩
  obtain ⟨b, off, cap, hvl, _, _, hB, hc⟩ := rowS_full h (by omega)
  subst hvl
  obtain ⟨s0, hs0⟩ := at_of (l := l) (k := 0) (by omega)
  have HC := hide hc
  have H0 := hide hs0
  generalize hn : l.length = n at *
  have HN := hide hn
  clear h h1 hc hn hs0
  go_enter Try.func37, Try.ntmps37
  go_wp2
  go_loopw [10] (fun iv wr => ∃ (k : Nat) (e f : Int), k ≤ n ∧ iv = .int .i64 k ∧ Hid (Sm.Up en 0 0 l ↔ Sm.Up en e f (l.drop k)) ∧ Below w.heap.size w wr ∧ wr.heap[w.heap.size]? = some (.cells #[.int .i64 e, .int .i64 f] 58 (0, 0))) (fun iv _ => n - (intOf iv).toNat)
  case atStart => exact ⟨0, 0, 0, by omega, rfl, hide (by simp), bel1, hR⟩
  case round =>
    obtain ⟨k, e, f, hk, rfl, HT, bel, hG⟩ := hrel
    have sz := bel.size
    have szG := blk_lt hG
    by_cases hlt : k < n
    · obtain ⟨s, hs⟩ := at_of (l := l) (k := k) (by have := HN.out; omega)
      obtain ⟨e0, e1⟩ := HC.out k s hs
      have d0 := (bel.cell (p := ⟨b, off + k * 2, none⟩) hB).trans e0
      have d1 := (bel.cell (p := ⟨b, off + k * 2 + 1, none⟩) hB).trans e1
      have HU := hide (HT.out.trans (Sm.up_drop (en := en) (e := e) (f := f) hs))
      have hlt' : (k : Int) < n := by omega
      obtain ⟨V, hV, hV2, szV, belV, bC, q0, q1⟩ := new_two wr 58 (.int .i64 0) (.int .i64 0) (.int .i64 s.1) (.int .i64 s.2)
      have hGV := (belV.block w.heap.size (by omega)).trans hG
      have g0 := blk_cell hGV 0 rfl
      have g1 := blk_cell hGV 1 rfl
      have belA : Below w.heap.size w V := bel.trans (belV.mono (by omega))
      clear e0 e1 hs hG HT bC belV bel hw1
      by_cases hg : e < s.1 ∧ s.1 ≤ 1048576 ∧ f < s.2 ∧ s.2 ≤ en
      · have p1 : ¬ s.1 ≤ e := by omega
        have p2 : ¬ (1048576 : Int) < s.1 := by omega
        have p3 : ¬ s.2 ≤ f := by omega
        have p4 : ¬ en < s.2 := by omega
        obtain ⟨V', hV', bV', gV', ⟨a0, a1⟩, ⟨f0, f1⟩, ⟨z0, z1⟩⟩ := res_two hGV (.int .i64 s.1) (.int .i64 s.2)
        have belV' := below_put belA gV' (by omega) (by omega)
        have HT2 : Hid (Sm.Up en 0 0 l ↔ Sm.Up en s.1 s.2 (l.drop (k + 1))) := hide (by
          rw [HU.out]
          constructor
          · rintro ⟨_, _, _, _, h⟩; exact h
          · intro h; exact ⟨hg.1, hg.2.1, hg.2.2.1, hg.2.2.2, h⟩)
        clear hg HU gV' belA hGV
        go_wp2
        go_roundw
        case rel => exact ⟨k + 1, s.1, s.2, by omega, by go_num, HT2, belV', bV'⟩
        case measure => simp [intOf]; omega
      · have hfo := HA.out
        have hno : ¬ Sm.Up en 0 0 l := fun h => hg ⟨(HU.out.1 h).1, (HU.out.1 h).2.1, (HU.out.1 h).2.2.1, (HU.out.1 h).2.2.2.1⟩
        rw [updS_no (fun h => hno h.1)] at hfo
        subst hfo
        have hq : s.1 ≤ e ∨ (¬ s.1 ≤ e ∧ (1048576 : Int) < s.1) ∨ (¬ s.1 ≤ e ∧ ¬ (1048576 : Int) < s.1 ∧ s.2 ≤ f) ∨ (¬ s.1 ≤ e ∧ ¬ (1048576 : Int) < s.1 ∧ ¬ s.2 ≤ f ∧ en < s.2) := by omega
        clear hg HU hGV hno HA
        rcases hq with p | ⟨p1, p⟩ | ⟨p1, p2, p⟩ | ⟨p1, p2, p3, p⟩ <;> (go_wp2; go_ret; exact ⟨rfl, belA⟩)
    · have hlt' : ¬ (k : Int) < n := by omega
      have hkn : k = n := by omega
      have hup : Sm.Up en 0 0 l := HT.out.2 (by rw [List.drop_of_length_le (by have := HN.out; omega)]; trivial)
      have hfo := HA.out
      obtain ⟨c0, c1⟩ := HC.out 0 s0 H0.out
      have d1 := (bel.cell (p := ⟨b, off + 0 * 2 + 1, none⟩) hB).trans c1
      simp only [Nat.zero_mul, Nat.add_zero] at d1
      have hne : ((n : Int) == 0) = false := by simp; omega
      by_cases hq : s0.2 = 1
      · rw [updS_iff.2 ⟨hup, (head_at H0.out).trans hq⟩] at hfo
        subst hfo
        rw [hq] at d1
        clear HA hup c0 c1 hG HT
        go_wp2
        go_ret
        exact ⟨rfl, bel⟩
      · rw [updS_no (fun h => hq ((head_at H0.out).symm.trans h.2))] at hfo
        subst hfo
        have hq' : (s0.2 == 1) = false := by simpa using hq
        clear HA hup c0 c1 hG HT hq
        go_wp2
        go_ret
        exact ⟨rfl, bel⟩

theorem both_zero {n : Nat} {en : Int} (h : n = 0 ↔ en = 0) : ∃ b : Bool, ((n : Int) == 0) = b ∧ (en == 0) = b := by
  by_cases hn : n = 0
  · exact ⟨true, by simp [hn], by simp [h.1 hn]⟩
  · exact ⟨false, by simp; omega, by simp; exact fun e => hn (h.2 e)⟩

theorem one_zero {n : Nat} {en : Int} (h : ¬ (n = 0 ↔ en = 0)) : (((n : Int) == 0) = true ∧ (en == 0) = false) ∨ (((n : Int) == 0) = false ∧ (en == 0) = true) := by
  by_cases hn : n = 0
  · exact .inl ⟨by simp [hn], by simp; exact fun e => h ⟨fun _ => e, fun _ => hn⟩⟩
  · refine .inr ⟨by simp; omega, ?_⟩
    simp
    rcases Classical.em (en = 0) with g | g
    · exact g
    · exact absurd ⟨fun k => absurd k hn, fun k => absurd k g⟩ h

set_option maxHeartbeats 400000 in
theorem scheck_any (v : Value) (l : List Sm.S) (en : Int) (w : World) (h : RowS w v l) (hl : l.length ≤ 140737488355328) :
    Calls Try.prog 11 #[v, .int .i64 en] w fun E w' => E = .returned (.int .i64 (Sm.chk l en)) ∧ Below w.heap.size w w' := by
  have X := hide (rise_any v l en w h hl)
  obtain ⟨ao, cap, rfl, _, _⟩ := h.shape
  obtain ⟨ans, hans⟩ : ∃ r, Sm.chk l en = r := ⟨_, rfl⟩
  rw [hans]
  have HA := hide hans
  have HL := hide hl
  generalize hn : l.length = n at *
  have HN := hide hn
  clear h hans hl hn
  have no : ∀ {p : Prop}, (Sm.Ok l en → False) → ans = 5 := fun h => by rw [← HA.out]; exact Sm.chk_no h
  have NO : Hid ((Sm.Ok l en → False) → ans = 5) := hide fun h => no (p := True) h
  clear no
  by_cases h1 : en < 0
  · obtain rfl := NO.out fun h => by have := h.1; omega
    clear HA NO X
    go_enter Try.func11, Try.ntmps11
    go_wp2
    go_ret
    exact ⟨rfl, Below.refl _ _⟩
  by_cases h2 : (1048576 : Int) < en
  · obtain rfl := NO.out fun h => by have := h.2.1; omega
    clear HA NO X
    go_enter Try.func11, Try.ntmps11
    go_wp2
    go_ret
    exact ⟨rfl, Below.refl _ _⟩
  by_cases h3 : n = 0 ↔ en = 0
  · obtain ⟨bb, n0, e0⟩ := both_zero h3
    have HI := hide h3
    by_cases h4 : Sm.Up en 0 0 l ∧ (l.map Prod.snd).headD 1 = 1
    · have hfo := HA.out
      rw [Sm.chk_ok ⟨by omega, by omega, by rw [HN.out]; exact h3, h4.1, h4.2⟩] at hfo
      subst hfo
      rw [updS_iff.2 h4] at X
      clear HA NO h4 h3 HI
      go_enter Try.func11, Try.ntmps11
      go_wp2_with fail
      refine X.out.mono ?_
      rintro E w2 ⟨rfl, bel2⟩
      go_wp2
      go_ret
      exact ⟨rfl, bel2⟩
    · obtain rfl := NO.out fun h => h4 ⟨h.2.2.2.1, h.2.2.2.2⟩
      rw [updS_no h4] at X
      clear HA NO h4 h3 HI
      go_enter Try.func11, Try.ntmps11
      go_wp2_with fail
      refine X.out.mono ?_
      rintro E w2 ⟨rfl, bel2⟩
      go_wp2
      go_ret
      exact ⟨rfl, bel2⟩
  · obtain rfl := NO.out fun h => h3 (by rw [← HN.out]; exact h.2.2.1)
    have hq := one_zero h3
    clear HA NO X h3
    go_enter Try.func11, Try.ntmps11
    rcases hq with ⟨n0, e0⟩ | ⟨n0, e0⟩ <;> (go_wp2; go_ret; exact ⟨rfl, Below.refl _ _⟩)

end Go.Proofs.Ytklpbcdkgjoheaa
