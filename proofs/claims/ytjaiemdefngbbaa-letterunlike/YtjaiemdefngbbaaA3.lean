/- Texts of one layer, one behind the other. -/
import Derived.Test.YtjaiemdefngbbaaA1
import Derived.Test.YtjaiemdefngbbaaA2
import Derived.Deep.RegionHeld3
import Derived.Maps.AppendAt
import Derived.Lib.SliceRun
/- Rows of starts in memory; the contracts of starts' lastEpoch, rise and Check, and of the document's Check and epoch. -/
namespace Go.Proofs.Ytjaiemdefngbbaa
open Go.RowKit
set_option linter.unusedVariables false

/-- A start's cells. -/
def stc (s : Sm.S) : List Value := [.int .i64 s.1, .int .i64 s.2]
theorem stc_len (s : Sm.S) : (stc s).length = 2 := rfl

abbrev RowS (w : World) (v : Value) (l : List Sm.S) : Prop := RowG stc w v l
abbrev OwnS (base : Nat) (w : World) (v : Value) (l : List Sm.S) : Prop := OwnG stc 2 60 base w v l

theorem stc_one : ∀ (l : List Sm.S), ∀ u ∈ gcells stc l, u.oneCell' = true
  | [], u, h => by simp [gcells] at h
  | s :: r, u, h => by
    rcases List.mem_append.1 h with h | h
    · simp only [stc, List.mem_cons, List.not_mem_nil, or_false] at h
      rcases h with rfl | rfl <;> rfl
    · exact stc_one r u h

theorem rowS_full {w : World} {v : Value} {l : List Sm.S} (h : RowS w v l) (hne : 0 < l.length) :
    ∃ b off cap, v = .slice (some ⟨b, off, none⟩) l.length cap ∧ l.length ≤ cap ∧ cap ≤ maxLen ∧ b < w.heap.size ∧ ∀ (i : Nat) (s : Sm.S), l[i]? = some s → w.cell? ⟨b, off + i * 2, none⟩ = some (.int .i64 s.1) ∧ w.cell? ⟨b, off + i * 2 + 1, none⟩ = some (.int .i64 s.2) := by
  obtain ⟨b, off, cap, h1, h2, h3, h4, h5⟩ := h.full stc_len (by decide) hne
  exact ⟨b, off, cap, h1, h2, h3, h4, fun i s hs => ⟨h5 i s hs 0 _ rfl, h5 i s hs 1 _ rfl⟩⟩

theorem rowS_drewN {w : World} {v : Value} {l : List Sm.S} (h : RowS w v l) (n : Nat) : RowS (w.drewN n) v l := h.agree fun _ _ => rfl

/-- An element of a row. -/
theorem at_of {α : Type} {l : List α} {k : Nat} (h : k < l.length) : ∃ s, l[k]? = some s := ⟨l[k], List.getElem?_eq_getElem h⟩

/-- They rise, and the first begins at 1. -/
def updS (en : Int) (l : List Sm.S) : Bool := Sm.upb en 0 0 l && decide ((l.map Prod.snd).headD 1 = 1)
theorem updS_iff {en : Int} {l : List Sm.S} : updS en l = true ↔ Sm.Up en 0 0 l ∧ (l.map Prod.snd).headD 1 = 1 := by
  unfold updS
  rw [Bool.and_eq_true, Sm.upb_iff, decide_eq_true_iff]
theorem updS_no {en : Int} {l : List Sm.S} (h : ¬ (Sm.Up en 0 0 l ∧ (l.map Prod.snd).headD 1 = 1)) : updS en l = false := by
  cases hu : updS en l with
  | false => rfl
  | true => exact absurd (updS_iff.1 hu) h

theorem head_at {l : List Sm.S} {s : Sm.S} (h : l[0]? = some s) : (l.map Prod.snd).headD 1 = s.2 := by
  cases l with
  | nil => simp at h
  | cons t r => simp at h; subst h; rfl

set_option maxHeartbeats 1000000 in
theorem rise_any (v : Value) (l : List Sm.S) (en : Int) (w : World) (h : RowS w v l) (hl : l.length ≤ 140737488355328) :
    Calls Try.prog 103 #[v, .int .i64 en] w fun E w' => E = .returned (.bool (updS en l)) ∧ Below w.heap.size w w' := by
  obtain ⟨ans, hans⟩ : ∃ r, updS en l = r := ⟨_, rfl⟩
  rw [hans]
  have HA := hide hans
  clear hans
  obtain ⟨w1, hw1, sz1, bel1, hR⟩ := blk_step w #[.int .i64 0, .int .i64 0] 60
  have h1 := h.below bel1
  by_cases hz : l.length = 0
  · have : l = [] := List.eq_nil_of_length_eq_zero hz
    subst this
    obtain ⟨ao, cap, rfl, _, _⟩ := h.shape
    have hfo := HA.out
    have hfe : updS en [] = true := rfl
    rw [hfe] at hfo
    subst hfo
    clear h h1 hl hz HA hR
    simp only [List.length_nil]
    go_enter Try.func103, Try.ntmps103
    go_wp2
    go_loopw [10] (fun iv wr => iv = .int .i64 0 ∧ wr = w1) (fun _ _ => 0)
    case atStart => exact ⟨rfl, rfl⟩
    case round =>
      obtain ⟨rfl, rfl⟩ := hrel
      go_wp2
      go_ret
      exact ⟨rfl, bel1⟩
  obtain ⟨b, off, cap, hvl, _, _, hB, hc⟩ := rowS_full h (by omega)
  subst hvl
  obtain ⟨s0, hs0⟩ := at_of (l := l) (k := 0) (by omega)
  have HC := hide hc
  have H0 := hide hs0
  generalize hn : l.length = n at *
  have HN := hide hn
  clear h h1 hc hn hs0
  go_enter Try.func103, Try.ntmps103
  go_wp2
  go_loopw [10] (fun iv wr => ∃ (k : Nat) (e f : Int), k ≤ n ∧ iv = .int .i64 k ∧ Hid (Sm.Up en 0 0 l ↔ Sm.Up en e f (l.drop k)) ∧ Below w.heap.size w wr ∧ wr.heap[w.heap.size]? = some (.cells #[.int .i64 e, .int .i64 f] 60 (0, 0))) (fun iv _ => n - (intOf iv).toNat)
  case atStart => exact ⟨0, 0, 0, by omega, rfl, hide (by simp), bel1, hR⟩
  case round =>
    obtain ⟨k, e, f, hk, rfl, HT, bel, hG⟩ := hrel
    have sz := bel.size
    have szG := blk_lt hG
    by_cases hlt : k < n
    · obtain ⟨s, hs⟩ := at_of (l := l) (k := k) (by have := HN.out; omega)
      obtain ⟨e0, e1⟩ := HC.out k s hs
      have d0 := (bel.cell (p := ⟨b, off + k * 2, none⟩) hB).trans e0
      have d1 := (bel.cell (p := ⟨b, off + k * 2 + 1, none⟩) hB).trans e1
      have HU := hide (HT.out.trans (Sm.up_drop (en := en) (e := e) (f := f) hs))
      have hlt' : (k : Int) < n := by omega
      obtain ⟨V, hV, hV2, szV, belV, bC, q0, q1⟩ := new_two wr 60 (.int .i64 0) (.int .i64 0) (.int .i64 s.1) (.int .i64 s.2)
      have hGV := (belV.block w.heap.size (by omega)).trans hG
      have g0 := blk_cell hGV 0 rfl
      have g1 := blk_cell hGV 1 rfl
      have belA : Below w.heap.size w V := bel.trans (belV.mono (by omega))
      clear e0 e1 hs hG HT bC belV bel hw1
      by_cases hg : e < s.1 ∧ s.1 ≤ 1048576 ∧ f < s.2 ∧ s.2 ≤ en
      · have p1 : ¬ s.1 ≤ e := by omega
        have p2 : ¬ (1048576 : Int) < s.1 := by omega
        have p3 : ¬ s.2 ≤ f := by omega
        have p4 : ¬ en < s.2 := by omega
        obtain ⟨V', hV', bV', gV', ⟨a0, a1⟩, ⟨f0, f1⟩, ⟨z0, z1⟩⟩ := res_two hGV (.int .i64 s.1) (.int .i64 s.2)
        have belV' := below_put belA gV' (by omega) (by omega)
        have HT2 : Hid (Sm.Up en 0 0 l ↔ Sm.Up en s.1 s.2 (l.drop (k + 1))) := hide (by
          rw [HU.out]
          constructor
          · rintro ⟨_, _, _, _, h⟩; exact h
          · intro h; exact ⟨hg.1, hg.2.1, hg.2.2.1, hg.2.2.2, h⟩)
        clear hg HU gV' belA hGV
        go_wp2
        go_roundw
        case rel => exact ⟨k + 1, s.1, s.2, by omega, by go_num, HT2, belV', bV'⟩
        case measure => simp [intOf]; omega
      · have hfo := HA.out
        have hno : ¬ Sm.Up en 0 0 l := fun h => hg ⟨(HU.out.1 h).1, (HU.out.1 h).2.1, (HU.out.1 h).2.2.1, (HU.out.1 h).2.2.2.1⟩
        rw [updS_no (fun h => hno h.1)] at hfo
        subst hfo
        have hq : s.1 ≤ e ∨ (¬ s.1 ≤ e ∧ (1048576 : Int) < s.1) ∨ (¬ s.1 ≤ e ∧ ¬ (1048576 : Int) < s.1 ∧ s.2 ≤ f) ∨ (¬ s.1 ≤ e ∧ ¬ (1048576 : Int) < s.1 ∧ ¬ s.2 ≤ f ∧ en < s.2) := by omega
        clear hg HU hGV hno HA
        rcases hq with p | ⟨p1, p⟩ | ⟨p1, p2, p⟩ | ⟨p1, p2, p3, p⟩ <;> (go_wp2; go_ret; exact ⟨rfl, belA⟩)
    · have hlt' : ¬ (k : Int) < n := by omega
      have hkn : k = n := by omega
      have hup : Sm.Up en 0 0 l := HT.out.2 (by rw [List.drop_of_length_le (by have := HN.out; omega)]; trivial)
      have hfo := HA.out
      obtain ⟨c0, c1⟩ := HC.out 0 s0 H0.out
      have d1 := (bel.cell (p := ⟨b, off + 0 * 2 + 1, none⟩) hB).trans c1
      simp only [Nat.zero_mul, Nat.add_zero] at d1
      have hne : ((n : Int) == 0) = false := by simp; omega
      by_cases hq : s0.2 = 1
      · rw [updS_iff.2 ⟨hup, (head_at H0.out).trans hq⟩] at hfo
        subst hfo
        rw [hq] at d1
        clear HA hup c0 c1 hG HT
        go_wp2
        go_ret
        exact ⟨rfl, bel⟩
      · rw [updS_no (fun h => hq ((head_at H0.out).symm.trans h.2))] at hfo
        subst hfo
        have hq' : (s0.2 == 1) = false := by simpa using hq
        clear HA hup c0 c1 hG HT hq
        go_wp2
        go_ret
        exact ⟨rfl, bel⟩

theorem both_zero {n : Nat} {en : Int} (h : n = 0 ↔ en = 0) : ∃ b : Bool, ((n : Int) == 0) = b ∧ (en == 0) = b := by
  by_cases hn : n = 0
  · exact ⟨true, by simp [hn], by simp [h.1 hn]⟩
  · exact ⟨false, by simp; omega, by simp; exact fun e => hn (h.2 e)⟩

theorem one_zero {n : Nat} {en : Int} (h : ¬ (n = 0 ↔ en = 0)) : (((n : Int) == 0) = true ∧ (en == 0) = false) ∨ (((n : Int) == 0) = false ∧ (en == 0) = true) := by
  by_cases hn : n = 0
  · exact .inl ⟨by simp [hn], by simp; exact fun e => h ⟨fun _ => e, fun _ => hn⟩⟩
  · refine .inr ⟨by simp; omega, ?_⟩
    simp
    rcases Classical.em (en = 0) with g | g
    · exact g
    · exact absurd ⟨fun k => absurd k hn, fun k => absurd k g⟩ h

set_option maxHeartbeats 400000 in
theorem scheck_any (v : Value) (l : List Sm.S) (en : Int) (w : World) (h : RowS w v l) (hl : l.length ≤ 140737488355328) :
    Calls Try.prog 86 #[v, .int .i64 en] w fun E w' => E = .returned (.int .i64 (Sm.chk l en)) ∧ Below w.heap.size w w' := by
  have X := hide (rise_any v l en w h hl)
  obtain ⟨ao, cap, rfl, _, _⟩ := h.shape
  obtain ⟨ans, hans⟩ : ∃ r, Sm.chk l en = r := ⟨_, rfl⟩
  rw [hans]
  have HA := hide hans
  have HL := hide hl
  generalize hn : l.length = n at *
  have HN := hide hn
  clear h hans hl hn
  have no : ∀ {p : Prop}, (Sm.Ok l en → False) → ans = 5 := fun h => by rw [← HA.out]; exact Sm.chk_no h
  have NO : Hid ((Sm.Ok l en → False) → ans = 5) := hide fun h => no (p := True) h
  clear no
  by_cases h1 : en < 0
  · obtain rfl := NO.out fun h => by have := h.1; omega
    clear HA NO X
    go_enter Try.func86, Try.ntmps86
    go_wp2
    go_ret
    exact ⟨rfl, Below.refl _ _⟩
  by_cases h2 : (1048576 : Int) < en
  · obtain rfl := NO.out fun h => by have := h.2.1; omega
    clear HA NO X
    go_enter Try.func86, Try.ntmps86
    go_wp2
    go_ret
    exact ⟨rfl, Below.refl _ _⟩
  by_cases h3 : n = 0 ↔ en = 0
  · obtain ⟨bb, n0, e0⟩ := both_zero h3
    have HI := hide h3
    by_cases h4 : Sm.Up en 0 0 l ∧ (l.map Prod.snd).headD 1 = 1
    · have hfo := HA.out
      rw [Sm.chk_ok ⟨by omega, by omega, by rw [HN.out]; exact h3, h4.1, h4.2⟩] at hfo
      subst hfo
      rw [updS_iff.2 h4] at X
      clear HA NO h4 h3 HI
      go_enter Try.func86, Try.ntmps86
      go_wp2_with fail
      refine X.out.mono ?_
      rintro E w2 ⟨rfl, bel2⟩
      go_wp2
      go_ret
      exact ⟨rfl, bel2⟩
    · obtain rfl := NO.out fun h => h4 ⟨h.2.2.2.1, h.2.2.2.2⟩
      rw [updS_no h4] at X
      clear HA NO h4 h3 HI
      go_enter Try.func86, Try.ntmps86
      go_wp2_with fail
      refine X.out.mono ?_
      rintro E w2 ⟨rfl, bel2⟩
      go_wp2
      go_ret
      exact ⟨rfl, bel2⟩
  · obtain rfl := NO.out fun h => h3 (by rw [← HN.out]; exact h.2.2.1)
    have hq := one_zero h3
    clear HA NO X h3
    go_enter Try.func86, Try.ntmps86
    rcases hq with ⟨n0, e0⟩ | ⟨n0, e0⟩ <;> (go_wp2; go_ret; exact ⟨rfl, Below.refl _ _⟩)

end Go.Proofs.Ytjaiemdefngbbaa

/- The contracts of the laws' copies of ops: CopyOps, LentOps, KeptOps. -/
namespace Go.Proofs.Ytjaiemdefngbbaa
open Go.RowKit
set_option linter.unusedVariables false

/-- What stands behind ops that are lent. -/
def behind : Bm.Ov := ⟨true, ⟨#[98, 101, 104, 105, 110, 100]⟩, ⟨#[]⟩⟩

set_option maxHeartbeats 400000 in
theorem copyO_any (vl : Value) (l : List Bm.Ov) (w : World) (h : IsO w vl l) (hl : l.length * 40 ≤ 140737488355328) :
    Calls Try.prog 80 #[vl] w fun e w' => ∃ v, e = .returned v ∧ OwnO 33 w.heap.size w' v l ∧ Below w.heap.size w w' := by
  obtain ⟨w1, hw1, sz1, bel1, own1⟩ := ops_step 33 w #[] 0 [] rfl rfl (by simp [maxLen])
  have h1 := h.below bel1
  go_enter Try.func80, Try.ntmps80
  go_wp2_with (at_builtin; refine wpList_append_ops rfl (.tmp 3) (.tmp 4) 34 rfl 33 w.heap.size Try.underlying34 Try.info33 _ [] rfl own1 _ l rfl h1 (by simp; omega) (by omega) ?_)
  intro v2 w2 own2 bel2 _
  go_wp2
  go_ret
  exact ⟨_, rfl, by simpa using own2, bel1.trans bel2⟩

set_option maxHeartbeats 400000 in
theorem lentO_any (vl : Value) (l : List Bm.Ov) (w : World) (h : IsO w vl l) (hl : l.length * 40 ≤ 140737488351232) :
    Calls Try.prog 90 #[vl] w fun e w' => ∃ v, e = .returned v ∧ OwnO 33 w.heap.size w' v (l ++ [behind, behind, behind]) ∧ Below w.heap.size w w' := by
  have hc : l.length * 40 ≤ 140737488355328 := by omega
  have HK : Hid (∀ k : Nat, k < 3 → ((l ++ List.replicate k behind).length + [behind].length) * 40 ≤ 140737488355328) := hide (fun k hk => by
    rw [List.length_append, List.length_replicate, List.length_singleton]
    omega)
  have HC := hide hc
  clear hl hc
  go_enter Try.func90, Try.ntmps90
  go_wp2_with fail
  refine (copyO_any vl l _ h HC.out).mono ?_
  rintro E w0 ⟨v0, rfl, own0, bel0⟩
  have own0' : OwnO 33 w.heap.size w0 v0 (l ++ List.replicate 0 behind) := by simpa using own0
  clear own0
  go_wp2
  go_loopw [3, 4] (fun ov iv wr => ∃ k : Nat, k ≤ 3 ∧ iv = .int .i64 k ∧ OwnO 33 w.heap.size wr ov (l ++ List.replicate k behind) ∧ Below w.heap.size w wr) (fun _ iv _ => 3 - (intOf iv).toNat)
  case atStart => exact ⟨0, by omega, rfl, own0', bel0⟩
  case round =>
    obtain ⟨k, hk, rfl, own, bel⟩ := hrel
    have sz := bel.size
    by_cases hlt : k < 3
    · have hlt' : (k : Int) < 3 := by omega
      obtain ⟨w1, hw1, sz1, bel1, own1⟩ := ops_step 33 wr #[.bool true, .string ⟨#[98, 101, 104, 105, 110, 100]⟩, .string ⟨#[]⟩] 1 [behind] rfl rfl (by simp [maxLen])
      have own' := own.below bel1
      go_wp2_with (at_builtin; refine wpList_append_ops rfl (.tmp 11) (.tmp 13) 34 rfl 33 w.heap.size Try.underlying34 Try.info33 _ _ rfl own' _ [behind] rfl own1.is (HK.out k hlt) (by omega) ?_)
      intro v2 w2 own2 bel2 _
      have e2 : l ++ (List.replicate k behind ++ [behind]) = l ++ List.replicate (k + 1) behind := by rw [List.replicate_succ']
      rw [e2] at own2
      have bel3 := (bel.trans (bel1.mono sz)).trans bel2
      clear own own' own1 bel1 bel2 e2
      go_wp2
      go_roundw
      case rel => exact ⟨k + 1, by omega, by go_num, own2, bel3⟩
      case measure => simp [intOf]; omega
    · have hke : k = 3 := by omega
      subst hke
      go_wp2
      go_ret
      exact ⟨_, rfl, own, bel⟩

set_option maxHeartbeats 400000 in
theorem keptO_yes (vf vl : Value) (l fs : List Bm.Ov) (w : World) (hf : IsO w vf fs) (hl : IsO w vl l) (hll : l.length * 40 ≤ 140737488351232) (he : fs = l ++ [behind, behind, behind]) :
    Calls Try.prog 95 #[vf, vl] w fun e w' => e = .returned (.bool true) ∧ Below w.heap.size w w' := by
  have hfl : fs.length ≤ 140737488355328 := by rw [he]; simp; omega
  have HE := hide he
  have HL := hide hll
  clear he hll
  go_enter Try.func95, Try.ntmps95
  go_wp2_with fail
  refine (lentO_any vl l _ hl HL.out).mono ?_
  rintro E w1 ⟨v1, rfl, own1, bel1⟩
  rw [← HE.out] at own1
  go_wp2_with fail
  refine (sameO_any _ _ fs fs _ (hf.below bel1) own1.is (by omega) (by omega)).mono ?_
  rintro E w2 ⟨rfl, bel2⟩
  rw [Bm.sameL_self]
  go_wp2
  go_ret
  exact ⟨rfl, bel1.trans (bel2.mono bel1.size)⟩

end Go.Proofs.Ytjaiemdefngbbaa

/- The contracts of the laws' copies of one commit: CopyCommit, LentCommit, KeptCommit. -/
namespace Go.Proofs.Ytjaiemdefngbbaa
open Go.RowKit
set_option linter.unusedVariables false

/-- A slice of ops that was lent: those behind it stand in its room. -/
def LentV (base : Nat) (w : World) (v : Value) (l : List Bm.Ov) : Prop :=
  ∃ g cap, v = .slice (some ⟨g, 0, none⟩) l.length cap ∧ l.length + 3 ≤ cap ∧ cap ≤ maxLen ∧ OwnO 33 base w (.slice (some ⟨g, 0, none⟩) (l.length + 3) cap) (l ++ [behind, behind, behind])

theorem LentV.is {base : Nat} {w : World} {v : Value} {l : List Bm.Ov} (h : LentV base w v l) : IsO w v l := by
  obtain ⟨g, cap, rfl, hc, hm, ho⟩ := h
  have := ho.is.front l.length (by simp)
  rwa [List.take_left] at this

theorem LentV.below {base : Nat} {w w' : World} {v : Value} {l : List Bm.Ov} (h : LentV base w v l) (hb : Below w.heap.size w w') : LentV base w' v l := by
  obtain ⟨g, cap, rfl, hc, hm, ho⟩ := h
  exact ⟨g, cap, rfl, hc, hm, ho.below hb⟩

theorem LentV.keepT {e' base : Nat} {w w' : World} {v : Value} {l : List Bm.Ov} (h : LentV base w v l) (k : KeepT e' w w') (hne : 33 ≠ e') : LentV base w' v l := by
  obtain ⟨g, cap, rfl, hc, hm, ho⟩ := h
  exact ⟨g, cap, rfl, hc, hm, ho.keepT k hne⟩

theorem LentV.rebase {base base' : Nat} {w : World} {v : Value} {l : List Bm.Ov} (h : LentV base w v l) (hb : base' ≤ base) : LentV base' w v l := by
  obtain ⟨g, cap, rfl, hc, hm, ho⟩ := h
  exact ⟨g, cap, rfl, hc, hm, ho.rebase hb⟩

theorem lent_of {base : Nat} {w : World} {v : Value} {l : List Bm.Ov} (h : OwnO 33 base w v (l ++ [behind, behind, behind])) :
    ∃ g cap, v = .slice (some ⟨g, 0, none⟩) (l.length + 3) cap ∧ l.length + 3 ≤ cap ∧ cap ≤ maxLen ∧ OwnO 33 base w (.slice (some ⟨g, 0, none⟩) (l.length + 3) cap) (l ++ [behind, behind, behind]) := by
  have h' := h
  rcases h.2 with ⟨_, hn⟩ | ⟨g, cap, cur, hv, h1, hh, hc, hm, hs, ht⟩
  · simp at hn
  · rw [List.length_append, show [behind, behind, behind].length = 3 from rfl] at hv hc
    exact ⟨g, cap, hv, hc, hm, hv ▸ h'⟩

theorem run_front (g n m cap p : Nat) (hp : p ≤ cap) (wx : World) : (Instr.slice 34 (.slice (some ⟨g, 0, none⟩) n cap) none (some (.int .i64 p)) none).run Try.prog wx = .ok (.slice (some ⟨g, 0, none⟩) p cap) wx := by
  rw [run_slice_h wx 34 (some ⟨g, 0, none⟩) n cap Try.elemO .i64 _ (by omega) (by omega), Try.sizeO]
  simp only [Result.andThen, sliced]
  simp [Addr.add]

set_option maxHeartbeats 1000000 in
theorem copyC_any (e n : Int) (v : Value) (l : List Bm.Ov) (w : World) (h : IsO w v l) (hl : l.length * 40 ≤ 140737488351232) :
    Calls Try.prog 79 #[cmv e n v] w fun E w' => ∃ v', E = .returned (cmv e n v') ∧ OwnO 33 w.heap.size w' v' l ∧ Below w.heap.size w w' := by
  unfold cmv
  obtain ⟨w1, hw1, sz1, bel1, hB⟩ := blk_step w #[.int .i64 e, .int .i64 n, v] 36
  obtain ⟨w2, hw2, sz2, bel2, hR⟩ := blk_step w1 #[.int .i64 0, .int .i64 0, .slice none 0 0] 36
  rw [sz1] at hR
  have hB2 := (bel2.block w.heap.size (by omega)).trans hB
  have bel02 : Below w.heap.size w w2 := bel1.trans (bel2.mono (by omega))
  have h2 := h.below bel02
  obtain ⟨ao, cap, rfl, _, _⟩ := h.shape
  have c0 := blk_cell hB2 0 rfl
  have c1 := blk_cell hB2 1 rfl
  have c2 := blk_cell hB2 2 rfl
  have HB := hide hB2
  have HR := hide hR
  clear hB hB2 hR bel1 bel2
  go_enter Try.func79, Try.ntmps79
  go_wp2_with fail
  go_region_held3 (fun w' => w'.cell? ⟨w.heap.size, 0, none⟩ = some (.int .i64 e) ∧ w'.cell? ⟨w.heap.size, 1, none⟩ = some (.int .i64 n) ∧ w'.cell? ⟨w.heap.size, 2, none⟩ = some (.slice ao l.length cap)) (first | exact ⟨c0, c1, c2⟩ | exact ⟨a0, a1, a2⟩ | exact ⟨b0, b1, b2⟩ | go_keep)
    (first
    | (go_at_call 80; refine (copyO_any _ l _ (h2.drewN 1) (by omega)).mono ?_; rintro E w3 ⟨v3, rfl, own3, bel3'⟩; have bel3 : Below w2.heap.size w2 w3 := ((Below.refl _ _).drew).trans bel3'; have sz3 := bel3.size; have hB3 := (bel3.block w.heap.size (by omega)).trans HB.out; have hR3 := (bel3.block (w.heap.size + 1) (by omega)).trans HR.out; have a0 := blk_cell hB3 0 rfl; have a1 := blk_cell hB3 1 rfl; have a2 := blk_cell hB3 2 rfl; obtain ⟨ah, ch, hv3, _, _⟩ := own3.is.shape; subst hv3; obtain ⟨V', hV', bV', gV', ⟨r0, r1, r2⟩, ⟨f0, f1, f2⟩, ⟨z0, z1, z2⟩⟩ := res_step hR3 (.int .i64 e) (.int .i64 n) (.slice ah l.length ch); have belV' := below_put (bel02.trans (bel3.mono (by omega))) gV' (by omega) (by omega); have szV := gV'.size; have ownV' := (own3.keptg gV' (show w.heap.size + 1 < w2.drew.heap.size by simp; omega)).rebase (base' := w.heap.size) (show w.heap.size ≤ w2.drew.heap.size by simp; omega); have hBV := (gV'.block w.heap.size (by omega) (by simp)).trans hB3; have b0 := blk_cell hBV 0 rfl; have b1 := blk_cell hBV 1 rfl; have b2 := blk_cell hBV 2 rfl; clear bel3' hB3 hR3 own3 bV' gV' hBV))
  go_wp2
  refine bodyPost_ret (v := .agg #[.int .i64 e, .int .i64 n, .slice ah l.length ch]) (by simp [results, Try.results79, go_sem, z0, z1, z2]) rfl ?_
  exact ⟨_, rfl, ownV', belV'⟩

set_option maxHeartbeats 1000000 in
theorem lentC_any (e n : Int) (v : Value) (l : List Bm.Ov) (w : World) (h : IsO w v l) (hl : l.length * 40 ≤ 140737488351232) :
    Calls Try.prog 66 #[cmv e n v] w fun E w' => ∃ v', E = .returned (cmv e n v') ∧ LentV w.heap.size w' v' l ∧ Below w.heap.size w w' := by
  unfold cmv
  obtain ⟨w1, hw1, sz1, bel1, hB⟩ := blk_step w #[.int .i64 e, .int .i64 n, v] 36
  obtain ⟨w2, hw2, sz2, bel2, hR⟩ := blk_step w1 #[.int .i64 0, .int .i64 0, .slice none 0 0] 36
  rw [sz1] at hR
  have hB2 := (bel2.block w.heap.size (by omega)).trans hB
  have bel02 : Below w.heap.size w w2 := bel1.trans (bel2.mono (by omega))
  have h2 := h.below bel02
  obtain ⟨ao, cap, rfl, _, _⟩ := h.shape
  have c0 := blk_cell hB2 0 rfl
  have c1 := blk_cell hB2 1 rfl
  have c2 := blk_cell hB2 2 rfl
  have HB := hide hB2
  have HR := hide hR
  clear hB hB2 hR bel1 bel2
  go_enter Try.func66, Try.ntmps66
  go_wp2_with fail
  go_region_held3 (fun w' => w'.cell? ⟨w.heap.size, 0, none⟩ = some (.int .i64 e) ∧ w'.cell? ⟨w.heap.size, 1, none⟩ = some (.int .i64 n) ∧ w'.cell? ⟨w.heap.size, 2, none⟩ = some (.slice ao l.length cap)) (first | exact ⟨c0, c1, c2⟩ | exact ⟨a0, a1, a2⟩ | exact ⟨b0, b1, b2⟩ | go_keep)
    (first
    | (go_at_call 90; refine (lentO_any _ l _ (h2.drewN 1) hl).mono ?_; rintro E w3 ⟨v3, rfl, own3, bel3'⟩; have bel3 : Below w2.heap.size w2 w3 := ((Below.refl _ _).drew).trans bel3'; have sz3 := bel3.size; have hB3 := (bel3.block w.heap.size (by omega)).trans HB.out; have hR3 := (bel3.block (w.heap.size + 1) (by omega)).trans HR.out; have a0 := blk_cell hB3 0 rfl; have a1 := blk_cell hB3 1 rfl; have a2 := blk_cell hB3 2 rfl; obtain ⟨gh, ch, hv3, hcc, hcm, own3'⟩ := lent_of own3; subst hv3; have hfr := run_front gh (l.length + 3) 0 ch l.length (by omega); obtain ⟨V', hV', bV', gV', ⟨r0, r1, r2⟩, ⟨f0, f1, f2⟩, ⟨z0, z1, z2⟩⟩ := res_step hR3 (.int .i64 e) (.int .i64 n) (.slice (some ⟨gh, 0, none⟩) l.length ch); have belV' := below_put (bel02.trans (bel3.mono (by omega))) gV' (by omega) (by omega); have szV := gV'.size; have ownV' := (own3'.keptg gV' (show w.heap.size + 1 < w2.drew.heap.size by simp; omega)).rebase (base' := w.heap.size) (show w.heap.size ≤ w2.drew.heap.size by simp; omega); have hBV := (gV'.block w.heap.size (by omega) (by simp)).trans hB3; have b0 := blk_cell hBV 0 rfl; have b1 := blk_cell hBV 1 rfl; have b2 := blk_cell hBV 2 rfl; clear bel3' hB3 hR3 own3 own3' bV' gV' hBV))
  go_wp2
  refine bodyPost_ret (v := .agg #[.int .i64 e, .int .i64 n, .slice (some ⟨gh, 0, none⟩) l.length ch]) (by simp [results, Try.results66, go_sem, z0, z1, z2]) rfl ?_
  exact ⟨_, rfl, ⟨gh, ch, rfl, hcc, hcm, ownV'⟩, belV'⟩

set_option maxRecDepth 100000 in
set_option maxHeartbeats 1000000 in
theorem keptC_yes (e n : Int) (v v' : Value) (l : List Bm.Ov) (base : Nat) (w : World) (h : LentV base w v l) (h' : IsO w v' l) (hl : l.length * 40 ≤ 140737488351232) :
    Calls Try.prog 74 #[cmv e n v, cmv e n v'] w fun E w' => E = .returned (.bool true) ∧ Below w.heap.size w w' := by
  unfold cmv
  obtain ⟨w1, hw1, sz1, bel1, hB⟩ := blk_step w #[.int .i64 e, .int .i64 n, v] 36
  obtain ⟨w2, hw2, sz2, bel2, hC⟩ := blk_step w1 #[.int .i64 e, .int .i64 n, v'] 36
  rw [sz1] at hC
  have hB2 := (bel2.block _ (blk_lt hB)).trans hB
  have bel02 : Below w.heap.size w w2 := bel1.trans (bel2.mono (by omega))
  have h2 := h'.below bel02
  obtain ⟨g, cap, rfl, hgc, hgm, ho⟩ := h
  have ho2 := ho.below bel02
  obtain ⟨ao', cap', rfl, _, _⟩ := h'.shape
  have c0 := blk_cell hB2 0 rfl
  have c1 := blk_cell hB2 1 rfl
  have c2 := blk_cell hB2 2 rfl
  have d0 := blk_cell hC 0 rfl
  have d1 := blk_cell hC 1 rfl
  have d2 := blk_cell hC 2 rfl
  have hfr := run_front g l.length 0 cap (l.length + 3) (by omega)
  push_cast at hfr
  have HL := hide hl
  have hl' : (l.length : Int) + 3 < 9223372036854775808 := by omega
  have hcb : (l.length : Int) + 3 ≤ (cap : Int) := by omega
  have hc0 : (0 : Int) ≤ (l.length : Int) + 3 := by omega
  have htn : ((l.length : Int) + 3).toNat = l.length + 3 := by omega
  have hwr : IntKind.i64.wrap ((l.length : Int) + 3) = (l.length : Int) + 3 := wrap_i64_small _ (by omega) (by omega)
  clear hB hC hB2 bel1 bel2 ho hl
  go_enter Try.func74, Try.ntmps74
  go_wp2_with fail
  go_region_held3 (fun w' => (w'.cell? ⟨w.heap.size, 0, none⟩ = some (.int .i64 e) ∧ w'.cell? ⟨w.heap.size, 1, none⟩ = some (.int .i64 n) ∧ w'.cell? ⟨w.heap.size, 2, none⟩ = some (.slice (some ⟨g, 0, none⟩) l.length cap)) ∧ (w'.cell? ⟨w.heap.size + 1, 0, none⟩ = some (.int .i64 e) ∧ w'.cell? ⟨w.heap.size + 1, 1, none⟩ = some (.int .i64 n) ∧ w'.cell? ⟨w.heap.size + 1, 2, none⟩ = some (.slice ao' l.length cap'))) (first | exact ⟨⟨c0, c1, c2⟩, ⟨d0, d1, d2⟩⟩ | exact ⟨⟨a0, a1, a2⟩, ⟨b0, b1, b2⟩⟩ | go_keep)
    (first
    | (go_at_call 95; refine (keptO_yes _ _ l _ _ (ho2.is.drewN 1) (h2.drewN 1) HL.out rfl).mono ?_; rintro E w3 ⟨rfl, bel3'⟩; have bel3 : Below w2.heap.size w2 w3 := ((Below.refl _ _).drew).trans bel3'; have a0 := (bel3.cell (p := ⟨w.heap.size, 0, none⟩) (show w.heap.size < w2.heap.size by omega)).trans c0; have a1 := (bel3.cell (p := ⟨w.heap.size, 1, none⟩) (show w.heap.size < w2.heap.size by omega)).trans c1; have a2 := (bel3.cell (p := ⟨w.heap.size, 2, none⟩) (show w.heap.size < w2.heap.size by omega)).trans c2; have b0 := (bel3.cell (p := ⟨w.heap.size + 1, 0, none⟩) (show w.heap.size + 1 < w2.heap.size by omega)).trans d0; have b1 := (bel3.cell (p := ⟨w.heap.size + 1, 1, none⟩) (show w.heap.size + 1 < w2.heap.size by omega)).trans d1; have b2 := (bel3.cell (p := ⟨w.heap.size + 1, 2, none⟩) (show w.heap.size + 1 < w2.heap.size by omega)).trans d2; clear bel3'))
  go_wp2
  go_ret
  exact ⟨rfl, bel02.trans (bel3.mono (by omega))⟩

end Go.Proofs.Ytjaiemdefngbbaa

/- The contracts of the laws' copies of lists of commits: CopyCommits, LentCommits, KeptCommits. -/
namespace Go.Proofs.Ytjaiemdefngbbaa
open Go.RowKit
set_option linter.unusedVariables false

theorem cw_ext {c d : Cw} (h : c.c = d.c) : c.e = d.e ∧ c.n = d.n ∧ c.l = d.l := by
  unfold Cw.c at h
  simpa using h

theorem cvs_at {r s : List Cw} (h : cvs r = cvs s) {k : Nat} {c : Cw} (hc : r[k]? = some c) : ∃ d, s[k]? = some d ∧ c.e = d.e ∧ c.n = d.n ∧ c.l = d.l := by
  have h1 : (cvs r)[k]? = some c.c := by unfold cvs; rw [List.getElem?_map, hc]; rfl
  rw [h] at h1
  unfold cvs at h1
  rw [List.getElem?_map, Option.map_eq_some_iff] at h1
  obtain ⟨d, hd, he⟩ := h1
  obtain ⟨e1, e2, e3⟩ := cw_ext he
  exact ⟨d, hd, e1.symm, e2.symm, e3.symm⟩

theorem cvs_len {r s : List Cw} (h : cvs r = cvs s) : r.length = s.length := by
  have := congrArg List.length h
  simpa [cvs] using this

theorem cvs_take (r : List Cw) (k : Nat) : cvs (r.take k) = (cvs r).take k := by unfold cvs; rw [List.map_take]

theorem cvs_snoc {rs r : List Cw} {k : Nat} {c d : Cw} (h : cvs rs = cvs (r.take k)) (hd : r[k]? = some d) (he : c.c = d.c) : cvs (rs ++ [c]) = cvs (r.take (k + 1)) := by
  obtain ⟨hk, rfl⟩ := List.getElem?_eq_some_iff.1 hd
  rw [List.take_succ_eq_append_getElem hk]
  unfold cvs at h ⊢
  rw [List.map_append, List.map_append, h]
  simp [he]

/-- The loop of CopyCommits: what was made of the first ones. -/
def CopyR (base : Nat) (w : World) (rs : List Cw) : Prop := ∀ c ∈ rs, OwnO 33 base w c.v c.l
def LentR (base : Nat) (w : World) (rs : List Cw) : Prop := ∀ c ∈ rs, LentV base w c.v c.l

theorem CopyR.inC {base : Nat} {w : World} {rs r : List Cw} (h : CopyR base w rs) (he : cvs rs = cvs r) {w' : World} (hr : InC w' r) : InC w rs := by
  intro c hc
  obtain ⟨k, hk⟩ := List.getElem?_of_mem hc
  obtain ⟨d, hd, e1, e2, _⟩ := cvs_at he hk
  obtain ⟨_, i1, i2⟩ := hr d (List.mem_of_getElem? hd)
  exact ⟨(h c hc).is, by rw [e1]; exact i1, by rw [e2]; exact i2⟩

theorem LentR.inC {base : Nat} {w : World} {rs r : List Cw} (h : LentR base w rs) (he : cvs rs = cvs r) {w' : World} (hr : InC w' r) : InC w rs := by
  intro c hc
  obtain ⟨k, hk⟩ := List.getElem?_of_mem hc
  obtain ⟨d, hd, e1, e2, _⟩ := cvs_at he hk
  obtain ⟨_, i1, i2⟩ := hr d (List.mem_of_getElem? hd)
  exact ⟨(h c hc).is, by rw [e1]; exact i1, by rw [e2]; exact i2⟩

theorem fit_same {rs r : List Cw} (he : cvs rs = cvs r) (hr : FitC r) : FitC rs := by
  intro c hc
  obtain ⟨k, hk⟩ := List.getElem?_of_mem hc
  obtain ⟨d, hd, _, _, e3⟩ := cvs_at he hk
  rw [e3]
  exact hr d (List.mem_of_getElem? hd)

theorem CopyR.below {base : Nat} {w w' : World} {rs : List Cw} (h : CopyR base w rs) (hb : Below w.heap.size w w') : CopyR base w' rs := fun c hc => (h c hc).below hb
theorem LentR.below {base : Nat} {w w' : World} {rs : List Cw} (h : LentR base w rs) (hb : Below w.heap.size w w') : LentR base w' rs := fun c hc => (h c hc).below hb
theorem CopyR.keepT {base : Nat} {w w' : World} {rs : List Cw} (h : CopyR base w rs) (hb : KeepT 36 w w') : CopyR base w' rs := fun c hc => (h c hc).keepT hb (by decide)
theorem LentR.keepT {base : Nat} {w w' : World} {rs : List Cw} (h : LentR base w rs) (hb : KeepT 36 w w') : LentR base w' rs := fun c hc => (h c hc).keepT hb (by decide)
theorem CopyR.snoc {base : Nat} {w : World} {rs : List Cw} (h : CopyR base w rs) {c : Cw} (hc : OwnO 33 base w c.v c.l) : CopyR base w (rs ++ [c]) := fun d hd => (List.mem_append.1 hd).elim (h d) (fun h => by rw [List.mem_singleton.1 h]; exact hc)
theorem LentR.snoc {base : Nat} {w : World} {rs : List Cw} (h : LentR base w rs) {c : Cw} (hc : LentV base w c.v c.l) : LentR base w (rs ++ [c]) := fun d hd => (List.mem_append.1 hd).elim (h d) (fun h => by rw [List.mem_singleton.1 h]; exact hc)

set_option maxHeartbeats 1000000 in
theorem copyCs_any (vl : Value) (r : List Cw) (w : World) (h : IsC w vl r) (hf : FitC r) (hl : r.length ≤ 1000) :
    Calls Try.prog 51 #[vl] w fun E w' => ∃ v rs, E = .returned v ∧ OwnR 36 w.heap.size w' v rs ∧ cvs rs = cvs r ∧ CopyR w.heap.size w' rs ∧ Below w.heap.size w w' := by
  by_cases hz : r.length = 0
  · have : r = [] := List.eq_nil_of_length_eq_zero hz
    subst this
    obtain ⟨ao, cap, rfl, _, _⟩ := h.1.shape
    clear h hf hl hz
    simp only [List.length_nil]
    go_enter Try.func51, Try.ntmps51
    go_wp2
    go_loopw [3, 4] (fun ov iv wr => ov = .slice none 0 0 ∧ iv = .int .i64 0 ∧ wr = w) (fun _ _ _ => 0)
    case atStart => exact ⟨rfl, rfl, rfl⟩
    case round =>
      obtain ⟨rfl, rfl, rfl⟩ := hrel
      go_wp2
      go_ret
      exact ⟨_, [], rfl, OwnR.nil _ _ _, rfl, fun c hc => by simp at hc, Below.refl _ _⟩
  obtain ⟨b1, o1, c1, hvl, _, _, hB, hcell⟩ := h.1.full (by omega)
  subst hvl
  have HIN := hide h.2
  have HFIT := hide hf
  have HC := hide hcell
  generalize hn : r.length = n at *
  have HN := hide hn
  clear h hcell hf hn
  go_enter Try.func51, Try.ntmps51
  go_wp2
  go_loopw [3, 4] (fun ov iv wr => ∃ (k : Nat) (rs : List Cw), k ≤ n ∧ iv = .int .i64 k ∧ rs.length = k ∧ Hid (OwnR 36 w.heap.size wr ov rs ∧ cvs rs = cvs (r.take k) ∧ CopyR w.heap.size wr rs) ∧ Below w.heap.size w wr) (fun _ iv _ => n - (intOf iv).toNat)
  case atStart => exact ⟨0, [], by omega, rfl, rfl, ⟨OwnR.nil _ _ _, rfl, fun c hc => by simp at hc⟩, Below.refl _ _⟩
  case round =>
    obtain ⟨k, rs, hk, rfl, hrl, HT, bel⟩ := hrel
    have sz := bel.size
    by_cases hlt : k < n
    · obtain ⟨c, hc⟩ : ∃ c, r[k]? = some c := ⟨r[k]'(by have := HN.out; omega), by rw [List.getElem?_eq_getElem]⟩
      obtain ⟨e0, e1, e2⟩ := HC.out k c hc
      have d0 := (bel.cell (p := ⟨b1, o1 + k * 3, none⟩) hB).trans e0
      have d1 := (bel.cell (p := ⟨b1, o1 + k * 3 + 1, none⟩) hB).trans e1
      have d2 := (bel.cell (p := ⟨b1, o1 + k * 3 + 2, none⟩) hB).trans e2
      have hmem := List.mem_of_getElem? hc
      obtain ⟨i1, _, _⟩ := HIN.out c hmem
      have i2 := i1.below bel
      obtain ⟨hfc, hlc⟩ := HFIT.out c hmem
      have HCK := hide hc
      have hlt' : (k : Int) < n := by omega
      clear hc hmem i1 e0 e1 e2
      go_wp2_with fail
      refine (copyC_any c.e c.n _ c.l _ i2 hlc).mono ?_
      rintro E w2 ⟨v2, rfl, own2, bel2⟩
      unfold cmv
      have sz2 := bel2.size
      obtain ⟨ah, ch, hv2, _, _⟩ := own2.is.shape
      subst hv2
      obtain ⟨w3, hw3, sz3, bel3, own3⟩ := coms_step 36 w2 #[.int .i64 c.e, .int .i64 c.n, .slice ah c.l.length ch] 1 [⟨c.e, c.n, .slice ah c.l.length ch, c.l⟩] rfl rfl (by simp [maxLen])
      obtain ⟨hO, hE, hP⟩ := HT.out
      have bel23 : Below wr.heap.size wr w3 := bel2.trans (bel3.mono (by omega))
      have hO3 := hO.below bel23
      have hP3 := hP.below bel23
      have own23 := (own2.below bel3).rebase (base' := w.heap.size) (by omega)
      have hlk : (rs.length + [(⟨c.e, c.n, .slice ah c.l.length ch, c.l⟩ : Cw)].length) * 40 ≤ 140737488355328 := by rw [List.length_singleton]; omega
      have HE := hide hE
      have HP := hide hP3
      have bel03 : Below w.heap.size w w3 := bel.trans (bel23.mono (by omega))
      clear HT hO hP hP3 hE bel2 bel3 bel23 own2 bel d0 d1 d2 i2
      go_wp2_with (at_builtin; refine wpList_append_coms rfl (.tmp 11) (.tmp 17) 28 rfl 36 w.heap.size Try.underlying28 Try.info36 _ rs rfl hO3 _ _ rfl own3.row (by intro c hc; rw [List.mem_singleton.1 hc]; rfl) hlk (by omega) ?_)
      intro v4 w4 own4 bel4 kp4
      have HT2 : Hid (OwnR 36 w.heap.size w4 v4 (rs ++ [⟨c.e, c.n, .slice ah c.l.length ch, c.l⟩]) ∧ cvs (rs ++ [⟨c.e, c.n, .slice ah c.l.length ch, c.l⟩]) = cvs (r.take (k + 1)) ∧ CopyR w.heap.size w4 (rs ++ [⟨c.e, c.n, .slice ah c.l.length ch, c.l⟩])) :=
        ⟨own4, cvs_snoc HE.out HCK.out rfl, (HP.out.keepT kp4).snoc (own23.keepT kp4 (by decide))⟩
      have bel04 := bel03.trans bel4
      clear own4 kp4 own23 own3 hO3 HE HP bel03 bel4 hlk
      go_wp2
      go_roundw
      case rel => exact ⟨k + 1, _, by omega, by go_num, by rw [List.length_append, hrl]; rfl, HT2, bel04⟩
      case measure => simp [intOf]; omega
    · have hlt' : ¬ (k : Int) < n := by omega
      have HE : Hid (cvs rs = cvs r) := hide (by rw [HT.out.2.1, List.take_of_length_le (by have := HN.out; omega)])
      go_wp2
      go_ret
      exact ⟨_, rfl, rs, HT.out.1, HE.out, HT.out.2.2, bel⟩

/-- What stands behind commits that are lent. -/
def behC : Cw := ⟨-7, 0, .slice none 0 0, []⟩

set_option maxHeartbeats 1000000 in
theorem lentCs_any (vl : Value) (r : List Cw) (w : World) (h : IsC w vl r) (hf : FitC r) (hl : r.length ≤ 1000) :
    Calls Try.prog 33 #[vl] w fun E w' => ∃ v rs, E = .returned v ∧ OwnR 36 w.heap.size w' v (rs ++ [behC, behC, behC]) ∧ cvs rs = cvs r ∧ LentR w.heap.size w' rs ∧ Below w.heap.size w w' := by
  obtain ⟨ao, cap, hvl, _, _⟩ := h.1.shape
  have hcell : 0 < r.length → ∃ b1 o1 c1, vl = .slice (some ⟨b1, o1, none⟩) r.length c1 ∧ b1 < w.heap.size ∧ ∀ i c, r[i]? = some c → w.cell? ⟨b1, o1 + i * 3, none⟩ = some (.int .i64 c.e) ∧ w.cell? ⟨b1, o1 + i * 3 + 1, none⟩ = some (.int .i64 c.n) ∧ w.cell? ⟨b1, o1 + i * 3 + 2, none⟩ = some c.v := by
    intro hp
    obtain ⟨b1, o1, c1, hv, _, _, hB, hc⟩ := h.1.full hp
    exact ⟨b1, o1, c1, hv, hB, hc⟩
  subst hvl
  have HIN := hide h.2
  have HFIT := hide hf
  have HC := hide hcell
  generalize hn : r.length = n at *
  have HN := hide hn
  clear h hcell hf hn
  go_enter Try.func33, Try.ntmps33
  go_wp2
  go_loopw [3, 4] (fun ov iv wr => ∃ (k : Nat) (rs : List Cw), k ≤ n ∧ iv = .int .i64 k ∧ rs.length = k ∧ Hid (OwnR 36 w.heap.size wr ov rs ∧ cvs rs = cvs (r.take k) ∧ LentR w.heap.size wr rs) ∧ Below w.heap.size w wr) (fun _ iv _ => n - (intOf iv).toNat)
  case atStart => exact ⟨0, [], by omega, rfl, rfl, ⟨OwnR.nil _ _ _, rfl, fun c hc => by simp at hc⟩, Below.refl _ _⟩
  case round =>
    obtain ⟨k, rs, hk, rfl, hrl, HT, bel⟩ := hrel
    have sz := bel.size
    by_cases hlt : k < n
    · obtain ⟨b1, o1, c1, hvx, hB, hcell⟩ := HC.out (by have := HN.out; omega)
      simp only [Value.slice.injEq, true_and] at hvx
      obtain ⟨rfl, rfl⟩ := hvx
      obtain ⟨c, hc⟩ : ∃ c, r[k]? = some c := ⟨r[k]'(by have := HN.out; omega), by rw [List.getElem?_eq_getElem]⟩
      obtain ⟨e0, e1, e2⟩ := hcell k c hc
      have d0 := (bel.cell (p := ⟨b1, o1 + k * 3, none⟩) hB).trans e0
      have d1 := (bel.cell (p := ⟨b1, o1 + k * 3 + 1, none⟩) hB).trans e1
      have d2 := (bel.cell (p := ⟨b1, o1 + k * 3 + 2, none⟩) hB).trans e2
      have hmem := List.mem_of_getElem? hc
      obtain ⟨i1, _, _⟩ := HIN.out c hmem
      have i2 := i1.below bel
      obtain ⟨hfc, hlc⟩ := HFIT.out c hmem
      have HCK := hide hc
      have hlt' : (k : Int) < n := by omega
      clear hc hmem i1 e0 e1 e2 hcell
      go_wp2_with fail
      refine (lentC_any c.e c.n _ c.l _ i2 hlc).mono ?_
      rintro E w2 ⟨v2, rfl, own2, bel2⟩
      unfold cmv
      have sz2 := bel2.size
      obtain ⟨ah, ch, hv2, _, _⟩ := own2.is.shape
      subst hv2
      obtain ⟨w3, hw3, sz3, bel3, own3⟩ := coms_step 36 w2 #[.int .i64 c.e, .int .i64 c.n, .slice ah c.l.length ch] 1 [⟨c.e, c.n, .slice ah c.l.length ch, c.l⟩] rfl rfl (by simp [maxLen])
      obtain ⟨hO, hE, hP⟩ := HT.out
      have bel23 : Below wr.heap.size wr w3 := bel2.trans (bel3.mono (by omega))
      have hO3 := hO.below bel23
      have hP3 := hP.below bel23
      have own23 := (own2.below bel3).rebase (base' := w.heap.size) (by omega)
      have hlk : (rs.length + [(⟨c.e, c.n, .slice ah c.l.length ch, c.l⟩ : Cw)].length) * 40 ≤ 140737488355328 := by rw [List.length_singleton]; omega
      have HE := hide hE
      have HP := hide hP3
      have bel03 : Below w.heap.size w w3 := bel.trans (bel23.mono (by omega))
      clear HT hO hP hP3 hE bel2 bel3 bel23 own2 bel d0 d1 d2 i2
      go_wp2_with (at_builtin; refine wpList_append_coms rfl (.tmp 12) (.tmp 18) 28 rfl 36 w.heap.size Try.underlying28 Try.info36 _ rs rfl hO3 _ _ rfl own3.row (by intro c hc; rw [List.mem_singleton.1 hc]; rfl) hlk (by omega) ?_)
      intro v4 w4 own4 bel4 kp4
      have HT2 : Hid (OwnR 36 w.heap.size w4 v4 (rs ++ [⟨c.e, c.n, .slice ah c.l.length ch, c.l⟩]) ∧ cvs (rs ++ [⟨c.e, c.n, .slice ah c.l.length ch, c.l⟩]) = cvs (r.take (k + 1)) ∧ LentR w.heap.size w4 (rs ++ [⟨c.e, c.n, .slice ah c.l.length ch, c.l⟩])) :=
        ⟨own4, cvs_snoc HE.out HCK.out rfl, (HP.out.keepT kp4).snoc (own23.keepT kp4 (by decide))⟩
      have bel04 := bel03.trans bel4
      clear own4 kp4 own23 own3 hO3 HE HP bel03 bel4 hlk
      go_wp2
      go_roundw
      case rel => exact ⟨k + 1, _, by omega, by go_num, by rw [List.length_append, hrl]; rfl, HT2, bel04⟩
      case measure => simp [intOf]; omega
    · have hlt' : ¬ (k : Int) < n := by omega
      have HE : Hid (cvs rs = cvs r) := hide (by rw [HT.out.2.1, List.take_of_length_le (by have := HN.out; omega)])
      have HS := HT.out.1
      have HLR := hide HT.out.2.2
      have hS0 : Hid (OwnR 36 w.heap.size wr _ (rs ++ List.replicate 0 behC) ∧ LentR w.heap.size wr rs) := ⟨by simpa using HS, HT.out.2.2⟩
      clear HT HS HLR
      go_wp2
      go_loopw [3, 5] (fun ov iv wq => ∃ (j : Nat), j ≤ 3 ∧ iv = .int .i64 j ∧ Hid (OwnR 36 w.heap.size wq ov (rs ++ List.replicate j behC) ∧ LentR w.heap.size wq rs) ∧ Below w.heap.size w wq) (fun _ iv _ => 3 - (intOf iv).toNat)
      case atStart => exact ⟨0, by omega, rfl, hS0, bel⟩
      case round =>
        obtain ⟨j, hj, rfl, HJ, belJ⟩ := hrel
        have szJ := belJ.size
        by_cases hlj : j < 3
        · have hlj' : (j : Int) < 3 := by omega
          obtain ⟨w3, hw3, sz3, bel3, own3⟩ := coms_step 36 wr #[.int .i64 (-7), .int .i64 0, .slice none 0 0] 1 [behC] rfl rfl (by simp [maxLen])
          have hO3 := HJ.out.1.below bel3
          have HP := hide (HJ.out.2.below bel3)
          have hlk : ((rs ++ List.replicate j behC).length + [behC].length) * 40 ≤ 140737488355328 := by rw [List.length_append, List.length_replicate, List.length_singleton]; omega
          have bel03 : Below w.heap.size w w3 := belJ.trans (bel3.mono (by omega))
          clear HJ belJ bel3 hS0
          go_wp2_with (at_builtin; refine wpList_append_coms rfl (.tmp 24) (.tmp 26) 28 rfl 36 w.heap.size Try.underlying28 Try.info36 _ _ rfl hO3 _ [behC] rfl own3.row (by intro c hc; rw [List.mem_singleton.1 hc]; rfl) hlk (by omega) ?_)
          intro v4 w4 own4 bel4 kp4
          have HT2 : Hid (OwnR 36 w.heap.size w4 v4 (rs ++ List.replicate (j + 1) behC) ∧ LentR w.heap.size w4 rs) := ⟨by rw [List.replicate_succ']; exact own4, HP.out.keepT kp4⟩
          have bel04 := bel03.trans bel4
          clear own4 kp4 own3 hO3 HP bel03 bel4 hlk
          go_wp2
          go_roundw
          case rel => exact ⟨j + 1, by omega, by go_num, HT2, bel04⟩
          case measure => simp [intOf]; omega
        · have hlj' : ¬ (j : Int) < 3 := by omega
          have hj3 : j = 3 := by omega
          subst hj3
          clear hS0
          go_wp2
          go_ret
          exact ⟨_, rfl, rs, HJ.out.1, HE.out, HJ.out.2, belJ⟩

end Go.Proofs.Ytjaiemdefngbbaa

/- The contract of the laws' KeptCommits. -/
namespace Go.Proofs.Ytjaiemdefngbbaa
open Go.RowKit
set_option linter.unusedVariables false

theorem row_at {w : World} {b o : Nat} {r : List Cw} (h : ∀ i c, r[i]? = some c → w.cell? ⟨b, o + i * 3, none⟩ = some (.int .i64 c.e) ∧ w.cell? ⟨b, o + i * 3 + 1, none⟩ = some (.int .i64 c.n) ∧ w.cell? ⟨b, o + i * 3 + 2, none⟩ = some c.v) {w' : World} {base : Nat} (hb : Below base w w') (hB : b < base) {k : Nat} {c : Cw} (hc : r[k]? = some c) :
    w'.cell? ⟨b, o + k * 3, none⟩ = some (.int .i64 c.e) ∧ w'.cell? ⟨b, o + k * 3 + 1, none⟩ = some (.int .i64 c.n) ∧ w'.cell? ⟨b, o + k * 3 + 2, none⟩ = some c.v := by
  obtain ⟨e0, e1, e2⟩ := h k c hc
  exact ⟨(hb.cell (p := ⟨b, o + k * 3, none⟩) hB).trans e0, (hb.cell (p := ⟨b, o + k * 3 + 1, none⟩) hB).trans e1, (hb.cell (p := ⟨b, o + k * 3 + 2, none⟩) hB).trans e2⟩

set_option maxRecDepth 100000 in
set_option maxHeartbeats 2000000 in
theorem keptCs_yes (vf vl : Value) (rs r : List Cw) (base : Nat) (w : World) (hw : RowC w vf (rs ++ [behC, behC, behC])) (he : cvs rs = cvs r) (hr : LentR base w rs) (h : IsC w vl r) (hf : FitC r) (hl : r.length ≤ 1000) :
    Calls Try.prog 44 #[vf, vl] w fun E w' => E = .returned (.bool true) ∧ Below w.heap.size w w' := by
  have hlen := cvs_len he
  obtain ⟨b2, o2, c2, hvf, hcf, hmf, hB2, hcell2⟩ := hw.full (by simp)
  have hfl : (rs ++ [behC, behC, behC]).length = r.length + 3 := by rw [List.length_append, hlen]; rfl
  rw [hfl] at hvf hcf
  subst hvf
  obtain ⟨ao, cap, hvl, _, _⟩ := h.1.shape
  have hcell : 0 < r.length → ∃ b1 o1 c1, vl = .slice (some ⟨b1, o1, none⟩) r.length c1 ∧ b1 < w.heap.size ∧ ∀ i c, r[i]? = some c → w.cell? ⟨b1, o1 + i * 3, none⟩ = some (.int .i64 c.e) ∧ w.cell? ⟨b1, o1 + i * 3 + 1, none⟩ = some (.int .i64 c.n) ∧ w.cell? ⟨b1, o1 + i * 3 + 2, none⟩ = some c.v := by
    intro hp
    obtain ⟨b1, o1, c1, hv, _, _, hB, hc⟩ := h.1.full hp
    exact ⟨b1, o1, c1, hv, hB, hc⟩
  subst hvl
  have HIN := hide h.2
  have HFIT := hide hf
  have HC := hide hcell
  have HC2 := hide hcell2
  have HE := hide he
  have HL := hide hr
  generalize hn : r.length = n at *
  have HN := hide hn
  have HRS := hide hlen
  have hne : (((n : Int) + 3) != ((n : Int) + 3)) = false := by simp
  clear h hcell hcell2 hf hn he hr hlen hfl hw
  go_enter Try.func44, Try.ntmps44
  go_wp2
  go_loopw [5] (fun iv wr => ∃ (k : Nat), k ≤ n ∧ iv = .int .i64 k ∧ Below w.heap.size w wr) (fun iv _ => n - (intOf iv).toNat)
  case atStart => exact ⟨0, by omega, rfl, Below.refl _ _⟩
  case round =>
    obtain ⟨k, hk, rfl, bel⟩ := hrel
    have sz := bel.size
    by_cases hlt : k < n
    · obtain ⟨b1, o1, c1, hvx, hB, hcell⟩ := HC.out (by have := HN.out; omega)
      simp only [Value.slice.injEq, true_and] at hvx
      obtain ⟨rfl, rfl⟩ := hvx
      obtain ⟨c, hc⟩ : ∃ c, rs[k]? = some c := ⟨rs[k]'(by have := HN.out; have := HRS.out; omega), by rw [List.getElem?_eq_getElem]⟩
      obtain ⟨d, hd, q1, q2, q3⟩ := cvs_at HE.out hc
      have hc' : (rs ++ [behC, behC, behC])[k]? = some c := by rw [List.getElem?_append_left (by have := HRS.out; omega)]; exact hc
      obtain ⟨d0, d1, d2⟩ := row_at hcell bel hB hd
      obtain ⟨c0, c1', c2'⟩ := row_at HC2.out bel hB2 hc'
      have hmem := List.mem_of_getElem? hd
      obtain ⟨i1, _, _⟩ := HIN.out d hmem
      obtain ⟨_, hld⟩ := HFIT.out d hmem
      have i2 := i1.below bel
      have l2 := (HL.out c (List.mem_of_getElem? hc)).below bel
      rw [← q1] at d0
      rw [← q2] at d1
      rw [← q3] at i2 hld
      have hlt' : (k : Int) < n := by omega
      have hlt2 : (k : Int) < (n : Int) + 3 := by omega
      have hlt0 : (0 : Int) ≤ (k : Int) := by omega
      have hB2' : b2 < wr.heap.size := by omega
      have hB1' : b1 < wr.heap.size := by omega
      have HLD := hide hld
      clear hc hd q1 q2 q3 hc' hmem i1 hcell hld
      go_wp2_with fail
      go_region_held3 (fun w' => (w'.cell? ⟨b2, o2 + k * 3, none⟩ = some (.int .i64 c.e) ∧ w'.cell? ⟨b2, o2 + k * 3 + 1, none⟩ = some (.int .i64 c.n) ∧ w'.cell? ⟨b2, o2 + k * 3 + 2, none⟩ = some c.v) ∧ (w'.cell? ⟨b1, o1 + k * 3, none⟩ = some (.int .i64 c.e) ∧ w'.cell? ⟨b1, o1 + k * 3 + 1, none⟩ = some (.int .i64 c.n) ∧ w'.cell? ⟨b1, o1 + k * 3 + 2, none⟩ = some d.v)) (first | exact ⟨⟨c0, c1', c2'⟩, ⟨d0, d1, d2⟩⟩ | exact ⟨⟨a0, a1, a2⟩, ⟨x0, x1, x2⟩⟩ | go_keep)
        (first
        | (go_at_call 74; refine (keptC_yes c.e c.n _ _ c.l base _ (l2.below ((Below.refl _ _).drew)) (i2.drewN 1) HLD.out).mono ?_; rintro E w3 ⟨rfl, bel3'⟩; have bel3 : Below wr.heap.size wr w3 := ((Below.refl _ _).drew).trans bel3'; have a0 := (bel3.cell (p := ⟨b2, o2 + k * 3, none⟩) hB2').trans c0; have a1 := (bel3.cell (p := ⟨b2, o2 + k * 3 + 1, none⟩) hB2').trans c1'; have a2 := (bel3.cell (p := ⟨b2, o2 + k * 3 + 2, none⟩) hB2').trans c2'; have x0 := (bel3.cell (p := ⟨b1, o1 + k * 3, none⟩) hB1').trans d0; have x1 := (bel3.cell (p := ⟨b1, o1 + k * 3 + 1, none⟩) hB1').trans d1; have x2 := (bel3.cell (p := ⟨b1, o1 + k * 3 + 2, none⟩) hB1').trans d2; clear bel3'))
      have belR := bel.trans (bel3.mono (by omega))
      clear a0 a1 a2 x0 x1 x2 c0 c1' c2' d0 d1 d2 l2 i2 bel3 bel
      go_wp2
      go_roundw
      case rel => exact ⟨k + 1, by omega, by go_num, belR⟩
      case measure => simp [intOf]; omega
    · have hlt' : ¬ (k : Int) < n := by omega
      go_wp2
      go_loopw [6] (fun iv wr => ∃ (j : Nat), j ≤ 3 ∧ iv = .int .i64 ((n : Int) + (j : Int)) ∧ Below w.heap.size w wr) (fun iv _ => n + 3 - (intOf iv).toNat)
      case atStart => exact ⟨0, by omega, by simp, bel⟩
      case round =>
        obtain ⟨j, hj, rfl, belJ⟩ := hrel
        have szJ := belJ.size
        by_cases hlj : j < 3
        · have hc' : (rs ++ [behC, behC, behC])[n + j]? = some behC := by
            have := HRS.out
            rw [List.getElem?_append_right (by omega), this, Nat.add_sub_cancel_left]
            rcases (show j = 0 ∨ j = 1 ∨ j = 2 by omega) with rfl | rfl | rfl <;> rfl
          obtain ⟨c0, c1', c2'⟩ := row_at HC2.out belJ hB2 hc'
          have hj1 : (n : Int) + (j : Int) < (n : Int) + 3 := by omega
          have hj0 : (0 : Int) ≤ (n : Int) + (j : Int) := by omega
          have hjn : ((n : Int) + (j : Int)).toNat = n + j := by omega
          simp only [behC] at c0 c1' c2'
          clear hc'
          go_wp2_with fail
          refine (csameK_any (-7) 0 _ [] (-7) 0 _ [] _ (IsO.nil _) (IsO.nil _) (by simp) (by simp)).mono ?_
          rintro E w3 ⟨rfl, bel3⟩
          rw [sameC_self]
          have belR := belJ.trans (bel3.mono (by omega))
          clear c0 c1' c2' bel3
          go_wp2
          go_roundw
          case rel => exact ⟨j + 1, by omega, by go_num, belR⟩
          case measure => simp [intOf]; omega
        · have hj3 : j = 3 := by omega
          subst hj3
          go_wp2
          go_ret
          exact ⟨rfl, belJ⟩

end Go.Proofs.Ytjaiemdefngbbaa

/- An append of commits inside a region that draws its order; front and back parts of a list of commits by their values; a variable that is no fault. -/
namespace Go.Proofs.Ytjaiemdefngbbaa
open Go.RowKit
set_option linter.unusedVariables false

/-- 'append(out, xs...)' of commits inside a region that draws its order. -/
theorem step_append_coms {P : Program} {ops : Array Oper} {o : Oper} {a : Act} {w : World} {K : Act → World → Prop} {Q : Exit → Act → World → Prop} {E : Prop} (hgd : o.guard = none) (s x : Operand) (t : TypeId)
    (ho : o.op = .call { callee := .builtin .append, args := #[s, x], argTypes := #[t, t] })
    (e : TypeId) (base : Nat) (ht : P.underlying t = some (.slice e)) (hinfo : (P.info? e).map (fun i => (i.zero, i.size, i.bytes)) = some (some (.agg #[.int .i64 0, .int .i64 0, .slice none 0 0]), 3, 40))
    (v : Value) (l : List Cw) (hs : a.eval s = v) (hown : OwnR e base w v l) (vx : Value) (m : List Cw) (hx : a.eval x = vx) (his : RowC w vx m) (hone : ∀ c ∈ m, c.v.oneCell' = true)
    (hlen : (l.length + m.length) * 40 ≤ 140737488355328) (hbase : base ≤ w.heap.size)
    (h : ∀ v' w', OwnR e base w' v' (l ++ m) → Below base w w' → KeepT e w w' → K (a.put o.dst v') w') :
    if Region.wanted o (yielded ops a.tmps) = true then Oper.wp P o a w K Q else E := by
  have hw : Region.wanted o (yielded ops a.tmps) = true := by simp [Region.wanted, hgd]
  rw [if_pos hw]
  obtain ⟨i, hi, hz, hsize, hb⟩ := info_parts hinfo
  have hn : l.length + m.length ≤ 140737488355328 := by omega
  rcases his with ⟨hv, hy⟩ | ⟨ad, cap, hv, h1, h2, hc⟩
  · subst hy
    have hrun := run_append_owned_none (P := P) (w := w) base t o.type e i 3 ht hi v l.length _ hown
    have hk := h v w (by simpa using hown) (Below.refl _ _) (KeepT.refl _ _)
    unfold Oper.wp
    simp [execOp, ho, resolve, invoke, builtin, hs, hx.trans hv, hrun, Result.andThen]
    exact hk
  · refine wp_append_own w s x t ho base e i _ 3 40 ht hi hz hsize hb rfl (by decide) v l.length _ hs hown ad m.length cap (ccells m) (hx.trans hv) (ccells_len m) hc (ccells_cell m hone) (by unfold maxLen; omega) hlen hbase ?_
    intro v' w' ho' hg _
    refine h v' w' (by unfold OwnR; rw [ccells_app, List.length_append]; exact ho') ((Below.refl _ _).grown hg hbase fun k' hk => ?_) (KeepT.of_row hown hg)
    exact (World.ownsRow.lt hown k' hk).1

theorem RowC.front {w : World} {ad : Addr} {n cap : Nat} {l : List Cw} (h : RowC w (.slice (some ad) n cap) l) (p : Nat) (hp : p ≤ l.length) : RowC w (.slice (some ad) p cap) (l.take p) := by
  have hl : (l.take p).length = p := by rw [List.length_take]; omega
  rcases h with ⟨hv, _⟩ | ⟨ad', cap', hv, h1, h2, hc⟩
  · simp at hv
  · simp at hv
    obtain ⟨rfl, rfl, rfl⟩ := hv
    refine .inr ⟨ad, cap, by rw [hl], by omega, h2, fun j u hj => hc j u ?_⟩
    rw [ccells_take, List.getElem?_take] at hj
    split at hj
    · exact hj
    · simp at hj

theorem RowC.back {w : World} {b off n cap : Nat} {l : List Cw} (h : RowC w (.slice (some ⟨b, off, none⟩) n cap) l) (p : Nat) (hp : p < l.length) : RowC w (.slice (some ⟨b, off + p * 3, none⟩) (l.length - p) (cap - p)) (l.drop p) := by
  rcases h with ⟨hv, _⟩ | ⟨ad', cap', hv, h1, h2, hc⟩
  · simp at hv
  · simp at hv
    obtain ⟨rfl, rfl, rfl⟩ := hv
    refine .inr ⟨⟨b, off + p * 3, none⟩, cap - p, by simp, by simp; omega, by omega, fun j u hj => ?_⟩
    rw [ccells_drop, List.getElem?_drop] at hj
    have := hc _ _ hj
    rw [add_at] at this ⊢
    rw [Nat.add_assoc]
    exact this

theorem run_frontC (b off n cap p : Nat) (hp : p ≤ cap) (wx : World) : (Instr.slice 28 (.slice (some ⟨b, off, none⟩) n cap) none (some (.int .i64 p)) none).run Try.prog wx = .ok (.slice (some ⟨b, off, none⟩) p cap) wx := by
  rw [run_slice_h wx 28 (some ⟨b, off, none⟩) n cap Try.elemC .i64 _ (by omega) (by omega), Try.sizeC]
  simp only [Result.andThen, sliced]
  simp [Addr.add]

theorem run_backC (b off n cap p : Nat) (hp : p < n) (hn : n ≤ cap) (wx : World) : (Instr.slice 28 (.slice (some ⟨b, off, none⟩) n cap) (some (.int .i64 p)) none none).run Try.prog wx = .ok (.slice (some ⟨b, off + p * 3, none⟩) (n - p) (cap - p)) wx := by
  rw [run_slice_l wx 28 (some ⟨b, off, none⟩) n cap Try.elemC .i64 _ (by omega) (by omega), Try.sizeC]
  have hne : ¬ cap = p := by omega
  simp [Result.andThen, sliced, hne, add_at]

theorem Try.enters51 : ∀ args w, (callFunc 51 args).run Try.prog w = .ok (.enter 51 args) w := enters_of Try.func51 (by kernel_rfl) rfl
theorem Try.enters87 : ∀ args w, (callFunc 87 args).run Try.prog w = .ok (.enter 87 args) w := enters_of Try.func87 (by kernel_rfl) rfl

/-- 'none := api.Fault{}'. -/
theorem none_step (w : World) (t : TypeId) : ∃ V, w.alloc (.cells #[.int .i64 0, .int .i64 0] t) = V ∧ V.heap.size = w.heap.size + 1 ∧ Below w.heap.size w V ∧ V.heap[w.heap.size]? = some (.cells #[.int .i64 0, .int .i64 0] t (0, 0)) ∧
    (V.cell? ⟨w.heap.size, 0, none⟩ = some (.int .i64 0) ∧ V.cell? ⟨w.heap.size, 1, none⟩ = some (.int .i64 0)) ∧ (V.frozen? ⟨w.heap.size, 0, none⟩ = false ∧ V.frozen? ⟨w.heap.size, 1, none⟩ = false) ∧
    (V.setCell ⟨w.heap.size, 0, none⟩ (.int .i64 0) = V ∧ V.setCell ⟨w.heap.size, 1, none⟩ (.int .i64 0) = V) := by
  obtain ⟨V, h1, h2, h3, h4⟩ := blk_step w #[.int .i64 0, .int .i64 0] t
  exact ⟨V, h1, h2, h3, h4, ⟨blk_cell h4 0 rfl, blk_cell h4 1 rfl⟩, ⟨blk_froz h4 0, blk_froz h4 1⟩, ⟨set_same h4 (j := 0) rfl, set_same h4 (j := 1) rfl⟩⟩

/-- No fault, or one. -/
theorem fol_two (r : List Cm.Cv) (ep nu : Int) : (Cm.Good ep nu r ∧ Cm.fol ep nu 0 r = (0, 0)) ∨ (¬ Cm.Good ep nu r ∧ (Cm.fol ep nu 0 r).1 ≠ 0) := by
  by_cases h : Cm.Good ep nu r
  · have h1 := (Cm.fol_good r ep nu 0).2 h
    exact .inl ⟨h, Prod.ext h1 (Cm.fol_at r ep nu 0 h1)⟩
  · exact .inr ⟨h, fun h1 => h ((Cm.fol_good r ep nu 0).1 h1)⟩

end Go.Proofs.Ytjaiemdefngbbaa

/- Frames as lists of numbers: what a frame is, what Read answers, what Scan answers. No program. -/
namespace Go.Proofs.Ytjaiemdefngbbaa
set_option linter.unusedVariables false
namespace Fm

/-- A record's frame. -/
def frm (r : List Int) : List Int := Vm.enc r.length ++ r

theorem frm_len (r : List Int) : (frm r).length = Vm.sz r.length + r.length := by unfold frm Vm.sz; rw [List.length_append]
theorem frm_pos (r : List Int) : 1 ≤ (frm r).length := by have := Vm.sz_pos r.length; rw [frm_len]; omega

theorem sz3 {n : Nat} (h : n ≤ 131072) : Vm.sz n ≤ 3 := Vm.sz_le 2 n (by omega)

theorem frm_one {r s bs : List Int} (h : frm r <+: bs) (h' : frm s <+: bs) : r = s := by
  obtain ⟨t, ht⟩ := h
  obtain ⟨u, hu⟩ := h'
  unfold frm at ht hu
  have hl : r.length = s.length := Vm.pre_one bs _ _ ⟨r ++ t, by rw [← List.append_assoc]; exact ht⟩ ⟨s ++ u, by rw [← List.append_assoc]; exact hu⟩
  rw [← hu, hl, List.append_assoc, List.append_assoc] at ht
  have := List.append_cancel_left ht
  exact (List.append_inj this hl).1

/-- What Read answers: the record, the frame's length, the error. -/
def Rd (bs r : List Int) (n : Nat) (e : Int) : Prop :=
  (e = 0 ∧ r.length ≤ 131072 ∧ n = Vm.sz r.length + r.length ∧ frm r <+: bs) ∨ (e = 5 ∧ r = [] ∧ n = 0 ∧ ∀ s : List Int, s.length ≤ 131072 → ¬ frm s <+: bs)

theorem rd_one {bs r s : List Int} {n m : Nat} {e f : Int} (h : Rd bs r n e) (h' : Rd bs s m f) : r = s ∧ n = m ∧ e = f := by
  rcases h with ⟨rfl, h1, h2, h3⟩ | ⟨rfl, rfl, rfl, h3⟩ <;> rcases h' with ⟨rfl, g1, g2, g3⟩ | ⟨rfl, rfl, rfl, g3⟩
  · have := frm_one h3 g3
    subst this
    exact ⟨rfl, by omega, rfl⟩
  · exact absurd h3 (g3 _ h1)
  · exact absurd g3 (h3 _ g1)
  · exact ⟨rfl, rfl, rfl⟩

theorem rd_is (bs : List Int) : ∃ r n e, Rd bs r n e := by
  by_cases h : ∃ s : List Int, s.length ≤ 131072 ∧ frm s <+: bs
  · obtain ⟨s, h1, h2⟩ := h
    exact ⟨s, _, 0, .inl ⟨rfl, h1, rfl, h2⟩⟩
  · exact ⟨[], 0, 5, .inr ⟨rfl, rfl, rfl, fun s h1 h2 => h ⟨s, h1, h2⟩⟩⟩

/-- The count's bytes stand ahead, and then enough. -/
theorem frm_of {bs : List Int} {x : Nat} (h : Vm.enc x <+: bs) (hx : x ≤ bs.length - Vm.sz x) : ((bs.drop (Vm.sz x)).take x).length = x ∧ frm ((bs.drop (Vm.sz x)).take x) <+: bs := by
  have hl : ((bs.drop (Vm.sz x)).take x).length = x := by rw [List.length_take, List.length_drop]; omega
  refine ⟨hl, ?_⟩
  obtain ⟨t, ht⟩ := h
  have hd : bs.drop (Vm.sz x) = t := by rw [← ht]; exact List.drop_left
  unfold frm
  rw [hl]
  rw [hd] at *
  exact ⟨t.drop x, by rw [List.append_assoc, List.take_append_drop]; exact ht⟩

theorem frm_pre {bs r : List Int} (h : frm r <+: bs) : Vm.enc r.length <+: bs ∧ r.length ≤ bs.length - Vm.sz r.length ∧ Vm.sz r.length + r.length ≤ bs.length := by
  have hl := h.length_le
  rw [frm_len] at hl
  refine ⟨(List.prefix_append _ _).trans h, by omega, hl⟩

/-- Frames one behind the other. -/
def cat : List (List Int) → List Int
  | [] => []
  | r :: l => frm r ++ cat l

theorem cat_app : ∀ (l m : List (List Int)), cat (l ++ m) = cat l ++ cat m
  | [], m => rfl
  | r :: l, m => by simp [cat, cat_app l m]

theorem cat_one (r : List Int) : cat [r] = frm r := by simp [cat]

theorem cat_len : ∀ l : List (List Int), l.length ≤ (cat l).length
  | [] => Nat.zero_le _
  | r :: l => by
    have := cat_len l
    have := frm_pos r
    simp [cat]
    omega

/-- What Scan answers: whole frames one behind the other, and none behind them. -/
def Sc (bs : List Int) (l : List (List Int)) : Prop :=
  (∀ r ∈ l, r.length ≤ 131072) ∧ cat l <+: bs ∧ ∀ s : List Int, s.length ≤ 131072 → ¬ frm s <+: bs.drop (cat l).length

theorem drop_pre {a b c : List Int} (h : a ++ b <+: c) : b <+: c.drop a.length := by
  obtain ⟨t, ht⟩ := h
  rw [← ht, List.append_assoc, List.drop_left]
  exact List.prefix_append _ _

theorem pre_drop {a b c : List Int} (h : a <+: c) (h' : b <+: c.drop a.length) : a ++ b <+: c := by
  obtain ⟨t, rfl⟩ := h
  rw [List.drop_left] at h'
  obtain ⟨u, rfl⟩ := h'
  exact ⟨u, by rw [List.append_assoc]⟩

theorem sc_tail {bs r : List Int} {l : List (List Int)} (h : Sc bs (r :: l)) : r.length ≤ 131072 ∧ frm r <+: bs ∧ Sc (bs.drop (frm r).length) l := by
  obtain ⟨h1, h2, h3⟩ := h
  refine ⟨h1 r (by simp), (List.prefix_append _ _).trans h2, fun s hs => h1 s (by simp [hs]), drop_pre h2, fun s hs => ?_⟩
  rw [List.drop_drop, ← List.length_append]
  exact h3 s hs

theorem sc_one : ∀ {l m : List (List Int)} {bs : List Int}, Sc bs l → Sc bs m → l = m
  | [], [], _, _, _ => rfl
  | [], r :: m, bs, h, h' => by
    obtain ⟨h1, h2, _⟩ := sc_tail h'
    exact absurd h2 (by simpa [cat] using h.2.2 r h1)
  | r :: l, [], bs, h, h' => by
    obtain ⟨h1, h2, _⟩ := sc_tail h
    exact absurd h2 (by simpa [cat] using h'.2.2 r h1)
  | r :: l, s :: m, bs, h, h' => by
    obtain ⟨_, h2, h3⟩ := sc_tail h
    obtain ⟨_, g2, g3⟩ := sc_tail h'
    have e := frm_one h2 g2
    subst e
    rw [sc_one h3 g3]

theorem sc_is (bs : List Int) : ∃ l, Sc bs l := by
  suffices h : ∀ n (bs : List Int), bs.length ≤ n → ∃ l, Sc bs l from h _ bs (Nat.le_refl _)
  intro n
  induction n with
  | zero =>
    intro bs hb
    refine ⟨[], by simp, by simp [cat], fun s _ h => ?_⟩
    have h1 := h.length_le
    have h2 := frm_pos s
    rw [List.length_drop] at h1
    omega
  | succ n ih =>
    intro bs hb
    by_cases h : ∃ s : List Int, s.length ≤ 131072 ∧ frm s <+: bs
    · obtain ⟨s, h1, h2⟩ := h
      have hp := frm_pos s
      obtain ⟨l, g1, g2, g3⟩ := ih (bs.drop (frm s).length) (by rw [List.length_drop]; omega)
      refine ⟨s :: l, ?_, pre_drop h2 g2, fun t ht => ?_⟩
      · intro r hr
        rcases List.mem_cons.1 hr with rfl | hr
        · exact h1
        · exact g1 r hr
      · have := g3 t ht
        rw [List.drop_drop, ← List.length_append] at this
        exact this
    · exact ⟨[], by simp, by simp [cat], fun s h1 h2 => h ⟨s, h1, by simpa [cat] using h2⟩⟩

/-- One frame more. -/
theorem sc_next {bs r : List Int} {l : List (List Int)} (h : cat l <+: bs) (h' : frm r <+: bs.drop (cat l).length) : cat (l ++ [r]) <+: bs ∧ (cat (l ++ [r])).length = (cat l).length + (Vm.sz r.length + r.length) := by
  rw [cat_app, cat_one]
  exact ⟨pre_drop h h', by rw [List.length_append, frm_len]⟩

/-- Where the frames begin. -/
def plc (a : Nat) : List (List Int) → List Nat
  | [] => []
  | r :: l => a :: plc (a + (Vm.sz r.length + r.length)) l

theorem plc_len : ∀ (l : List (List Int)) (a : Nat), (plc a l).length = l.length
  | [], _ => rfl
  | r :: l, a => by simp [plc, plc_len l]

theorem plc_at : ∀ (l : List (List Int)) (a k : Nat), k < l.length → (plc a l)[k]? = some (a + (cat (l.take k)).length)
  | [], _, _, h => by simp at h
  | r :: l, a, 0, _ => by simp [plc, cat]
  | r :: l, a, k + 1, h => by
    simp only [plc, List.getElem?_cons_succ, List.take_succ_cons, cat, List.length_append]
    rw [plc_at l _ k (by simpa using h), frm_len]
    congr 1
    omega

theorem plc_snoc : ∀ (l : List (List Int)) (r : List Int) (a : Nat), plc a (l ++ [r]) = plc a l ++ [a + (cat l).length]
  | [], r, a => by simp [plc, cat]
  | s :: l, r, a => by
    simp only [List.cons_append, plc, plc_snoc l, cat, List.length_append, frm_len]
    rw [Nat.add_assoc a]

theorem cat_take_le (l : List (List Int)) (k : Nat) : (cat (l.take k)).length ≤ (cat l).length := by
  have : cat l = cat (l.take k) ++ cat (l.drop k) := by rw [← cat_app, List.take_append_drop]
  rw [this, List.length_append]
  omega

/-- A first part of frames: those that lie in it whole are what Scan answers. -/
theorem sc_cut : ∀ {l : List (List Int)} {k n : Nat}, (∀ r ∈ l, r.length ≤ 131072) → n ≤ l.length → (cat (l.take n)).length ≤ k → (n < l.length → k < (cat (l.take (n + 1))).length) → k ≤ (cat l).length → Sc ((cat l).take k) (l.take n) := by
  intro l k n hw hn hk hk' hkl
  have e1 : cat l = cat (l.take n) ++ cat (l.drop n) := by rw [← cat_app, List.take_append_drop]
  have e2 : (cat l).take k = cat (l.take n) ++ (cat (l.drop n)).take (k - (cat (l.take n)).length) := by
    rw [e1, List.take_append]
    rw [List.take_of_length_le hk]
  refine ⟨fun r hr => hw r (List.mem_of_mem_take hr), by rw [e2]; exact List.prefix_append _ _, fun s hs h => ?_⟩
  rw [e2, List.drop_left] at h
  by_cases hlt : n < l.length
  · have hd : l.drop n = l[n] :: l.drop (n + 1) := List.drop_eq_getElem_cons hlt
    have h2 := h.trans (List.take_prefix _ _)
    rw [hd, cat] at h2
    have e3 : s = l[n] := frm_one h2 (List.prefix_append _ _)
    have h3 := h.length_le
    rw [List.length_take] at h3
    have h4 := hk' hlt
    rw [List.take_succ_eq_append_getElem hlt, cat_app, cat_one, List.length_append, ← e3] at h4
    omega
  · have hd : l.drop n = [] := List.drop_eq_nil_of_le (by omega)
    rw [hd, cat, List.take_nil] at h
    have h1 := h.length_le
    have h2 := frm_pos s
    rw [List.length_nil] at h1
    omega

theorem sc_all {l : List (List Int)} (hw : ∀ r ∈ l, r.length ≤ 131072) : Sc (cat l) l := by
  refine ⟨hw, List.prefix_refl _, fun s hs h => ?_⟩
  rw [List.drop_length] at h
  have h1 := h.length_le
  have h2 := frm_pos s
  rw [List.length_nil] at h1
  omega

end Fm
end Go.Proofs.Ytjaiemdefngbbaa

/- Pages as numbers: which may be, their bytes, what Decode answers, what Last answers. No program. -/
namespace Go.Proofs.Ytjaiemdefngbbaa
set_option linter.unusedVariables false
namespace Pm

/-- A page: epoch, role, acked, phase, fork, base. -/
structure Pg where
  e : Int
  r : Int
  a : Int
  p : Int
  f : Int
  b : Int

theorem Pg.eq {x y : Pg} (h1 : x.e = y.e) (h2 : x.r = y.r) (h3 : x.a = y.a) (h4 : x.p = y.p) (h5 : x.f = y.f) (h6 : x.b = y.b) : x = y := by
  cases x; cases y; simp at *; exact ⟨h1, h2, h3, h4, h5, h6⟩

/-- Nothing in it. -/
def no : Pg := ⟨0, 0, 0, 0, 0, 0⟩

/-- The numbers lie where a page's may. -/
abbrev Bnd (x : Pg) : Prop := 1 ≤ x.e ∧ x.e ≤ 1048576 ∧ 0 ≤ x.a ∧ x.a ≤ 1048576 ∧ 0 ≤ x.f ∧ x.f ≤ 1048576 ∧ 0 ≤ x.b ∧ x.b ≤ 1073741824

/-- Role and phase go together, and what such a page does not have is 0. -/
abbrev Own (x : Pg) : Prop :=
  (x.r = 1 ∧ x.p = 0 ∧ x.f = 0 ∧ x.b = 0) ∨ (x.r = 2 ∧ x.a = 0 ∧ x.p = 0 ∧ x.f = 0 ∧ x.b = 0) ∨ (x.r = 3 ∧ x.a = 0 ∧ x.p = 1 ∧ x.f = 0 ∧ x.b = 0) ∨ (x.r = 3 ∧ x.a = 0 ∧ 2 ≤ x.p ∧ x.p ≤ 4)

/-- A page that may be. -/
abbrev Ok (x : Pg) : Prop := Bnd x ∧ Own x

/-- Check. -/
def chk (x : Pg) : Int := if Ok x then 0 else 2

theorem chk_ok {x : Pg} (h : Ok x) : chk x = 0 := if_pos h
theorem chk_no {x : Pg} (h : ¬ Ok x) : chk x = 2 := if_neg h
theorem chk_iff {x : Pg} : chk x = 0 ↔ Ok x := by
  by_cases h : Ok x
  · exact ⟨fun _ => h, fun _ => chk_ok h⟩
  · exact ⟨fun k => by rw [chk_no h] at k; exact absurd k (by decide), fun k => absurd k h⟩

/-- Each number of a page that may be. -/
theorem ok_nums {x : Pg} (h : Ok x) : 1 ≤ x.e ∧ x.e ≤ 1048576 ∧ 1 ≤ x.r ∧ x.r ≤ 3 ∧ 0 ≤ x.a ∧ x.a ≤ 1048576 ∧ 0 ≤ x.p ∧ x.p ≤ 4 ∧ 0 ≤ x.f ∧ x.f ≤ 1048576 ∧ 0 ≤ x.b ∧ x.b ≤ 1073741824 := by
  obtain ⟨⟨h1, h2, h3, h4, h5, h6, h7, h8⟩, h9⟩ := h
  unfold Own at h9
  omega

theorem not_no : ¬ Ok no := fun h => by have := (ok_nums h).1; simp [no] at this

/-- The numbers, in the order of their bytes. -/
def nums (x : Pg) : List Int := [x.e, x.r, x.a, x.p, x.f, x.b]

/-- Numbers' bytes, one behind the other. -/
def encs : List Int → List Int
  | [] => []
  | z :: l => Vm.enc z.toNat ++ encs l

theorem encs_app : ∀ l m : List Int, encs (l ++ m) = encs l ++ encs m
  | [], m => rfl
  | z :: l, m => by simp [encs, encs_app l m]

/-- A page's bytes. -/
def enc (x : Pg) : List Int := encs (nums x)

theorem encs_pre : ∀ {l m : List Int} {bs : List Int}, l.length = m.length → (∀ z ∈ l, 0 ≤ z) → (∀ z ∈ m, 0 ≤ z) → encs l <+: bs → encs m <+: bs → l = m
  | [], [], _, _, _, _, _, _ => rfl
  | [], _ :: _, _, h, _, _, _, _ => by simp at h
  | _ :: _, [], _, h, _, _, _, _ => by simp at h
  | x :: l, y :: m, bs, h, hx, hy, h1, h2 => by
    have e := Vm.pre_one bs _ _ ((List.prefix_append _ _).trans h1) ((List.prefix_append _ _).trans h2)
    have ex : x = y := by
      have := hx x (by simp)
      have := hy y (by simp)
      omega
    subst ex
    have := encs_pre (by simpa using h) (fun z hz => hx z (by simp [hz])) (fun z hz => hy z (by simp [hz])) (Fm.drop_pre h1) (Fm.drop_pre h2)
    rw [this]

theorem nums_pos {x : Pg} (h : Ok x) : ∀ z ∈ nums x, 0 ≤ z := by
  have := ok_nums h
  intro z hz
  simp [nums] at hz
  omega

theorem nums_one {x y : Pg} (h : nums x = nums y) : x = y := by
  unfold nums at h
  simp at h
  exact Pg.eq h.1 h.2.1 h.2.2.1 h.2.2.2.1 h.2.2.2.2.1 h.2.2.2.2.2

/-- Two pages whose bytes begin one list are one. -/
theorem enc_pre {x y : Pg} {bs : List Int} (h : Ok x) (h' : Ok y) (h1 : enc x <+: bs) (h2 : enc y <+: bs) : x = y :=
  nums_one (encs_pre rfl (nums_pos h) (nums_pos h') h1 h2)

theorem encs_len : ∀ {l : List Int}, (∀ z ∈ l, z < 18446744073709551616) → (encs l).length ≤ 10 * l.length ∧ l.length ≤ (encs l).length
  | [], _ => by simp [encs]
  | z :: l, h => by
    have h1 := encs_len (l := l) (fun y hy => h y (by simp [hy]))
    have h2 := h z (by simp)
    have h3 := Vm.sz_le10 (x := z.toNat) (by omega)
    have h4 := Vm.sz_pos z.toNat
    unfold Vm.sz at h3 h4
    simp [encs]
    omega

theorem enc_len {x : Pg} (h : Ok x) : (enc x).length ≤ 60 := by
  have := ok_nums h
  have := (encs_len (l := nums x) (fun z hz => by simp [nums] at hz; omega)).1
  exact this

/-- Two pages are one just where the shorter's bytes begin the other's. -/
theorem enc_cut {x y : Pg} (h : Ok x) (h' : Ok y) : (x = y) ↔ (enc x).take (min (enc x).length (enc y).length) = (enc y).take (min (enc x).length (enc y).length) := by
  constructor
  · rintro rfl; rfl
  · intro g
    by_cases hl : (enc x).length ≤ (enc y).length
    · rw [Nat.min_eq_left hl, List.take_length] at g
      exact enc_pre h h' (bs := enc y) (by rw [g]; exact List.take_prefix _ _) (List.prefix_refl _)
    · rw [Nat.min_eq_right (by omega), List.take_length] at g
      exact enc_pre h h' (bs := enc x) (List.prefix_refl _) (by rw [← g]; exact List.take_prefix _ _)

/-- What Decode answers. -/
def Dc (bs : List Int) (x : Pg) (e : Int) : Prop :=
  (e = 0 ∧ Ok x ∧ bs = enc x) ∨ (e = 5 ∧ x = no ∧ ∀ y, Ok y → bs ≠ enc y)

theorem dc_one {bs : List Int} {x y : Pg} {e f : Int} (h : Dc bs x e) (h' : Dc bs y f) : x = y ∧ e = f := by
  rcases h with ⟨rfl, h1, h2⟩ | ⟨rfl, rfl, h2⟩ <;> rcases h' with ⟨rfl, g1, g2⟩ | ⟨rfl, rfl, g2⟩
  · exact ⟨enc_pre h1 g1 (bs := bs) (by rw [h2]; exact List.prefix_refl _) (by rw [g2]; exact List.prefix_refl _), rfl⟩
  · exact absurd h2 (g2 x h1)
  · exact absurd g2 (h2 y g1)
  · exact ⟨rfl, rfl⟩

theorem dc_enc {x : Pg} (h : Ok x) : Dc (enc x) x 0 := .inl ⟨rfl, h, rfl⟩

/-- Numbers that stand one behind the other at the front: none of them above its own greatest. -/
def Run (bs : List Int) (l : List Int) : Prop := encs l <+: bs

/-- Behind some numbers: the next is none that a page has. -/
theorem dc_stop {bs l : List Int} {k : Nat} {m : Nat} (hk : k < 6) (hl : l.length = k) (hp : ∀ z ∈ l, 0 ≤ z) (h : encs l <+: bs) (hm : ∀ x : Pg, Ok x → (nums x).getD k 0 ≤ m)
    (hn : ∀ u : Nat, u ≤ m → ¬ Vm.enc u <+: bs.drop (encs l).length) : Dc bs no 5 := by
  refine .inr ⟨rfl, rfl, fun y hy e => ?_⟩
  have hlen : (nums y).length = 6 := rfl
  have es : nums y = (nums y).take k ++ ((nums y).getD k 0 :: (nums y).drop (k + 1)) := by
    have h1 : k < (nums y).length := by omega
    rw [List.getD_eq_getElem?_getD, List.getElem?_eq_getElem h1, Option.getD_some, ← List.drop_eq_getElem_cons h1, List.take_append_drop]
  have hpy := nums_pos hy
  have h1 : encs ((nums y).take k) <+: bs := by
    rw [e]
    unfold enc
    have : nums y = (nums y).take k ++ (nums y).drop k := (List.take_append_drop _ _).symm
    conv => rhs; rw [this, encs_app]
    exact List.prefix_append _ _
  have h2 : l = (nums y).take k := encs_pre (by rw [List.length_take]; omega) hp (fun z hz => hpy z (List.mem_of_mem_take hz)) h h1
  have h3 := hm y hy
  have h4 : 0 ≤ (nums y).getD k 0 := by
    have h1 : k < (nums y).length := by omega
    rw [List.getD_eq_getElem?_getD, List.getElem?_eq_getElem h1, Option.getD_some]
    exact hpy _ (List.getElem_mem h1)
  refine hn ((nums y).getD k 0).toNat (by omega) ?_
  have h5 : bs = encs l ++ (Vm.enc ((nums y).getD k 0).toNat ++ encs ((nums y).drop (k + 1))) := by
    rw [e]
    unfold enc
    conv => lhs; rw [es, encs_app, ← h2]
    rfl
  rw [h5, List.drop_left]
  exact List.prefix_append _ _

/-- All six stand there: a page where it may be and nothing is behind. -/
theorem dc_six {bs : List Int} {x : Pg} (hp : ∀ z ∈ nums x, 0 ≤ z) (h : enc x <+: bs) : (Ok x → (enc x).length = bs.length → Dc bs x 0) ∧ ((¬ Ok x ∨ (enc x).length ≠ bs.length) → Dc bs no 5) := by
  refine ⟨fun h1 h2 => .inl ⟨rfl, h1, (h.eq_of_length h2).symm⟩, fun h1 => .inr ⟨rfl, rfl, fun y hy e => ?_⟩⟩
  have : nums x = nums y := encs_pre rfl hp (nums_pos hy) (bs := bs) h (by rw [e]; exact List.prefix_refl _)
  have := nums_one this
  subst this
  rcases h1 with h1 | h1
  · exact h1 hy
  · exact h1 (by rw [e])

/-- What Last answers, z being the first page. -/
def Ls (bs : List Int) (z x : Pg) (n : Nat) : Prop :=
  ∃ l : List Pg, (∀ y ∈ l, Ok y) ∧ Fm.cat (l.map enc) <+: bs ∧ n = (Fm.cat (l.map enc)).length ∧ x = l.getLast?.getD z ∧ ∀ y, Ok y → ¬ Fm.frm (enc y) <+: bs.drop n

theorem ls_list : ∀ {l m : List Pg} {bs : List Int}, (∀ y ∈ l, Ok y) → (∀ y ∈ m, Ok y) → Fm.cat (l.map enc) <+: bs → Fm.cat (m.map enc) <+: bs →
    (∀ y, Ok y → ¬ Fm.frm (enc y) <+: bs.drop (Fm.cat (l.map enc)).length) → (∀ y, Ok y → ¬ Fm.frm (enc y) <+: bs.drop (Fm.cat (m.map enc)).length) → l = m
  | [], [], _, _, _, _, _, _, _ => rfl
  | [], y :: m, bs, h1, h2, h3, h4, h5, h6 => by
    have := h5 y (h2 y (by simp))
    simp [Fm.cat] at this
    exact absurd ((List.prefix_append _ _).trans h4) this
  | x :: l, [], bs, h1, h2, h3, h4, h5, h6 => by
    have := h6 x (h1 x (by simp))
    simp [Fm.cat] at this
    exact absurd ((List.prefix_append _ _).trans h3) this
  | x :: l, y :: m, bs, h1, h2, h3, h4, h5, h6 => by
    have e := Fm.frm_one ((List.prefix_append _ _).trans h3) ((List.prefix_append _ _).trans h4)
    have ox := h1 x (by simp)
    have oy := h2 y (by simp)
    have ex : x = y := enc_pre ox oy (bs := enc y) (by rw [e]; exact List.prefix_refl _) (List.prefix_refl _)
    subst ex
    have := ls_list (l := l) (m := m) (bs := bs.drop (Fm.frm (enc x)).length) (fun z hz => h1 z (by simp [hz])) (fun z hz => h2 z (by simp [hz])) (Fm.drop_pre h3) (Fm.drop_pre h4)
      (fun z hz => by have := h5 z hz; simp only [List.map_cons, Fm.cat, List.length_append] at this; rw [List.drop_drop]; exact this)
      (fun z hz => by have := h6 z hz; simp only [List.map_cons, Fm.cat, List.length_append] at this; rw [List.drop_drop]; exact this)
    rw [this]

theorem ls_one {bs : List Int} {z x y : Pg} {n m : Nat} (h : Ls bs z x n) (h' : Ls bs z y m) : x = y ∧ n = m := by
  obtain ⟨l, h1, h2, h3, h4, h5⟩ := h
  obtain ⟨k, g1, g2, g3, g4, g5⟩ := h'
  have : l = k := ls_list h1 g1 h2 g2 (by rw [← h3]; exact h5) (by rw [← g3]; exact g5)
  subst this
  exact ⟨h4.trans g4.symm, h3.trans g3.symm⟩

/-- Going on: pages so far, the last of them, where their frames end. -/
def Go (bs : List Int) (z x : Pg) (n : Nat) : Prop :=
  ∃ l : List Pg, (∀ y ∈ l, Ok y) ∧ Fm.cat (l.map enc) <+: bs ∧ n = (Fm.cat (l.map enc)).length ∧ x = l.getLast?.getD z

theorem go_start (bs : List Int) (z : Pg) : Go bs z z 0 := ⟨[], by simp, by simp [Fm.cat], by simp [Fm.cat], rfl⟩

theorem go_le {bs : List Int} {z x : Pg} {n : Nat} (h : Go bs z x n) : n ≤ bs.length := by
  obtain ⟨l, h1, h2, h3, h4⟩ := h
  rw [h3]
  exact h2.length_le

theorem go_next {bs r : List Int} {z x y : Pg} {n m : Nat} (h : Go bs z x n) (hr : Fm.Rd (bs.drop n) r m 0) (hd : Dc r y 0) : Go bs z y (n + m) ∧ 1 ≤ m := by
  obtain ⟨l, h1, h2, h3, h4⟩ := h
  rcases hr with ⟨_, g1, g2, g3⟩ | ⟨h0, _⟩
  · rcases hd with ⟨_, k1, k2⟩ | ⟨h0, _⟩
    · subst h3 k2
      obtain ⟨e1, e2⟩ := Fm.sc_next h2 g3
      refine ⟨⟨l ++ [y], ?_, by simpa using e1, by rw [List.map_append, List.map_cons, List.map_nil, e2, g2], by simp⟩, ?_⟩
      · intro q hq
        rcases List.mem_append.1 hq with hq | hq
        · exact h1 q hq
        · simp at hq; subst hq; exact k1
      · have := Vm.sz_pos (enc y).length
        omega
    · cases h0
  · cases h0

theorem go_stop {bs r : List Int} {z x : Pg} {n m : Nat} (h : Go bs z x n) (hr : Fm.Rd (bs.drop n) r m 5) : Ls bs z x n := by
  obtain ⟨l, h1, h2, h3, h4⟩ := h
  refine ⟨l, h1, h2, h3, h4, fun y hy => ?_⟩
  rcases hr with ⟨h0, _⟩ | ⟨_, _, _, h5⟩
  · cases h0
  · exact h5 _ (by have := enc_len hy; omega)

theorem go_else {bs r : List Int} {z x y : Pg} {n m : Nat} (h : Go bs z x n) (hr : Fm.Rd (bs.drop n) r m 0) (hd : Dc r y 5) : Ls bs z x n := by
  obtain ⟨l, h1, h2, h3, h4⟩ := h
  refine ⟨l, h1, h2, h3, h4, fun q hq hp => ?_⟩
  rcases hr with ⟨_, _, _, g3⟩ | ⟨h0, _⟩
  · rcases hd with ⟨h0, _⟩ | ⟨_, _, k2⟩
    · cases h0
    · exact k2 q hq (Fm.frm_one g3 hp)
  · cases h0

/-- A first part of pages' frames: those that lie in it whole. -/
theorem ls_cut {l : List Pg} {z : Pg} {k n : Nat} (hw : ∀ y ∈ l, Ok y) (hn : n ≤ l.length) (hk : (Fm.cat ((l.take n).map enc)).length ≤ k) (hk' : n < l.length → k < (Fm.cat ((l.take (n + 1)).map enc)).length) (hkl : k ≤ (Fm.cat (l.map enc)).length) :
    Ls ((Fm.cat (l.map enc)).take k) z ((l.take n).getLast?.getD z) (Fm.cat ((l.take n).map enc)).length := by
  have := Fm.sc_cut (l := l.map enc) (k := k) (n := n) (by
    intro r hr
    obtain ⟨y, hy, rfl⟩ := List.mem_map.1 hr
    have := enc_len (hw y hy)
    omega) (by simpa using hn) (by rw [← List.map_take]; exact hk) (by intro h; rw [← List.map_take]; exact hk' (by simpa using h)) hkl
  obtain ⟨_, h2, h3⟩ := this
  rw [← List.map_take] at h2 h3
  exact ⟨l.take n, fun y hy => hw y (List.mem_of_mem_take hy), h2, rfl, rfl, fun y hy => h3 _ (by have := enc_len hy; omega)⟩

end Pm
end Go.Proofs.Ytjaiemdefngbbaa

/- Messages, by mathematics: which may be, their bytes, what Decode answers. No program. -/
namespace Go.Proofs.Ytjaiemdefngbbaa.Mm
set_option linter.unusedVariables false

/-- A message: kind, epoch, role, end, starts, from, prev, commits. -/
structure Msg where
  k : Int
  e : Int
  r : Int
  n : Int
  ss : List Sm.S
  f : Int
  p : Int
  cs : List Cm.Cv

/-- Nothing in it. -/
def no : Msg := ⟨0, 0, 0, 0, [], 0, 0, []⟩

def Hel (m : Msg) : Prop := 1 ≤ m.r ∧ m.r ≤ 3 ∧ Sm.Ok m.ss m.n ∧ Sm.lst m.ss ≤ m.e ∧ m.f = 0 ∧ m.p = 0 ∧ m.cs = []
def Shp (m : Msg) : Prop := 1 ≤ m.f ∧ m.f ≤ 1048576 ∧ 0 ≤ m.p ∧ m.p ≤ m.e ∧ (m.p = 0 ↔ m.f = 1) ∧ m.cs.length ≤ 4 ∧ (∀ c ∈ m.cs, c.e ≤ m.e) ∧ Cm.Good m.p (m.f - 1) m.cs ∧ m.r = 0 ∧ m.n = 0 ∧ m.ss = []
def Ack (m : Msg) : Prop := 0 ≤ m.n ∧ m.n ≤ 1048576 ∧ m.r = 0 ∧ m.ss = [] ∧ m.f = 0 ∧ m.p = 0 ∧ m.cs = []

/-- A message that may be. -/
def Ok (m : Msg) : Prop := 1 ≤ m.e ∧ m.e ≤ 1048576 ∧ ((m.k = 1 ∧ Hel m) ∨ (m.k = 2 ∧ Shp m) ∨ (m.k = 3 ∧ Ack m))

/-- What Check answers. -/
def Ck (m : Msg) (c : Int) : Prop := (c = 0 ∧ Ok m) ∨ (c = 2 ∧ ¬ Ok m)

theorem ck_one {m : Msg} {c d : Int} (h : Ck m c) (h' : Ck m d) : c = d := by
  rcases h with ⟨rfl, h⟩ | ⟨rfl, h⟩ <;> rcases h' with ⟨rfl, g⟩ | ⟨rfl, g⟩
  · rfl
  · exact absurd h g
  · exact absurd g h
  · rfl

theorem not_no : ¬ Ok no := fun h => by have := h.1; simp [no] at this

/-- Starts as numbers. -/
def fl : List Sm.S → List Int
  | [] => []
  | s :: l => s.1 :: s.2 :: fl l

theorem fl_len : ∀ l : List Sm.S, (fl l).length = 2 * l.length
  | [] => rfl
  | s :: l => by simp [fl, fl_len l]; omega

theorem fl_app : ∀ l m : List Sm.S, fl (l ++ m) = fl l ++ fl m
  | [], m => rfl
  | s :: l, m => by simp [fl, fl_app l m]

theorem fl_one : ∀ {l m : List Sm.S}, fl l = fl m → l = m
  | [], [], _ => rfl
  | [], _ :: _, h => by simp [fl] at h
  | _ :: _, [], h => by simp [fl] at h
  | (a, b) :: l, (c, d) :: m, h => by
    simp [fl] at h
    obtain ⟨rfl, rfl, h⟩ := h
    rw [fl_one h]

/-- The numbers ahead of a message's commits. -/
def hd (m : Msg) : List Int :=
  if m.k = 1 then [m.k, m.e, m.r, m.n, (m.ss.length : Int)] ++ fl m.ss else if m.k = 2 then [m.k, m.e, m.f, m.p, (m.cs.length : Int)] else [m.k, m.e, m.n]

theorem hd_1 {m : Msg} (h : m.k = 1) : hd m = [m.k, m.e, m.r, m.n, (m.ss.length : Int)] ++ fl m.ss := by unfold hd; rw [if_pos h]
theorem hd_2 {m : Msg} (h : m.k = 2) : hd m = [m.k, m.e, m.f, m.p, (m.cs.length : Int)] := by unfold hd; rw [if_neg (by omega), if_pos h]
theorem hd_3 {m : Msg} (h : m.k = 3) : hd m = [m.k, m.e, m.n] := by unfold hd; rw [if_neg (by omega), if_neg (by omega)]

/-- A commit's bytes. -/
def cb (c : Cm.Cv) : List Int := Cm.encC c.e c.n c.l

/-- A message's bytes. -/
def enc (m : Msg) : List Int := Pm.encs (hd m) ++ Fm.cat (m.cs.map cb)

theorem encs_nil {l : List Int} (h : Pm.encs l <+: []) : l = [] := by
  cases l with
  | nil => rfl
  | cons x l => exact absurd ((List.prefix_append _ _).trans h) (Vm.pre_nil _)

/-- Numbers whose bytes begin other numbers' bytes begin these. -/
theorem encs_pfx : ∀ {l L : List Int}, (∀ z ∈ l, 0 ≤ z) → (∀ z ∈ L, 0 ≤ z) → Pm.encs l <+: Pm.encs L → l <+: L
  | [], L, _, _, _ => List.nil_prefix
  | x :: l, [], _, _, h => by have := encs_nil h; cases this
  | x :: l, y :: L, hx, hy, h => by
    have h2 : Vm.enc x.toNat <+: Pm.encs (y :: L) := (List.prefix_append _ _).trans h
    have e := Vm.pre_one _ _ _ h2 (List.prefix_append _ _)
    have ex : x = y := by
      have := hx x (by simp)
      have := hy y (by simp)
      omega
    subst ex
    have h3 : Pm.encs l <+: Pm.encs L := by
      have := Fm.drop_pre (a := Vm.enc x.toNat) (b := Pm.encs l) h
      simpa [Pm.encs] using this
    have := encs_pfx (fun z hz => hx z (by simp [hz])) (fun z hz => hy z (by simp [hz])) h3
    exact (List.cons_prefix_cons).2 ⟨rfl, this⟩

theorem encs_both {l L bs : List Int} (hl : ∀ z ∈ l, 0 ≤ z) (hL : ∀ z ∈ L, 0 ≤ z) (h : Pm.encs l <+: bs) (h' : Pm.encs L <+: bs) : l <+: L ∨ L <+: l := by
  rcases List.prefix_or_prefix_of_prefix h h' with g | g
  · exact .inl (encs_pfx hl hL g)
  · exact .inr (encs_pfx hL hl g)

/-- A start's numbers lie within their bounds. -/
theorem up_bounds : ∀ (l : List Sm.S) (en e f : Int), 0 ≤ e → 0 ≤ f → en ≤ 1048576 → Sm.Up en e f l → ∀ z ∈ fl l, 0 ≤ z ∧ z ≤ 1048576
  | [], _, _, _, _, _, _, _, z, hz => by simp [fl] at hz
  | (a, b) :: l, en, e, f, he, hf, hen, ⟨h1, h2, h3, h4, h5⟩, z, hz => by
    simp [fl] at hz
    simp at h1 h2 h3 h4
    rcases hz with rfl | rfl | hz
    · omega
    · omega
    · exact up_bounds l en a b (by omega) (by omega) hen h5 z hz

theorem up_len : ∀ (l : List Sm.S) (en e f : Int), 0 ≤ f → Sm.Up en e f l → (l.length : Int) ≤ max 0 (en - f)
  | [], _, _, _, _, _ => by simp; omega
  | (a, b) :: l, en, e, f, hf, ⟨h1, h2, h3, h4, h5⟩ => by
    have := up_len l en a b (by simp at h3; omega) h5
    simp at h3 h4 ⊢
    omega

/-- What the numbers of a message that may be are. -/
theorem hd_ok {m : Msg} (h : Ok m) : (∀ z ∈ hd m, 0 ≤ z ∧ z ≤ 1048576) ∧ 3 ≤ (hd m).length ∧ (hd m).getD 0 0 = m.k ∧ (hd m).getD 1 0 = m.e ∧ 1 ≤ m.k ∧ m.k ≤ 3 ∧
    (m.k = 1 → 5 ≤ (hd m).length ∧ (hd m).getD 2 0 = m.r ∧ m.r ≤ 3 ∧ (hd m).getD 3 0 = m.n ∧ (hd m).getD 4 0 = (m.ss.length : Int) ∧ (hd m).length = 5 + 2 * m.ss.length) ∧
    (m.k = 2 → (hd m).length = 5 ∧ (hd m).getD 2 0 = m.f ∧ (hd m).getD 3 0 = m.p ∧ (hd m).getD 4 0 = (m.cs.length : Int) ∧ m.cs.length ≤ 4) ∧
    (m.k = 3 → (hd m).length = 3 ∧ (hd m).getD 2 0 = m.n) := by
  obtain ⟨e1, e2, hk⟩ := h
  rcases hk with ⟨k1, h1, h2, ⟨o1, o2, o3, o4, o5⟩, h4, h5, h6, h7⟩ | ⟨k2, h1, h2, h3, h4, h5, h6, h7, h8, h9, h10, h11⟩ | ⟨k3, h1, h2, h3, h4, h5, h6, h7⟩
  · rw [hd_1 k1]
    have hln := up_len m.ss m.n 0 0 (by omega) o4
    refine ⟨fun z hz => ?_, by simp, by simp, by simp, by omega, by omega, fun _ => ⟨by simp, by simp, h2, by simp, by simp, by simp [fl_len]; omega⟩, fun h => by omega, fun h => by omega⟩
    rcases List.mem_append.1 hz with hz | hz
    · simp at hz
      rcases hz with rfl | rfl | rfl | rfl | rfl <;> omega
    · exact up_bounds m.ss m.n 0 0 (by omega) (by omega) o2 o4 z hz
  · rw [hd_2 k2]
    refine ⟨fun z hz => ?_, by simp, by simp, by simp, by omega, by omega, fun h => by omega, fun _ => ⟨by simp, by simp, by simp, by simp, h6⟩, fun h => by omega⟩
    simp at hz
    rcases hz with rfl | rfl | rfl | rfl | rfl <;> omega
  · rw [hd_3 k3]
    refine ⟨fun z hz => ?_, by simp, by simp, by simp, by omega, by omega, fun h => by omega, fun h => by omega, fun _ => ⟨by simp, by simp⟩⟩
    simp at hz
    rcases hz with rfl | rfl | rfl <;> omega

theorem hd_pos {m : Msg} (h : Ok m) : ∀ z ∈ hd m, 0 ≤ z := fun z hz => ((hd_ok h).1 z hz).1

theorem pfx_at {l L : List Int} (h : l <+: L) {i : Nat} (hi : i < l.length) : L.getD i 0 = l.getD i 0 := by
  obtain ⟨t, rfl⟩ := h
  simp [List.getD_eq_getElem?_getD, List.getElem?_append_left hi]

/-- No message's numbers begin another's. -/
theorem hd_free {m m' : Msg} (h : Ok m) (h' : Ok m') (hp : hd m <+: hd m') : hd m = hd m' := by
  obtain ⟨_, a1, a2, a3, a4, a5, a6, a7, a8⟩ := hd_ok h
  obtain ⟨_, b1, b2, b3, b4, b5, b6, b7, b8⟩ := hd_ok h'
  have e0 := pfx_at hp (i := 0) (by omega)
  rw [a2, b2] at e0
  refine hp.eq_of_length ?_
  have : m.k = 1 ∨ m.k = 2 ∨ m.k = 3 := by omega
  rcases this with k | k | k
  · have a := a6 k
    have b := b6 (by omega)
    have e4 := pfx_at hp (i := 4) (by omega)
    rw [a.2.2.2.2.1, b.2.2.2.2.1] at e4
    omega
  · have a := a7 k
    have b := b7 (by omega)
    omega
  · have a := a8 k
    have b := b8 (by omega)
    omega

theorem cat_one' : ∀ {l m : List (List Int)} {bs : List Int}, l.length = m.length → Fm.cat l <+: bs → Fm.cat m <+: bs → l = m
  | [], [], _, _, _, _ => rfl
  | [], _ :: _, _, h, _, _ => by simp at h
  | _ :: _, [], _, h, _, _ => by simp at h
  | x :: l, y :: m, bs, h, h1, h2 => by
    have e := Fm.frm_one ((List.prefix_append _ _).trans h1) ((List.prefix_append _ _).trans h2)
    subst e
    rw [cat_one' (by simpa using h) (Fm.drop_pre h1) (Fm.drop_pre h2)]

theorem good_chk : ∀ {l : List Cm.Cv} {ep nu : Int}, Cm.Good ep nu l → ∀ c ∈ l, Cm.chk c.e c.n c.l = 0
  | [], _, _, _, c, hc => by simp at hc
  | d :: l, _, _, ⟨h1, _, _, h4⟩, c, hc => by
    rcases List.mem_cons.1 hc with rfl | hc
    · exact h1
    · exact good_chk h4 c hc

theorem cb_one : ∀ {l m : List Cm.Cv}, (∀ c ∈ l, Cm.chk c.e c.n c.l = 0) → (∀ c ∈ m, Cm.chk c.e c.n c.l = 0) → l.map cb = m.map cb → l = m
  | [], [], _, _, _ => rfl
  | [], _ :: _, _, _, h => by simp at h
  | _ :: _, [], _, _, h => by simp at h
  | c :: l, d :: m, h1, h2, h => by
    simp at h
    obtain ⟨e1, e2, e3⟩ := Cm.encC_one (h1 c (by simp)) (h2 d (by simp)) h.1
    have : c = d := by cases c; cases d; simp at e1 e2 e3; simp [e1, e2, e3]
    subst this
    rw [cb_one (fun x hx => h1 x (by simp [hx])) (fun x hx => h2 x (by simp [hx])) h.2]

theorem ok_cs {m : Msg} (h : Ok m) : ∀ c ∈ m.cs, Cm.chk c.e c.n c.l = 0 := by
  rcases h.2.2 with ⟨_, _, _, _, _, _, _, h7⟩ | ⟨_, _, _, _, _, _, _, _, h8, _⟩ | ⟨_, _, _, _, _, _, _, h7⟩
  · rw [h7]; simp
  · exact good_chk h8
  · rw [h7]; simp

/-- Two messages whose bytes begin one list are one. -/
theorem enc_pre {m m' : Msg} {bs : List Int} (h : Ok m) (h' : Ok m') (h1 : enc m <+: bs) (h2 : enc m' <+: bs) : m = m' := by
  have g1 : Pm.encs (hd m) <+: bs := (List.prefix_append _ _).trans h1
  have g2 : Pm.encs (hd m') <+: bs := (List.prefix_append _ _).trans h2
  have e : hd m = hd m' := by
    rcases encs_both (hd_pos h) (hd_pos h') g1 g2 with g | g
    · exact hd_free h h' g
    · exact (hd_free h' h g).symm
  have hcl : m.cs.length = m'.cs.length → m.cs = m'.cs := fun hl => by
    have c1 := Fm.drop_pre h1
    have c2 := Fm.drop_pre h2
    rw [← e] at c2
    exact cb_one (ok_cs h) (ok_cs h') (cat_one' (by simpa using hl) c1 c2)
  obtain ⟨_, _, a2, a3, a4, a5, a6, a7, a8⟩ := hd_ok h
  obtain ⟨_, _, b2, b3, b4, b5, b6, b7, b8⟩ := hd_ok h'
  rw [e] at a2 a3
  have ek : m.k = m'.k := a2.symm.trans b2
  have ee : m.e = m'.e := a3.symm.trans b3
  rcases h.2.2 with ⟨k, hh⟩ | ⟨k, hh⟩ | ⟨k, hh⟩
  · rcases h'.2.2 with ⟨k', gg⟩ | ⟨k', gg⟩ | ⟨k', gg⟩
    · have e2 := e
      rw [hd_1 k, hd_1 k'] at e2
      simp at e2
      have ess := fl_one e2.2.2.2.2.2
      obtain ⟨_, _, _, _, f1, p1, c1⟩ := hh
      obtain ⟨_, _, _, _, f2, p2, c2⟩ := gg
      cases m; cases m'
      simp at *
      exact ⟨ek, ee, e2.2.2.1, e2.2.2.2.1, ess, by omega, by omega, by rw [c1, c2]⟩
    · omega
    · omega
  · rcases h'.2.2 with ⟨k', gg⟩ | ⟨k', gg⟩ | ⟨k', gg⟩
    · omega
    · have e2 := e
      rw [hd_2 k, hd_2 k'] at e2
      simp at e2
      have ecs := hcl (by omega)
      obtain ⟨_, _, _, _, _, _, _, _, r1, n1, s1⟩ := hh
      obtain ⟨_, _, _, _, _, _, _, _, r2, n2, s2⟩ := gg
      cases m; cases m'
      simp at *
      exact ⟨ek, ee, by omega, by omega, by rw [s1, s2], e2.2.2.1, e2.2.2.2.1, ecs⟩
    · omega
  · rcases h'.2.2 with ⟨k', gg⟩ | ⟨k', gg⟩ | ⟨k', gg⟩
    · omega
    · omega
    · have e2 := e
      rw [hd_3 k, hd_3 k'] at e2
      simp at e2
      obtain ⟨_, _, r1, s1, f1, p1, c1⟩ := hh
      obtain ⟨_, _, r2, s2, f2, p2, c2⟩ := gg
      cases m; cases m'
      simp at *
      exact ⟨ek, ee, by omega, e2.2.2, by rw [s1, s2], by omega, by omega, by rw [c1, c2]⟩

/-- What Decode answers. -/
def Dc (bs : List Int) (m : Msg) (g : Int) : Prop :=
  (g = 0 ∧ Ok m ∧ bs = enc m) ∨ (g = 5 ∧ m = no ∧ ∀ m', Ok m' → bs ≠ enc m')

theorem dc_one {bs : List Int} {m m' : Msg} {g g' : Int} (h : Dc bs m g) (h' : Dc bs m' g') : m = m' ∧ g = g' := by
  rcases h with ⟨rfl, h1, h2⟩ | ⟨rfl, rfl, h2⟩ <;> rcases h' with ⟨rfl, g1, g2⟩ | ⟨rfl, rfl, g2⟩
  · exact ⟨enc_pre h1 g1 (bs := bs) (by rw [h2]; exact List.prefix_refl _) (by rw [g2]; exact List.prefix_refl _), rfl⟩
  · exact absurd h2 (g2 m h1)
  · exact absurd g2 (h2 m' g1)
  · exact ⟨rfl, rfl⟩

theorem dc_enc {m : Msg} (h : Ok m) : Dc (enc m) m 0 := .inl ⟨rfl, h, rfl⟩

/-- A message's bytes that are cut are none's. -/
theorem dc_cut {m : Msg} {k : Nat} (h : Ok m) (hk : k < (enc m).length) : Dc ((enc m).take k) no 5 := by
  refine .inr ⟨rfl, rfl, fun m' h' e => ?_⟩
  have := enc_pre h' h (bs := enc m) (by rw [← e]; exact List.take_prefix _ _) (List.prefix_refl _)
  subst this
  have := congrArg List.length e
  rw [List.length_take] at this
  omega

/-- Nor with bytes behind them. -/
theorem dc_more {m : Msg} {t : List Int} (h : Ok m) (ht : t ≠ []) : Dc (enc m ++ t) no 5 := by
  refine .inr ⟨rfl, rfl, fun m' h' e => ?_⟩
  have := enc_pre h h' (bs := enc m') (by rw [← e]; exact List.prefix_append _ _) (List.prefix_refl _)
  subst this
  have := congrArg List.length e
  rw [List.length_append] at this
  exact ht (List.eq_nil_of_length_eq_zero (by omega))

/-- Behind some numbers: the next is none that a message has there. -/
theorem dc_stop {bs l : List Int} {mx : Nat} (hp : ∀ z ∈ l, 0 ≤ z) (h : Pm.encs l <+: bs) (hn : ∀ u : Nat, u ≤ mx → ¬ Vm.enc u <+: bs.drop (Pm.encs l).length)
    (hq : ∀ m, Ok m → (l <+: hd m ∨ hd m <+: l) → l.length < (hd m).length ∧ (hd m).getD l.length 0 ≤ mx) : Dc bs no 5 := by
  refine .inr ⟨rfl, rfl, fun m hm e => ?_⟩
  have h2 : Pm.encs (hd m) <+: bs := by rw [e]; exact List.prefix_append _ _
  have hc := encs_both hp (hd_pos hm) h h2
  obtain ⟨q1, q2⟩ := hq m hm hc
  have hl : l <+: hd m := by
    rcases hc with hc | hc
    · exact hc
    · have := hc.length_le; omega
  obtain ⟨t, ht⟩ := hl
  cases t with
  | nil => rw [List.append_nil] at ht; rw [ht] at q1; omega
  | cons x t =>
    have hx : (hd m).getD l.length 0 = x := by rw [← ht]; simp [List.getD_eq_getElem?_getD]
    rw [hx] at q2
    have hx0 : 0 ≤ x := hd_pos hm x (by rw [← ht]; simp)
    refine hn x.toNat (by omega) ?_
    have e2 : bs = Pm.encs l ++ (Vm.enc x.toNat ++ (Pm.encs t ++ Fm.cat (m.cs.map cb))) := by
      rw [e]
      unfold enc
      rw [← ht, Pm.encs_app]
      simp [Pm.encs]
    rw [e2, List.drop_left]
    exact List.prefix_append _ _

end Go.Proofs.Ytjaiemdefngbbaa.Mm

/- The contracts of the document's reader: Small, Bytes. -/
namespace Go.Proofs.Ytjaiemdefngbbaa
open Go.RowKit
set_option linter.unusedVariables false

theorem Try.elemB : Try.prog.underlying 22 = some (.slice (Try.prog.elem 22)) := by kernel_rfl
theorem Try.sizeE (wx : World) : (sizeOf (Try.prog.elem 22)).run Try.prog wx = .ok 1 wx := by kernel_rfl

/-- A reader in block g: of the bytes bs (they lie where w0 has them), at a place, bad or not. -/
def Rdr (w0 w : World) (g : Nat) (vb : Value) (bs : List Int) (a : Nat) (bad : Bool) : Prop :=
  Is .u8 w0 vb bs ∧ w0.heap.size ≤ g ∧ Below w0.heap.size w0 w ∧ w.heap[g]? = some (.cells #[vb, .int .i64 a, .bool bad] 72 (0, 0)) ∧ a ≤ bs.length

theorem Rdr.lt {w0 w : World} {g a : Nat} {vb : Value} {bs : List Int} {bad : Bool} (h : Rdr w0 w g vb bs a bad) : g < w.heap.size := by
  rcases Nat.lt_or_ge g w.heap.size with h' | h'
  · exact h'
  · have := h.2.2.2.1
    simp [Array.getElem?_eq_none h'] at this

theorem Rdr.is {w0 w : World} {g a : Nat} {vb : Value} {bs : List Int} {bad : Bool} (h : Rdr w0 w g vb bs a bad) : Is .u8 w vb bs := h.1.below h.2.2.1

theorem Rdr.below {w0 w w' : World} {g a : Nat} {vb : Value} {bs : List Int} {bad : Bool} (h : Rdr w0 w g vb bs a bad) (hb : Below w.heap.size w w') : Rdr w0 w' g vb bs a bad := by
  have hl := h.lt
  have hs := h.2.2.1.size
  exact ⟨h.1, h.2.1, h.2.2.1.trans (hb.mono hs), (hb.block g hl).trans h.2.2.2.1, h.2.2.2.2⟩

theorem Rdr.cell0 {w0 w : World} {g a : Nat} {vb : Value} {bs : List Int} {bad : Bool} (h : Rdr w0 w g vb bs a bad) : w.cell? ⟨g, 0, none⟩ = some vb := by simp [World.cell?, h.2.2.2.1]
theorem Rdr.cell1 {w0 w : World} {g a : Nat} {vb : Value} {bs : List Int} {bad : Bool} (h : Rdr w0 w g vb bs a bad) : w.cell? ⟨g, 1, none⟩ = some (.int .i64 a) := by simp [World.cell?, h.2.2.2.1]
theorem Rdr.cell2 {w0 w : World} {g a : Nat} {vb : Value} {bs : List Int} {bad : Bool} (h : Rdr w0 w g vb bs a bad) : w.cell? ⟨g, 2, none⟩ = some (.bool bad) := by simp [World.cell?, h.2.2.2.1]
theorem Rdr.froz {w0 w : World} {g a : Nat} {vb : Value} {bs : List Int} {bad : Bool} (h : Rdr w0 w g vb bs a bad) (j : Nat) : w.frozen? ⟨g, j, none⟩ = false := by simp [World.frozen?, h.2.2.2.1]

theorem Rdr.put1 {w0 w : World} {g a : Nat} {vb : Value} {bs : List Int} {bad : Bool} (h : Rdr w0 w g vb bs a bad) (a' : Nat) (ha : a' ≤ bs.length) : Rdr w0 (w.setCell ⟨g, 1, none⟩ (.int .i64 a')) g vb bs a' bad :=
  ⟨h.1, h.2.1, h.2.2.1.setCell (p := ⟨g, 1, none⟩) h.2.1 _, by rw [set_cells h.2.2.2.1]; rfl, ha⟩
theorem Rdr.put2 {w0 w : World} {g a : Nat} {vb : Value} {bs : List Int} {bad : Bool} (h : Rdr w0 w g vb bs a bad) (bad' : Bool) : Rdr w0 (w.setCell ⟨g, 2, none⟩ (.bool bad')) g vb bs a bad' :=
  ⟨h.1, h.2.1, h.2.2.1.setCell (p := ⟨g, 2, none⟩) h.2.1 _, by rw [set_cells h.2.2.2.1]; rfl, h.2.2.2.2⟩

/-- What a reader's Small does. -/
def SStep (bs : List Int) (most a : Nat) (bad : Bool) (u a' : Nat) (bad' : Bool) : Prop :=
  (bad = true ∧ bad' = true ∧ u = 0 ∧ a' = a) ∨ (bad = false ∧ bad' = true ∧ u = 0 ∧ a' = a ∧ ∀ x : Nat, x ≤ most → ¬ Vm.enc x <+: bs.drop a) ∨ (bad = false ∧ bad' = false ∧ u ≤ most ∧ Vm.enc u <+: bs.drop a ∧ a' = a + Vm.sz u)

/-- What a reader's Bytes does. -/
def BStep (bs : List Int) (n a : Nat) (bad : Bool) (zs : List Int) (a' : Nat) (bad' : Bool) : Prop :=
  ((bad = true ∨ bs.length - a < n) ∧ bad' = true ∧ zs = [] ∧ a' = a) ∨ (bad = false ∧ n ≤ bs.length - a ∧ bad' = false ∧ zs = (bs.drop a).take n ∧ a' = a + n)

set_option maxHeartbeats 400000 in
theorem rsmall_any (w0 w : World) (g : Nat) (vb : Value) (bs : List Int) (a : Nat) (bad : Bool) (most : Nat) (h : Rdr w0 w g vb bs a bad) (hl : bs.length ≤ 150000000000000) (hm : most < 9223372036854775808) :
    Calls Try.prog 46 #[.pointer (some ⟨g, 0, none⟩), .int .i64 most] w fun E w' => ∃ (u a' : Nat) (bad' : Bool), E = .returned (.int .i64 u) ∧ Rdr w0 w' g vb bs a' bad' ∧ w.grownBy w' (some g) ∧ SStep bs most a bad u a' bad' := by
  have c0 := h.cell0
  have c1 := h.cell1
  have c2 := h.cell2
  have ha := h.2.2.2.2
  cases bad
  · obtain ⟨vs, hsl, isl⟩ := h.is.slice_l Try.elemB Try.sizeE a ha
    obtain ⟨u, i, e, hS⟩ := sres_is (bs.drop a) most
    have hdl : (bs.drop a).length = bs.length - a := by rw [List.length_drop]
    rcases hS with ⟨hR, h1, h2, he⟩ | ⟨hu, hi, he, x, n, f, hR, hcase⟩
    · have hbd := Vm.res_bounds hR
      obtain ⟨un, rfl⟩ : ∃ un : Nat, u = un := ⟨u.toNat, by omega⟩
      obtain ⟨n, rfl⟩ : ∃ n : Nat, i = n := ⟨i.toNat, by omega⟩
      have hG : SStep bs most a false un (a + n) false := by
        rcases hR with ⟨x, hx, hp, h3, h4, _⟩ | ⟨_, _, _, h5⟩
        · have : x = un := by omega
          subst this
          exact .inr (.inr ⟨rfl, rfl, by omega, hp, by omega⟩)
        · simp at h5
      have hS : SRes (bs.drop a) most un n 0 := .inl ⟨hR, h1, h2, rfl⟩
      have HG := hide hG
      have HS := hide hS
      have HH := hide h
      have hn1 : a + n ≤ bs.length := by omega
      have hn2 : n ≤ 10 := by omega
      clear hS hG hR hbd h he h1 h2
      go_enter Try.func46, Try.ntmps46
      go_wp2_with fail
      go_region_with (go_at_call 76; refine (smallR_any _ (bs.drop a) most un n 0 _ (isl.drewN 1) (by omega) (by omega) (by omega) HS.out).mono ?_; rintro E w1 ⟨rfl, bel1'⟩; have bel1 : Below w.heap.size w w1 := ((Below.refl _ _).drew).trans bel1'; have hr := HH.out.below bel1; have k1 := hr.cell1; have f1 := hr.froz 1; have HR := hide hr; clear hr bel1')
      all_goals
        clear isl hsl
        go_wp2
        go_ret
        exact ⟨un, a + n, false, rfl, HR.out.put1 (a + n) hn1, grown_trans (grown_of_below bel1 _) (grown_setCell _ _ _), HG.out⟩
    · have hG : SStep bs most a false 0 a true := by
        refine .inr (.inl ⟨rfl, rfl, rfl, rfl, fun y hy hp => ?_⟩)
        have := Vm.res_good hR (u := y) (by omega) hp
        omega
      have hS : SRes (bs.drop a) most 0 0 5 := .inr ⟨rfl, rfl, rfl, x, n, f, hR, hcase⟩
      have HG := hide hG
      have HS := hide hS
      have HH := hide h
      clear hS hG hR h he hcase hu hi
      go_enter Try.func46, Try.ntmps46
      go_wp2_with fail
      go_region_with (go_at_call 76; refine (smallR_any _ (bs.drop a) most 0 0 5 _ (isl.drewN 1) (by omega) (by omega) (by omega) HS.out).mono ?_; rintro E w1 ⟨rfl, bel1'⟩; have bel1 : Below w.heap.size w w1 := ((Below.refl _ _).drew).trans bel1'; have hr := HH.out.below bel1; have k1 := hr.cell2; have f1 := hr.froz 2; have HR := hide hr; clear hr bel1')
      all_goals
        clear isl hsl
        go_wp2
        go_ret
        exact ⟨0, a, true, rfl, HR.out.put2 true, grown_trans (grown_of_below bel1 _) (grown_setCell _ _ _), HG.out⟩
  · have HH := hide h
    clear h
    go_enter Try.func46, Try.ntmps46
    go_wp2
    go_ret
    exact ⟨0, a, true, rfl, HH.out, World.grownBy.refl _ _, .inl ⟨rfl, rfl, rfl, rfl⟩⟩

set_option maxHeartbeats 400000 in
theorem rbytes_any (w0 w : World) (g : Nat) (vb : Value) (bs : List Int) (a : Nat) (bad : Bool) (n : Nat) (h : Rdr w0 w g vb bs a bad) (hl : bs.length ≤ 150000000000000) (hm : n < 9223372036854775808) :
    Calls Try.prog 78 #[.pointer (some ⟨g, 0, none⟩), .int .i64 n] w fun E w' => ∃ (v : Value) (zs : List Int) (a' : Nat) (bad' : Bool), E = .returned v ∧ Own .u8 5 w.heap.size w' v zs ∧ Rdr w0 w' g vb bs a' bad' ∧ w.grownBy w' (some g) ∧ BStep bs n a bad zs a' bad' := by
  have c0 := h.cell0
  have c1 := h.cell1
  have c2 := h.cell2
  have f1 := h.froz 1
  have f2 := h.froz 2
  have ha := h.2.2.2.2
  have hgl := h.lt
  have hlen := h.is.len_run Try.elemB
  cases bad
  · by_cases hn : n ≤ bs.length - a
    · obtain ⟨vs, hsl, isl⟩ := h.is.slice_lh Try.elemB Try.sizeE a (a + n) (by omega) (by omega)
      rw [show a + n - a = n by omega] at isl
      have hsl2 : ∀ wx, (Instr.slice 22 vb (some (.int .i64 (a : Int))) (some (.int .i64 ((a : Int) + (n : Int)))) none).run Try.prog wx = .ok vs wx := by simpa using hsl
      have hwr : IntKind.i64.wrap ((a : Int) + (n : Int)) = (a : Int) + n := wrap_i64_small _ (by omega) (by omega)
      clear hsl
      have hge : ¬ (bs.length : Int) - a < n := by omega
      have HH := hide h
      have hlt : ((bs.drop a).take n).length = n := by rw [List.length_take, List.length_drop]; omega
      clear h
      go_enter Try.func78, Try.ntmps78
      go_wp2_with fail
      go_quiet (fail)
      have is2 : ∀ m, Is .u8 (w.drewN m) vs ((bs.drop a).take n) := fun m => isl.drewN m
      go_wp2_with fail
      go_region_law (refine step_append_is rfl (.tmp 27) (.tmp 42) 22 rfl .u8 5 w.heap.size 1 Try.underlying22 Try.info5 (by decide) _ [] (by simp [Act.eval, Act.put]) (Own.nil _ _ _ _) _ ((bs.drop a).take n) (by simp [Act.eval, Act.put]) (is2 _) (by simp; omega) (by simp) ?_; intro v3 w3 own3 bel3' _; have bel3 : Below w.heap.size w w3 := (below_drewN (Below.refl _ _) _).trans bel3'; have hr := HH.out.below bel3; have k1 := hr.cell1; have g1 := hr.froz 1; have HR := hide hr; clear hr bel3')
      all_goals
        rw [List.nil_append] at own3
        have own4 := own3.kept (grown_setCell w3 ⟨g, 1, none⟩ (.int .i64 ((a + n : Nat) : Int))) (by
          cases hv : v3.ownBlock with
          | none => exact .inl rfl
          | some b => exact .inr (fun e => by have := own3.block b hv; simp at e; omega))
        clear is2 isl hsl2
        go_wp2
        go_ret
        exact ⟨_, _, a + n, false, rfl, own4, HR.out.put1 (a + n) (by omega), grown_trans (grown_of_below bel3 _) (grown_setCell _ _ _), .inr ⟨rfl, hn, rfl, rfl, rfl⟩⟩
    · have hge : (bs.length : Int) - a < n := by omega
      have HH := hide h
      clear h
      go_enter Try.func78, Try.ntmps78
      go_wp2_with fail
      go_quiet (fail)
      go_wp2
      go_ret
      exact ⟨_, [], a, true, rfl, Own.nil _ _ _ _, (HH.out.below (below_drewN (Below.refl _ _) nq)).put2 true, grown_trans (grown_drewN _ _ _) (grown_setCell _ _ _), .inl ⟨.inr (by omega), rfl, rfl, rfl⟩⟩
  · have HH := hide h
    clear h
    go_enter Try.func78, Try.ntmps78
    go_wp2_with fail
    go_quiet (fail)
    go_wp2
    go_ret
    exact ⟨_, [], a, true, rfl, Own.nil _ _ _ _, (HH.out.below (below_drewN (Below.refl _ _) nq)).put2 true, grown_trans (grown_drewN _ _ _) (grown_setCell _ _ _), .inl ⟨.inl rfl, rfl, rfl, rfl⟩⟩

end Go.Proofs.Ytjaiemdefngbbaa

/- Messages, by mathematics: what a reader of their bytes comes to, step by step. No program. -/
namespace Go.Proofs.Ytjaiemdefngbbaa.Mm
set_option linter.unusedVariables false

/-- A message that has nothing but what its kind has, whatever that is. -/
def Sh (m : Msg) : Prop := (∀ z ∈ hd m, 0 ≤ z) ∧ ((m.k = 1 ∧ m.f = 0 ∧ m.p = 0 ∧ m.cs = []) ∨ (m.k = 2 ∧ m.r = 0 ∧ m.n = 0 ∧ m.ss = [] ∧ ∀ c ∈ m.cs, Cm.chk c.e c.n c.l = 0) ∨ (m.k = 3 ∧ m.r = 0 ∧ m.ss = [] ∧ m.f = 0 ∧ m.p = 0 ∧ m.cs = []))

theorem ok_sh {m : Msg} (h : Ok m) : Sh m := by
  refine ⟨hd_pos h, ?_⟩
  have hc := ok_cs h
  rcases h.2.2 with ⟨k, _, _, _, _, h5, h6, h7⟩ | ⟨k, _, _, _, _, _, _, _, _, h9, h10, h11⟩ | ⟨k, _, _, h3, h4, h5, h6, h7⟩
  · exact .inl ⟨k, h5, h6, h7⟩
  · exact .inr (.inl ⟨k, h9, h10, h11, hc⟩)
  · exact .inr (.inr ⟨k, h3, h4, h5, h6, h7⟩)

theorem sh_k {m : Msg} (h : Sh m) : m.k = 1 ∨ m.k = 2 ∨ m.k = 3 := by
  rcases h.2 with ⟨k, _⟩ | ⟨k, _⟩ | ⟨k, _⟩ <;> simp [k]

theorem sh_cs {m : Msg} (h : Sh m) : ∀ c ∈ m.cs, Cm.chk c.e c.n c.l = 0 := by
  rcases h.2 with ⟨_, _, _, e⟩ | ⟨_, _, _, _, e⟩ | ⟨_, _, _, _, _, e⟩
  · rw [e]; simp
  · exact e
  · rw [e]; simp

theorem hd_sh {m : Msg} (h : m.k = 1 ∨ m.k = 2 ∨ m.k = 3) : 3 ≤ (hd m).length ∧ (hd m).getD 0 0 = m.k ∧ (hd m).getD 1 0 = m.e ∧
    (m.k = 1 → (hd m).length = 5 + 2 * m.ss.length ∧ (hd m).getD 4 0 = (m.ss.length : Int)) ∧ (m.k = 2 → (hd m).length = 5) ∧ (m.k = 3 → (hd m).length = 3) := by
  rcases h with k | k | k
  · rw [hd_1 k]
    exact ⟨by simp, by simp, by simp, fun _ => ⟨by simp [fl_len]; omega, by simp⟩, fun h => by omega, fun h => by omega⟩
  · rw [hd_2 k]
    exact ⟨by simp, by simp, by simp, fun h => by omega, fun _ => by simp, fun h => by omega⟩
  · rw [hd_3 k]
    exact ⟨by simp, by simp, by simp, fun h => by omega, fun h => by omega, fun _ => by simp⟩

theorem sh_free {m m' : Msg} (h : Sh m) (h' : Sh m') (hp : hd m <+: hd m') : hd m = hd m' := by
  obtain ⟨a1, a2, a3, a6, a7, a8⟩ := hd_sh (sh_k h)
  obtain ⟨b1, b2, b3, b6, b7, b8⟩ := hd_sh (sh_k h')
  have e0 := pfx_at hp (i := 0) (by omega)
  rw [a2, b2] at e0
  refine hp.eq_of_length ?_
  rcases sh_k h with k | k | k
  · have a := a6 k
    have b := b6 (by omega)
    have e4 := pfx_at hp (i := 4) (by omega)
    rw [a.2, b.2] at e4
    omega
  · have a := a7 k
    have b := b7 (by omega)
    omega
  · have a := a8 k
    have b := b8 (by omega)
    omega

theorem Msg.eq {a b : Msg} (h1 : a.k = b.k) (h2 : a.e = b.e) (h3 : a.r = b.r) (h4 : a.n = b.n) (h5 : a.ss = b.ss) (h6 : a.f = b.f) (h7 : a.p = b.p) (h8 : a.cs = b.cs) : a = b := by
  cases a; cases b; simp at *; exact ⟨h1, h2, h3, h4, h5, h6, h7, h8⟩

/-- Two such messages whose bytes begin one list are one. -/
theorem sh_pre {m m' : Msg} {bs : List Int} (h : Sh m) (h' : Sh m') (h1 : enc m <+: bs) (h2 : enc m' <+: bs) : m = m' := by
  have g1 : Pm.encs (hd m) <+: bs := (List.prefix_append _ _).trans h1
  have g2 : Pm.encs (hd m') <+: bs := (List.prefix_append _ _).trans h2
  have e : hd m = hd m' := by
    rcases encs_both h.1 h'.1 g1 g2 with g | g
    · exact sh_free h h' g
    · exact (sh_free h' h g).symm
  have hcl : m.cs.length = m'.cs.length → m.cs = m'.cs := fun hl => by
    have c1 := Fm.drop_pre h1
    have c2 := Fm.drop_pre h2
    rw [← e] at c2
    exact cb_one (sh_cs h) (sh_cs h') (cat_one' (by simpa using hl) c1 c2)
  obtain ⟨_, a2, a3, _⟩ := hd_sh (sh_k h)
  obtain ⟨_, b2, b3, _⟩ := hd_sh (sh_k h')
  rw [e] at a2 a3
  have ek : m.k = m'.k := a2.symm.trans b2
  have ee : m.e = m'.e := a3.symm.trans b3
  rcases h.2 with ⟨k, f1, p1, c1⟩ | ⟨k, r1, n1, s1, _⟩ | ⟨k, r1, s1, f1, p1, c1⟩
  · rcases h'.2 with ⟨k', f2, p2, c2⟩ | ⟨k', _⟩ | ⟨k', _⟩
    · have e2 := e
      rw [hd_1 k, hd_1 k'] at e2
      simp at e2
      exact Msg.eq ek ee e2.2.2.1 e2.2.2.2.1 (fl_one e2.2.2.2.2.2) (by omega) (by omega) (by rw [c1, c2])
    · omega
    · omega
  · rcases h'.2 with ⟨k', _⟩ | ⟨k', r2, n2, s2, _⟩ | ⟨k', _⟩
    · omega
    · have e2 := e
      rw [hd_2 k, hd_2 k'] at e2
      simp at e2
      exact Msg.eq ek ee (by omega) (by omega) (by rw [s1, s2]) e2.2.2.1 e2.2.2.2.1 (hcl (by omega))
    · omega
  · rcases h'.2 with ⟨k', _⟩ | ⟨k', _⟩ | ⟨k', r2, s2, f2, p2, c2⟩
    · omega
    · omega
    · have e2 := e
      rw [hd_3 k, hd_3 k'] at e2
      simp at e2
      exact Msg.eq ek ee (by omega) e2.2.2 (by rw [s1, s2]) (by omega) (by omega) (by rw [c1, c2])

/-- In the midst: these numbers stand at the front, or there is no message. -/
def Go (bs l : List Int) (a : Nat) (b : Bool) : Prop :=
  (b = false ∧ (∀ z ∈ l, 0 ≤ z) ∧ Pm.encs l <+: bs ∧ a = (Pm.encs l).length) ∨ (b = true ∧ Dc bs no 5)

theorem go_start (bs : List Int) : Go bs [] 0 false := .inl ⟨rfl, by simp, by simp [Pm.encs], rfl⟩

/-- What a message has behind these numbers is a number, and not above that. -/
def Nx (l : List Int) (mx : Nat) : Prop := ∀ m, Ok m → (l <+: hd m ∨ hd m <+: l) → l.length < (hd m).length ∧ (hd m).getD l.length 0 ≤ mx

theorem go_step {bs l : List Int} {a u a' mx : Nat} {b b' : Bool} (h : Go bs l a b) (s : SStep bs mx a b u a' b') (hq : Nx l mx) : Go bs (l ++ [(u : Int)]) a' b' := by
  rcases h with ⟨rfl, h1, h2, rfl⟩ | ⟨rfl, h⟩
  · rcases s with ⟨h, _⟩ | ⟨_, rfl, _, _, h⟩ | ⟨_, rfl, _, h3, rfl⟩
    · simp at h
    · exact .inr ⟨rfl, dc_stop h1 h2 h hq⟩
    · refine .inl ⟨rfl, fun z hz => ?_, ?_, ?_⟩
      · rcases List.mem_append.1 hz with hz | hz
        · exact h1 z hz
        · simp at hz; omega
      · rw [Pm.encs_app]
        refine Fm.pre_drop h2 ?_
        simpa [Pm.encs] using h3
      · rw [Pm.encs_app, List.length_append]
        simp [Pm.encs, Vm.sz]
  · rcases s with ⟨_, rfl, _⟩ | ⟨h, _⟩ | ⟨h, _⟩
    · exact .inr ⟨rfl, h⟩
    · simp at h
    · simp at h

/-- Numbers that begin a message's tell its kind. -/
theorem pfx_k {l : List Int} {k : Int} {m : Msg} (hm : Ok m) (h : (k :: l) <+: hd m ∨ hd m <+: (k :: l)) : m.k = k := by
  obtain ⟨a1, a2, _⟩ := hd_sh (sh_k (ok_sh hm))
  rcases h with h | h
  · have := pfx_at h (i := 0) (by simp)
    rw [a2] at this
    simpa using this
  · have := pfx_at h (i := 0) (by omega)
    rw [a2] at this
    simpa using this.symm

theorem nx_le {l : List Int} {mx : Nat} (hmx : 1048576 ≤ mx) (h : ∀ m, Ok m → (l <+: hd m ∨ hd m <+: l) → l.length < (hd m).length) : Nx l mx := fun m hm hp => by
  have hl := h m hm hp
  refine ⟨hl, ?_⟩
  have : (hd m).getD l.length 0 ∈ hd m := by rw [List.getD_eq_getElem?_getD, List.getElem?_eq_getElem hl]; simp
  have := ((hd_ok hm).1 _ this).2
  omega

theorem nx_0 : Nx [] 3 := fun m hm _ => by
  obtain ⟨_, h3, h0, _, h1, h2, _⟩ := hd_ok hm
  exact ⟨by simp; omega, by simp only [List.length_nil]; rw [h0]; omega⟩

theorem nx_1 (k : Int) : Nx [k] 1048576 := nx_le (by omega) fun m hm _ => by have := (hd_ok hm).2.1; simp; omega

theorem nx_no (e : Int) (l : List Int) (mx : Nat) : Nx (0 :: l) mx := fun m hm hp => by
  have := pfx_k hm hp
  have := sh_k (ok_sh hm)
  omega

theorem nx_3 (e : Int) : Nx [3, e] 1048576 := nx_le (by omega) fun m hm _ => by have := (hd_ok hm).2.1; simp; omega

theorem nx_12 (e : Int) : Nx [1, e] 3 := fun m hm hp => by
  have hk := pfx_k hm hp
  obtain ⟨_, h3, _, _, _, _, h6, _⟩ := hd_ok hm
  obtain ⟨_, h7, h8, _⟩ := h6 hk
  refine ⟨by simp; omega, ?_⟩
  simp only [List.length_cons, List.length_nil]
  rw [h7]
  exact h8

theorem nx_13 (e r : Int) : Nx [1, e, r] 1048576 := nx_le (by omega) fun m hm hp => by
  have := ((hd_ok hm).2.2.2.2.2.2.1 (pfx_k hm hp)).1
  simp; omega
theorem nx_14 (e r n : Int) : Nx [1, e, r, n] 1048576 := nx_le (by omega) fun m hm hp => by
  have := ((hd_ok hm).2.2.2.2.2.2.1 (pfx_k hm hp)).1
  simp; omega

theorem nx_15 (e r n : Int) (c : Nat) (fs : List Int) (hf : fs.length < 2 * c) : Nx ([1, e, r, n, (c : Int)] ++ fs) 1048576 := nx_le (by omega) fun m hm hp => by
  have hk := pfx_k hm (by simpa using hp)
  obtain ⟨h5, _, _, _, h4, hl⟩ := (hd_ok hm).2.2.2.2.2.2.1 hk
  have e4 : (hd m).getD 4 0 = (c : Int) := by
    rcases hp with hp | hp
    · have := pfx_at hp (i := 4) (by simp)
      simpa using this
    · have := pfx_at hp (i := 4) (by omega)
      simpa using this.symm
  rw [h4] at e4
  simp
  omega

theorem nx_22 (e : Int) : Nx [2, e] 1048576 := nx_le (by omega) fun m hm _ => by have := (hd_ok hm).2.1; simp; omega
theorem nx_23 (e f : Int) : Nx [2, e, f] 1048576 := nx_le (by omega) fun m hm hp => by
  have := ((hd_ok hm).2.2.2.2.2.2.2.1 (pfx_k hm hp)).1
  simp; omega
theorem nx_24 (e f p : Int) : Nx [2, e, f, p] 4 := fun m hm hp => by
  obtain ⟨h1, _, _, h4, h5⟩ := (hd_ok hm).2.2.2.2.2.2.2.1 (pfx_k hm hp)
  refine ⟨by simp; omega, ?_⟩
  simp only [List.length_cons, List.length_nil]
  rw [h4]
  omega

/-- In the midst of the commits. -/
def GoC (bs l : List Int) (cs : List Cm.Cv) (a : Nat) (b : Bool) : Prop :=
  (b = false ∧ (∀ z ∈ l, 0 ≤ z) ∧ (∀ c ∈ cs, Cm.chk c.e c.n c.l = 0) ∧ Pm.encs l ++ Fm.cat (cs.map cb) <+: bs ∧ a = (Pm.encs l ++ Fm.cat (cs.map cb)).length) ∨ (b = true ∧ Dc bs no 5)

theorem Go.c {bs l : List Int} {a : Nat} {b : Bool} (h : Go bs l a b) : GoC bs l [] a b := by
  rcases h with ⟨rfl, h1, h2, h3⟩ | h
  · exact .inl ⟨rfl, h1, by simp, by simpa [Fm.cat] using h2, by simpa [Fm.cat] using h3⟩
  · exact .inr h

/-- What reading one commit does. -/
def CStep (bs : List Int) (a : Nat) (b : Bool) (c : Cm.Cv) (a' : Nat) (b' : Bool) : Prop :=
  (b = true ∧ b' = true) ∨ (b = false ∧ b' = true ∧ ∀ c' : Cm.Cv, Cm.chk c'.e c'.n c'.l = 0 → ¬ Fm.frm (cb c') <+: bs.drop a) ∨ (b = false ∧ b' = false ∧ Cm.chk c.e c.n c.l = 0 ∧ Fm.frm (cb c) <+: bs.drop a ∧ a' = a + (Fm.frm (cb c)).length)

theorem cat_snoc (l : List (List Int)) (r : List Int) : Fm.cat (l ++ [r]) = Fm.cat l ++ Fm.frm r := by rw [Fm.cat_app, Fm.cat_one]

theorem goc_step {bs : List Int} {e f p : Int} {n : Nat} {cs : List Cm.Cv} {c : Cm.Cv} {a a' : Nat} {b b' : Bool} (h : GoC bs [2, e, f, p, (n : Int)] cs a b) (s : CStep bs a b c a' b') (hn : cs.length < n) : GoC bs [2, e, f, p, (n : Int)] (cs ++ [c]) a' b' := by
  rcases h with ⟨rfl, h1, h2, h3, rfl⟩ | ⟨rfl, h⟩
  · rcases s with ⟨h, _⟩ | ⟨_, rfl, hx⟩ | ⟨_, rfl, hc, h4, rfl⟩
    · simp at h
    · refine .inr ⟨rfl, .inr ⟨rfl, rfl, fun m hm eb => ?_⟩⟩
      have hl : Pm.encs [2, e, f, p, (n : Int)] <+: bs := (List.prefix_append _ _).trans h3
      have hm1 : Pm.encs (hd m) <+: bs := by rw [eb]; exact List.prefix_append _ _
      have hp := encs_both h1 (hd_pos hm) hl hm1
      have hk := pfx_k hm hp
      obtain ⟨k5, _, _, k4, _⟩ := (hd_ok hm).2.2.2.2.2.2.2.1 hk
      have eh : [2, e, f, p, (n : Int)] = hd m := by
        rcases hp with hp | hp
        · exact hp.eq_of_length (by simp [k5])
        · exact (hp.eq_of_length (by simp [k5])).symm
      have en : (m.cs.length : Int) = n := by rw [← k4, ← eh]; simp
      have hlt : cs.length < m.cs.length := by omega
      have hsplit : m.cs = m.cs.take cs.length ++ (m.cs[cs.length] :: m.cs.drop (cs.length + 1)) := by
        rw [← List.drop_eq_getElem_cons hlt, List.take_append_drop]
      have hall := ok_cs hm
      have eb2 : bs = Pm.encs [2, e, f, p, (n : Int)] ++ (Fm.cat ((m.cs.take cs.length).map cb) ++ (Fm.frm (cb m.cs[cs.length]) ++ Fm.cat ((m.cs.drop (cs.length + 1)).map cb))) := by
        rw [eb]
        unfold enc
        rw [eh]
        conv => lhs; rw [hsplit]
        rw [List.map_append, Fm.cat_app, List.map_cons]
        rfl
      have c1 : Fm.cat (cs.map cb) <+: bs.drop (Pm.encs [2, e, f, p, (n : Int)]).length := Fm.drop_pre h3
      have c2 : Fm.cat ((m.cs.take cs.length).map cb) <+: bs.drop (Pm.encs [2, e, f, p, (n : Int)]).length := by
        rw [eb2, List.drop_left]
        exact List.prefix_append _ _
      have ec : cs.map cb = (m.cs.take cs.length).map cb := cat_one' (by simp; omega) c1 c2
      refine hx m.cs[cs.length] (hall _ (List.getElem_mem hlt)) ?_
      rw [ec]
      have : bs.drop (Pm.encs [2, e, f, p, (n : Int)] ++ Fm.cat ((m.cs.take cs.length).map cb)).length = Fm.frm (cb m.cs[cs.length]) ++ Fm.cat ((m.cs.drop (cs.length + 1)).map cb) := by
        conv => lhs; rw [eb2]
        rw [← List.append_assoc, List.drop_left]
      rw [this]
      exact List.prefix_append _ _
    · refine .inl ⟨rfl, h1, fun x hx => ?_, ?_, ?_⟩
      · rcases List.mem_append.1 hx with hx | hx
        · exact h2 x hx
        · rw [List.mem_singleton.1 hx]; exact hc
      · rw [List.map_append, List.map_singleton, cat_snoc, ← List.append_assoc]
        exact Fm.pre_drop h3 h4
      · rw [List.map_append, List.map_singleton, cat_snoc, ← List.append_assoc]; exact (List.length_append).symm
  · rcases s with ⟨_, rfl⟩ | ⟨h, _⟩ | ⟨h, _⟩
    · exact .inr ⟨rfl, h⟩
    · simp at h
    · simp at h

/-- At the end. -/
theorem go_end {bs : List Int} {m : Msg} {a : Nat} {b : Bool} (h : GoC bs (hd m) m.cs a b) (hs : b = false → Sh m) : ((b = false ∧ a = bs.length ∧ Ok m) ∧ Dc bs m 0) ∨ (¬ (b = false ∧ a = bs.length ∧ Ok m) ∧ Dc bs no 5) := by
  by_cases hb : b = false ∧ a = bs.length ∧ Ok m
  · refine .inl ⟨hb, ?_⟩
    obtain ⟨rfl, rfl, hm⟩ := hb
    rcases h with ⟨_, _, _, h3, h4⟩ | ⟨h, _⟩
    · exact .inl ⟨rfl, hm, (h3.eq_of_length h4.symm).symm⟩
    · simp at h
  · refine .inr ⟨hb, ?_⟩
    rcases h with ⟨rfl, h1, h2, h3, h4⟩ | ⟨_, h⟩
    · refine .inr ⟨rfl, rfl, fun m' hm' e => ?_⟩
      have := sh_pre (hs rfl) (ok_sh hm') (bs := bs) h3 (by rw [e]; exact List.prefix_refl _)
      subst this
      refine hb ⟨rfl, ?_, hm'⟩
      rw [h4, e]
      rfl
    · exact h

/-- No kind. -/
theorem go_none {bs l : List Int} {a : Nat} {b : Bool} (h : Go bs (0 :: l) a b) : Dc bs no 5 := by
  rcases h with ⟨rfl, h1, h2, h4⟩ | ⟨_, h⟩
  · refine .inr ⟨rfl, rfl, fun m' hm' e => ?_⟩
    have hm1 : Pm.encs (hd m') <+: bs := by rw [e]; exact List.prefix_append _ _
    have := pfx_k hm' (encs_both h1 (hd_pos hm') h2 hm1)
    have := sh_k (ok_sh hm')
    omega
  · exact h

end Go.Proofs.Ytjaiemdefngbbaa.Mm

/- The contract of the document's epoch; what At comes to. -/
namespace Go.Proofs.Ytjaiemdefngbbaa
open Go.RowKit
set_option linter.unusedVariables false

/-- What At comes to. -/
def atE (l : List Sm.S) (en n : Int) : Int := if Sm.chk l en = 0 then (if n < 0 ∨ en < n then 2 else 0) else Sm.chk l en
def atV (l : List Sm.S) (en n : Int) : Int := if atE l en n = 0 then Sm.epo n 0 l else 0

theorem atE_five {l : List Sm.S} {en n : Int} (h : Sm.chk l en ≠ 0) : Sm.chk l en = 5 ∧ atE l en n = 5 ∧ atV l en n = 0 := by
  have h5 : Sm.chk l en = 5 := Sm.chk_no fun k => h (Sm.chk_ok k)
  have : atE l en n = 5 := by unfold atE; rw [if_neg h, h5]
  exact ⟨h5, this, by unfold atV; rw [this]; rfl⟩
theorem atE_two {l : List Sm.S} {en n : Int} (h : Sm.chk l en = 0) (hn : n < 0 ∨ en < n) : atE l en n = 2 ∧ atV l en n = 0 := by
  have : atE l en n = 2 := by unfold atE; rw [if_pos h, if_pos hn]
  exact ⟨this, by unfold atV; rw [this]; rfl⟩
theorem atE_ok {l : List Sm.S} {en n : Int} (h : Sm.chk l en = 0) (hn : ¬ (n < 0 ∨ en < n)) : atE l en n = 0 ∧ atV l en n = Sm.epo n 0 l := by
  have : atE l en n = 0 := by unfold atE; rw [if_pos h, if_neg hn]
  exact ⟨this, by unfold atV; rw [if_pos this]⟩

end Go.Proofs.Ytjaiemdefngbbaa

/- Appends to a row of an object's own, told as one fact of the operation, with where the new row lies. No program. -/
namespace Go.Proofs.Ytjaiemdefngbbaa
open Go.RowKit
set_option linter.unusedVariables false

section
variable {P : Program} {w : World}

/-- 'append(out, xs...)' of integers. -/
theorem run_append_is_at (t ty : TypeId) (k : IntKind) (e : TypeId) (base bytes : Nat) (ht : P.underlying t = some (.slice e)) (hinfo : (P.info? e).map (fun i => (i.zero, i.size, i.bytes)) = some (some (.int k 0), 1, bytes)) (hby : 0 < bytes)
    (v : Value) (zs : List Int) (hown : Own k e base w v zs) (vx : Value) (ys : List Int) (his : Is k w vx ys) (hlen : (zs.length + ys.length) * bytes ≤ 140737488355328) (hbase : base ≤ w.heap.size) :
    ∃ v' w', (Builtin.append_ #[t, t] ty #[v, vx]).run P w = .ok v' w' ∧ Own k e base w' v' (zs ++ ys) ∧ w.grownBy w' v.ownBlock ∧ (v'.ownBlock = v.ownBlock ∨ v'.ownBlock = some w.heap.size) := by
  obtain ⟨i, hi, hz, hsize, hb⟩ := info_parts hinfo
  have hn : zs.length + ys.length ≤ 140737488355328 := Nat.le_trans (Nat.le_mul_of_pos_right _ hby) hlen
  have hwf : ∀ z ∈ zs ++ ys, (Lit.int k z).wf = true := by
    intro z hz
    rcases List.mem_append.1 hz with hz | hz
    · exact hown.1 z hz
    · exact his.1 z hz
  rcases his.2 with ⟨hv, hy⟩ | ⟨ad, cap, hv, h1, h2, hc⟩
  · subst hy hv
    have hrun := run_append_owned_none (P := P) (w := w) base t ty e i 1 ht hi v zs.length _ hown.2
    exact ⟨v, w, hrun, ⟨hwf, by simpa using hown.2⟩, World.grownBy.refl _ _, .inl rfl⟩
  · subst hv
    obtain ⟨v', w', hr, h3, h4, _, h5⟩ := run_append_own_at (P := P) w base t ty e i (.int k 0) 1 bytes ht hi hz hsize hb rfl (by decide) v zs.length _ hown.2 ad ys.length cap (ys.map (Value.int k)) (by simp) (by
      intro j u hj
      rw [List.getElem?_map, Option.map_eq_some_iff] at hj
      obtain ⟨z, hz, rfl⟩ := hj
      obtain ⟨hj, hz⟩ := List.getElem?_eq_some_iff.1 hz
      rw [hc j hj, List.getD_eq_getElem?_getD, List.getElem?_eq_getElem hj, hz]
      rfl) (ints_oneCell k ys) (by unfold maxLen; omega) hlen hbase
    exact ⟨v', w', hr, ⟨hwf, by simpa [List.map_append] using h3⟩, h4, h5⟩

/-- 'append(out, xs...)' of anything. -/
theorem run_append_rows_at {α : Type} (t ty : TypeId) (f : α → List Value) (k bytes : Nat) (hk : ∀ a, (f a).length = k) (h0 : 0 < k) (hb0 : 0 < bytes) (z : Value) (hzk : z.cells.size = k)
    (e : TypeId) (base : Nat) (ht : P.underlying t = some (.slice e)) (hinfo : (P.info? e).map (fun i => (i.zero, i.size, i.bytes)) = some (some z, k, bytes))
    (v : Value) (l : List α) (hown : OwnG f k e base w v l) (vx : Value) (m : List α) (his : RowG f w vx m) (hone : ∀ u ∈ gcells f m, u.oneCell' = true)
    (hlen : (l.length + m.length) * bytes ≤ 140737488355328) (hbase : base ≤ w.heap.size) :
    ∃ v' w', (Builtin.append_ #[t, t] ty #[v, vx]).run P w = .ok v' w' ∧ OwnG f k e base w' v' (l ++ m) ∧ w.grownBy w' v.ownBlock ∧ (v'.ownBlock = v.ownBlock ∨ v'.ownBlock = some w.heap.size) := by
  obtain ⟨i, hi, hz, hsize, hb⟩ := info_parts hinfo
  have hn : l.length + m.length ≤ 140737488355328 := Nat.le_trans (Nat.le_mul_of_pos_right _ hb0) hlen
  rcases his with ⟨hv, hy⟩ | ⟨ad, cap, hv, h1, h2, hc⟩
  · subst hy hv
    have hrun := run_append_owned_none (P := P) (w := w) base t ty e i k ht hi v l.length _ hown
    exact ⟨v, w, hrun, by simpa using hown, World.grownBy.refl _ _, .inl rfl⟩
  · subst hv
    obtain ⟨v', w', hr, h3, h4, _, h5⟩ := run_append_own_at (P := P) w base t ty e i z k bytes ht hi hz hsize hb hzk h0 v l.length _ hown ad m.length cap (gcells f m) (gcells_len hk m) hc hone (by unfold maxLen; omega) hlen hbase
    exact ⟨v', w', hr, by unfold OwnG; rw [gcells_app, List.length_append]; exact h3, h4, h5⟩
end

/-- A row's front: 'v[:p]'. -/
theorem own_cut {w : World} {base e size g n cap : Nat} {xs : List Value} (h : w.ownsRow base e size (.slice (some ⟨g, 0, none⟩) n cap) n xs) (m : Nat) (hm : m ≤ n) : w.ownsRow base e size (.slice (some ⟨g, 0, none⟩) m cap) m (xs.take (m * size)) := by
  obtain ⟨h1, h2⟩ := h
  have hle : m * size ≤ n * size := Nat.mul_le_mul_right _ hm
  refine ⟨by rw [List.length_take]; omega, ?_⟩
  rcases h2 with ⟨h', _⟩ | ⟨g', cap', cur, h', hb, hg, hnc, hcm, hcs, htake⟩
  · simp at h'
  · simp only [Value.slice.injEq, Option.some.injEq, Addr.mk.injEq, and_true, true_and] at h'
    obtain ⟨rfl, rfl⟩ := h'
    refine .inr ⟨g, cap, cur, rfl, hb, hg, by omega, hcm, hcs, ?_⟩
    rw [← htake, List.take_take]
    congr 1
    omega

theorem Own.agree {k : IntKind} {e : TypeId} {base : Nat} {w w' : World} {v : Value} {zs : List Int} (h : Own k e base w v zs) (hb : ∀ b, v.ownBlock = some b → w'.heap[b]? = w.heap[b]?) : Own k e base w' v zs := ⟨h.1, row_agree h.2 hb⟩

theorem Own.type {k : IntKind} {e base : Nat} {w : World} {v : Value} {zs : List Int} (h : Own k e base w v zs) {g : Nat} (hg : v.ownBlock = some g) : ∃ cs, w.heap[g]? = some (.cells cs e (0, 0)) := by
  rcases h.2.2 with ⟨rfl, _⟩ | ⟨g', cap, cur, rfl, _, hh, _⟩
  · simp [Value.ownBlock] at hg
  · simp [Value.ownBlock] at hg
    subst hg
    exact ⟨_, hh⟩

/-- 'v[:p]' of an own row of integers: an own row. -/
theorem Own.slice_h {P : Program} {k : IntKind} {e base : Nat} {w : World} {v : Value} {zs : List Int} (h : Own k e base w v zs) {t : TypeId} (ht : P.underlying t = some (.slice (P.elem t))) (hs : ∀ wx, (sizeOf (P.elem t)).run P wx = .ok 1 wx) (p : Nat) (hp : p ≤ zs.length) :
    ∃ vs, (∀ wx, (Instr.slice t v none (some (.int .i64 p)) none).run P wx = .ok vs wx) ∧ Own k e base w vs (zs.take p) ∧ (∀ b, vs.ownBlock = some b → v.ownBlock = some b) := by
  have hwf : ∀ z ∈ zs.take p, (Lit.int k z).wf = true := fun z hz => h.1 z (List.mem_of_mem_take hz)
  have hl : (zs.take p).length = p := by rw [List.length_take]; omega
  rcases h.2.2 with ⟨rfl, hn⟩ | ⟨g, cap, cur, rfl, hb, hg, hnc, hcm, hcs, htake⟩
  · obtain rfl : p = 0 := by omega
    refine ⟨.slice none 0 0, fun wx => ?_, ⟨hwf, by rw [hl]; simpa using World.ownsRow_nil w base e 1⟩, fun b hb => hb⟩
    rw [run_slice_h wx t none 0 0 ht .i64 _ (by omega) (by omega)]
    simp [Result.andThen, sliced, hs]
  · refine ⟨.slice (some ⟨g, 0, none⟩) p cap, fun wx => ?_, ⟨hwf, ?_⟩, fun b hb => hb⟩
    · rw [run_slice_h wx t _ zs.length cap ht .i64 _ (by omega) (by omega)]
      simp [Result.andThen, sliced, hs, Addr.add]
    · have := own_cut h.2 p hp
      rw [hl, List.map_take]
      simpa using this

section
variable {P : Program} {w : World} {ops : Array Oper} {rest : List Oper} {o : Oper} {a : Act} {Q : Exit → Act → World → Prop}

/-- An append whose answer is known. -/
theorem wpList_append_at (hgd : o.guard = none) (s x : Operand) (t : TypeId) (ho : o.op = .call { callee := .builtin .append, args := #[s, x], argTypes := #[t, t] })
    (v vx : Value) (hs : a.eval s = v) (hx : a.eval x = vx) {R : Value → World → Prop} (hrun : ∀ ty, ∃ v' w', (Builtin.append_ #[t, t] ty #[v, vx]).run P w = .ok v' w' ∧ R v' w')
    (h : ∀ v' w', R v' w' → wpList P ops Q rest (a.put o.dst v') w') : wpList P ops Q (o :: rest) a w := by
  refine wpList_plain hgd fun K hK => ?_
  obtain ⟨v', w', hr, hR⟩ := hrun o.type
  unfold Oper.wp execOp
  simp only [ho, resolve, invoke, builtin, Sem.run_bind, Sem.run_pure, Result.andThen_ok, List.map_toArray, List.map_cons, List.map_nil, hs, hx, hr]
  exact hK _ _ (h v' w' hR)

theorem step_append_at {K : Act → World → Prop} {E : Prop} (hgd : o.guard = none) (s x : Operand) (t : TypeId) (ho : o.op = .call { callee := .builtin .append, args := #[s, x], argTypes := #[t, t] })
    (v vx : Value) (hs : a.eval s = v) (hx : a.eval x = vx) {R : Value → World → Prop} (hrun : ∀ ty, ∃ v' w', (Builtin.append_ #[t, t] ty #[v, vx]).run P w = .ok v' w' ∧ R v' w')
    (h : ∀ v' w', R v' w' → K (a.put o.dst v') w') : if Region.wanted o (yielded ops a.tmps) = true then Oper.wp P o a w K Q else E := by
  have hw : Region.wanted o (yielded ops a.tmps) = true := by simp [Region.wanted, hgd]
  rw [if_pos hw]
  obtain ⟨v', w', hr, hR⟩ := hrun o.type
  unfold Oper.wp execOp
  simp only [ho, resolve, invoke, builtin, Sem.run_bind, Sem.run_pure, Result.andThen_ok, List.map_toArray, List.map_cons, List.map_nil, hs, hx, hr]
  exact h v' w' hR

/-- A call inside a region that draws its order. -/
theorem call_at {K : Act → World → Prop} {E : Prop} (hgd : o.guard = none) (f : FuncId) (args : Array Operand) (ts : Array TypeId)
    (ho : o.op = .call { callee := .value (.func f), args := args, argTypes := ts }) (hent : ∀ args w, (callFunc f args).run P w = .ok (.enter f args) w) (vs : Array Value) (hvs : args.map a.eval = vs)
    {R : Value → World → Prop} (hc : Calls P f vs w fun e w' => ∃ v, e = .returned v ∧ R v w') (h : ∀ v w', R v w' → K (a.put o.dst v) w') :
    if Region.wanted o (yielded ops a.tmps) = true then Oper.wp P o a w K Q else E := by
  have hw : Region.wanted o (yielded ops a.tmps) = true := by simp [Region.wanted, hgd]
  rw [if_pos hw]
  unfold Oper.wp
  simp only [execOp, ho, resolve, invoke, Sem.run_bind, hvs]
  simp only [Act.eval, Deferred.ofValue, Sem.run_pure, Result.andThen_ok, Array.empty_append, hent]
  rw [Oper.upon_enter]
  refine hc.mono ?_
  rintro e w' ⟨v, rfl, hr⟩
  exact h v w' hr
end

/-- A struct of four cells, made and stored. -/
theorem new_four (w : World) (t : TypeId) (x y z u a b c d : Value) : ∃ V, (((((w.alloc (.cells #[x, y, z, u] t)).setCell ⟨w.heap.size, 0, none⟩ a).setCell ⟨w.heap.size, 1, none⟩ b).setCell ⟨w.heap.size, 2, none⟩ c).setCell ⟨w.heap.size, 3, none⟩ d = V) ∧ w.alloc (.cells #[a, b, c, d] t) = V ∧ V.heap.size = w.heap.size + 1 ∧ Below w.heap.size w V ∧ V.heap[w.heap.size]? = some (.cells #[a, b, c, d] t (0, 0)) ∧
    V.cell? ⟨w.heap.size, 0, none⟩ = some a ∧ V.cell? ⟨w.heap.size, 1, none⟩ = some b ∧ V.cell? ⟨w.heap.size, 2, none⟩ = some c ∧ V.cell? ⟨w.heap.size, 3, none⟩ = some d := by
  obtain ⟨V, h1, h2, h3, h4⟩ := blk_step w #[a, b, c, d] t
  refine ⟨V, ?_, h1, h2, h3, h4, blk_cell h4 0 rfl, blk_cell h4 1 rfl, blk_cell h4 2 rfl, blk_cell h4 3 rfl⟩
  rw [← h1]
  simp [go_sem]

theorem wrap64s (z : Int) (h0 : -9223372036854775808 ≤ z) (h1 : z < 9223372036854775808) : IntKind.i64.wrap z = z := by
  unfold IntKind.wrap
  simp [IntKind.bits, IntKind.signed]
  omega

end Go.Proofs.Ytjaiemdefngbbaa

/- The contracts of sort.Search, of starts' begun, checkPlace, At and Trimmed, and of the copy that slices.Clone makes of starts. -/
namespace Go.Proofs.Ytjaiemdefngbbaa
open Go.RowKit
set_option linter.unusedVariables false

theorem Try.elemS : Try.prog.underlying 27 = some (.slice (Try.prog.elem 27)) := by kernel_rfl
theorem Try.sizeS (wx : World) : (sizeOf (Try.prog.elem 27)).run Try.prog wx = .ok 2 wx := by kernel_rfl

theorem run_frontS (ao : Option Addr) (n cap p : Nat) (hp : p ≤ cap) (ha : ao = none → cap = 0) (wx : World) : (Instr.slice 27 (.slice ao n cap) none (some (.int .i64 p)) none).run Try.prog wx = .ok (.slice ao p cap) wx := by
  rw [run_slice_h wx 27 ao n cap Try.elemS .i64 _ (by omega) (by omega), Try.sizeS]
  simp only [Result.andThen, sliced]
  cases ao with
  | none =>
    obtain rfl := ha rfl
    obtain rfl : p = 0 := by omega
    simp
  | some ad => simp [Addr.add]

theorem RowG.frontS {w : World} {ao : Option Addr} {n cap : Nat} {l : List Sm.S} (h : RowS w (.slice ao n cap) l) (p : Nat) (hp : p ≤ l.length) : RowS w (.slice ao p cap) (l.take p) := by
  have hl : (l.take p).length = p := by rw [List.length_take]; omega
  rcases h with ⟨hv, e⟩ | ⟨ad', cap', hv, h1, h2, hc⟩
  · subst e
    simp at hv hp
    obtain ⟨rfl, rfl, rfl⟩ := hv
    subst hp
    exact .inl ⟨rfl, rfl⟩
  · simp at hv
    obtain ⟨rfl, rfl, rfl⟩ := hv
    refine .inr ⟨ad', cap, by rw [hl], by omega, h2, fun j u hj => hc j u ?_⟩
    rw [gcells_take stc_len, List.getElem?_take] at hj
    split at hj
    · exact hj
    · simp at hj

theorem rowS_shape {w : World} {v : Value} {l : List Sm.S} (h : RowS w v l) : ∃ ao cap, v = .slice ao l.length cap ∧ l.length ≤ cap ∧ cap ≤ maxLen ∧ (ao = none → cap = 0) := by
  rcases h with ⟨hv, e⟩ | ⟨ad, cap, hv, h1, h2, _⟩
  · subst e; exact ⟨none, 0, hv, by simp, by simp, fun _ => rfl⟩
  · exact ⟨some ad, cap, hv, h1, h2, fun h => by cases h⟩

end Go.Proofs.Ytjaiemdefngbbaa

/- The contracts of starts' checkPlace, At, Trimmed, fork, Fork, and of the copy that slices.Clone makes of starts. -/
namespace Go.Proofs.Ytjaiemdefngbbaa
open Go.RowKit
set_option linter.unusedVariables false

theorem Try.info60 : (Try.prog.info? 60).map (fun i => (i.zero, i.size, i.bytes)) = some (some (.agg #[.int .i64 0, .int .i64 0]), 2, 16) := by kernel_rfl

theorem ownS_rebase {base base' : Nat} {w : World} {v : Value} {l : List Sm.S} (h : OwnS base w v l) (hb : base' ≤ base) : OwnS base' w v l := by
  refine ⟨h.1, ?_⟩
  rcases h.2 with h | ⟨g, cap, cur, hv, h1, r⟩
  · exact .inl h
  · exact .inr ⟨g, cap, cur, hv, by omega, r⟩

theorem ownS_below {base : Nat} {w w' : World} {v : Value} {l : List Sm.S} (h : OwnS base w v l) (hb : Below w.heap.size w w') : OwnS base w' v l := h.agree fun b hb' => hb.block b (h.lt b hb').2

/-- 'append(out, xs...)' of starts. -/
theorem wpList_append_sts {w : World} {ops : Array Oper} {rest : List Oper} {o : Oper} {a : Act} {Q : Exit → Act → World → Prop} (hgd : o.guard = none) (s x : Operand)
    (ho : o.op = .call { callee := .builtin .append, args := #[s, x], argTypes := #[27, 27] })
    (base : Nat) (v : Value) (l : List Sm.S) (hs : a.eval s = v) (hown : OwnS base w v l) (vx : Value) (m : List Sm.S) (hx : a.eval x = vx) (his : RowS w vx m)
    (hlen : (l.length + m.length) * 16 ≤ 140737488355328) (hbase : base ≤ w.heap.size)
    (h : ∀ v' w', OwnS base w' v' (l ++ m) → Below base w w' → w.grownBy w' v.ownBlock → wpList Try.prog ops Q rest (a.put o.dst v') w') : wpList Try.prog ops Q (o :: rest) a w :=
  wpList_append_rows stc 2 16 stc_len (by decide) (by decide) (.agg #[.int .i64 0, .int .i64 0]) rfl hgd s x 27 ho 60 base Try.underlying27 Try.info60 v l hs hown vx m hx his (stc_one m) hlen hbase
    fun v' w' h1 h2 => h v' w' h1 ((Below.refl _ _).grown h2 hbase fun k hk => (OwnG.lt hown k hk).1) h2

theorem sts_step (w : World) (cs : Array Value) (n : Nat) (l : List Sm.S) (hn : l.length = n) (h : cs.toList = gcells stc l) (hm : n ≤ maxLen) :
    ∃ W, w.alloc (.cells cs 60) = W ∧ W.heap.size = w.heap.size + 1 ∧ Below w.heap.size w W ∧ OwnS w.heap.size W (.slice (some ⟨w.heap.size, 0, none⟩) n n) l := rows_step stc 2 stc_len 60 w cs n l hn h hm

theorem Try.eqnilS (w : World) (a : Option Addr) (n c : Nat) : (binOp .eql 27 (.slice a n c) (.slice none 0 0)).run Try.prog w = .ok (.bool a.isNone) w := Lib.run_eql_slice_nil w 27 60 a n c 0 0 Try.underlying27

theorem atE_zero {l : List Sm.S} {en n : Int} (h : atE l en n = 0) : Sm.Ok l en ∧ 0 ≤ n ∧ n ≤ en := by
  by_cases h0 : Sm.chk l en = 0
  · by_cases hn : n < 0 ∨ en < n
    · rw [(atE_two h0 hn).1] at h
      simp at h
    · exact ⟨Sm.chk_zero.1 h0, by omega, by omega⟩
  · rw [(atE_five h0).2.1] at h
    simp at h

/-- What Trimmed comes to. -/
def trm (l : List Sm.S) (en n : Int) : List Sm.S := if atE l en n = 0 then Sm.beg n l else []

end Go.Proofs.Ytjaiemdefngbbaa

/- The contracts of the laws' copies of starts: SameStarts, CopyStarts, LentStarts, KeptStarts; of the chapter's lists of starts ('of'). -/
namespace Go.Proofs.Ytjaiemdefngbbaa
open Go.RowKit
set_option linter.unusedVariables false

set_option maxHeartbeats 1000000 in
theorem sameS_quiet (va vb : Value) (xs ys : List Sm.S) (w : World) (ha : RowS w va xs) (hb : RowS w vb ys) (hl : xs.length ≤ 140737488355328) (hl' : ys.length ≤ 140737488355328) :
    Calls Try.prog 49 #[va, vb] w fun e w' => e = .returned (.bool (decide (xs = ys))) ∧ ∃ m, w' = w.drewN m := by
  obtain ⟨ans, hans⟩ : ∃ r, decide (xs = ys) = r := ⟨_, rfl⟩
  rw [hans]
  have HA := hide hans
  clear hans
  by_cases hne : xs.length = ys.length
  · by_cases hz : 0 < xs.length
    · obtain ⟨b1, o1, c1, rfl, _, _, hB1, hc1⟩ := rowS_full ha hz
      obtain ⟨b2, o2, c2, rfl, _, _, hB2, hc2⟩ := rowS_full hb (by omega)
      have ht : ((xs.length : Int) != (ys.length : Int)) = false := by simp; omega
      have HL := hide hne
      have HC1 := hide hc1
      have HC2 := hide hc2
      clear hne ha hb hc1 hc2
      generalize hn : xs.length = n at *
      generalize hm : ys.length = m at *
      have HN := hide hn
      have HM := hide hm
      clear hn hm
      go_enter Try.func49, Try.ntmps49
      go_wp2
      go_loopw [5] (fun i wr => ∃ (k : Nat), k ≤ n ∧ i = .int .i64 k ∧ Hid (xs.take k = ys.take k) ∧ ∃ m, wr = w.drewN m) (fun i _ => n - (intOf i).toNat)
      case atStart => exact ⟨0, by omega, rfl, hide rfl, 0, rfl⟩
      case round =>
        obtain ⟨k, hk, rfl, HT, mm, rfl⟩ := hrel
        by_cases hlt : k < n
        · obtain ⟨o, ho⟩ := at_of (l := xs) (k := k) (by have := HN.out; omega)
          obtain ⟨q, hq⟩ := at_of (l := ys) (k := k) (by have := HM.out; have := HL.out; omega)
          obtain ⟨d0, d1⟩ := HC1.out k o ho
          obtain ⟨e0, e1⟩ := HC2.out k q hq
          have hlt' : (k : Int) < n := by omega
          have hlt2 : (k : Int) < m := by have := HL.out; omega
          have HO := hide ho
          have HQ := hide hq
          clear ho hq
          by_cases h1 : o.1 = q.1
          · have n1 : (o.1 != q.1) = false := by simpa using h1
            by_cases h2 : o.2 = q.2
            · have n2 : (o.2 != q.2) = false := by simpa using h2
              have HT2 : Hid (xs.take (k + 1) = ys.take (k + 1)) := hide (by
                rw [List.take_add_one, List.take_add_one, HT.out, HO.out, HQ.out, Prod.ext h1 h2])
              clear h1 h2
              go_wp2
              go_big_quiet (fail)
              go_wp2
              go_roundw
              case rel => exact ⟨k + 1, by omega, by go_num, HT2, _, rfl⟩
              case measure => simp [intOf]; omega
            · have n2 : (o.2 != q.2) = true := by simpa using h2
              have hfo := HA.out
              rw [decide_eq_false fun e => by
                have h3 := HO.out
                rw [e, HQ.out] at h3
                exact h2 (by rw [Option.some.inj h3])] at hfo
              subst hfo
              clear h1 h2 HA
              go_wp2
              go_big_quiet (fail)
              go_wp2
              go_ret
              exact ⟨rfl, _, by first | rfl | exact World.drewN_drewN _ _ _⟩
          · have n1 : (o.1 != q.1) = true := by simpa using h1
            have hfo := HA.out
            rw [decide_eq_false fun e => by
              have h3 := HO.out
              rw [e, HQ.out] at h3
              exact h1 (by rw [Option.some.inj h3])] at hfo
            subst hfo
            clear h1 HA
            go_wp2
            go_big_quiet (fail)
            go_wp2
            go_ret
            exact ⟨rfl, _, by first | rfl | exact World.drewN_drewN _ _ _⟩
        · have hlt' : ¬ (k : Int) < n := by omega
          have hfo := HA.out
          rw [decide_eq_true (by
            have h1 := HT.out
            rw [List.take_of_length_le (by have := HN.out; omega), List.take_of_length_le (by have := HN.out; have := HM.out; have := HL.out; omega)] at h1
            exact h1)] at hfo
          subst hfo
          clear HA
          go_wp2
          go_ret
          exact ⟨rfl, mm, rfl⟩
    · have hx : xs = [] := List.eq_nil_of_length_eq_zero (by omega)
      have hy : ys = [] := List.eq_nil_of_length_eq_zero (by omega)
      subst hx hy
      obtain ⟨a1, c1, rfl, _, _⟩ := ha.shape
      obtain ⟨a2, c2, rfl, _, _⟩ := hb.shape
      have hfo := HA.out
      simp at hfo
      subst hfo
      simp only [List.length_nil]
      clear hl hl' hne hz ha hb HA
      go_enter Try.func49, Try.ntmps49
      go_wp2
      refine wp_loop_rounds 1 ?_
      rw [rounds_succ]
      go_wp2
      go_ret
      exact ⟨rfl, 0, rfl⟩
  · obtain ⟨a1, c1, rfl, _, _⟩ := ha.shape
    obtain ⟨a2, c2, rfl, _, _⟩ := hb.shape
    have ht : ((xs.length : Int) != (ys.length : Int)) = true := by simp; omega
    have hfo := HA.out
    rw [decide_eq_false fun h => hne (by rw [h])] at hfo
    subst hfo
    clear hne HA
    go_enter Try.func49, Try.ntmps49
    go_wp2
    go_ret
    exact ⟨rfl, 0, rfl⟩

theorem sameS_yes (va vb : Value) (xs : List Sm.S) (w : World) (ha : RowS w va xs) (hb : RowS w vb xs) (hl : xs.length ≤ 140737488355328) :
    Calls Try.prog 49 #[va, vb] w fun e w' => e = .returned (.bool true) ∧ ∃ m, w' = w.drewN m := by
  have := sameS_quiet va vb xs xs w ha hb hl hl
  rw [decide_eq_true rfl] at this
  exact this

set_option maxHeartbeats 400000 in
theorem copyS_any (vl : Value) (l : List Sm.S) (w : World) (h : RowS w vl l) (hl : l.length * 16 ≤ 140737488355328) :
    Calls Try.prog 55 #[vl] w fun e w' => ∃ v, e = .returned v ∧ OwnS w.heap.size w' v l ∧ Below w.heap.size w w' := by
  obtain ⟨w1, hw1, sz1, bel1, own1⟩ := sts_step w #[] 0 [] rfl rfl (by simp [maxLen])
  have h1 := h.below bel1
  go_enter Try.func55, Try.ntmps55
  go_wp2_with (at_builtin; refine wpList_append_sts rfl (.tmp 3) (.tmp 4) rfl w.heap.size _ [] rfl own1 _ l rfl h1 (by simp; omega) (by omega) ?_)
  intro v2 w2 own2 bel2 _
  go_wp2
  go_ret
  exact ⟨_, rfl, by simpa using own2, bel1.trans bel2⟩

/-- What stands behind starts that are lent. -/
def beS : List Sm.S := [(-5, 0), (-5, 1), (-5, 2)]

set_option maxHeartbeats 400000 in
theorem lentS_any (vl : Value) (l : List Sm.S) (w : World) (h : RowS w vl l) (hl : l.length ≤ 1000000) :
    Calls Try.prog 32 #[vl] w fun e w' => ∃ v, e = .returned v ∧ OwnS w.heap.size w' v (l ++ beS) ∧ Below w.heap.size w w' := by
  have HC : Hid (l.length * 16 ≤ 140737488355328) := hide (by omega)
  have HK : Hid (∀ k : Nat, k < 3 → ((l ++ beS.take k).length + [((-5, (k : Int)) : Sm.S)].length) * 16 ≤ 140737488355328) := hide (fun k hk => by
    rw [List.length_append, List.length_take, List.length_singleton]
    omega)
  have HN : Hid (∀ k : Nat, k < 3 → beS.take k ++ [((-5, (k : Int)) : Sm.S)] = beS.take (k + 1)) := hide (fun k hk => by
    rcases (by omega : k = 0 ∨ k = 1 ∨ k = 2) with rfl | rfl | rfl <;> rfl)
  have HE : Hid (beS.take 3 = beS) := hide rfl
  clear hl
  go_enter Try.func32, Try.ntmps32
  go_wp2_with fail
  refine (copyS_any vl l _ h HC.out).mono ?_
  rintro E w0 ⟨v0, rfl, own0, bel0⟩
  have own0' : OwnS w.heap.size w0 v0 (l ++ beS.take 0) := by simpa using own0
  clear own0
  go_wp2
  go_loopw [3, 4] (fun ov iv wr => ∃ k : Nat, k ≤ 3 ∧ iv = .int .i64 k ∧ OwnS w.heap.size wr ov (l ++ beS.take k) ∧ Below w.heap.size w wr) (fun _ iv _ => 3 - (intOf iv).toNat)
  case atStart => exact ⟨0, by omega, rfl, own0', bel0⟩
  case round =>
    obtain ⟨k, hk, rfl, own, bel⟩ := hrel
    have sz := bel.size
    by_cases hlt : k < 3
    · have hlt' : (k : Int) < 3 := by omega
      obtain ⟨w1, hw1, sz1, bel1, own1⟩ := sts_step wr #[.int .i64 (-5), .int .i64 k] 1 [(-5, (k : Int))] rfl rfl (by simp [maxLen])
      have own' := ownS_below own bel1
      have HKK := hide (HK.out k hlt)
      have HNN := hide (HN.out k hlt)
      generalize beS.take k = u at *
      go_wp2_with (at_builtin; refine wpList_append_sts rfl (.tmp 11) (.tmp 14) rfl w.heap.size _ _ rfl own' _ [(-5, (k : Int))] rfl own1.row HKK.out (by omega) ?_)
      intro v2 w2 own2 bel2 _
      rw [HNN.out] at own2
      have bel3 := (bel.trans (bel1.mono sz)).trans bel2
      clear own own' own1 bel1 bel2
      go_wp2
      go_roundw
      case rel => exact ⟨k + 1, by omega, by go_num, own2, bel3⟩
      case measure => simp [intOf]; omega
    · have hke : k = 3 := by omega
      subst hke
      rw [HE.out] at own
      go_wp2
      go_ret
      exact ⟨_, rfl, own, bel⟩

set_option maxHeartbeats 400000 in
theorem keptS_yes (vf vl : Value) (l : List Sm.S) (w : World) (hf : RowS w vf (l ++ beS)) (hl : RowS w vl l) (hll : l.length ≤ 1000000) :
    Calls Try.prog 43 #[vf, vl] w fun e w' => e = .returned (.bool true) ∧ Below w.heap.size w w' := by
  have hfl : Hid ((l ++ beS).length ≤ 140737488355328) := hide (by rw [List.length_append, show beS.length = 3 from rfl]; omega)
  have HL := hide hll
  generalize hfs : l ++ beS = fs at hf hfl
  have HE := hide hfs
  clear hll hfs
  go_enter Try.func43, Try.ntmps43
  go_wp2_with fail
  refine (lentS_any vl l _ hl HL.out).mono ?_
  rintro E w1 ⟨v1, rfl, own1, bel1⟩
  rw [HE.out] at own1
  go_wp2_with fail
  refine (sameS_yes _ _ fs _ (hf.below bel1) own1.row hfl.out).mono ?_
  rintro E w2 ⟨rfl, m, rfl⟩
  go_wp2
  go_ret
  exact ⟨rfl, below_drewN bel1 _⟩

end Go.Proofs.Ytjaiemdefngbbaa
