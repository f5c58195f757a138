/- Texts of one layer, one behind the other. -/
import Derived.Test.YtfnaeblbodfekaaG6
import Derived.Test.YtfnaeblbodfekaaG1
import Derived.Test.YtfnaeblbodfekaaG5
import Derived.Deep.RegionHeld3
/- Rows of starts in memory; the contracts of starts' lastEpoch, rise and Check, and of the document's Check and epoch. -/
namespace Go.Proofs.Ytfnaeblbodfekaa
open Go.RowKit
set_option linter.unusedVariables false

/-- A start's cells. -/
def stc (s : Sm.S) : List Value := [.int .i64 s.1, .int .i64 s.2]
theorem stc_len (s : Sm.S) : (stc s).length = 2 := rfl

abbrev RowS (w : World) (v : Value) (l : List Sm.S) : Prop := RowG stc w v l
abbrev OwnS (base : Nat) (w : World) (v : Value) (l : List Sm.S) : Prop := OwnG stc 2 35 base w v l

theorem stc_one : ∀ (l : List Sm.S), ∀ u ∈ gcells stc l, u.oneCell' = true
  | [], u, h => by simp [gcells] at h
  | s :: r, u, h => by
    rcases List.mem_append.1 h with h | h
    · simp only [stc, List.mem_cons, List.not_mem_nil, or_false] at h
      rcases h with rfl | rfl <;> rfl
    · exact stc_one r u h

theorem rowS_full {w : World} {v : Value} {l : List Sm.S} (h : RowS w v l) (hne : 0 < l.length) :
    ∃ b off cap, v = .slice (some ⟨b, off, none⟩) l.length cap ∧ l.length ≤ cap ∧ cap ≤ maxLen ∧ b < w.heap.size ∧ ∀ (i : Nat) (s : Sm.S), l[i]? = some s → w.cell? ⟨b, off + i * 2, none⟩ = some (.int .i64 s.1) ∧ w.cell? ⟨b, off + i * 2 + 1, none⟩ = some (.int .i64 s.2) := by
  obtain ⟨b, off, cap, h1, h2, h3, h4, h5⟩ := h.full stc_len (by decide) hne
  exact ⟨b, off, cap, h1, h2, h3, h4, fun i s hs => ⟨h5 i s hs 0 _ rfl, h5 i s hs 1 _ rfl⟩⟩

theorem rowS_drewN {w : World} {v : Value} {l : List Sm.S} (h : RowS w v l) (n : Nat) : RowS (w.drewN n) v l := h.agree fun _ _ => rfl

/-- They rise, and the first begins at 1. -/
def updS (en : Int) (l : List Sm.S) : Bool := Sm.upb en 0 0 l && decide ((l.map Prod.snd).headD 1 = 1)
theorem updS_iff {en : Int} {l : List Sm.S} : updS en l = true ↔ Sm.Up en 0 0 l ∧ (l.map Prod.snd).headD 1 = 1 := by
  unfold updS
  rw [Bool.and_eq_true, Sm.upb_iff, decide_eq_true_iff]
theorem updS_no {en : Int} {l : List Sm.S} (h : ¬ (Sm.Up en 0 0 l ∧ (l.map Prod.snd).headD 1 = 1)) : updS en l = false := by
  cases hu : updS en l with
  | false => rfl
  | true => exact absurd (updS_iff.1 hu) h

theorem head_at {l : List Sm.S} {s : Sm.S} (h : l[0]? = some s) : (l.map Prod.snd).headD 1 = s.2 := by
  cases l with
  | nil => simp at h
  | cons t r => simp at h; subst h; rfl

set_option maxHeartbeats 1000000 in
theorem rise_any (v : Value) (l : List Sm.S) (en : Int) (w : World) (h : RowS w v l) (hl : l.length ≤ 140737488355328) :
    Calls Try.prog 79 #[v, .int .i64 en] w fun E w' => E = .returned (.bool (updS en l)) ∧ Below w.heap.size w w' := by
  obtain ⟨ans, hans⟩ : ∃ r, updS en l = r := ⟨_, rfl⟩
  rw [hans]
  have HA := hide hans
  clear hans
  obtain ⟨w1, hw1, sz1, bel1, hR⟩ := blk_step w #[.int .i64 0, .int .i64 0] 35
  have h1 := h.below bel1
  by_cases hz : l.length = 0
  · have : l = [] := List.eq_nil_of_length_eq_zero hz
    subst this
    obtain ⟨ao, cap, rfl, _, _⟩ := h.shape
    have hfo := HA.out
    have hfe : updS en [] = true := rfl
    rw [hfe] at hfo
    subst hfo
    clear h h1 hl hz HA hR
    simp only [List.length_nil]
    go_enter Try.func79, Try.ntmps79
    go_wp2
    go_loopw [10] (fun iv wr => iv = .int .i64 0 ∧ wr = w1) (fun _ _ => 0)
    case atStart => exact ⟨rfl, rfl⟩
    case round =>
      obtain ⟨rfl, rfl⟩ := hrel
      go_wp2
      go_ret
      exact ⟨rfl, bel1⟩
  obtain ⟨b, off, cap, hvl, _, _, hB, hc⟩ := rowS_full h (by omega)
  subst hvl
  obtain ⟨s0, hs0⟩ := at_of (l := l) (k := 0) (by omega)
  have HC := hide hc
  have H0 := hide hs0
  generalize hn : l.length = n at *
  have HN := hide hn
  clear h h1 hc hn hs0
  go_enter Try.func79, Try.ntmps79
  go_wp2
  go_loopw [10] (fun iv wr => ∃ (k : Nat) (e f : Int), k ≤ n ∧ iv = .int .i64 k ∧ Hid (Sm.Up en 0 0 l ↔ Sm.Up en e f (l.drop k)) ∧ Below w.heap.size w wr ∧ wr.heap[w.heap.size]? = some (.cells #[.int .i64 e, .int .i64 f] 35 (0, 0))) (fun iv _ => n - (intOf iv).toNat)
  case atStart => exact ⟨0, 0, 0, by omega, rfl, hide (by simp), bel1, hR⟩
  case round =>
    obtain ⟨k, e, f, hk, rfl, HT, bel, hG⟩ := hrel
    have sz := bel.size
    have szG := blk_lt hG
    by_cases hlt : k < n
    · obtain ⟨s, hs⟩ := at_of (l := l) (k := k) (by have := HN.out; omega)
      obtain ⟨e0, e1⟩ := HC.out k s hs
      have d0 := (bel.cell (p := ⟨b, off + k * 2, none⟩) hB).trans e0
      have d1 := (bel.cell (p := ⟨b, off + k * 2 + 1, none⟩) hB).trans e1
      have HU := hide (HT.out.trans (Sm.up_drop (en := en) (e := e) (f := f) hs))
      have hlt' : (k : Int) < n := by omega
      obtain ⟨V, hV, hV2, szV, belV, bC, q0, q1⟩ := new_two wr 35 (.int .i64 0) (.int .i64 0) (.int .i64 s.1) (.int .i64 s.2)
      have hGV := (belV.block w.heap.size (by omega)).trans hG
      have g0 := blk_cell hGV 0 rfl
      have g1 := blk_cell hGV 1 rfl
      have belA : Below w.heap.size w V := bel.trans (belV.mono (by omega))
      clear e0 e1 hs hG HT bC belV bel hw1
      by_cases hg : e < s.1 ∧ s.1 ≤ 1048576 ∧ f < s.2 ∧ s.2 ≤ en
      · have p1 : ¬ s.1 ≤ e := by omega
        have p2 : ¬ (1048576 : Int) < s.1 := by omega
        have p3 : ¬ s.2 ≤ f := by omega
        have p4 : ¬ en < s.2 := by omega
        obtain ⟨V', hV', bV', gV', ⟨a0, a1⟩, ⟨f0, f1⟩, ⟨z0, z1⟩⟩ := res_two hGV (.int .i64 s.1) (.int .i64 s.2)
        have belV' := below_put belA gV' (by omega) (by omega)
        have HT2 : Hid (Sm.Up en 0 0 l ↔ Sm.Up en s.1 s.2 (l.drop (k + 1))) := hide (by
          rw [HU.out]
          constructor
          · rintro ⟨_, _, _, _, h⟩; exact h
          · intro h; exact ⟨hg.1, hg.2.1, hg.2.2.1, hg.2.2.2, h⟩)
        clear hg HU gV' belA hGV
        go_wp2
        go_roundw
        case rel => exact ⟨k + 1, s.1, s.2, by omega, by go_num, HT2, belV', bV'⟩
        case measure => simp [intOf]; omega
      · have hfo := HA.out
        have hno : ¬ Sm.Up en 0 0 l := fun h => hg ⟨(HU.out.1 h).1, (HU.out.1 h).2.1, (HU.out.1 h).2.2.1, (HU.out.1 h).2.2.2.1⟩
        rw [updS_no (fun h => hno h.1)] at hfo
        subst hfo
        have hq : s.1 ≤ e ∨ (¬ s.1 ≤ e ∧ (1048576 : Int) < s.1) ∨ (¬ s.1 ≤ e ∧ ¬ (1048576 : Int) < s.1 ∧ s.2 ≤ f) ∨ (¬ s.1 ≤ e ∧ ¬ (1048576 : Int) < s.1 ∧ ¬ s.2 ≤ f ∧ en < s.2) := by omega
        clear hg HU hGV hno HA
        rcases hq with p | ⟨p1, p⟩ | ⟨p1, p2, p⟩ | ⟨p1, p2, p3, p⟩ <;> (go_wp2; go_ret; exact ⟨rfl, belA⟩)
    · have hlt' : ¬ (k : Int) < n := by omega
      have hkn : k = n := by omega
      have hup : Sm.Up en 0 0 l := HT.out.2 (by rw [List.drop_of_length_le (by have := HN.out; omega)]; trivial)
      have hfo := HA.out
      obtain ⟨c0, c1⟩ := HC.out 0 s0 H0.out
      have d1 := (bel.cell (p := ⟨b, off + 0 * 2 + 1, none⟩) hB).trans c1
      simp only [Nat.zero_mul, Nat.add_zero] at d1
      have hne : ((n : Int) == 0) = false := by simp; omega
      by_cases hq : s0.2 = 1
      · rw [updS_iff.2 ⟨hup, (head_at H0.out).trans hq⟩] at hfo
        subst hfo
        rw [hq] at d1
        clear HA hup c0 c1 hG HT
        go_wp2
        go_ret
        exact ⟨rfl, bel⟩
      · rw [updS_no (fun h => hq ((head_at H0.out).symm.trans h.2))] at hfo
        subst hfo
        have hq' : (s0.2 == 1) = false := by simpa using hq
        clear HA hup c0 c1 hG HT hq
        go_wp2
        go_ret
        exact ⟨rfl, bel⟩

theorem both_zero {n : Nat} {en : Int} (h : n = 0 ↔ en = 0) : ∃ b : Bool, ((n : Int) == 0) = b ∧ (en == 0) = b := by
  by_cases hn : n = 0
  · exact ⟨true, by simp [hn], by simp [h.1 hn]⟩
  · exact ⟨false, by simp; omega, by simp; exact fun e => hn (h.2 e)⟩

theorem one_zero {n : Nat} {en : Int} (h : ¬ (n = 0 ↔ en = 0)) : (((n : Int) == 0) = true ∧ (en == 0) = false) ∨ (((n : Int) == 0) = false ∧ (en == 0) = true) := by
  by_cases hn : n = 0
  · exact .inl ⟨by simp [hn], by simp; exact fun e => h ⟨fun _ => e, fun _ => hn⟩⟩
  · refine .inr ⟨by simp; omega, ?_⟩
    simp
    rcases Classical.em (en = 0) with g | g
    · exact g
    · exact absurd ⟨fun k => absurd k hn, fun k => absurd k g⟩ h

set_option maxHeartbeats 400000 in
theorem scheck_any (v : Value) (l : List Sm.S) (en : Int) (w : World) (h : RowS w v l) (hl : l.length ≤ 140737488355328) :
    Calls Try.prog 76 #[v, .int .i64 en] w fun E w' => E = .returned (.int .i64 (Sm.chk l en)) ∧ Below w.heap.size w w' := by
  have X := hide (rise_any v l en w h hl)
  obtain ⟨ao, cap, rfl, _, _⟩ := h.shape
  obtain ⟨ans, hans⟩ : ∃ r, Sm.chk l en = r := ⟨_, rfl⟩
  rw [hans]
  have HA := hide hans
  have HL := hide hl
  generalize hn : l.length = n at *
  have HN := hide hn
  clear h hans hl hn
  have no : ∀ {p : Prop}, (Sm.Ok l en → False) → ans = 5 := fun h => by rw [← HA.out]; exact Sm.chk_no h
  have NO : Hid ((Sm.Ok l en → False) → ans = 5) := hide fun h => no (p := True) h
  clear no
  by_cases h1 : en < 0
  · obtain rfl := NO.out fun h => by have := h.1; omega
    clear HA NO X
    go_enter Try.func76, Try.ntmps76
    go_wp2
    go_ret
    exact ⟨rfl, Below.refl _ _⟩
  by_cases h2 : (1048576 : Int) < en
  · obtain rfl := NO.out fun h => by have := h.2.1; omega
    clear HA NO X
    go_enter Try.func76, Try.ntmps76
    go_wp2
    go_ret
    exact ⟨rfl, Below.refl _ _⟩
  by_cases h3 : n = 0 ↔ en = 0
  · obtain ⟨bb, n0, e0⟩ := both_zero h3
    have HI := hide h3
    by_cases h4 : Sm.Up en 0 0 l ∧ (l.map Prod.snd).headD 1 = 1
    · have hfo := HA.out
      rw [Sm.chk_ok ⟨by omega, by omega, by rw [HN.out]; exact h3, h4.1, h4.2⟩] at hfo
      subst hfo
      rw [updS_iff.2 h4] at X
      clear HA NO h4 h3 HI
      go_enter Try.func76, Try.ntmps76
      go_wp2_with fail
      refine X.out.mono ?_
      rintro E w2 ⟨rfl, bel2⟩
      go_wp2
      go_ret
      exact ⟨rfl, bel2⟩
    · obtain rfl := NO.out fun h => h4 ⟨h.2.2.2.1, h.2.2.2.2⟩
      rw [updS_no h4] at X
      clear HA NO h4 h3 HI
      go_enter Try.func76, Try.ntmps76
      go_wp2_with fail
      refine X.out.mono ?_
      rintro E w2 ⟨rfl, bel2⟩
      go_wp2
      go_ret
      exact ⟨rfl, bel2⟩
  · obtain rfl := NO.out fun h => h3 (by rw [← HN.out]; exact h.2.2.1)
    have hq := one_zero h3
    clear HA NO X h3
    go_enter Try.func76, Try.ntmps76
    rcases hq with ⟨n0, e0⟩ | ⟨n0, e0⟩ <;> (go_wp2; go_ret; exact ⟨rfl, Below.refl _ _⟩)

end Go.Proofs.Ytfnaeblbodfekaa

/- The contracts of the laws' copies of ops: CopyOps, LentOps, KeptOps. -/
namespace Go.Proofs.Ytfnaeblbodfekaa
open Go.RowKit
set_option linter.unusedVariables false

/-- What stands behind ops that are lent. -/
def behind : Bm.Ov := ⟨true, ⟨#[98, 101, 104, 105, 110, 100]⟩, ⟨#[]⟩⟩

set_option maxHeartbeats 400000 in
theorem copyO_any (vl : Value) (l : List Bm.Ov) (w : World) (h : IsO w vl l) (hl : l.length * 40 ≤ 140737488355328) :
    Calls Try.prog 61 #[vl] w fun e w' => ∃ v, e = .returned v ∧ OwnO 59 w.heap.size w' v l ∧ Below w.heap.size w w' := by
  obtain ⟨w1, hw1, sz1, bel1, own1⟩ := ops_step 59 w #[] 0 [] rfl rfl (by simp [maxLen])
  have h1 := h.below bel1
  go_enter Try.func61, Try.ntmps61
  go_wp2_with (at_builtin; refine wpList_append_ops rfl (.tmp 3) (.tmp 4) 48 rfl 59 w.heap.size Try.underlying48 Try.info59 _ [] rfl own1 _ l rfl h1 (by simp; omega) (by omega) ?_)
  intro v2 w2 own2 bel2 _
  go_wp2
  go_ret
  exact ⟨_, rfl, by simpa using own2, bel1.trans bel2⟩

set_option maxHeartbeats 400000 in
theorem lentO_any (vl : Value) (l : List Bm.Ov) (w : World) (h : IsO w vl l) (hl : l.length * 40 ≤ 140737488351232) :
    Calls Try.prog 52 #[vl] w fun e w' => ∃ v, e = .returned v ∧ OwnO 59 w.heap.size w' v (l ++ [behind, behind, behind]) ∧ Below w.heap.size w w' := by
  have hc : l.length * 40 ≤ 140737488355328 := by omega
  have HK : Hid (∀ k : Nat, k < 3 → ((l ++ List.replicate k behind).length + [behind].length) * 40 ≤ 140737488355328) := hide (fun k hk => by
    rw [List.length_append, List.length_replicate, List.length_singleton]
    omega)
  have HC := hide hc
  clear hl hc
  go_enter Try.func52, Try.ntmps52
  go_wp2_with fail
  refine (copyO_any vl l _ h HC.out).mono ?_
  rintro E w0 ⟨v0, rfl, own0, bel0⟩
  have own0' : OwnO 59 w.heap.size w0 v0 (l ++ List.replicate 0 behind) := by simpa using own0
  clear own0
  go_wp2
  go_loopw [3, 4] (fun ov iv wr => ∃ k : Nat, k ≤ 3 ∧ iv = .int .i64 k ∧ OwnO 59 w.heap.size wr ov (l ++ List.replicate k behind) ∧ Below w.heap.size w wr) (fun _ iv _ => 3 - (intOf iv).toNat)
  case atStart => exact ⟨0, by omega, rfl, own0', bel0⟩
  case round =>
    obtain ⟨k, hk, rfl, own, bel⟩ := hrel
    have sz := bel.size
    by_cases hlt : k < 3
    · have hlt' : (k : Int) < 3 := by omega
      obtain ⟨w1, hw1, sz1, bel1, own1⟩ := ops_step 59 wr #[.bool true, .string ⟨#[98, 101, 104, 105, 110, 100]⟩, .string ⟨#[]⟩] 1 [behind] rfl rfl (by simp [maxLen])
      have own' := own.below bel1
      go_wp2_with (at_builtin; refine wpList_append_ops rfl (.tmp 11) (.tmp 13) 48 rfl 59 w.heap.size Try.underlying48 Try.info59 _ _ rfl own' _ [behind] rfl own1.is (HK.out k hlt) (by omega) ?_)
      intro v2 w2 own2 bel2 _
      have e2 : l ++ (List.replicate k behind ++ [behind]) = l ++ List.replicate (k + 1) behind := by rw [List.replicate_succ']
      rw [e2] at own2
      have bel3 := (bel.trans (bel1.mono sz)).trans bel2
      clear own own' own1 bel1 bel2 e2
      go_wp2
      go_roundw
      case rel => exact ⟨k + 1, by omega, by go_num, own2, bel3⟩
      case measure => simp [intOf]; omega
    · have hke : k = 3 := by omega
      subst hke
      go_wp2
      go_ret
      exact ⟨_, rfl, own, bel⟩

set_option maxHeartbeats 400000 in
theorem keptO_yes (vf vl : Value) (l fs : List Bm.Ov) (w : World) (hf : IsO w vf fs) (hl : IsO w vl l) (hll : l.length * 40 ≤ 140737488351232) (he : fs = l ++ [behind, behind, behind]) :
    Calls Try.prog 59 #[vf, vl] w fun e w' => e = .returned (.bool true) ∧ Below w.heap.size w w' := by
  have hfl : fs.length ≤ 140737488355328 := by rw [he]; simp; omega
  have HE := hide he
  have HL := hide hll
  clear he hll
  go_enter Try.func59, Try.ntmps59
  go_wp2_with fail
  refine (lentO_any vl l _ hl HL.out).mono ?_
  rintro E w1 ⟨v1, rfl, own1, bel1⟩
  rw [← HE.out] at own1
  go_wp2_with fail
  refine (sameO_any _ _ fs fs _ (hf.below bel1) own1.is (by omega) (by omega)).mono ?_
  rintro E w2 ⟨rfl, bel2⟩
  rw [Bm.sameL_self]
  go_wp2
  go_ret
  exact ⟨rfl, bel1.trans (bel2.mono bel1.size)⟩

end Go.Proofs.Ytfnaeblbodfekaa

/- The contracts of the laws' copies of one commit: CopyCommit, LentCommit, KeptCommit. -/
namespace Go.Proofs.Ytfnaeblbodfekaa
open Go.RowKit
set_option linter.unusedVariables false

/-- A slice of ops that was lent: those behind it stand in its room. -/
def LentV (base : Nat) (w : World) (v : Value) (l : List Bm.Ov) : Prop :=
  ∃ g cap, v = .slice (some ⟨g, 0, none⟩) l.length cap ∧ l.length + 3 ≤ cap ∧ cap ≤ maxLen ∧ OwnO 59 base w (.slice (some ⟨g, 0, none⟩) (l.length + 3) cap) (l ++ [behind, behind, behind])

theorem LentV.is {base : Nat} {w : World} {v : Value} {l : List Bm.Ov} (h : LentV base w v l) : IsO w v l := by
  obtain ⟨g, cap, rfl, hc, hm, ho⟩ := h
  have := ho.is.front l.length (by simp)
  rwa [List.take_left] at this

theorem LentV.below {base : Nat} {w w' : World} {v : Value} {l : List Bm.Ov} (h : LentV base w v l) (hb : Below w.heap.size w w') : LentV base w' v l := by
  obtain ⟨g, cap, rfl, hc, hm, ho⟩ := h
  exact ⟨g, cap, rfl, hc, hm, ho.below hb⟩

theorem LentV.keepT {e' base : Nat} {w w' : World} {v : Value} {l : List Bm.Ov} (h : LentV base w v l) (k : KeepT e' w w') (hne : 59 ≠ e') : LentV base w' v l := by
  obtain ⟨g, cap, rfl, hc, hm, ho⟩ := h
  exact ⟨g, cap, rfl, hc, hm, ho.keepT k hne⟩

theorem LentV.rebase {base base' : Nat} {w : World} {v : Value} {l : List Bm.Ov} (h : LentV base w v l) (hb : base' ≤ base) : LentV base' w v l := by
  obtain ⟨g, cap, rfl, hc, hm, ho⟩ := h
  exact ⟨g, cap, rfl, hc, hm, ho.rebase hb⟩

theorem lent_of {base : Nat} {w : World} {v : Value} {l : List Bm.Ov} (h : OwnO 59 base w v (l ++ [behind, behind, behind])) :
    ∃ g cap, v = .slice (some ⟨g, 0, none⟩) (l.length + 3) cap ∧ l.length + 3 ≤ cap ∧ cap ≤ maxLen ∧ OwnO 59 base w (.slice (some ⟨g, 0, none⟩) (l.length + 3) cap) (l ++ [behind, behind, behind]) := by
  have h' := h
  rcases h.2 with ⟨_, hn⟩ | ⟨g, cap, cur, hv, h1, hh, hc, hm, hs, ht⟩
  · simp at hn
  · rw [List.length_append, show [behind, behind, behind].length = 3 from rfl] at hv hc
    exact ⟨g, cap, hv, hc, hm, hv ▸ h'⟩

theorem run_front (g n m cap p : Nat) (hp : p ≤ cap) (wx : World) : (Instr.slice 48 (.slice (some ⟨g, 0, none⟩) n cap) none (some (.int .i64 p)) none).run Try.prog wx = .ok (.slice (some ⟨g, 0, none⟩) p cap) wx := by
  rw [run_slice_h wx 48 (some ⟨g, 0, none⟩) n cap Try.elemO .i64 _ (by omega) (by omega), Try.sizeO]
  simp only [Result.andThen, sliced]
  simp [Addr.add]

set_option maxHeartbeats 1000000 in
theorem copyC_any (e n : Int) (v : Value) (l : List Bm.Ov) (w : World) (h : IsO w v l) (hl : l.length * 40 ≤ 140737488351232) :
    Calls Try.prog 43 #[cmv e n v] w fun E w' => ∃ v', E = .returned (cmv e n v') ∧ OwnO 59 w.heap.size w' v' l ∧ Below w.heap.size w w' := by
  unfold cmv
  obtain ⟨w1, hw1, sz1, bel1, hB⟩ := blk_step w #[.int .i64 e, .int .i64 n, v] 50
  obtain ⟨w2, hw2, sz2, bel2, hR⟩ := blk_step w1 #[.int .i64 0, .int .i64 0, .slice none 0 0] 50
  rw [sz1] at hR
  have hB2 := (bel2.block w.heap.size (by omega)).trans hB
  have bel02 : Below w.heap.size w w2 := bel1.trans (bel2.mono (by omega))
  have h2 := h.below bel02
  obtain ⟨ao, cap, rfl, _, _⟩ := h.shape
  have c0 := blk_cell hB2 0 rfl
  have c1 := blk_cell hB2 1 rfl
  have c2 := blk_cell hB2 2 rfl
  have HB := hide hB2
  have HR := hide hR
  clear hB hB2 hR bel1 bel2
  go_enter Try.func43, Try.ntmps43
  go_wp2_with fail
  go_region_held3 (fun w' => w'.cell? ⟨w.heap.size, 0, none⟩ = some (.int .i64 e) ∧ w'.cell? ⟨w.heap.size, 1, none⟩ = some (.int .i64 n) ∧ w'.cell? ⟨w.heap.size, 2, none⟩ = some (.slice ao l.length cap)) (first | exact ⟨c0, c1, c2⟩ | exact ⟨a0, a1, a2⟩ | exact ⟨b0, b1, b2⟩ | go_keep)
    (first
    | (go_at_call 61; refine (copyO_any _ l _ (h2.drewN 1) (by omega)).mono ?_; rintro E w3 ⟨v3, rfl, own3, bel3'⟩; have bel3 : Below w2.heap.size w2 w3 := ((Below.refl _ _).drew).trans bel3'; have sz3 := bel3.size; have hB3 := (bel3.block w.heap.size (by omega)).trans HB.out; have hR3 := (bel3.block (w.heap.size + 1) (by omega)).trans HR.out; have a0 := blk_cell hB3 0 rfl; have a1 := blk_cell hB3 1 rfl; have a2 := blk_cell hB3 2 rfl; obtain ⟨ah, ch, hv3, _, _⟩ := own3.is.shape; subst hv3; obtain ⟨V', hV', bV', gV', ⟨r0, r1, r2⟩, ⟨f0, f1, f2⟩, ⟨z0, z1, z2⟩⟩ := res_step hR3 (.int .i64 e) (.int .i64 n) (.slice ah l.length ch); have belV' := below_put (bel02.trans (bel3.mono (by omega))) gV' (by omega) (by omega); have szV := gV'.size; have ownV' := (own3.keptg gV' (show w.heap.size + 1 < w2.drew.heap.size by simp; omega)).rebase (base' := w.heap.size) (show w.heap.size ≤ w2.drew.heap.size by simp; omega); have hBV := (gV'.block w.heap.size (by omega) (by simp)).trans hB3; have b0 := blk_cell hBV 0 rfl; have b1 := blk_cell hBV 1 rfl; have b2 := blk_cell hBV 2 rfl; clear bel3' hB3 hR3 own3 bV' gV' hBV))
  go_wp2
  refine bodyPost_ret (v := .agg #[.int .i64 e, .int .i64 n, .slice ah l.length ch]) (by simp [results, Try.results43, go_sem, z0, z1, z2]) rfl ?_
  exact ⟨_, rfl, ownV', belV'⟩

set_option maxHeartbeats 1000000 in
theorem lentC_any (e n : Int) (v : Value) (l : List Bm.Ov) (w : World) (h : IsO w v l) (hl : l.length * 40 ≤ 140737488351232) :
    Calls Try.prog 30 #[cmv e n v] w fun E w' => ∃ v', E = .returned (cmv e n v') ∧ LentV w.heap.size w' v' l ∧ Below w.heap.size w w' := by
  unfold cmv
  obtain ⟨w1, hw1, sz1, bel1, hB⟩ := blk_step w #[.int .i64 e, .int .i64 n, v] 50
  obtain ⟨w2, hw2, sz2, bel2, hR⟩ := blk_step w1 #[.int .i64 0, .int .i64 0, .slice none 0 0] 50
  rw [sz1] at hR
  have hB2 := (bel2.block w.heap.size (by omega)).trans hB
  have bel02 : Below w.heap.size w w2 := bel1.trans (bel2.mono (by omega))
  have h2 := h.below bel02
  obtain ⟨ao, cap, rfl, _, _⟩ := h.shape
  have c0 := blk_cell hB2 0 rfl
  have c1 := blk_cell hB2 1 rfl
  have c2 := blk_cell hB2 2 rfl
  have HB := hide hB2
  have HR := hide hR
  clear hB hB2 hR bel1 bel2
  go_enter Try.func30, Try.ntmps30
  go_wp2_with fail
  go_region_held3 (fun w' => w'.cell? ⟨w.heap.size, 0, none⟩ = some (.int .i64 e) ∧ w'.cell? ⟨w.heap.size, 1, none⟩ = some (.int .i64 n) ∧ w'.cell? ⟨w.heap.size, 2, none⟩ = some (.slice ao l.length cap)) (first | exact ⟨c0, c1, c2⟩ | exact ⟨a0, a1, a2⟩ | exact ⟨b0, b1, b2⟩ | go_keep)
    (first
    | (go_at_call 52; refine (lentO_any _ l _ (h2.drewN 1) hl).mono ?_; rintro E w3 ⟨v3, rfl, own3, bel3'⟩; have bel3 : Below w2.heap.size w2 w3 := ((Below.refl _ _).drew).trans bel3'; have sz3 := bel3.size; have hB3 := (bel3.block w.heap.size (by omega)).trans HB.out; have hR3 := (bel3.block (w.heap.size + 1) (by omega)).trans HR.out; have a0 := blk_cell hB3 0 rfl; have a1 := blk_cell hB3 1 rfl; have a2 := blk_cell hB3 2 rfl; obtain ⟨gh, ch, hv3, hcc, hcm, own3'⟩ := lent_of own3; subst hv3; have hfr := run_front gh (l.length + 3) 0 ch l.length (by omega); obtain ⟨V', hV', bV', gV', ⟨r0, r1, r2⟩, ⟨f0, f1, f2⟩, ⟨z0, z1, z2⟩⟩ := res_step hR3 (.int .i64 e) (.int .i64 n) (.slice (some ⟨gh, 0, none⟩) l.length ch); have belV' := below_put (bel02.trans (bel3.mono (by omega))) gV' (by omega) (by omega); have szV := gV'.size; have ownV' := (own3'.keptg gV' (show w.heap.size + 1 < w2.drew.heap.size by simp; omega)).rebase (base' := w.heap.size) (show w.heap.size ≤ w2.drew.heap.size by simp; omega); have hBV := (gV'.block w.heap.size (by omega) (by simp)).trans hB3; have b0 := blk_cell hBV 0 rfl; have b1 := blk_cell hBV 1 rfl; have b2 := blk_cell hBV 2 rfl; clear bel3' hB3 hR3 own3 own3' bV' gV' hBV))
  go_wp2
  refine bodyPost_ret (v := .agg #[.int .i64 e, .int .i64 n, .slice (some ⟨gh, 0, none⟩) l.length ch]) (by simp [results, Try.results30, go_sem, z0, z1, z2]) rfl ?_
  exact ⟨_, rfl, ⟨gh, ch, rfl, hcc, hcm, ownV'⟩, belV'⟩

set_option maxRecDepth 100000 in
set_option maxHeartbeats 1000000 in
theorem keptC_yes (e n : Int) (v v' : Value) (l : List Bm.Ov) (base : Nat) (w : World) (h : LentV base w v l) (h' : IsO w v' l) (hl : l.length * 40 ≤ 140737488351232) :
    Calls Try.prog 37 #[cmv e n v, cmv e n v'] w fun E w' => E = .returned (.bool true) ∧ Below w.heap.size w w' := by
  unfold cmv
  obtain ⟨w1, hw1, sz1, bel1, hB⟩ := blk_step w #[.int .i64 e, .int .i64 n, v] 50
  obtain ⟨w2, hw2, sz2, bel2, hC⟩ := blk_step w1 #[.int .i64 e, .int .i64 n, v'] 50
  rw [sz1] at hC
  have hB2 := (bel2.block _ (blk_lt hB)).trans hB
  have bel02 : Below w.heap.size w w2 := bel1.trans (bel2.mono (by omega))
  have h2 := h'.below bel02
  obtain ⟨g, cap, rfl, hgc, hgm, ho⟩ := h
  have ho2 := ho.below bel02
  obtain ⟨ao', cap', rfl, _, _⟩ := h'.shape
  have c0 := blk_cell hB2 0 rfl
  have c1 := blk_cell hB2 1 rfl
  have c2 := blk_cell hB2 2 rfl
  have d0 := blk_cell hC 0 rfl
  have d1 := blk_cell hC 1 rfl
  have d2 := blk_cell hC 2 rfl
  have hfr := run_front g l.length 0 cap (l.length + 3) (by omega)
  push_cast at hfr
  have HL := hide hl
  have hl' : (l.length : Int) + 3 < 9223372036854775808 := by omega
  have hcb : (l.length : Int) + 3 ≤ (cap : Int) := by omega
  have hc0 : (0 : Int) ≤ (l.length : Int) + 3 := by omega
  have htn : ((l.length : Int) + 3).toNat = l.length + 3 := by omega
  have hwr : IntKind.i64.wrap ((l.length : Int) + 3) = (l.length : Int) + 3 := wrap_i64_small _ (by omega) (by omega)
  clear hB hC hB2 bel1 bel2 ho hl
  go_enter Try.func37, Try.ntmps37
  go_wp2_with fail
  go_region_held3 (fun w' => (w'.cell? ⟨w.heap.size, 0, none⟩ = some (.int .i64 e) ∧ w'.cell? ⟨w.heap.size, 1, none⟩ = some (.int .i64 n) ∧ w'.cell? ⟨w.heap.size, 2, none⟩ = some (.slice (some ⟨g, 0, none⟩) l.length cap)) ∧ (w'.cell? ⟨w.heap.size + 1, 0, none⟩ = some (.int .i64 e) ∧ w'.cell? ⟨w.heap.size + 1, 1, none⟩ = some (.int .i64 n) ∧ w'.cell? ⟨w.heap.size + 1, 2, none⟩ = some (.slice ao' l.length cap'))) (first | exact ⟨⟨c0, c1, c2⟩, ⟨d0, d1, d2⟩⟩ | exact ⟨⟨a0, a1, a2⟩, ⟨b0, b1, b2⟩⟩ | go_keep)
    (first
    | (go_at_call 59; refine (keptO_yes _ _ l _ _ (ho2.is.drewN 1) (h2.drewN 1) HL.out rfl).mono ?_; rintro E w3 ⟨rfl, bel3'⟩; have bel3 : Below w2.heap.size w2 w3 := ((Below.refl _ _).drew).trans bel3'; have a0 := (bel3.cell (p := ⟨w.heap.size, 0, none⟩) (show w.heap.size < w2.heap.size by omega)).trans c0; have a1 := (bel3.cell (p := ⟨w.heap.size, 1, none⟩) (show w.heap.size < w2.heap.size by omega)).trans c1; have a2 := (bel3.cell (p := ⟨w.heap.size, 2, none⟩) (show w.heap.size < w2.heap.size by omega)).trans c2; have b0 := (bel3.cell (p := ⟨w.heap.size + 1, 0, none⟩) (show w.heap.size + 1 < w2.heap.size by omega)).trans d0; have b1 := (bel3.cell (p := ⟨w.heap.size + 1, 1, none⟩) (show w.heap.size + 1 < w2.heap.size by omega)).trans d1; have b2 := (bel3.cell (p := ⟨w.heap.size + 1, 2, none⟩) (show w.heap.size + 1 < w2.heap.size by omega)).trans d2; clear bel3'))
  go_wp2
  go_ret
  exact ⟨rfl, bel02.trans (bel3.mono (by omega))⟩

end Go.Proofs.Ytfnaeblbodfekaa

/- The contracts of the laws' copies of lists of commits: CopyCommits, LentCommits, KeptCommits. -/
namespace Go.Proofs.Ytfnaeblbodfekaa
open Go.RowKit
set_option linter.unusedVariables false

theorem cw_ext {c d : Cw} (h : c.c = d.c) : c.e = d.e ∧ c.n = d.n ∧ c.l = d.l := by
  unfold Cw.c at h
  simpa using h

theorem cvs_at {r s : List Cw} (h : cvs r = cvs s) {k : Nat} {c : Cw} (hc : r[k]? = some c) : ∃ d, s[k]? = some d ∧ c.e = d.e ∧ c.n = d.n ∧ c.l = d.l := by
  have h1 : (cvs r)[k]? = some c.c := by unfold cvs; rw [List.getElem?_map, hc]; rfl
  rw [h] at h1
  unfold cvs at h1
  rw [List.getElem?_map, Option.map_eq_some_iff] at h1
  obtain ⟨d, hd, he⟩ := h1
  obtain ⟨e1, e2, e3⟩ := cw_ext he
  exact ⟨d, hd, e1.symm, e2.symm, e3.symm⟩

theorem cvs_len {r s : List Cw} (h : cvs r = cvs s) : r.length = s.length := by
  have := congrArg List.length h
  simpa [cvs] using this

theorem cvs_take (r : List Cw) (k : Nat) : cvs (r.take k) = (cvs r).take k := by unfold cvs; rw [List.map_take]

theorem cvs_snoc {rs r : List Cw} {k : Nat} {c d : Cw} (h : cvs rs = cvs (r.take k)) (hd : r[k]? = some d) (he : c.c = d.c) : cvs (rs ++ [c]) = cvs (r.take (k + 1)) := by
  obtain ⟨hk, rfl⟩ := List.getElem?_eq_some_iff.1 hd
  rw [List.take_succ_eq_append_getElem hk]
  unfold cvs at h ⊢
  rw [List.map_append, List.map_append, h]
  simp [he]

/-- The loop of CopyCommits: what was made of the first ones. -/
def CopyR (base : Nat) (w : World) (rs : List Cw) : Prop := ∀ c ∈ rs, OwnO 59 base w c.v c.l
def LentR (base : Nat) (w : World) (rs : List Cw) : Prop := ∀ c ∈ rs, LentV base w c.v c.l

theorem CopyR.inC {base : Nat} {w : World} {rs r : List Cw} (h : CopyR base w rs) (he : cvs rs = cvs r) {w' : World} (hr : InC w' r) : InC w rs := by
  intro c hc
  obtain ⟨k, hk⟩ := List.getElem?_of_mem hc
  obtain ⟨d, hd, e1, e2, _⟩ := cvs_at he hk
  obtain ⟨_, i1, i2⟩ := hr d (List.mem_of_getElem? hd)
  exact ⟨(h c hc).is, by rw [e1]; exact i1, by rw [e2]; exact i2⟩

theorem LentR.inC {base : Nat} {w : World} {rs r : List Cw} (h : LentR base w rs) (he : cvs rs = cvs r) {w' : World} (hr : InC w' r) : InC w rs := by
  intro c hc
  obtain ⟨k, hk⟩ := List.getElem?_of_mem hc
  obtain ⟨d, hd, e1, e2, _⟩ := cvs_at he hk
  obtain ⟨_, i1, i2⟩ := hr d (List.mem_of_getElem? hd)
  exact ⟨(h c hc).is, by rw [e1]; exact i1, by rw [e2]; exact i2⟩

theorem fit_same {rs r : List Cw} (he : cvs rs = cvs r) (hr : FitC r) : FitC rs := by
  intro c hc
  obtain ⟨k, hk⟩ := List.getElem?_of_mem hc
  obtain ⟨d, hd, _, _, e3⟩ := cvs_at he hk
  rw [e3]
  exact hr d (List.mem_of_getElem? hd)

theorem CopyR.below {base : Nat} {w w' : World} {rs : List Cw} (h : CopyR base w rs) (hb : Below w.heap.size w w') : CopyR base w' rs := fun c hc => (h c hc).below hb

theorem LentR.below {base : Nat} {w w' : World} {rs : List Cw} (h : LentR base w rs) (hb : Below w.heap.size w w') : LentR base w' rs := fun c hc => (h c hc).below hb

theorem CopyR.keepT {base : Nat} {w w' : World} {rs : List Cw} (h : CopyR base w rs) (hb : KeepT 50 w w') : CopyR base w' rs := fun c hc => (h c hc).keepT hb (by decide)

theorem LentR.keepT {base : Nat} {w w' : World} {rs : List Cw} (h : LentR base w rs) (hb : KeepT 50 w w') : LentR base w' rs := fun c hc => (h c hc).keepT hb (by decide)

theorem CopyR.snoc {base : Nat} {w : World} {rs : List Cw} (h : CopyR base w rs) {c : Cw} (hc : OwnO 59 base w c.v c.l) : CopyR base w (rs ++ [c]) := fun d hd => (List.mem_append.1 hd).elim (h d) (fun h => by rw [List.mem_singleton.1 h]; exact hc)

theorem LentR.snoc {base : Nat} {w : World} {rs : List Cw} (h : LentR base w rs) {c : Cw} (hc : LentV base w c.v c.l) : LentR base w (rs ++ [c]) := fun d hd => (List.mem_append.1 hd).elim (h d) (fun h => by rw [List.mem_singleton.1 h]; exact hc)

set_option maxHeartbeats 1000000 in
theorem copyCs_any (vl : Value) (r : List Cw) (w : World) (h : IsC w vl r) (hf : FitC r) (hl : r.length ≤ 1000) :
    Calls Try.prog 21 #[vl] w fun E w' => ∃ v rs, E = .returned v ∧ OwnR 50 w.heap.size w' v rs ∧ cvs rs = cvs r ∧ CopyR w.heap.size w' rs ∧ Below w.heap.size w w' := by
  by_cases hz : r.length = 0
  · have : r = [] := List.eq_nil_of_length_eq_zero hz
    subst this
    obtain ⟨ao, cap, rfl, _, _⟩ := h.1.shape
    clear h hf hl hz
    simp only [List.length_nil]
    go_enter Try.func21, Try.ntmps21
    go_wp2
    go_loopw [3, 4] (fun ov iv wr => ov = .slice none 0 0 ∧ iv = .int .i64 0 ∧ wr = w) (fun _ _ _ => 0)
    case atStart => exact ⟨rfl, rfl, rfl⟩
    case round =>
      obtain ⟨rfl, rfl, rfl⟩ := hrel
      go_wp2
      go_ret
      exact ⟨_, [], rfl, OwnR.nil _ _ _, rfl, fun c hc => by simp at hc, Below.refl _ _⟩
  obtain ⟨b1, o1, c1, hvl, _, _, hB, hcell⟩ := h.1.full (by omega)
  subst hvl
  have HIN := hide h.2
  have HFIT := hide hf
  have HC := hide hcell
  generalize hn : r.length = n at *
  have HN := hide hn
  clear h hcell hf hn
  go_enter Try.func21, Try.ntmps21
  go_wp2
  go_loopw [3, 4] (fun ov iv wr => ∃ (k : Nat) (rs : List Cw), k ≤ n ∧ iv = .int .i64 k ∧ rs.length = k ∧ Hid (OwnR 50 w.heap.size wr ov rs ∧ cvs rs = cvs (r.take k) ∧ CopyR w.heap.size wr rs) ∧ Below w.heap.size w wr) (fun _ iv _ => n - (intOf iv).toNat)
  case atStart => exact ⟨0, [], by omega, rfl, rfl, ⟨OwnR.nil _ _ _, rfl, fun c hc => by simp at hc⟩, Below.refl _ _⟩
  case round =>
    obtain ⟨k, rs, hk, rfl, hrl, HT, bel⟩ := hrel
    have sz := bel.size
    by_cases hlt : k < n
    · obtain ⟨c, hc⟩ : ∃ c, r[k]? = some c := ⟨r[k]'(by have := HN.out; omega), by rw [List.getElem?_eq_getElem]⟩
      obtain ⟨e0, e1, e2⟩ := HC.out k c hc
      have d0 := (bel.cell (p := ⟨b1, o1 + k * 3, none⟩) hB).trans e0
      have d1 := (bel.cell (p := ⟨b1, o1 + k * 3 + 1, none⟩) hB).trans e1
      have d2 := (bel.cell (p := ⟨b1, o1 + k * 3 + 2, none⟩) hB).trans e2
      have hmem := List.mem_of_getElem? hc
      obtain ⟨i1, _, _⟩ := HIN.out c hmem
      have i2 := i1.below bel
      obtain ⟨hfc, hlc⟩ := HFIT.out c hmem
      have HCK := hide hc
      have hlt' : (k : Int) < n := by omega
      clear hc hmem i1 e0 e1 e2
      go_wp2_with fail
      refine (copyC_any c.e c.n _ c.l _ i2 hlc).mono ?_
      rintro E w2 ⟨v2, rfl, own2, bel2⟩
      unfold cmv
      have sz2 := bel2.size
      obtain ⟨ah, ch, hv2, _, _⟩ := own2.is.shape
      subst hv2
      obtain ⟨w3, hw3, sz3, bel3, own3⟩ := coms_step 50 w2 #[.int .i64 c.e, .int .i64 c.n, .slice ah c.l.length ch] 1 [⟨c.e, c.n, .slice ah c.l.length ch, c.l⟩] rfl rfl (by simp [maxLen])
      obtain ⟨hO, hE, hP⟩ := HT.out
      have bel23 : Below wr.heap.size wr w3 := bel2.trans (bel3.mono (by omega))
      have hO3 := hO.below bel23
      have hP3 := hP.below bel23
      have own23 := (own2.below bel3).rebase (base' := w.heap.size) (by omega)
      have hlk : (rs.length + [(⟨c.e, c.n, .slice ah c.l.length ch, c.l⟩ : Cw)].length) * 40 ≤ 140737488355328 := by rw [List.length_singleton]; omega
      have HE := hide hE
      have HP := hide hP3
      have bel03 : Below w.heap.size w w3 := bel.trans (bel23.mono (by omega))
      clear HT hO hP hP3 hE bel2 bel3 bel23 own2 bel d0 d1 d2 i2
      go_wp2_with (at_builtin; refine wpList_append_coms rfl (.tmp 11) (.tmp 17) 22 rfl 50 w.heap.size Try.underlying22 Try.info50 _ rs rfl hO3 _ _ rfl own3.row (by intro c hc; rw [List.mem_singleton.1 hc]; rfl) hlk (by omega) ?_)
      intro v4 w4 own4 bel4 kp4
      have HT2 : Hid (OwnR 50 w.heap.size w4 v4 (rs ++ [⟨c.e, c.n, .slice ah c.l.length ch, c.l⟩]) ∧ cvs (rs ++ [⟨c.e, c.n, .slice ah c.l.length ch, c.l⟩]) = cvs (r.take (k + 1)) ∧ CopyR w.heap.size w4 (rs ++ [⟨c.e, c.n, .slice ah c.l.length ch, c.l⟩])) :=
        ⟨own4, cvs_snoc HE.out HCK.out rfl, (HP.out.keepT kp4).snoc (own23.keepT kp4 (by decide))⟩
      have bel04 := bel03.trans bel4
      clear own4 kp4 own23 own3 hO3 HE HP bel03 bel4 hlk
      go_wp2
      go_roundw
      case rel => exact ⟨k + 1, _, by omega, by go_num, by rw [List.length_append, hrl]; rfl, HT2, bel04⟩
      case measure => simp [intOf]; omega
    · have hlt' : ¬ (k : Int) < n := by omega
      have HE : Hid (cvs rs = cvs r) := hide (by rw [HT.out.2.1, List.take_of_length_le (by have := HN.out; omega)])
      go_wp2
      go_ret
      exact ⟨_, rfl, rs, HT.out.1, HE.out, HT.out.2.2, bel⟩

/-- What stands behind commits that are lent. -/
def behC : Cw := ⟨-7, 0, .slice none 0 0, []⟩

set_option maxHeartbeats 1000000 in
theorem lentCs_any (vl : Value) (r : List Cw) (w : World) (h : IsC w vl r) (hf : FitC r) (hl : r.length ≤ 1000) :
    Calls Try.prog 13 #[vl] w fun E w' => ∃ v rs, E = .returned v ∧ OwnR 50 w.heap.size w' v (rs ++ [behC, behC, behC]) ∧ cvs rs = cvs r ∧ LentR w.heap.size w' rs ∧ Below w.heap.size w w' := by
  obtain ⟨ao, cap, hvl, _, _⟩ := h.1.shape
  have hcell : 0 < r.length → ∃ b1 o1 c1, vl = .slice (some ⟨b1, o1, none⟩) r.length c1 ∧ b1 < w.heap.size ∧ ∀ i c, r[i]? = some c → w.cell? ⟨b1, o1 + i * 3, none⟩ = some (.int .i64 c.e) ∧ w.cell? ⟨b1, o1 + i * 3 + 1, none⟩ = some (.int .i64 c.n) ∧ w.cell? ⟨b1, o1 + i * 3 + 2, none⟩ = some c.v := by
    intro hp
    obtain ⟨b1, o1, c1, hv, _, _, hB, hc⟩ := h.1.full hp
    exact ⟨b1, o1, c1, hv, hB, hc⟩
  subst hvl
  have HIN := hide h.2
  have HFIT := hide hf
  have HC := hide hcell
  generalize hn : r.length = n at *
  have HN := hide hn
  clear h hcell hf hn
  go_enter Try.func13, Try.ntmps13
  go_wp2
  go_loopw [3, 4] (fun ov iv wr => ∃ (k : Nat) (rs : List Cw), k ≤ n ∧ iv = .int .i64 k ∧ rs.length = k ∧ Hid (OwnR 50 w.heap.size wr ov rs ∧ cvs rs = cvs (r.take k) ∧ LentR w.heap.size wr rs) ∧ Below w.heap.size w wr) (fun _ iv _ => n - (intOf iv).toNat)
  case atStart => exact ⟨0, [], by omega, rfl, rfl, ⟨OwnR.nil _ _ _, rfl, fun c hc => by simp at hc⟩, Below.refl _ _⟩
  case round =>
    obtain ⟨k, rs, hk, rfl, hrl, HT, bel⟩ := hrel
    have sz := bel.size
    by_cases hlt : k < n
    · obtain ⟨b1, o1, c1, hvx, hB, hcell⟩ := HC.out (by have := HN.out; omega)
      simp only [Value.slice.injEq, true_and] at hvx
      obtain ⟨rfl, rfl⟩ := hvx
      obtain ⟨c, hc⟩ : ∃ c, r[k]? = some c := ⟨r[k]'(by have := HN.out; omega), by rw [List.getElem?_eq_getElem]⟩
      obtain ⟨e0, e1, e2⟩ := hcell k c hc
      have d0 := (bel.cell (p := ⟨b1, o1 + k * 3, none⟩) hB).trans e0
      have d1 := (bel.cell (p := ⟨b1, o1 + k * 3 + 1, none⟩) hB).trans e1
      have d2 := (bel.cell (p := ⟨b1, o1 + k * 3 + 2, none⟩) hB).trans e2
      have hmem := List.mem_of_getElem? hc
      obtain ⟨i1, _, _⟩ := HIN.out c hmem
      have i2 := i1.below bel
      obtain ⟨hfc, hlc⟩ := HFIT.out c hmem
      have HCK := hide hc
      have hlt' : (k : Int) < n := by omega
      clear hc hmem i1 e0 e1 e2 hcell
      go_wp2_with fail
      refine (lentC_any c.e c.n _ c.l _ i2 hlc).mono ?_
      rintro E w2 ⟨v2, rfl, own2, bel2⟩
      unfold cmv
      have sz2 := bel2.size
      obtain ⟨ah, ch, hv2, _, _⟩ := own2.is.shape
      subst hv2
      obtain ⟨w3, hw3, sz3, bel3, own3⟩ := coms_step 50 w2 #[.int .i64 c.e, .int .i64 c.n, .slice ah c.l.length ch] 1 [⟨c.e, c.n, .slice ah c.l.length ch, c.l⟩] rfl rfl (by simp [maxLen])
      obtain ⟨hO, hE, hP⟩ := HT.out
      have bel23 : Below wr.heap.size wr w3 := bel2.trans (bel3.mono (by omega))
      have hO3 := hO.below bel23
      have hP3 := hP.below bel23
      have own23 := (own2.below bel3).rebase (base' := w.heap.size) (by omega)
      have hlk : (rs.length + [(⟨c.e, c.n, .slice ah c.l.length ch, c.l⟩ : Cw)].length) * 40 ≤ 140737488355328 := by rw [List.length_singleton]; omega
      have HE := hide hE
      have HP := hide hP3
      have bel03 : Below w.heap.size w w3 := bel.trans (bel23.mono (by omega))
      clear HT hO hP hP3 hE bel2 bel3 bel23 own2 bel d0 d1 d2 i2
      go_wp2_with (at_builtin; refine wpList_append_coms rfl (.tmp 12) (.tmp 18) 22 rfl 50 w.heap.size Try.underlying22 Try.info50 _ rs rfl hO3 _ _ rfl own3.row (by intro c hc; rw [List.mem_singleton.1 hc]; rfl) hlk (by omega) ?_)
      intro v4 w4 own4 bel4 kp4
      have HT2 : Hid (OwnR 50 w.heap.size w4 v4 (rs ++ [⟨c.e, c.n, .slice ah c.l.length ch, c.l⟩]) ∧ cvs (rs ++ [⟨c.e, c.n, .slice ah c.l.length ch, c.l⟩]) = cvs (r.take (k + 1)) ∧ LentR w.heap.size w4 (rs ++ [⟨c.e, c.n, .slice ah c.l.length ch, c.l⟩])) :=
        ⟨own4, cvs_snoc HE.out HCK.out rfl, (HP.out.keepT kp4).snoc (own23.keepT kp4 (by decide))⟩
      have bel04 := bel03.trans bel4
      clear own4 kp4 own23 own3 hO3 HE HP bel03 bel4 hlk
      go_wp2
      go_roundw
      case rel => exact ⟨k + 1, _, by omega, by go_num, by rw [List.length_append, hrl]; rfl, HT2, bel04⟩
      case measure => simp [intOf]; omega
    · have hlt' : ¬ (k : Int) < n := by omega
      have HE : Hid (cvs rs = cvs r) := hide (by rw [HT.out.2.1, List.take_of_length_le (by have := HN.out; omega)])
      have HS := HT.out.1
      have HLR := hide HT.out.2.2
      have hS0 : Hid (OwnR 50 w.heap.size wr _ (rs ++ List.replicate 0 behC) ∧ LentR w.heap.size wr rs) := ⟨by simpa using HS, HT.out.2.2⟩
      clear HT HS HLR
      go_wp2
      go_loopw [3, 5] (fun ov iv wq => ∃ (j : Nat), j ≤ 3 ∧ iv = .int .i64 j ∧ Hid (OwnR 50 w.heap.size wq ov (rs ++ List.replicate j behC) ∧ LentR w.heap.size wq rs) ∧ Below w.heap.size w wq) (fun _ iv _ => 3 - (intOf iv).toNat)
      case atStart => exact ⟨0, by omega, rfl, hS0, bel⟩
      case round =>
        obtain ⟨j, hj, rfl, HJ, belJ⟩ := hrel
        have szJ := belJ.size
        by_cases hlj : j < 3
        · have hlj' : (j : Int) < 3 := by omega
          obtain ⟨w3, hw3, sz3, bel3, own3⟩ := coms_step 50 wr #[.int .i64 (-7), .int .i64 0, .slice none 0 0] 1 [behC] rfl rfl (by simp [maxLen])
          have hO3 := HJ.out.1.below bel3
          have HP := hide (HJ.out.2.below bel3)
          have hlk : ((rs ++ List.replicate j behC).length + [behC].length) * 40 ≤ 140737488355328 := by rw [List.length_append, List.length_replicate, List.length_singleton]; omega
          have bel03 : Below w.heap.size w w3 := belJ.trans (bel3.mono (by omega))
          clear HJ belJ bel3 hS0
          go_wp2_with (at_builtin; refine wpList_append_coms rfl (.tmp 24) (.tmp 26) 22 rfl 50 w.heap.size Try.underlying22 Try.info50 _ _ rfl hO3 _ [behC] rfl own3.row (by intro c hc; rw [List.mem_singleton.1 hc]; rfl) hlk (by omega) ?_)
          intro v4 w4 own4 bel4 kp4
          have HT2 : Hid (OwnR 50 w.heap.size w4 v4 (rs ++ List.replicate (j + 1) behC) ∧ LentR w.heap.size w4 rs) := ⟨by rw [List.replicate_succ']; exact own4, HP.out.keepT kp4⟩
          have bel04 := bel03.trans bel4
          clear own4 kp4 own3 hO3 HP bel03 bel4 hlk
          go_wp2
          go_roundw
          case rel => exact ⟨j + 1, by omega, by go_num, HT2, bel04⟩
          case measure => simp [intOf]; omega
        · have hlj' : ¬ (j : Int) < 3 := by omega
          have hj3 : j = 3 := by omega
          subst hj3
          clear hS0
          go_wp2
          go_ret
          exact ⟨_, rfl, rs, HJ.out.1, HE.out, HJ.out.2, belJ⟩

end Go.Proofs.Ytfnaeblbodfekaa

/- The contract of the laws' KeptCommits. -/
namespace Go.Proofs.Ytfnaeblbodfekaa
open Go.RowKit
set_option linter.unusedVariables false

theorem row_at {w : World} {b o : Nat} {r : List Cw} (h : ∀ i c, r[i]? = some c → w.cell? ⟨b, o + i * 3, none⟩ = some (.int .i64 c.e) ∧ w.cell? ⟨b, o + i * 3 + 1, none⟩ = some (.int .i64 c.n) ∧ w.cell? ⟨b, o + i * 3 + 2, none⟩ = some c.v) {w' : World} {base : Nat} (hb : Below base w w') (hB : b < base) {k : Nat} {c : Cw} (hc : r[k]? = some c) :
    w'.cell? ⟨b, o + k * 3, none⟩ = some (.int .i64 c.e) ∧ w'.cell? ⟨b, o + k * 3 + 1, none⟩ = some (.int .i64 c.n) ∧ w'.cell? ⟨b, o + k * 3 + 2, none⟩ = some c.v := by
  obtain ⟨e0, e1, e2⟩ := h k c hc
  exact ⟨(hb.cell (p := ⟨b, o + k * 3, none⟩) hB).trans e0, (hb.cell (p := ⟨b, o + k * 3 + 1, none⟩) hB).trans e1, (hb.cell (p := ⟨b, o + k * 3 + 2, none⟩) hB).trans e2⟩

set_option maxRecDepth 100000 in
set_option maxHeartbeats 2000000 in
theorem keptCs_yes (vf vl : Value) (rs r : List Cw) (base : Nat) (w : World) (hw : RowC w vf (rs ++ [behC, behC, behC])) (he : cvs rs = cvs r) (hr : LentR base w rs) (h : IsC w vl r) (hf : FitC r) (hl : r.length ≤ 1000) :
    Calls Try.prog 18 #[vf, vl] w fun E w' => E = .returned (.bool true) ∧ Below w.heap.size w w' := by
  have hlen := cvs_len he
  obtain ⟨b2, o2, c2, hvf, hcf, hmf, hB2, hcell2⟩ := hw.full (by simp)
  have hfl : (rs ++ [behC, behC, behC]).length = r.length + 3 := by rw [List.length_append, hlen]; rfl
  rw [hfl] at hvf hcf
  subst hvf
  obtain ⟨ao, cap, hvl, _, _⟩ := h.1.shape
  have hcell : 0 < r.length → ∃ b1 o1 c1, vl = .slice (some ⟨b1, o1, none⟩) r.length c1 ∧ b1 < w.heap.size ∧ ∀ i c, r[i]? = some c → w.cell? ⟨b1, o1 + i * 3, none⟩ = some (.int .i64 c.e) ∧ w.cell? ⟨b1, o1 + i * 3 + 1, none⟩ = some (.int .i64 c.n) ∧ w.cell? ⟨b1, o1 + i * 3 + 2, none⟩ = some c.v := by
    intro hp
    obtain ⟨b1, o1, c1, hv, _, _, hB, hc⟩ := h.1.full hp
    exact ⟨b1, o1, c1, hv, hB, hc⟩
  subst hvl
  have HIN := hide h.2
  have HFIT := hide hf
  have HC := hide hcell
  have HC2 := hide hcell2
  have HE := hide he
  have HL := hide hr
  generalize hn : r.length = n at *
  have HN := hide hn
  have HRS := hide hlen
  have hne : (((n : Int) + 3) != ((n : Int) + 3)) = false := by simp
  clear h hcell hcell2 hf hn he hr hlen hfl hw
  go_enter Try.func18, Try.ntmps18
  go_wp2
  go_loopw [5] (fun iv wr => ∃ (k : Nat), k ≤ n ∧ iv = .int .i64 k ∧ Below w.heap.size w wr) (fun iv _ => n - (intOf iv).toNat)
  case atStart => exact ⟨0, by omega, rfl, Below.refl _ _⟩
  case round =>
    obtain ⟨k, hk, rfl, bel⟩ := hrel
    have sz := bel.size
    by_cases hlt : k < n
    · obtain ⟨b1, o1, c1, hvx, hB, hcell⟩ := HC.out (by have := HN.out; omega)
      simp only [Value.slice.injEq, true_and] at hvx
      obtain ⟨rfl, rfl⟩ := hvx
      obtain ⟨c, hc⟩ : ∃ c, rs[k]? = some c := ⟨rs[k]'(by have := HN.out; have := HRS.out; omega), by rw [List.getElem?_eq_getElem]⟩
      obtain ⟨d, hd, q1, q2, q3⟩ := cvs_at HE.out hc
      have hc' : (rs ++ [behC, behC, behC])[k]? = some c := by rw [List.getElem?_append_left (by have := HRS.out; omega)]; exact hc
      obtain ⟨d0, d1, d2⟩ := row_at hcell bel hB hd
      obtain ⟨c0, c1', c2'⟩ := row_at HC2.out bel hB2 hc'
      have hmem := List.mem_of_getElem? hd
      obtain ⟨i1, _, _⟩ := HIN.out d hmem
      obtain ⟨_, hld⟩ := HFIT.out d hmem
      have i2 := i1.below bel
      have l2 := (HL.out c (List.mem_of_getElem? hc)).below bel
      rw [← q1] at d0
      rw [← q2] at d1
      rw [← q3] at i2 hld
      have hlt' : (k : Int) < n := by omega
      have hlt2 : (k : Int) < (n : Int) + 3 := by omega
      have hlt0 : (0 : Int) ≤ (k : Int) := by omega
      have hB2' : b2 < wr.heap.size := by omega
      have hB1' : b1 < wr.heap.size := by omega
      have HLD := hide hld
      clear hc hd q1 q2 q3 hc' hmem i1 hcell hld
      go_wp2_with fail
      go_region_held3 (fun w' => (w'.cell? ⟨b2, o2 + k * 3, none⟩ = some (.int .i64 c.e) ∧ w'.cell? ⟨b2, o2 + k * 3 + 1, none⟩ = some (.int .i64 c.n) ∧ w'.cell? ⟨b2, o2 + k * 3 + 2, none⟩ = some c.v) ∧ (w'.cell? ⟨b1, o1 + k * 3, none⟩ = some (.int .i64 c.e) ∧ w'.cell? ⟨b1, o1 + k * 3 + 1, none⟩ = some (.int .i64 c.n) ∧ w'.cell? ⟨b1, o1 + k * 3 + 2, none⟩ = some d.v)) (first | exact ⟨⟨c0, c1', c2'⟩, ⟨d0, d1, d2⟩⟩ | exact ⟨⟨a0, a1, a2⟩, ⟨x0, x1, x2⟩⟩ | go_keep)
        (first
        | (go_at_call 37; refine (keptC_yes c.e c.n _ _ c.l base _ (l2.below ((Below.refl _ _).drew)) (i2.drewN 1) HLD.out).mono ?_; rintro E w3 ⟨rfl, bel3'⟩; have bel3 : Below wr.heap.size wr w3 := ((Below.refl _ _).drew).trans bel3'; have a0 := (bel3.cell (p := ⟨b2, o2 + k * 3, none⟩) hB2').trans c0; have a1 := (bel3.cell (p := ⟨b2, o2 + k * 3 + 1, none⟩) hB2').trans c1'; have a2 := (bel3.cell (p := ⟨b2, o2 + k * 3 + 2, none⟩) hB2').trans c2'; have x0 := (bel3.cell (p := ⟨b1, o1 + k * 3, none⟩) hB1').trans d0; have x1 := (bel3.cell (p := ⟨b1, o1 + k * 3 + 1, none⟩) hB1').trans d1; have x2 := (bel3.cell (p := ⟨b1, o1 + k * 3 + 2, none⟩) hB1').trans d2; clear bel3'))
      have belR := bel.trans (bel3.mono (by omega))
      clear a0 a1 a2 x0 x1 x2 c0 c1' c2' d0 d1 d2 l2 i2 bel3 bel
      go_wp2
      go_roundw
      case rel => exact ⟨k + 1, by omega, by go_num, belR⟩
      case measure => simp [intOf]; omega
    · have hlt' : ¬ (k : Int) < n := by omega
      go_wp2
      go_loopw [6] (fun iv wr => ∃ (j : Nat), j ≤ 3 ∧ iv = .int .i64 ((n : Int) + (j : Int)) ∧ Below w.heap.size w wr) (fun iv _ => n + 3 - (intOf iv).toNat)
      case atStart => exact ⟨0, by omega, by simp, bel⟩
      case round =>
        obtain ⟨j, hj, rfl, belJ⟩ := hrel
        have szJ := belJ.size
        by_cases hlj : j < 3
        · have hc' : (rs ++ [behC, behC, behC])[n + j]? = some behC := by
            have := HRS.out
            rw [List.getElem?_append_right (by omega), this, Nat.add_sub_cancel_left]
            rcases (show j = 0 ∨ j = 1 ∨ j = 2 by omega) with rfl | rfl | rfl <;> rfl
          obtain ⟨c0, c1', c2'⟩ := row_at HC2.out belJ hB2 hc'
          have hj1 : (n : Int) + (j : Int) < (n : Int) + 3 := by omega
          have hj0 : (0 : Int) ≤ (n : Int) + (j : Int) := by omega
          have hjn : ((n : Int) + (j : Int)).toNat = n + j := by omega
          simp only [behC] at c0 c1' c2'
          clear hc'
          go_wp2_with fail
          refine (csameK_any (-7) 0 _ [] (-7) 0 _ [] _ (IsO.nil _) (IsO.nil _) (by simp) (by simp)).mono ?_
          rintro E w3 ⟨rfl, bel3⟩
          rw [sameC_self]
          have belR := belJ.trans (bel3.mono (by omega))
          clear c0 c1' c2' bel3
          go_wp2
          go_roundw
          case rel => exact ⟨j + 1, by omega, by go_num, belR⟩
          case measure => simp [intOf]; omega
        · have hj3 : j = 3 := by omega
          subst hj3
          go_wp2
          go_ret
          exact ⟨rfl, belJ⟩

end Go.Proofs.Ytfnaeblbodfekaa

/- An append of commits inside a region that draws its order; front and back parts of a list of commits by their values; a variable that is no fault. -/
namespace Go.Proofs.Ytfnaeblbodfekaa
open Go.RowKit
set_option linter.unusedVariables false

/-- 'append(out, xs...)' of commits inside a region that draws its order. -/
theorem step_append_coms {P : Program} {ops : Array Oper} {o : Oper} {a : Act} {w : World} {K : Act → World → Prop} {Q : Exit → Act → World → Prop} {E : Prop} (hgd : o.guard = none) (s x : Operand) (t : TypeId)
    (ho : o.op = .call { callee := .builtin .append, args := #[s, x], argTypes := #[t, t] })
    (e : TypeId) (base : Nat) (ht : P.underlying t = some (.slice e)) (hinfo : (P.info? e).map (fun i => (i.zero, i.size, i.bytes)) = some (some (.agg #[.int .i64 0, .int .i64 0, .slice none 0 0]), 3, 40))
    (v : Value) (l : List Cw) (hs : a.eval s = v) (hown : OwnR e base w v l) (vx : Value) (m : List Cw) (hx : a.eval x = vx) (his : RowC w vx m) (hone : ∀ c ∈ m, c.v.oneCell' = true)
    (hlen : (l.length + m.length) * 40 ≤ 140737488355328) (hbase : base ≤ w.heap.size)
    (h : ∀ v' w', OwnR e base w' v' (l ++ m) → Below base w w' → KeepT e w w' → K (a.put o.dst v') w') :
    if Region.wanted o (yielded ops a.tmps) = true then Oper.wp P o a w K Q else E := by
  have hw : Region.wanted o (yielded ops a.tmps) = true := by simp [Region.wanted, hgd]
  rw [if_pos hw]
  obtain ⟨i, hi, hz, hsize, hb⟩ := info_parts hinfo
  have hn : l.length + m.length ≤ 140737488355328 := by omega
  rcases his with ⟨hv, hy⟩ | ⟨ad, cap, hv, h1, h2, hc⟩
  · subst hy
    have hrun := run_append_owned_none (P := P) (w := w) base t o.type e i 3 ht hi v l.length _ hown
    have hk := h v w (by simpa using hown) (Below.refl _ _) (KeepT.refl _ _)
    unfold Oper.wp
    simp [execOp, ho, resolve, invoke, builtin, hs, hx.trans hv, hrun, Result.andThen]
    exact hk
  · refine wp_append_own w s x t ho base e i _ 3 40 ht hi hz hsize hb rfl (by decide) v l.length _ hs hown ad m.length cap (ccells m) (hx.trans hv) (ccells_len m) hc (ccells_cell m hone) (by unfold maxLen; omega) hlen hbase ?_
    intro v' w' ho' hg _
    refine h v' w' (by unfold OwnR; rw [ccells_app, List.length_append]; exact ho') ((Below.refl _ _).grown hg hbase fun k' hk => ?_) (KeepT.of_row hown hg)
    exact (World.ownsRow.lt hown k' hk).1

theorem RowC.front {w : World} {ad : Addr} {n cap : Nat} {l : List Cw} (h : RowC w (.slice (some ad) n cap) l) (p : Nat) (hp : p ≤ l.length) : RowC w (.slice (some ad) p cap) (l.take p) := by
  have hl : (l.take p).length = p := by rw [List.length_take]; omega
  rcases h with ⟨hv, _⟩ | ⟨ad', cap', hv, h1, h2, hc⟩
  · simp at hv
  · simp at hv
    obtain ⟨rfl, rfl, rfl⟩ := hv
    refine .inr ⟨ad, cap, by rw [hl], by omega, h2, fun j u hj => hc j u ?_⟩
    rw [ccells_take, List.getElem?_take] at hj
    split at hj
    · exact hj
    · simp at hj

theorem RowC.back {w : World} {b off n cap : Nat} {l : List Cw} (h : RowC w (.slice (some ⟨b, off, none⟩) n cap) l) (p : Nat) (hp : p < l.length) : RowC w (.slice (some ⟨b, off + p * 3, none⟩) (l.length - p) (cap - p)) (l.drop p) := by
  rcases h with ⟨hv, _⟩ | ⟨ad', cap', hv, h1, h2, hc⟩
  · simp at hv
  · simp at hv
    obtain ⟨rfl, rfl, rfl⟩ := hv
    refine .inr ⟨⟨b, off + p * 3, none⟩, cap - p, by simp, by simp; omega, by omega, fun j u hj => ?_⟩
    rw [ccells_drop, List.getElem?_drop] at hj
    have := hc _ _ hj
    rw [add_at] at this ⊢
    rw [Nat.add_assoc]
    exact this

theorem run_frontC (b off n cap p : Nat) (hp : p ≤ cap) (wx : World) : (Instr.slice 22 (.slice (some ⟨b, off, none⟩) n cap) none (some (.int .i64 p)) none).run Try.prog wx = .ok (.slice (some ⟨b, off, none⟩) p cap) wx := by
  rw [run_slice_h wx 22 (some ⟨b, off, none⟩) n cap Try.elemC .i64 _ (by omega) (by omega), Try.sizeC]
  simp only [Result.andThen, sliced]
  simp [Addr.add]

theorem run_backC (b off n cap p : Nat) (hp : p < n) (hn : n ≤ cap) (wx : World) : (Instr.slice 22 (.slice (some ⟨b, off, none⟩) n cap) (some (.int .i64 p)) none none).run Try.prog wx = .ok (.slice (some ⟨b, off + p * 3, none⟩) (n - p) (cap - p)) wx := by
  rw [run_slice_l wx 22 (some ⟨b, off, none⟩) n cap Try.elemC .i64 _ (by omega) (by omega), Try.sizeC]
  have hne : ¬ cap = p := by omega
  simp [Result.andThen, sliced, hne, add_at]

theorem Try.enters21 : ∀ args w, (callFunc 21 args).run Try.prog w = .ok (.enter 21 args) w := enters_of Try.func21 (by kernel_rfl) rfl
theorem Try.enters22 : ∀ args w, (callFunc 22 args).run Try.prog w = .ok (.enter 22 args) w := enters_of Try.func22 (by kernel_rfl) rfl

/-- 'none := api.Fault{}'. -/
theorem none_step (w : World) (t : TypeId) : ∃ V, w.alloc (.cells #[.int .i64 0, .int .i64 0] t) = V ∧ V.heap.size = w.heap.size + 1 ∧ Below w.heap.size w V ∧ V.heap[w.heap.size]? = some (.cells #[.int .i64 0, .int .i64 0] t (0, 0)) ∧
    (V.cell? ⟨w.heap.size, 0, none⟩ = some (.int .i64 0) ∧ V.cell? ⟨w.heap.size, 1, none⟩ = some (.int .i64 0)) ∧ (V.frozen? ⟨w.heap.size, 0, none⟩ = false ∧ V.frozen? ⟨w.heap.size, 1, none⟩ = false) ∧
    (V.setCell ⟨w.heap.size, 0, none⟩ (.int .i64 0) = V ∧ V.setCell ⟨w.heap.size, 1, none⟩ (.int .i64 0) = V) := by
  obtain ⟨V, h1, h2, h3, h4⟩ := blk_step w #[.int .i64 0, .int .i64 0] t
  exact ⟨V, h1, h2, h3, h4, ⟨blk_cell h4 0 rfl, blk_cell h4 1 rfl⟩, ⟨blk_froz h4 0, blk_froz h4 1⟩, ⟨set_same h4 (j := 0) rfl, set_same h4 (j := 1) rfl⟩⟩

/-- No fault, or one. -/
theorem fol_two (r : List Cm.Cv) (ep nu : Int) : (Cm.Good ep nu r ∧ Cm.fol ep nu 0 r = (0, 0)) ∨ (¬ Cm.Good ep nu r ∧ (Cm.fol ep nu 0 r).1 ≠ 0) := by
  by_cases h : Cm.Good ep nu r
  · have h1 := (Cm.fol_good r ep nu 0).2 h
    exact .inl ⟨h, Prod.ext h1 (Cm.fol_at r ep nu 0 h1)⟩
  · exact .inr ⟨h, fun h1 => h ((Cm.fol_good r ep nu 0).1 h1)⟩

end Go.Proofs.Ytfnaeblbodfekaa
