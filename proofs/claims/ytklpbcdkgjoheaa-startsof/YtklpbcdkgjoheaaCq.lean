/- The contracts of the laws' copies of lists of commits: CopyCommits, LentCommits, KeptCommits. -/
import Derived.Test.YtklpbcdkgjoheaaCp
namespace Go.Proofs.Ytklpbcdkgjoheaa
open Go.RowKit
set_option linter.unusedVariables false

theorem cw_ext {c d : Cw} (h : c.c = d.c) : c.e = d.e ∧ c.n = d.n ∧ c.l = d.l := by
  unfold Cw.c at h
  simpa using h

theorem cvs_at {r s : List Cw} (h : cvs r = cvs s) {k : Nat} {c : Cw} (hc : r[k]? = some c) : ∃ d, s[k]? = some d ∧ c.e = d.e ∧ c.n = d.n ∧ c.l = d.l := by
  have h1 : (cvs r)[k]? = some c.c := by unfold cvs; rw [List.getElem?_map, hc]; rfl
  rw [h] at h1
  unfold cvs at h1
  rw [List.getElem?_map, Option.map_eq_some_iff] at h1
  obtain ⟨d, hd, he⟩ := h1
  obtain ⟨e1, e2, e3⟩ := cw_ext he
  exact ⟨d, hd, e1.symm, e2.symm, e3.symm⟩

theorem cvs_len {r s : List Cw} (h : cvs r = cvs s) : r.length = s.length := by
  have := congrArg List.length h
  simpa [cvs] using this

theorem cvs_take (r : List Cw) (k : Nat) : cvs (r.take k) = (cvs r).take k := by unfold cvs; rw [List.map_take]

theorem cvs_snoc {rs r : List Cw} {k : Nat} {c d : Cw} (h : cvs rs = cvs (r.take k)) (hd : r[k]? = some d) (he : c.c = d.c) : cvs (rs ++ [c]) = cvs (r.take (k + 1)) := by
  obtain ⟨hk, rfl⟩ := List.getElem?_eq_some_iff.1 hd
  rw [List.take_succ_eq_append_getElem hk]
  unfold cvs at h ⊢
  rw [List.map_append, List.map_append, h]
  simp [he]

/-- The loop of CopyCommits: what was made of the first ones. -/
def CopyR (base : Nat) (w : World) (rs : List Cw) : Prop := ∀ c ∈ rs, OwnO 73 base w c.v c.l
def LentR (base : Nat) (w : World) (rs : List Cw) : Prop := ∀ c ∈ rs, LentV base w c.v c.l

theorem CopyR.inC {base : Nat} {w : World} {rs r : List Cw} (h : CopyR base w rs) (he : cvs rs = cvs r) {w' : World} (hr : InC w' r) : InC w rs := by
  intro c hc
  obtain ⟨k, hk⟩ := List.getElem?_of_mem hc
  obtain ⟨d, hd, e1, e2, _⟩ := cvs_at he hk
  obtain ⟨_, i1, i2⟩ := hr d (List.mem_of_getElem? hd)
  exact ⟨(h c hc).is, by rw [e1]; exact i1, by rw [e2]; exact i2⟩

theorem LentR.inC {base : Nat} {w : World} {rs r : List Cw} (h : LentR base w rs) (he : cvs rs = cvs r) {w' : World} (hr : InC w' r) : InC w rs := by
  intro c hc
  obtain ⟨k, hk⟩ := List.getElem?_of_mem hc
  obtain ⟨d, hd, e1, e2, _⟩ := cvs_at he hk
  obtain ⟨_, i1, i2⟩ := hr d (List.mem_of_getElem? hd)
  exact ⟨(h c hc).is, by rw [e1]; exact i1, by rw [e2]; exact i2⟩

theorem fit_same {rs r : List Cw} (he : cvs rs = cvs r) (hr : FitC r) : FitC rs := by
  intro c hc
  obtain ⟨k, hk⟩ := List.getElem?_of_mem hc
  obtain ⟨d, hd, _, _, e3⟩ := cvs_at he hk
  rw [e3]
  exact hr d (List.mem_of_getElem? hd)

theorem CopyR.below {base : Nat} {w w' : World} {rs : List Cw} (h : CopyR base w rs) (hb : Below w.heap.size w w') : CopyR base w' rs := fun c hc => (h c hc).below hb
theorem LentR.below {base : Nat} {w w' : World} {rs : List Cw} (h : LentR base w rs) (hb : Below w.heap.size w w') : LentR base w' rs := fun c hc => (h c hc).below hb
theorem CopyR.keepT {base : Nat} {w w' : World} {rs : List Cw} (h : CopyR base w rs) (hb : KeepT 40 w w') : CopyR base w' rs := fun c hc => (h c hc).keepT hb (by decide)
theorem LentR.keepT {base : Nat} {w w' : World} {rs : List Cw} (h : LentR base w rs) (hb : KeepT 40 w w') : LentR base w' rs := fun c hc => (h c hc).keepT hb (by decide)
theorem CopyR.snoc {base : Nat} {w : World} {rs : List Cw} (h : CopyR base w rs) {c : Cw} (hc : OwnO 73 base w c.v c.l) : CopyR base w (rs ++ [c]) := fun d hd => (List.mem_append.1 hd).elim (h d) (fun h => by rw [List.mem_singleton.1 h]; exact hc)
theorem LentR.snoc {base : Nat} {w : World} {rs : List Cw} (h : LentR base w rs) {c : Cw} (hc : LentV base w c.v c.l) : LentR base w (rs ++ [c]) := fun d hd => (List.mem_append.1 hd).elim (h d) (fun h => by rw [List.mem_singleton.1 h]; exact hc)

set_option maxHeartbeats 1000000 in
theorem copyCs_any (vl : Value) (r : List Cw) (w : World) (h : IsC w vl r) (hf : FitC r) (hl : r.length ≤ 1000) :
    Calls Try.prog 49 #[vl] w fun E w' => ∃ v rs, E = .returned v ∧ OwnR 40 w.heap.size w' v rs ∧ cvs rs = cvs r ∧ CopyR w.heap.size w' rs ∧ Below w.heap.size w w' := by
  by_cases hz : r.length = 0
  · have : r = [] := List.eq_nil_of_length_eq_zero hz
    subst this
    obtain ⟨ao, cap, rfl, _, _⟩ := h.1.shape
    clear h hf hl hz
    simp only [List.length_nil]
    go_enter Try.func49, Try.ntmps49
    go_wp2
    go_loopw [3, 4] (fun ov iv wr => ov = .slice none 0 0 ∧ iv = .int .i64 0 ∧ wr = w) (fun _ _ _ => 0)
    case atStart => exact ⟨rfl, rfl, rfl⟩
    case round =>
      obtain ⟨rfl, rfl, rfl⟩ := hrel
      go_wp2
      go_ret
      exact ⟨_, [], rfl, OwnR.nil _ _ _, rfl, fun c hc => by simp at hc, Below.refl _ _⟩
  obtain ⟨b1, o1, c1, hvl, _, _, hB, hcell⟩ := h.1.full (by omega)
  subst hvl
  have HIN := hide h.2
  have HFIT := hide hf
  have HC := hide hcell
  generalize hn : r.length = n at *
  have HN := hide hn
  clear h hcell hf hn
  go_enter Try.func49, Try.ntmps49
  go_wp2
  go_loopw [3, 4] (fun ov iv wr => ∃ (k : Nat) (rs : List Cw), k ≤ n ∧ iv = .int .i64 k ∧ rs.length = k ∧ Hid (OwnR 40 w.heap.size wr ov rs ∧ cvs rs = cvs (r.take k) ∧ CopyR w.heap.size wr rs) ∧ Below w.heap.size w wr) (fun _ iv _ => n - (intOf iv).toNat)
  case atStart => exact ⟨0, [], by omega, rfl, rfl, ⟨OwnR.nil _ _ _, rfl, fun c hc => by simp at hc⟩, Below.refl _ _⟩
  case round =>
    obtain ⟨k, rs, hk, rfl, hrl, HT, bel⟩ := hrel
    have sz := bel.size
    by_cases hlt : k < n
    · obtain ⟨c, hc⟩ : ∃ c, r[k]? = some c := ⟨r[k]'(by have := HN.out; omega), by rw [List.getElem?_eq_getElem]⟩
      obtain ⟨e0, e1, e2⟩ := HC.out k c hc
      have d0 := (bel.cell (p := ⟨b1, o1 + k * 3, none⟩) hB).trans e0
      have d1 := (bel.cell (p := ⟨b1, o1 + k * 3 + 1, none⟩) hB).trans e1
      have d2 := (bel.cell (p := ⟨b1, o1 + k * 3 + 2, none⟩) hB).trans e2
      have hmem := List.mem_of_getElem? hc
      obtain ⟨i1, _, _⟩ := HIN.out c hmem
      have i2 := i1.below bel
      obtain ⟨hfc, hlc⟩ := HFIT.out c hmem
      have HCK := hide hc
      have hlt' : (k : Int) < n := by omega
      clear hc hmem i1 e0 e1 e2
      go_wp2_with fail
      refine (copyC_any c.e c.n _ c.l _ i2 hlc).mono ?_
      rintro E w2 ⟨v2, rfl, own2, bel2⟩
      unfold cmv
      have sz2 := bel2.size
      obtain ⟨ah, ch, hv2, _, _⟩ := own2.is.shape
      subst hv2
      obtain ⟨w3, hw3, sz3, bel3, own3⟩ := coms_step 40 w2 #[.int .i64 c.e, .int .i64 c.n, .slice ah c.l.length ch] 1 [⟨c.e, c.n, .slice ah c.l.length ch, c.l⟩] rfl rfl (by simp [maxLen])
      obtain ⟨hO, hE, hP⟩ := HT.out
      have bel23 : Below wr.heap.size wr w3 := bel2.trans (bel3.mono (by omega))
      have hO3 := hO.below bel23
      have hP3 := hP.below bel23
      have own23 := (own2.below bel3).rebase (base' := w.heap.size) (by omega)
      have hlk : (rs.length + [(⟨c.e, c.n, .slice ah c.l.length ch, c.l⟩ : Cw)].length) * 40 ≤ 140737488355328 := by rw [List.length_singleton]; omega
      have HE := hide hE
      have HP := hide hP3
      have bel03 : Below w.heap.size w w3 := bel.trans (bel23.mono (by omega))
      clear HT hO hP hP3 hE bel2 bel3 bel23 own2 bel d0 d1 d2 i2
      go_wp2_with (at_builtin; refine wpList_append_coms rfl (.tmp 11) (.tmp 17) 37 rfl 40 w.heap.size Try.underlying37 Try.info40 _ rs rfl hO3 _ _ rfl own3.row (by intro c hc; rw [List.mem_singleton.1 hc]; rfl) hlk (by omega) ?_)
      intro v4 w4 own4 bel4 kp4
      have HT2 : Hid (OwnR 40 w.heap.size w4 v4 (rs ++ [⟨c.e, c.n, .slice ah c.l.length ch, c.l⟩]) ∧ cvs (rs ++ [⟨c.e, c.n, .slice ah c.l.length ch, c.l⟩]) = cvs (r.take (k + 1)) ∧ CopyR w.heap.size w4 (rs ++ [⟨c.e, c.n, .slice ah c.l.length ch, c.l⟩])) :=
        ⟨own4, cvs_snoc HE.out HCK.out rfl, (HP.out.keepT kp4).snoc (own23.keepT kp4 (by decide))⟩
      have bel04 := bel03.trans bel4
      clear own4 kp4 own23 own3 hO3 HE HP bel03 bel4 hlk
      go_wp2
      go_roundw
      case rel => exact ⟨k + 1, _, by omega, by go_num, by rw [List.length_append, hrl]; rfl, HT2, bel04⟩
      case measure => simp [intOf]; omega
    · have hlt' : ¬ (k : Int) < n := by omega
      have HE : Hid (cvs rs = cvs r) := hide (by rw [HT.out.2.1, List.take_of_length_le (by have := HN.out; omega)])
      go_wp2
      go_ret
      exact ⟨_, rfl, rs, HT.out.1, HE.out, HT.out.2.2, bel⟩

/-- What stands behind commits that are lent. -/
def behC : Cw := ⟨-7, 0, .slice none 0 0, []⟩

set_option maxHeartbeats 1000000 in
theorem lentCs_any (vl : Value) (r : List Cw) (w : World) (h : IsC w vl r) (hf : FitC r) (hl : r.length ≤ 1000) :
    Calls Try.prog 22 #[vl] w fun E w' => ∃ v rs, E = .returned v ∧ OwnR 40 w.heap.size w' v (rs ++ [behC, behC, behC]) ∧ cvs rs = cvs r ∧ LentR w.heap.size w' rs ∧ Below w.heap.size w w' := by
  obtain ⟨ao, cap, hvl, _, _⟩ := h.1.shape
  have hcell : 0 < r.length → ∃ b1 o1 c1, vl = .slice (some ⟨b1, o1, none⟩) r.length c1 ∧ b1 < w.heap.size ∧ ∀ i c, r[i]? = some c → w.cell? ⟨b1, o1 + i * 3, none⟩ = some (.int .i64 c.e) ∧ w.cell? ⟨b1, o1 + i * 3 + 1, none⟩ = some (.int .i64 c.n) ∧ w.cell? ⟨b1, o1 + i * 3 + 2, none⟩ = some c.v := by
    intro hp
    obtain ⟨b1, o1, c1, hv, _, _, hB, hc⟩ := h.1.full hp
    exact ⟨b1, o1, c1, hv, hB, hc⟩
  subst hvl
  have HIN := hide h.2
  have HFIT := hide hf
  have HC := hide hcell
  generalize hn : r.length = n at *
  have HN := hide hn
  clear h hcell hf hn
  go_enter Try.func22, Try.ntmps22
  go_wp2
  go_loopw [3, 4] (fun ov iv wr => ∃ (k : Nat) (rs : List Cw), k ≤ n ∧ iv = .int .i64 k ∧ rs.length = k ∧ Hid (OwnR 40 w.heap.size wr ov rs ∧ cvs rs = cvs (r.take k) ∧ LentR w.heap.size wr rs) ∧ Below w.heap.size w wr) (fun _ iv _ => n - (intOf iv).toNat)
  case atStart => exact ⟨0, [], by omega, rfl, rfl, ⟨OwnR.nil _ _ _, rfl, fun c hc => by simp at hc⟩, Below.refl _ _⟩
  case round =>
    obtain ⟨k, rs, hk, rfl, hrl, HT, bel⟩ := hrel
    have sz := bel.size
    by_cases hlt : k < n
    · obtain ⟨b1, o1, c1, hvx, hB, hcell⟩ := HC.out (by have := HN.out; omega)
      simp only [Value.slice.injEq, true_and] at hvx
      obtain ⟨rfl, rfl⟩ := hvx
      obtain ⟨c, hc⟩ : ∃ c, r[k]? = some c := ⟨r[k]'(by have := HN.out; omega), by rw [List.getElem?_eq_getElem]⟩
      obtain ⟨e0, e1, e2⟩ := hcell k c hc
      have d0 := (bel.cell (p := ⟨b1, o1 + k * 3, none⟩) hB).trans e0
      have d1 := (bel.cell (p := ⟨b1, o1 + k * 3 + 1, none⟩) hB).trans e1
      have d2 := (bel.cell (p := ⟨b1, o1 + k * 3 + 2, none⟩) hB).trans e2
      have hmem := List.mem_of_getElem? hc
      obtain ⟨i1, _, _⟩ := HIN.out c hmem
      have i2 := i1.below bel
      obtain ⟨hfc, hlc⟩ := HFIT.out c hmem
      have HCK := hide hc
      have hlt' : (k : Int) < n := by omega
      clear hc hmem i1 e0 e1 e2 hcell
      go_wp2_with fail
      refine (lentC_any c.e c.n _ c.l _ i2 hlc).mono ?_
      rintro E w2 ⟨v2, rfl, own2, bel2⟩
      unfold cmv
      have sz2 := bel2.size
      obtain ⟨ah, ch, hv2, _, _⟩ := own2.is.shape
      subst hv2
      obtain ⟨w3, hw3, sz3, bel3, own3⟩ := coms_step 40 w2 #[.int .i64 c.e, .int .i64 c.n, .slice ah c.l.length ch] 1 [⟨c.e, c.n, .slice ah c.l.length ch, c.l⟩] rfl rfl (by simp [maxLen])
      obtain ⟨hO, hE, hP⟩ := HT.out
      have bel23 : Below wr.heap.size wr w3 := bel2.trans (bel3.mono (by omega))
      have hO3 := hO.below bel23
      have hP3 := hP.below bel23
      have own23 := (own2.below bel3).rebase (base' := w.heap.size) (by omega)
      have hlk : (rs.length + [(⟨c.e, c.n, .slice ah c.l.length ch, c.l⟩ : Cw)].length) * 40 ≤ 140737488355328 := by rw [List.length_singleton]; omega
      have HE := hide hE
      have HP := hide hP3
      have bel03 : Below w.heap.size w w3 := bel.trans (bel23.mono (by omega))
      clear HT hO hP hP3 hE bel2 bel3 bel23 own2 bel d0 d1 d2 i2
      go_wp2_with (at_builtin; refine wpList_append_coms rfl (.tmp 12) (.tmp 18) 37 rfl 40 w.heap.size Try.underlying37 Try.info40 _ rs rfl hO3 _ _ rfl own3.row (by intro c hc; rw [List.mem_singleton.1 hc]; rfl) hlk (by omega) ?_)
      intro v4 w4 own4 bel4 kp4
      have HT2 : Hid (OwnR 40 w.heap.size w4 v4 (rs ++ [⟨c.e, c.n, .slice ah c.l.length ch, c.l⟩]) ∧ cvs (rs ++ [⟨c.e, c.n, .slice ah c.l.length ch, c.l⟩]) = cvs (r.take (k + 1)) ∧ LentR w.heap.size w4 (rs ++ [⟨c.e, c.n, .slice ah c.l.length ch, c.l⟩])) :=
        ⟨own4, cvs_snoc HE.out HCK.out rfl, (HP.out.keepT kp4).snoc (own23.keepT kp4 (by decide))⟩
      have bel04 := bel03.trans bel4
      clear own4 kp4 own23 own3 hO3 HE HP bel03 bel4 hlk
      go_wp2
      go_roundw
      case rel => exact ⟨k + 1, _, by omega, by go_num, by rw [List.length_append, hrl]; rfl, HT2, bel04⟩
      case measure => simp [intOf]; omega
    · have hlt' : ¬ (k : Int) < n := by omega
      have HE : Hid (cvs rs = cvs r) := hide (by rw [HT.out.2.1, List.take_of_length_le (by have := HN.out; omega)])
      have HS := HT.out.1
      have HLR := hide HT.out.2.2
      have hS0 : Hid (OwnR 40 w.heap.size wr _ (rs ++ List.replicate 0 behC) ∧ LentR w.heap.size wr rs) := ⟨by simpa using HS, HT.out.2.2⟩
      clear HT HS HLR
      go_wp2
      go_loopw [3, 5] (fun ov iv wq => ∃ (j : Nat), j ≤ 3 ∧ iv = .int .i64 j ∧ Hid (OwnR 40 w.heap.size wq ov (rs ++ List.replicate j behC) ∧ LentR w.heap.size wq rs) ∧ Below w.heap.size w wq) (fun _ iv _ => 3 - (intOf iv).toNat)
      case atStart => exact ⟨0, by omega, rfl, hS0, bel⟩
      case round =>
        obtain ⟨j, hj, rfl, HJ, belJ⟩ := hrel
        have szJ := belJ.size
        by_cases hlj : j < 3
        · have hlj' : (j : Int) < 3 := by omega
          obtain ⟨w3, hw3, sz3, bel3, own3⟩ := coms_step 40 wr #[.int .i64 (-7), .int .i64 0, .slice none 0 0] 1 [behC] rfl rfl (by simp [maxLen])
          have hO3 := HJ.out.1.below bel3
          have HP := hide (HJ.out.2.below bel3)
          have hlk : ((rs ++ List.replicate j behC).length + [behC].length) * 40 ≤ 140737488355328 := by rw [List.length_append, List.length_replicate, List.length_singleton]; omega
          have bel03 : Below w.heap.size w w3 := belJ.trans (bel3.mono (by omega))
          clear HJ belJ bel3 hS0
          go_wp2_with (at_builtin; refine wpList_append_coms rfl (.tmp 24) (.tmp 26) 37 rfl 40 w.heap.size Try.underlying37 Try.info40 _ _ rfl hO3 _ [behC] rfl own3.row (by intro c hc; rw [List.mem_singleton.1 hc]; rfl) hlk (by omega) ?_)
          intro v4 w4 own4 bel4 kp4
          have HT2 : Hid (OwnR 40 w.heap.size w4 v4 (rs ++ List.replicate (j + 1) behC) ∧ LentR w.heap.size w4 rs) := ⟨by rw [List.replicate_succ']; exact own4, HP.out.keepT kp4⟩
          have bel04 := bel03.trans bel4
          clear own4 kp4 own3 hO3 HP bel03 bel4 hlk
          go_wp2
          go_roundw
          case rel => exact ⟨j + 1, by omega, by go_num, HT2, bel04⟩
          case measure => simp [intOf]; omega
        · have hlj' : ¬ (j : Int) < 3 := by omega
          have hj3 : j = 3 := by omega
          subst hj3
          clear hS0
          go_wp2
          go_ret
          exact ⟨_, rfl, rs, HJ.out.1, HE.out, HJ.out.2, belJ⟩

end Go.Proofs.Ytklpbcdkgjoheaa
