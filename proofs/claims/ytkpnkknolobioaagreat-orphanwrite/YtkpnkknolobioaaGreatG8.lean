/- Texts of one layer, one behind the other. -/
import Derived.Test.YtkpnkknolobioaaGreatG7
import Derived.Test.YtkpnkknolobioaaGreatG3
import Derived.Deep.RegionHeld3
/- The contracts of the laws' copies of lists of commits: CopyCommits, LentCommits, KeptCommits. -/
namespace Go.Proofs.YtkpnkknolobioaaGreat
open Go.RowKit
set_option linter.unusedVariables false

theorem cw_ext {c d : Cw} (h : c.c = d.c) : c.e = d.e ∧ c.n = d.n ∧ c.l = d.l := by
  unfold Cw.c at h
  simpa using h

theorem cvs_at {r s : List Cw} (h : cvs r = cvs s) {k : Nat} {c : Cw} (hc : r[k]? = some c) : ∃ d, s[k]? = some d ∧ c.e = d.e ∧ c.n = d.n ∧ c.l = d.l := by
  have h1 : (cvs r)[k]? = some c.c := by unfold cvs; rw [List.getElem?_map, hc]; rfl
  rw [h] at h1
  unfold cvs at h1
  rw [List.getElem?_map, Option.map_eq_some_iff] at h1
  obtain ⟨d, hd, he⟩ := h1
  obtain ⟨e1, e2, e3⟩ := cw_ext he
  exact ⟨d, hd, e1.symm, e2.symm, e3.symm⟩

theorem cvs_len {r s : List Cw} (h : cvs r = cvs s) : r.length = s.length := by
  have := congrArg List.length h
  simpa [cvs] using this

theorem cvs_take (r : List Cw) (k : Nat) : cvs (r.take k) = (cvs r).take k := by unfold cvs; rw [List.map_take]

theorem cvs_snoc {rs r : List Cw} {k : Nat} {c d : Cw} (h : cvs rs = cvs (r.take k)) (hd : r[k]? = some d) (he : c.c = d.c) : cvs (rs ++ [c]) = cvs (r.take (k + 1)) := by
  obtain ⟨hk, rfl⟩ := List.getElem?_eq_some_iff.1 hd
  rw [List.take_succ_eq_append_getElem hk]
  unfold cvs at h ⊢
  rw [List.map_append, List.map_append, h]
  simp [he]

/-- The loop of CopyCommits: what was made of the first ones. -/
def CopyR (base : Nat) (w : World) (rs : List Cw) : Prop := ∀ c ∈ rs, OwnO 93 base w c.v c.l
def LentR (base : Nat) (w : World) (rs : List Cw) : Prop := ∀ c ∈ rs, LentV base w c.v c.l

theorem CopyR.inC {base : Nat} {w : World} {rs r : List Cw} (h : CopyR base w rs) (he : cvs rs = cvs r) {w' : World} (hr : InC w' r) : InC w rs := by
  intro c hc
  obtain ⟨k, hk⟩ := List.getElem?_of_mem hc
  obtain ⟨d, hd, e1, e2, _⟩ := cvs_at he hk
  obtain ⟨_, i1, i2⟩ := hr d (List.mem_of_getElem? hd)
  exact ⟨(h c hc).is, by rw [e1]; exact i1, by rw [e2]; exact i2⟩

theorem LentR.inC {base : Nat} {w : World} {rs r : List Cw} (h : LentR base w rs) (he : cvs rs = cvs r) {w' : World} (hr : InC w' r) : InC w rs := by
  intro c hc
  obtain ⟨k, hk⟩ := List.getElem?_of_mem hc
  obtain ⟨d, hd, e1, e2, _⟩ := cvs_at he hk
  obtain ⟨_, i1, i2⟩ := hr d (List.mem_of_getElem? hd)
  exact ⟨(h c hc).is, by rw [e1]; exact i1, by rw [e2]; exact i2⟩

theorem fit_same {rs r : List Cw} (he : cvs rs = cvs r) (hr : FitC r) : FitC rs := by
  intro c hc
  obtain ⟨k, hk⟩ := List.getElem?_of_mem hc
  obtain ⟨d, hd, _, _, e3⟩ := cvs_at he hk
  rw [e3]
  exact hr d (List.mem_of_getElem? hd)

theorem CopyR.below {base : Nat} {w w' : World} {rs : List Cw} (h : CopyR base w rs) (hb : Below w.heap.size w w') : CopyR base w' rs := fun c hc => (h c hc).below hb

theorem LentR.below {base : Nat} {w w' : World} {rs : List Cw} (h : LentR base w rs) (hb : Below w.heap.size w w') : LentR base w' rs := fun c hc => (h c hc).below hb

theorem CopyR.keepT {base : Nat} {w w' : World} {rs : List Cw} (h : CopyR base w rs) (hb : KeepT 59 w w') : CopyR base w' rs := fun c hc => (h c hc).keepT hb (by decide)

theorem LentR.keepT {base : Nat} {w w' : World} {rs : List Cw} (h : LentR base w rs) (hb : KeepT 59 w w') : LentR base w' rs := fun c hc => (h c hc).keepT hb (by decide)

theorem CopyR.snoc {base : Nat} {w : World} {rs : List Cw} (h : CopyR base w rs) {c : Cw} (hc : OwnO 93 base w c.v c.l) : CopyR base w (rs ++ [c]) := fun d hd => (List.mem_append.1 hd).elim (h d) (fun h => by rw [List.mem_singleton.1 h]; exact hc)

theorem LentR.snoc {base : Nat} {w : World} {rs : List Cw} (h : LentR base w rs) {c : Cw} (hc : LentV base w c.v c.l) : LentR base w (rs ++ [c]) := fun d hd => (List.mem_append.1 hd).elim (h d) (fun h => by rw [List.mem_singleton.1 h]; exact hc)

/-- What stands behind commits that are lent. -/
def behC : Cw := ⟨-7, 0, .slice none 0 0, []⟩

set_option maxHeartbeats 1000000 in
theorem lentCs_any (vl : Value) (r : List Cw) (w : World) (h : IsC w vl r) (hf : FitC r) (hl : r.length ≤ 1000) :
    Calls Tryz.prog 14 #[vl] w fun E w' => ∃ v rs, E = .returned v ∧ OwnR 59 w.heap.size w' v (rs ++ [behC, behC, behC]) ∧ cvs rs = cvs r ∧ LentR w.heap.size w' rs ∧ Below w.heap.size w w' := by
  obtain ⟨ao, cap, hvl, _, _⟩ := h.1.shape
  have hcell : 0 < r.length → ∃ b1 o1 c1, vl = .slice (some ⟨b1, o1, none⟩) r.length c1 ∧ b1 < w.heap.size ∧ ∀ i c, r[i]? = some c → w.cell? ⟨b1, o1 + i * 3, none⟩ = some (.int .i64 c.e) ∧ w.cell? ⟨b1, o1 + i * 3 + 1, none⟩ = some (.int .i64 c.n) ∧ w.cell? ⟨b1, o1 + i * 3 + 2, none⟩ = some c.v := by
    intro hp
    obtain ⟨b1, o1, c1, hv, _, _, hB, hc⟩ := h.1.full hp
    exact ⟨b1, o1, c1, hv, hB, hc⟩
  subst hvl
  have HIN := hide h.2
  have HFIT := hide hf
  have HC := hide hcell
  generalize hn : r.length = n at *
  have HN := hide hn
  clear h hcell hf hn
  go_enter Tryz.func14, Tryz.ntmps14
  go_wp2
  go_loopw [3, 4] (fun ov iv wr => ∃ (k : Nat) (rs : List Cw), k ≤ n ∧ iv = .int .i64 k ∧ rs.length = k ∧ Hid (OwnR 59 w.heap.size wr ov rs ∧ cvs rs = cvs (r.take k) ∧ LentR w.heap.size wr rs) ∧ Below w.heap.size w wr) (fun _ iv _ => n - (intOf iv).toNat)
  case atStart => exact ⟨0, [], by omega, rfl, rfl, ⟨OwnR.nil _ _ _, rfl, fun c hc => by simp at hc⟩, Below.refl _ _⟩
  case round =>
    obtain ⟨k, rs, hk, rfl, hrl, HT, bel⟩ := hrel
    have sz := bel.size
    by_cases hlt : k < n
    · obtain ⟨b1, o1, c1, hvx, hB, hcell⟩ := HC.out (by have := HN.out; omega)
      simp only [Value.slice.injEq, true_and] at hvx
      obtain ⟨rfl, rfl⟩ := hvx
      obtain ⟨c, hc⟩ : ∃ c, r[k]? = some c := ⟨r[k]'(by have := HN.out; omega), by rw [List.getElem?_eq_getElem]⟩
      obtain ⟨e0, e1, e2⟩ := hcell k c hc
      have d0 := (bel.cell (p := ⟨b1, o1 + k * 3, none⟩) hB).trans e0
      have d1 := (bel.cell (p := ⟨b1, o1 + k * 3 + 1, none⟩) hB).trans e1
      have d2 := (bel.cell (p := ⟨b1, o1 + k * 3 + 2, none⟩) hB).trans e2
      have hmem := List.mem_of_getElem? hc
      obtain ⟨i1, _, _⟩ := HIN.out c hmem
      have i2 := i1.below bel
      obtain ⟨hfc, hlc⟩ := HFIT.out c hmem
      have HCK := hide hc
      have hlt' : (k : Int) < n := by omega
      clear hc hmem i1 e0 e1 e2 hcell
      go_wp2_with fail
      refine (lentC_any c.e c.n _ c.l _ i2 hlc).mono ?_
      rintro E w2 ⟨v2, rfl, own2, bel2⟩
      unfold cmv
      have sz2 := bel2.size
      obtain ⟨ah, ch, hv2, _, _⟩ := own2.is.shape
      subst hv2
      obtain ⟨w3, hw3, sz3, bel3, own3⟩ := coms_step 59 w2 #[.int .i64 c.e, .int .i64 c.n, .slice ah c.l.length ch] 1 [⟨c.e, c.n, .slice ah c.l.length ch, c.l⟩] rfl rfl (by simp [maxLen])
      obtain ⟨hO, hE, hP⟩ := HT.out
      have bel23 : Below wr.heap.size wr w3 := bel2.trans (bel3.mono (by omega))
      have hO3 := hO.below bel23
      have hP3 := hP.below bel23
      have own23 := (own2.below bel3).rebase (base' := w.heap.size) (by omega)
      have hlk : (rs.length + [(⟨c.e, c.n, .slice ah c.l.length ch, c.l⟩ : Cw)].length) * 40 ≤ 140737488355328 := by rw [List.length_singleton]; omega
      have HE := hide hE
      have HP := hide hP3
      have bel03 : Below w.heap.size w w3 := bel.trans (bel23.mono (by omega))
      clear HT hO hP hP3 hE bel2 bel3 bel23 own2 bel d0 d1 d2 i2
      go_wp2_with (at_builtin; refine wpList_append_coms rfl (.tmp 12) (.tmp 18) 23 rfl 59 w.heap.size Tryz.underlying23 Tryz.info59 _ rs rfl hO3 _ _ rfl own3.row (by intro c hc; rw [List.mem_singleton.1 hc]; rfl) hlk (by omega) ?_)
      intro v4 w4 own4 bel4 kp4
      have HT2 : Hid (OwnR 59 w.heap.size w4 v4 (rs ++ [⟨c.e, c.n, .slice ah c.l.length ch, c.l⟩]) ∧ cvs (rs ++ [⟨c.e, c.n, .slice ah c.l.length ch, c.l⟩]) = cvs (r.take (k + 1)) ∧ LentR w.heap.size w4 (rs ++ [⟨c.e, c.n, .slice ah c.l.length ch, c.l⟩])) :=
        ⟨own4, cvs_snoc HE.out HCK.out rfl, (HP.out.keepT kp4).snoc (own23.keepT kp4 (by decide))⟩
      have bel04 := bel03.trans bel4
      clear own4 kp4 own23 own3 hO3 HE HP bel03 bel4 hlk
      go_wp2
      go_roundw
      case rel => exact ⟨k + 1, _, by omega, by go_num, by rw [List.length_append, hrl]; rfl, HT2, bel04⟩
      case measure => simp [intOf]; omega
    · have hlt' : ¬ (k : Int) < n := by omega
      have HE : Hid (cvs rs = cvs r) := hide (by rw [HT.out.2.1, List.take_of_length_le (by have := HN.out; omega)])
      have HS := HT.out.1
      have HLR := hide HT.out.2.2
      have hS0 : Hid (OwnR 59 w.heap.size wr _ (rs ++ List.replicate 0 behC) ∧ LentR w.heap.size wr rs) := ⟨by simpa using HS, HT.out.2.2⟩
      clear HT HS HLR
      go_wp2
      go_loopw [3, 5] (fun ov iv wq => ∃ (j : Nat), j ≤ 3 ∧ iv = .int .i64 j ∧ Hid (OwnR 59 w.heap.size wq ov (rs ++ List.replicate j behC) ∧ LentR w.heap.size wq rs) ∧ Below w.heap.size w wq) (fun _ iv _ => 3 - (intOf iv).toNat)
      case atStart => exact ⟨0, by omega, rfl, hS0, bel⟩
      case round =>
        obtain ⟨j, hj, rfl, HJ, belJ⟩ := hrel
        have szJ := belJ.size
        by_cases hlj : j < 3
        · have hlj' : (j : Int) < 3 := by omega
          obtain ⟨w3, hw3, sz3, bel3, own3⟩ := coms_step 59 wr #[.int .i64 (-7), .int .i64 0, .slice none 0 0] 1 [behC] rfl rfl (by simp [maxLen])
          have hO3 := HJ.out.1.below bel3
          have HP := hide (HJ.out.2.below bel3)
          have hlk : ((rs ++ List.replicate j behC).length + [behC].length) * 40 ≤ 140737488355328 := by rw [List.length_append, List.length_replicate, List.length_singleton]; omega
          have bel03 : Below w.heap.size w w3 := belJ.trans (bel3.mono (by omega))
          clear HJ belJ bel3 hS0
          go_wp2_with (at_builtin; refine wpList_append_coms rfl (.tmp 24) (.tmp 26) 23 rfl 59 w.heap.size Tryz.underlying23 Tryz.info59 _ _ rfl hO3 _ [behC] rfl own3.row (by intro c hc; rw [List.mem_singleton.1 hc]; rfl) hlk (by omega) ?_)
          intro v4 w4 own4 bel4 kp4
          have HT2 : Hid (OwnR 59 w.heap.size w4 v4 (rs ++ List.replicate (j + 1) behC) ∧ LentR w.heap.size w4 rs) := ⟨by rw [List.replicate_succ']; exact own4, HP.out.keepT kp4⟩
          have bel04 := bel03.trans bel4
          clear own4 kp4 own3 hO3 HP bel03 bel4 hlk
          go_wp2
          go_roundw
          case rel => exact ⟨j + 1, by omega, by go_num, HT2, bel04⟩
          case measure => simp [intOf]; omega
        · have hlj' : ¬ (j : Int) < 3 := by omega
          have hj3 : j = 3 := by omega
          subst hj3
          clear hS0
          go_wp2
          go_ret
          exact ⟨_, rfl, rs, HJ.out.1, HE.out, HJ.out.2, belJ⟩

end Go.Proofs.YtkpnkknolobioaaGreat

/- The contract of the laws' KeptCommits. -/
namespace Go.Proofs.YtkpnkknolobioaaGreat
open Go.RowKit
set_option linter.unusedVariables false

theorem row_at {w : World} {b o : Nat} {r : List Cw} (h : ∀ i c, r[i]? = some c → w.cell? ⟨b, o + i * 3, none⟩ = some (.int .i64 c.e) ∧ w.cell? ⟨b, o + i * 3 + 1, none⟩ = some (.int .i64 c.n) ∧ w.cell? ⟨b, o + i * 3 + 2, none⟩ = some c.v) {w' : World} {base : Nat} (hb : Below base w w') (hB : b < base) {k : Nat} {c : Cw} (hc : r[k]? = some c) :
    w'.cell? ⟨b, o + k * 3, none⟩ = some (.int .i64 c.e) ∧ w'.cell? ⟨b, o + k * 3 + 1, none⟩ = some (.int .i64 c.n) ∧ w'.cell? ⟨b, o + k * 3 + 2, none⟩ = some c.v := by
  obtain ⟨e0, e1, e2⟩ := h k c hc
  exact ⟨(hb.cell (p := ⟨b, o + k * 3, none⟩) hB).trans e0, (hb.cell (p := ⟨b, o + k * 3 + 1, none⟩) hB).trans e1, (hb.cell (p := ⟨b, o + k * 3 + 2, none⟩) hB).trans e2⟩

set_option maxRecDepth 100000 in
set_option maxHeartbeats 2000000 in
theorem keptCs_yes (vf vl : Value) (rs r : List Cw) (base : Nat) (w : World) (hw : RowC w vf (rs ++ [behC, behC, behC])) (he : cvs rs = cvs r) (hr : LentR base w rs) (h : IsC w vl r) (hf : FitC r) (hl : r.length ≤ 1000) :
    Calls Tryz.prog 17 #[vf, vl] w fun E w' => E = .returned (.bool true) ∧ Below w.heap.size w w' := by
  have hlen := cvs_len he
  obtain ⟨b2, o2, c2, hvf, hcf, hmf, hB2, hcell2⟩ := hw.full (by simp)
  have hfl : (rs ++ [behC, behC, behC]).length = r.length + 3 := by rw [List.length_append, hlen]; rfl
  rw [hfl] at hvf hcf
  subst hvf
  obtain ⟨ao, cap, hvl, _, _⟩ := h.1.shape
  have hcell : 0 < r.length → ∃ b1 o1 c1, vl = .slice (some ⟨b1, o1, none⟩) r.length c1 ∧ b1 < w.heap.size ∧ ∀ i c, r[i]? = some c → w.cell? ⟨b1, o1 + i * 3, none⟩ = some (.int .i64 c.e) ∧ w.cell? ⟨b1, o1 + i * 3 + 1, none⟩ = some (.int .i64 c.n) ∧ w.cell? ⟨b1, o1 + i * 3 + 2, none⟩ = some c.v := by
    intro hp
    obtain ⟨b1, o1, c1, hv, _, _, hB, hc⟩ := h.1.full hp
    exact ⟨b1, o1, c1, hv, hB, hc⟩
  subst hvl
  have HIN := hide h.2
  have HFIT := hide hf
  have HC := hide hcell
  have HC2 := hide hcell2
  have HE := hide he
  have HL := hide hr
  generalize hn : r.length = n at *
  have HN := hide hn
  have HRS := hide hlen
  have hne : (((n : Int) + 3) != ((n : Int) + 3)) = false := by simp
  clear h hcell hcell2 hf hn he hr hlen hfl hw
  go_enter Tryz.func17, Tryz.ntmps17
  go_wp2
  go_loopw [5] (fun iv wr => ∃ (k : Nat), k ≤ n ∧ iv = .int .i64 k ∧ Below w.heap.size w wr) (fun iv _ => n - (intOf iv).toNat)
  case atStart => exact ⟨0, by omega, rfl, Below.refl _ _⟩
  case round =>
    obtain ⟨k, hk, rfl, bel⟩ := hrel
    have sz := bel.size
    by_cases hlt : k < n
    · obtain ⟨b1, o1, c1, hvx, hB, hcell⟩ := HC.out (by have := HN.out; omega)
      simp only [Value.slice.injEq, true_and] at hvx
      obtain ⟨rfl, rfl⟩ := hvx
      obtain ⟨c, hc⟩ : ∃ c, rs[k]? = some c := ⟨rs[k]'(by have := HN.out; have := HRS.out; omega), by rw [List.getElem?_eq_getElem]⟩
      obtain ⟨d, hd, q1, q2, q3⟩ := cvs_at HE.out hc
      have hc' : (rs ++ [behC, behC, behC])[k]? = some c := by rw [List.getElem?_append_left (by have := HRS.out; omega)]; exact hc
      obtain ⟨d0, d1, d2⟩ := row_at hcell bel hB hd
      obtain ⟨c0, c1', c2'⟩ := row_at HC2.out bel hB2 hc'
      have hmem := List.mem_of_getElem? hd
      obtain ⟨i1, _, _⟩ := HIN.out d hmem
      obtain ⟨_, hld⟩ := HFIT.out d hmem
      have i2 := i1.below bel
      have l2 := (HL.out c (List.mem_of_getElem? hc)).below bel
      rw [← q1] at d0
      rw [← q2] at d1
      rw [← q3] at i2 hld
      have hlt' : (k : Int) < n := by omega
      have hlt2 : (k : Int) < (n : Int) + 3 := by omega
      have hlt0 : (0 : Int) ≤ (k : Int) := by omega
      have hB2' : b2 < wr.heap.size := by omega
      have hB1' : b1 < wr.heap.size := by omega
      have HLD := hide hld
      clear hc hd q1 q2 q3 hc' hmem i1 hcell hld
      go_wp2_with fail
      go_region_held3 (fun w' => (w'.cell? ⟨b2, o2 + k * 3, none⟩ = some (.int .i64 c.e) ∧ w'.cell? ⟨b2, o2 + k * 3 + 1, none⟩ = some (.int .i64 c.n) ∧ w'.cell? ⟨b2, o2 + k * 3 + 2, none⟩ = some c.v) ∧ (w'.cell? ⟨b1, o1 + k * 3, none⟩ = some (.int .i64 c.e) ∧ w'.cell? ⟨b1, o1 + k * 3 + 1, none⟩ = some (.int .i64 c.n) ∧ w'.cell? ⟨b1, o1 + k * 3 + 2, none⟩ = some d.v)) (first | exact ⟨⟨c0, c1', c2'⟩, ⟨d0, d1, d2⟩⟩ | exact ⟨⟨a0, a1, a2⟩, ⟨x0, x1, x2⟩⟩ | go_keep)
        (first
        | (go_at_call 47; refine (keptC_yes c.e c.n _ _ c.l base _ (l2.below ((Below.refl _ _).drew)) (i2.drewN 1) HLD.out).mono ?_; rintro E w3 ⟨rfl, bel3'⟩; have bel3 : Below wr.heap.size wr w3 := ((Below.refl _ _).drew).trans bel3'; have a0 := (bel3.cell (p := ⟨b2, o2 + k * 3, none⟩) hB2').trans c0; have a1 := (bel3.cell (p := ⟨b2, o2 + k * 3 + 1, none⟩) hB2').trans c1'; have a2 := (bel3.cell (p := ⟨b2, o2 + k * 3 + 2, none⟩) hB2').trans c2'; have x0 := (bel3.cell (p := ⟨b1, o1 + k * 3, none⟩) hB1').trans d0; have x1 := (bel3.cell (p := ⟨b1, o1 + k * 3 + 1, none⟩) hB1').trans d1; have x2 := (bel3.cell (p := ⟨b1, o1 + k * 3 + 2, none⟩) hB1').trans d2; clear bel3'))
      have belR := bel.trans (bel3.mono (by omega))
      clear a0 a1 a2 x0 x1 x2 c0 c1' c2' d0 d1 d2 l2 i2 bel3 bel
      go_wp2
      go_roundw
      case rel => exact ⟨k + 1, by omega, by go_num, belR⟩
      case measure => simp [intOf]; omega
    · have hlt' : ¬ (k : Int) < n := by omega
      go_wp2
      go_loopw [6] (fun iv wr => ∃ (j : Nat), j ≤ 3 ∧ iv = .int .i64 ((n : Int) + (j : Int)) ∧ Below w.heap.size w wr) (fun iv _ => n + 3 - (intOf iv).toNat)
      case atStart => exact ⟨0, by omega, by simp, bel⟩
      case round =>
        obtain ⟨j, hj, rfl, belJ⟩ := hrel
        have szJ := belJ.size
        by_cases hlj : j < 3
        · have hc' : (rs ++ [behC, behC, behC])[n + j]? = some behC := by
            have := HRS.out
            rw [List.getElem?_append_right (by omega), this, Nat.add_sub_cancel_left]
            rcases (show j = 0 ∨ j = 1 ∨ j = 2 by omega) with rfl | rfl | rfl <;> rfl
          obtain ⟨c0, c1', c2'⟩ := row_at HC2.out belJ hB2 hc'
          have hj1 : (n : Int) + (j : Int) < (n : Int) + 3 := by omega
          have hj0 : (0 : Int) ≤ (n : Int) + (j : Int) := by omega
          have hjn : ((n : Int) + (j : Int)).toNat = n + j := by omega
          simp only [behC] at c0 c1' c2'
          clear hc'
          go_wp2_with fail
          refine (csameK_any (-7) 0 _ [] (-7) 0 _ [] _ (IsO.nil _) (IsO.nil _) (by simp) (by simp)).mono ?_
          rintro E w3 ⟨rfl, bel3⟩
          rw [sameC_self]
          have belR := belJ.trans (bel3.mono (by omega))
          clear c0 c1' c2' bel3
          go_wp2
          go_roundw
          case rel => exact ⟨j + 1, by omega, by go_num, belR⟩
          case measure => simp [intOf]; omega
        · have hj3 : j = 3 := by omega
          subst hj3
          go_wp2
          go_ret
          exact ⟨rfl, belJ⟩

end Go.Proofs.YtkpnkknolobioaaGreat

/- An append of commits inside a region that draws its order; front and back parts of a list of commits by their values; a variable that is no fault. -/
namespace Go.Proofs.YtkpnkknolobioaaGreat
open Go.RowKit
set_option linter.unusedVariables false

/-- 'append(out, xs...)' of commits inside a region that draws its order. -/
theorem step_append_coms {P : Program} {ops : Array Oper} {o : Oper} {a : Act} {w : World} {K : Act → World → Prop} {Q : Exit → Act → World → Prop} {E : Prop} (hgd : o.guard = none) (s x : Operand) (t : TypeId)
    (ho : o.op = .call { callee := .builtin .append, args := #[s, x], argTypes := #[t, t] })
    (e : TypeId) (base : Nat) (ht : P.underlying t = some (.slice e)) (hinfo : (P.info? e).map (fun i => (i.zero, i.size, i.bytes)) = some (some (.agg #[.int .i64 0, .int .i64 0, .slice none 0 0]), 3, 40))
    (v : Value) (l : List Cw) (hs : a.eval s = v) (hown : OwnR e base w v l) (vx : Value) (m : List Cw) (hx : a.eval x = vx) (his : RowC w vx m) (hone : ∀ c ∈ m, c.v.oneCell' = true)
    (hlen : (l.length + m.length) * 40 ≤ 140737488355328) (hbase : base ≤ w.heap.size)
    (h : ∀ v' w', OwnR e base w' v' (l ++ m) → Below base w w' → KeepT e w w' → K (a.put o.dst v') w') :
    if Region.wanted o (yielded ops a.tmps) = true then Oper.wp P o a w K Q else E := by
  have hw : Region.wanted o (yielded ops a.tmps) = true := by simp [Region.wanted, hgd]
  rw [if_pos hw]
  obtain ⟨i, hi, hz, hsize, hb⟩ := info_parts hinfo
  have hn : l.length + m.length ≤ 140737488355328 := by omega
  rcases his with ⟨hv, hy⟩ | ⟨ad, cap, hv, h1, h2, hc⟩
  · subst hy
    have hrun := run_append_owned_none (P := P) (w := w) base t o.type e i 3 ht hi v l.length _ hown
    have hk := h v w (by simpa using hown) (Below.refl _ _) (KeepT.refl _ _)
    unfold Oper.wp
    simp [execOp, ho, resolve, invoke, builtin, hs, hx.trans hv, hrun, Result.andThen]
    exact hk
  · refine wp_append_own w s x t ho base e i _ 3 40 ht hi hz hsize hb rfl (by decide) v l.length _ hs hown ad m.length cap (ccells m) (hx.trans hv) (ccells_len m) hc (ccells_cell m hone) (by unfold maxLen; omega) hlen hbase ?_
    intro v' w' ho' hg _
    refine h v' w' (by unfold OwnR; rw [ccells_app, List.length_append]; exact ho') ((Below.refl _ _).grown hg hbase fun k' hk => ?_) (KeepT.of_row hown hg)
    exact (World.ownsRow.lt hown k' hk).1

theorem RowC.front {w : World} {ad : Addr} {n cap : Nat} {l : List Cw} (h : RowC w (.slice (some ad) n cap) l) (p : Nat) (hp : p ≤ l.length) : RowC w (.slice (some ad) p cap) (l.take p) := by
  have hl : (l.take p).length = p := by rw [List.length_take]; omega
  rcases h with ⟨hv, _⟩ | ⟨ad', cap', hv, h1, h2, hc⟩
  · simp at hv
  · simp at hv
    obtain ⟨rfl, rfl, rfl⟩ := hv
    refine .inr ⟨ad, cap, by rw [hl], by omega, h2, fun j u hj => hc j u ?_⟩
    rw [ccells_take, List.getElem?_take] at hj
    split at hj
    · exact hj
    · simp at hj

theorem RowC.back {w : World} {b off n cap : Nat} {l : List Cw} (h : RowC w (.slice (some ⟨b, off, none⟩) n cap) l) (p : Nat) (hp : p < l.length) : RowC w (.slice (some ⟨b, off + p * 3, none⟩) (l.length - p) (cap - p)) (l.drop p) := by
  rcases h with ⟨hv, _⟩ | ⟨ad', cap', hv, h1, h2, hc⟩
  · simp at hv
  · simp at hv
    obtain ⟨rfl, rfl, rfl⟩ := hv
    refine .inr ⟨⟨b, off + p * 3, none⟩, cap - p, by simp, by simp; omega, by omega, fun j u hj => ?_⟩
    rw [ccells_drop, List.getElem?_drop] at hj
    have := hc _ _ hj
    rw [add_at] at this ⊢
    rw [Nat.add_assoc]
    exact this

theorem run_frontC (b off n cap p : Nat) (hp : p ≤ cap) (wx : World) : (Instr.slice 23 (.slice (some ⟨b, off, none⟩) n cap) none (some (.int .i64 p)) none).run Tryz.prog wx = .ok (.slice (some ⟨b, off, none⟩) p cap) wx := by
  rw [run_slice_h wx 23 (some ⟨b, off, none⟩) n cap Tryz.elemC .i64 _ (by omega) (by omega), Tryz.sizeC]
  simp only [Result.andThen, sliced]
  simp [Addr.add]

theorem run_backC (b off n cap p : Nat) (hp : p < n) (hn : n ≤ cap) (wx : World) : (Instr.slice 23 (.slice (some ⟨b, off, none⟩) n cap) (some (.int .i64 p)) none none).run Tryz.prog wx = .ok (.slice (some ⟨b, off + p * 3, none⟩) (n - p) (cap - p)) wx := by
  rw [run_slice_l wx 23 (some ⟨b, off, none⟩) n cap Tryz.elemC .i64 _ (by omega) (by omega), Tryz.sizeC]
  have hne : ¬ cap = p := by omega
  simp [Result.andThen, sliced, hne, add_at]

/-- 'none := api.Fault{}'. -/
theorem none_step (w : World) (t : TypeId) : ∃ V, w.alloc (.cells #[.int .i64 0, .int .i64 0] t) = V ∧ V.heap.size = w.heap.size + 1 ∧ Below w.heap.size w V ∧ V.heap[w.heap.size]? = some (.cells #[.int .i64 0, .int .i64 0] t (0, 0)) ∧
    (V.cell? ⟨w.heap.size, 0, none⟩ = some (.int .i64 0) ∧ V.cell? ⟨w.heap.size, 1, none⟩ = some (.int .i64 0)) ∧ (V.frozen? ⟨w.heap.size, 0, none⟩ = false ∧ V.frozen? ⟨w.heap.size, 1, none⟩ = false) ∧
    (V.setCell ⟨w.heap.size, 0, none⟩ (.int .i64 0) = V ∧ V.setCell ⟨w.heap.size, 1, none⟩ (.int .i64 0) = V) := by
  obtain ⟨V, h1, h2, h3, h4⟩ := blk_step w #[.int .i64 0, .int .i64 0] t
  exact ⟨V, h1, h2, h3, h4, ⟨blk_cell h4 0 rfl, blk_cell h4 1 rfl⟩, ⟨blk_froz h4 0, blk_froz h4 1⟩, ⟨set_same h4 (j := 0) rfl, set_same h4 (j := 1) rfl⟩⟩

/-- No fault, or one. -/
theorem fol_two (r : List Cm.Cv) (ep nu : Int) : (Cm.Good ep nu r ∧ Cm.fol ep nu 0 r = (0, 0)) ∨ (¬ Cm.Good ep nu r ∧ (Cm.fol ep nu 0 r).1 ≠ 0) := by
  by_cases h : Cm.Good ep nu r
  · have h1 := (Cm.fol_good r ep nu 0).2 h
    exact .inl ⟨h, Prod.ext h1 (Cm.fol_at r ep nu 0 h1)⟩
  · exact .inr ⟨h, fun h1 => h ((Cm.fol_good r ep nu 0).1 h1)⟩

end Go.Proofs.YtkpnkknolobioaaGreat

/- Objects in memory: what a call that writes into a set F of blocks leaves of the others ('Out'); facts that rest on blocks that stay. No program. -/
namespace Go.Proofs.YtkpnkknolobioaaGreat
open Go.RowKit
set_option linter.unusedVariables false

/-- Blocks outside F are as they were; new ones may have come. -/
structure Out (F : Nat → Prop) (w w' : World) : Prop where
  os : w'.os = w.os
  tape : w'.tape = w.tape
  output : w'.output = w.output
  size : w.heap.size ≤ w'.heap.size
  block : ∀ g, g < w.heap.size → ¬ F g → w'.heap[g]? = w.heap[g]?

theorem Out.refl (F : Nat → Prop) (w : World) : Out F w w := ⟨rfl, rfl, rfl, Nat.le_refl _, fun _ _ _ => rfl⟩

theorem Out.trans {F G : Nat → Prop} {w w1 w2 : World} (h : Out F w w1) (k : Out G w1 w2) (hs : ∀ g, G g → F g ∨ w.heap.size ≤ g) : Out F w w2 :=
  ⟨k.os.trans h.os, k.tape.trans h.tape, k.output.trans h.output, Nat.le_trans h.size k.size, fun g hg hn => (k.block g (Nat.lt_of_lt_of_le hg h.size) fun hG => by
    rcases hs g hG with h1 | h1
    · exact hn h1
    · omega).trans (h.block g hg hn)⟩

theorem Out.mono {F G : Nat → Prop} {w w' : World} (h : Out F w w') (hs : ∀ g, F g → G g ∨ w.heap.size ≤ g) : Out G w w' :=
  ⟨h.os, h.tape, h.output, h.size, fun g hg hn => h.block g hg fun hF => by
    rcases hs g hF with h1 | h1
    · exact hn h1
    · omega⟩

theorem Out.of_below {F : Nat → Prop} {w w' : World} (h : Below w.heap.size w w') : Out F w w' := ⟨h.os, h.tape, h.output, h.size, fun g hg _ => h.block g hg⟩

theorem Out.of_base {F : Nat → Prop} {w w' : World} {base : Nat} (h : Below base w w') (hF : ∀ g, base ≤ g → g < w.heap.size → F g) : Out F w w' :=
  ⟨h.os, h.tape, h.output, h.size, fun g hg hn => h.block g (Nat.lt_of_not_le fun hb => hn (hF g hb hg))⟩

theorem Out.of_grown {F : Nat → Prop} {w w' : World} {row : Option Nat} (h : w.grownBy w' row) (hF : ∀ g, row = some g → F g) : Out F w w' :=
  ⟨h.os, h.tape, h.output, h.size, fun g hg hn => h.block g hg fun e => hn (hF g e.symm)⟩

theorem Out.below {F : Nat → Prop} {w w' : World} {base : Nat} (h : Out F w w') (hF : ∀ g, F g → base ≤ g) (hb : base ≤ w.heap.size) : Below base w w' :=
  ⟨h.os, h.tape, h.output, h.size, fun g hg => h.block g (Nat.lt_of_lt_of_le hg hb) fun hf => by have := hF g hf; omega⟩

theorem Out.drew {F : Nat → Prop} {w w' : World} (h : Out F w w') (n : Nat) : Out F w (w'.drewN n) := ⟨h.os, h.tape, h.output, h.size, h.block⟩

/-- What a slice reads as, where its block stays. -/
theorem Is.agree {k : IntKind} {w w' : World} {v : Value} {zs : List Int} (h : Is k w v zs) (hb : ∀ b, v.ownBlock = some b → w'.heap[b]? = w.heap[b]?) : Is k w' v zs := by
  refine ⟨h.1, ?_⟩
  rcases h.2 with h | ⟨ad, cap, hv, h1, h2, hc⟩
  · exact .inl h
  · refine .inr ⟨ad, cap, hv, h1, h2, fun i hi => ?_⟩
    rw [World.cell?_of_block (show w'.heap[(ad.add i).block]? = w.heap[(ad.add i).block]? from ?_)]
    · exact hc i hi
    · have e : (ad.add i).block = ad.block := by unfold Addr.add; split <;> rfl
      rw [e]
      exact hb ad.block (by rw [hv]; rfl)

theorem row_agree {w w' : World} {base e size n : Nat} {v : Value} {xs : List Value} (h : w.ownsRow base e size v n xs) (hb : ∀ b, v.ownBlock = some b → w'.heap[b]? = w.heap[b]?) : w'.ownsRow base e size v n xs := by
  refine ⟨h.1, ?_⟩
  rcases h.2 with h | ⟨g, cap, cur, hv, h1, hh, r⟩
  · exact .inl h
  · refine .inr ⟨g, cap, cur, hv, h1, ?_, r⟩
    rw [hb g (by rw [hv]; rfl)]
    exact hh

theorem Is.lt {k : IntKind} {w : World} {v : Value} {zs : List Int} (h : Is k w v zs) (hne : 0 < zs.length) : ∀ b, v.ownBlock = some b → b < w.heap.size := by
  intro b hb
  obtain ⟨g, off, cap, rfl, _, _, hB, _⟩ := h.full hne
  simp [Value.ownBlock] at hb
  omega

end Go.Proofs.YtkpnkknolobioaaGreat

/- Lists of commits: the same, of the call's own, apart. -/
namespace Go.Proofs.YtkpnkknolobioaaGreat
open Go.RowKit
set_option linter.unusedVariables false

/-- Whether two lists of commits are the same. -/
def sameV : List Cm.Cv → List Cm.Cv → Bool
  | [], [] => true
  | c :: r, d :: s => sameC c.e c.n c.l d.e d.n d.l && sameV r s
  | _, _ => false

theorem sameC_iff {e n e' n' : Int} {l l' : List Bm.Ov} : sameC e n l e' n' l' = true ↔ e = e' ∧ n = n' ∧ l = l' := by
  simp [sameC, Bm.sameL_iff]

theorem sameV_iff : ∀ {r s : List Cm.Cv}, sameV r s = true ↔ r = s
  | [], [] => by simp [sameV]
  | [], _ :: _ => by simp [sameV]
  | _ :: _, [] => by simp [sameV]
  | ⟨e, n, l⟩ :: r, ⟨e', n', l'⟩ :: s => by
    simp only [sameV, Bool.and_eq_true, sameC_iff, sameV_iff (r := r) (s := s)]
    simp [and_assoc]

theorem sameV_no {r s : List Cm.Cv} (h : r ≠ s) : sameV r s = false := by
  cases hs : sameV r s
  · rfl
  · exact absurd (sameV_iff.1 hs) h

theorem sameV_self (r : List Cm.Cv) : sameV r r = true := sameV_iff.2 rfl

theorem cvs_length (r : List Cw) : (cvs r).length = r.length := by unfold cvs; rw [List.length_map]

/-- A list's cells, where there are any. -/
theorem isC_cells {w : World} {v : Value} {r : List Cw} (h : IsC w v r) : 0 < r.length → ∃ b1 o1 c1, v = .slice (some ⟨b1, o1, none⟩) r.length c1 ∧ b1 < w.heap.size ∧ ∀ i c, r[i]? = some c → w.cell? ⟨b1, o1 + i * 3, none⟩ = some (.int .i64 c.e) ∧ w.cell? ⟨b1, o1 + i * 3 + 1, none⟩ = some (.int .i64 c.n) ∧ w.cell? ⟨b1, o1 + i * 3 + 2, none⟩ = some c.v := by
  intro hp
  obtain ⟨b1, o1, c1, hv, _, _, hB, hc⟩ := h.1.full hp
  exact ⟨b1, o1, c1, hv, hB, hc⟩

theorem cvs_get (r : List Cw) (k : Nat) : (cvs r)[k]? = (r[k]?).map Cw.c := by unfold cvs; rw [List.getElem?_map]

set_option maxHeartbeats 1000000 in
theorem sameCs_any (va vb : Value) (r s : List Cw) (w : World) (ha : IsC w va r) (hb : IsC w vb s) (fa : FitC r) (fb : FitC s) (hl : r.length ≤ 140737488355328) (hl' : s.length ≤ 140737488355328) :
    Calls Tryz.prog 61 #[va, vb] w fun E w' => E = .returned (.bool (sameV (cvs r) (cvs s))) ∧ Below w.heap.size w w' := by
  obtain ⟨ans, hans⟩ : ∃ x, sameV (cvs r) (cvs s) = x := ⟨_, rfl⟩
  rw [hans]
  have HA := hide hans
  clear hans
  obtain ⟨a1, p1, hva, _, _⟩ := ha.1.shape
  obtain ⟨a2, p2, hvb, _, _⟩ := hb.1.shape
  by_cases hne : r.length = s.length
  · have C1 := hide (isC_cells ha)
    have C2 := hide (isC_cells hb)
    have I1 := hide ha.2
    have I2 := hide hb.2
    have F1 := hide fa
    have F2 := hide fb
    have HL := hide hne
    have ht : ((r.length : Int) != (s.length : Int)) = false := by simp; omega
    subst hva hvb
    generalize hn : r.length = n at *
    generalize hm : s.length = m at *
    have HN := hide hn
    have HM := hide hm
    clear ha hb fa fb hne hn hm
    go_enter Tryz.func61, Tryz.ntmps61
    go_wp2
    go_loopw [5] (fun i wr => ∃ (k : Nat), k ≤ n ∧ i = .int .i64 k ∧ Hid ((cvs r).take k = (cvs s).take k) ∧ Below w.heap.size w wr) (fun i _ => n - (intOf i).toNat)
    case atStart => exact ⟨0, by omega, rfl, hide rfl, Below.refl _ _⟩
    case round =>
      obtain ⟨k, hk, rfl, HT, bel⟩ := hrel
      have sz := bel.size
      by_cases hlt : k < n
      · obtain ⟨b1, o1, c1, hv1, hB1, hc1⟩ := C1.out (by have := HN.out; omega)
        obtain ⟨b2, o2, c2, hv2, hB2, hc2⟩ := C2.out (by have := HM.out; have := HL.out; omega)
        simp only [Value.slice.injEq, true_and] at hv1 hv2
        obtain ⟨rfl, rfl⟩ := hv1
        obtain ⟨rfl, rfl⟩ := hv2
        have hkr : k < r.length := by have := HN.out; omega
        have hks : k < s.length := by have := HM.out; have := HL.out; omega
        obtain ⟨c, hc⟩ : ∃ c, r[k]? = some c := ⟨r[k], List.getElem?_eq_getElem hkr⟩
        obtain ⟨d, hd⟩ : ∃ d, s[k]? = some d := ⟨s[k], List.getElem?_eq_getElem hks⟩
        obtain ⟨x0, x1, x2⟩ := row_at hc1 bel hB1 hc
        obtain ⟨y0, y1, y2⟩ := row_at hc2 bel hB2 hd
        have i1 := (I1.out c (List.mem_of_getElem? hc)).1.below bel
        have i2 := (I2.out d (List.mem_of_getElem? hd)).1.below bel
        have l1 := (F1.out c (List.mem_of_getElem? hc)).2
        have l2 := (F2.out d (List.mem_of_getElem? hd)).2
        have hlt' : (k : Int) < n := by omega
        have hlt2 : (k : Int) < m := by have := HL.out; omega
        have hB1' : b1 < wr.heap.size := by omega
        have hB2' : b2 < wr.heap.size := by omega
        have X := hide (fun W (h1 : IsO W c.v c.l) (h2 : IsO W d.v d.l) => csameK_any c.e c.n _ c.l d.e d.n _ d.l W h1 h2 (by omega) (by omega))
        have HC := hide hc
        have HD := hide hd
        obtain ⟨sm, hsm⟩ : ∃ x, sameC c.e c.n c.l d.e d.n d.l = x := ⟨_, rfl⟩
        rw [hsm] at X
        have HSM := hide hsm
        clear hc hd hc1 hc2 l1 l2 hsm
        cases sm
        · have hfo := HA.out
          rw [sameV_no fun e => by
            have h1 : (cvs r)[k]? = some c.c := by rw [cvs_get, HC.out]; rfl
            rw [e, cvs_get, HD.out] at h1
            have h2 : d.c = c.c := by simpa using h1
            obtain ⟨q1, q2, q3⟩ := cw_ext h2
            have := HSM.out
            rw [sameC_iff.2 ⟨q1.symm, q2.symm, q3.symm⟩] at this
            simp at this] at hfo
          subst hfo
          go_wp2_with fail
          go_region_held3 (fun w' => (w'.cell? ⟨b1, o1 + k * 3, none⟩ = some (.int .i64 c.e) ∧ w'.cell? ⟨b1, o1 + k * 3 + 1, none⟩ = some (.int .i64 c.n) ∧ w'.cell? ⟨b1, o1 + k * 3 + 2, none⟩ = some c.v) ∧ (w'.cell? ⟨b2, o2 + k * 3, none⟩ = some (.int .i64 d.e) ∧ w'.cell? ⟨b2, o2 + k * 3 + 1, none⟩ = some (.int .i64 d.n) ∧ w'.cell? ⟨b2, o2 + k * 3 + 2, none⟩ = some d.v)) (first | exact ⟨⟨x0, x1, x2⟩, ⟨y0, y1, y2⟩⟩ | exact ⟨⟨g0, g1, g2⟩, ⟨h0, h1, h2⟩⟩ | go_keep)
            (first
            | (go_at_call 48; refine (X.out _ (i1.drewN 1) (i2.drewN 1)).mono ?_; rintro E w3 ⟨rfl, bel3'⟩; have bel3 : Below wr.heap.size wr w3 := ((Below.refl _ _).drew).trans bel3'; have g0 := (bel3.cell (p := ⟨b1, o1 + k * 3, none⟩) hB1').trans x0; have g1 := (bel3.cell (p := ⟨b1, o1 + k * 3 + 1, none⟩) hB1').trans x1; have g2 := (bel3.cell (p := ⟨b1, o1 + k * 3 + 2, none⟩) hB1').trans x2; have h0 := (bel3.cell (p := ⟨b2, o2 + k * 3, none⟩) hB2').trans y0; have h1 := (bel3.cell (p := ⟨b2, o2 + k * 3 + 1, none⟩) hB2').trans y1; have h2 := (bel3.cell (p := ⟨b2, o2 + k * 3 + 2, none⟩) hB2').trans y2; clear bel3'))
          have belR := bel.trans (bel3.mono (by omega))
          go_wp2
          go_ret
          exact ⟨rfl, belR⟩
        · have HT2 : Hid ((cvs r).take (k + 1) = (cvs s).take (k + 1)) := hide (by
            obtain ⟨q1, q2, q3⟩ := sameC_iff.1 HSM.out
            rw [List.take_add_one, List.take_add_one, HT.out, cvs_get, cvs_get, HC.out, HD.out]
            simp [Cw.c, q1, q2, q3])
          go_wp2_with fail
          go_region_held3 (fun w' => (w'.cell? ⟨b1, o1 + k * 3, none⟩ = some (.int .i64 c.e) ∧ w'.cell? ⟨b1, o1 + k * 3 + 1, none⟩ = some (.int .i64 c.n) ∧ w'.cell? ⟨b1, o1 + k * 3 + 2, none⟩ = some c.v) ∧ (w'.cell? ⟨b2, o2 + k * 3, none⟩ = some (.int .i64 d.e) ∧ w'.cell? ⟨b2, o2 + k * 3 + 1, none⟩ = some (.int .i64 d.n) ∧ w'.cell? ⟨b2, o2 + k * 3 + 2, none⟩ = some d.v)) (first | exact ⟨⟨x0, x1, x2⟩, ⟨y0, y1, y2⟩⟩ | exact ⟨⟨g0, g1, g2⟩, ⟨h0, h1, h2⟩⟩ | go_keep)
            (first
            | (go_at_call 48; refine (X.out _ (i1.drewN 1) (i2.drewN 1)).mono ?_; rintro E w3 ⟨rfl, bel3'⟩; have bel3 : Below wr.heap.size wr w3 := ((Below.refl _ _).drew).trans bel3'; have g0 := (bel3.cell (p := ⟨b1, o1 + k * 3, none⟩) hB1').trans x0; have g1 := (bel3.cell (p := ⟨b1, o1 + k * 3 + 1, none⟩) hB1').trans x1; have g2 := (bel3.cell (p := ⟨b1, o1 + k * 3 + 2, none⟩) hB1').trans x2; have h0 := (bel3.cell (p := ⟨b2, o2 + k * 3, none⟩) hB2').trans y0; have h1 := (bel3.cell (p := ⟨b2, o2 + k * 3 + 1, none⟩) hB2').trans y1; have h2 := (bel3.cell (p := ⟨b2, o2 + k * 3 + 2, none⟩) hB2').trans y2; clear bel3'))
          have belR := bel.trans (bel3.mono (by omega))
          clear x0 x1 x2 y0 y1 y2 g0 g1 g2 h0 h1 h2 i1 i2 bel3 bel
          go_wp2
          go_roundw
          case rel => exact ⟨k + 1, by omega, by go_num, HT2, belR⟩
          case measure => simp [intOf]; omega
      · have hlt' : ¬ (k : Int) < n := by omega
        have hfo := HA.out
        rw [sameV_iff.2 (by
          have h1 := HT.out
          rw [List.take_of_length_le (by rw [cvs_length, HN.out]; omega), List.take_of_length_le (by rw [cvs_length, HM.out]; have := HL.out; omega)] at h1
          exact h1)] at hfo
        subst hfo
        clear HA
        go_wp2
        go_ret
        exact ⟨rfl, bel⟩
  · have ht : ((r.length : Int) != (s.length : Int)) = true := by simp; omega
    have hfo := HA.out
    rw [sameV_no fun e => hne (by rw [← cvs_length r, ← cvs_length s, e])] at hfo
    subst hfo hva hvb
    clear hne HA
    go_enter Tryz.func61, Tryz.ntmps61
    go_wp2
    go_ret
    exact ⟨rfl, Below.refl _ _⟩

/-- Commits whose ops lie apart. -/
def ApC (cs : List Cw) : Prop := ∀ (i j : Nat) (c d : Cw), i ≠ j → cs[i]? = some c → cs[j]? = some d → c.v.ownBlock = none ∨ c.v.ownBlock ≠ d.v.ownBlock

theorem OwnR.rebase {e base base' : Nat} {w : World} {v : Value} {l : List Cw} (h : OwnR e base w v l) (hb : base' ≤ base) : OwnR e base' w v l := by
  refine ⟨h.1, ?_⟩
  rcases h.2 with h | ⟨g, cap, cur, hv, h1, r⟩
  · exact .inl h
  · exact .inr ⟨g, cap, cur, hv, by omega, r⟩

theorem row_out {e base size n : Nat} {w w' : World} {v : Value} {xs : List Value} {F : Nat → Prop} (h : w.ownsRow base e size v n xs) (ho : Out F w w') (hF : ∀ i, F i → i < base) : w'.ownsRow base e size v n xs :=
  row_agree h fun g hg => ho.block g (World.ownsRow.lt h g hg).2 fun hf => by have := hF g hf; have := (World.ownsRow.lt h g hg).1; omega

theorem row_rebase {e base base' size n : Nat} {w : World} {v : Value} {xs : List Value} (h : w.ownsRow base e size v n xs) (hb : base' ≤ base) : w.ownsRow base' e size v n xs := by
  refine ⟨h.1, ?_⟩
  rcases h.2 with k | ⟨g, cap, cur, hv, h1, r⟩
  · exact .inl k
  · exact .inr ⟨g, cap, cur, hv, Nat.le_trans hb h1, r⟩

theorem apc_snoc {cs : List Cw} {c : Cw} {N : Nat} (h : ApC cs) (h1 : ∀ d ∈ cs, ∀ b, d.v.ownBlock = some b → b < N) (h2 : ∀ b, c.v.ownBlock = some b → N ≤ b) : ApC (cs ++ [c]) := by
  intro i j x y hij hx hy
  have hix := (List.getElem?_eq_some_iff.1 hx).1
  have hjx := (List.getElem?_eq_some_iff.1 hy).1
  rw [List.length_append, List.length_singleton] at hix hjx
  have key : ∀ u v : Value, (∀ b d, u.ownBlock = some b → v.ownBlock = some d → b ≠ d) → u.ownBlock = none ∨ u.ownBlock ≠ v.ownBlock := by
    intro u v h
    cases hu : u.ownBlock with
    | none => exact .inl rfl
    | some b => exact .inr fun e => h b b hu e.symm rfl
  by_cases hi : i < cs.length
  · rw [List.getElem?_append_left hi] at hx
    by_cases hj : j < cs.length
    · rw [List.getElem?_append_left hj] at hy
      exact h i j x y hij hx hy
    · have : j = cs.length := by omega
      subst this
      simp at hy
      subst hy
      exact key _ _ fun b d hb hd => by have := h1 x (List.mem_of_getElem? hx) b hb; have := h2 d hd; omega
  · have : i = cs.length := by omega
    subst this
    simp at hx
    subst hx
    rw [List.getElem?_append_left (by omega)] at hy
    exact key _ _ fun b d hb hd => by have := h2 b hb; have := h1 y (List.mem_of_getElem? hy) d hd; omega

end Go.Proofs.YtkpnkknolobioaaGreat
