/- Texts of one layer, one behind the other. -/
import Derived.Test.YtmmfakpphjjjfaaGreatG8
import Derived.Test.YtmmfakpphjjjfaaGreatG5
import Derived.Deep.RegionHeld3
/- The contracts of the laws' copies of lists of commits: CopyCommits, LentCommits, KeptCommits. -/
namespace Go.Proofs.YtmmfakpphjjjfaaGreat
open Go.RowKit
set_option linter.unusedVariables false

theorem cw_ext {c d : Cw} (h : c.c = d.c) : c.e = d.e ∧ c.n = d.n ∧ c.l = d.l := by
 unfold Cw.c at h
 simpa using h

theorem cvs_at {r s : List Cw} (h : cvs r = cvs s) {k : Nat} {c : Cw} (hc : r[k]? = some c) : ∃ d, s[k]? = some d ∧ c.e = d.e ∧ c.n = d.n ∧ c.l = d.l := by
 have h1 : (cvs r)[k]? = some c.c := by unfold cvs; rw [List.getElem?_map, hc]; rfl
 rw [h] at h1
 unfold cvs at h1
 rw [List.getElem?_map, Option.map_eq_some_iff] at h1
 obtain ⟨d, hd, he⟩ := h1
 obtain ⟨e1, e2, e3⟩ := cw_ext he
 exact ⟨d, hd, e1.symm, e2.symm, e3.symm⟩

theorem cvs_len {r s : List Cw} (h : cvs r = cvs s) : r.length = s.length := by
 have := congrArg List.length h
 simpa [cvs] using this

theorem cvs_take (r : List Cw) (k : Nat) : cvs (r.take k) = (cvs r).take k := by unfold cvs; rw [List.map_take]

theorem cvs_snoc {rs r : List Cw} {k : Nat} {c d : Cw} (h : cvs rs = cvs (r.take k)) (hd : r[k]? = some d) (he : c.c = d.c) : cvs (rs ++ [c]) = cvs (r.take (k + 1)) := by
 obtain ⟨hk, rfl⟩ := List.getElem?_eq_some_iff.1 hd
 rw [List.take_succ_eq_append_getElem hk]
 unfold cvs at h ⊢
 rw [List.map_append, List.map_append, h]
 simp [he]

def CopyR (base : Nat) (w : World) (rs : List Cw) : Prop := ∀ c ∈ rs, OwnO 65 base w c.v c.l
def LentR (base : Nat) (w : World) (rs : List Cw) : Prop := ∀ c ∈ rs, LentV base w c.v c.l

theorem LentR.inC {base : Nat} {w : World} {rs r : List Cw} (h : LentR base w rs) (he : cvs rs = cvs r) {w' : World} (hr : InC w' r) : InC w rs := by
 intro c hc
 obtain ⟨k, hk⟩ := List.getElem?_of_mem hc
 obtain ⟨d, hd, e1, e2, _⟩ := cvs_at he hk
 obtain ⟨_, i1, i2⟩ := hr d (List.mem_of_getElem? hd)
 exact ⟨(h c hc).is, by rw [e1]; exact i1, by rw [e2]; exact i2⟩

theorem fit_same {rs r : List Cw} (he : cvs rs = cvs r) (hr : FitC r) : FitC rs := by
 intro c hc
 obtain ⟨k, hk⟩ := List.getElem?_of_mem hc
 obtain ⟨d, hd, _, _, e3⟩ := cvs_at he hk
 rw [e3]
 exact hr d (List.mem_of_getElem? hd)

theorem CopyR.below {base : Nat} {w w' : World} {rs : List Cw} (h : CopyR base w rs) (hb : Below w.heap.size w w') : CopyR base w' rs := fun c hc => (h c hc).below hb

theorem LentR.below {base : Nat} {w w' : World} {rs : List Cw} (h : LentR base w rs) (hb : Below w.heap.size w w') : LentR base w' rs := fun c hc => (h c hc).below hb

theorem CopyR.keepT {base : Nat} {w w' : World} {rs : List Cw} (h : CopyR base w rs) (hb : KeepT 50 w w') : CopyR base w' rs := fun c hc => (h c hc).keepT hb (by decide)

theorem LentR.keepT {base : Nat} {w w' : World} {rs : List Cw} (h : LentR base w rs) (hb : KeepT 50 w w') : LentR base w' rs := fun c hc => (h c hc).keepT hb (by decide)

theorem CopyR.snoc {base : Nat} {w : World} {rs : List Cw} (h : CopyR base w rs) {c : Cw} (hc : OwnO 65 base w c.v c.l) : CopyR base w (rs ++ [c]) := fun d hd => (List.mem_append.1 hd).elim (h d) (fun h => by rw [List.mem_singleton.1 h]; exact hc)

theorem LentR.snoc {base : Nat} {w : World} {rs : List Cw} (h : LentR base w rs) {c : Cw} (hc : LentV base w c.v c.l) : LentR base w (rs ++ [c]) := fun d hd => (List.mem_append.1 hd).elim (h d) (fun h => by rw [List.mem_singleton.1 h]; exact hc)

def behC : Cw := ⟨-7, 0, .slice none 0 0, []⟩

set_option maxHeartbeats 1000000 in
theorem lentCs_any (vl : Value) (r : List Cw) (w : World) (h : IsC w vl r) (hf : FitC r) (hl : r.length ≤ 1000) :
  Calls Tryz.prog 12 #[vl] w fun E w' => ∃ v rs, E = .returned v ∧ OwnR 50 w.heap.size w' v (rs ++ [behC, behC, behC]) ∧ cvs rs = cvs r ∧ LentR w.heap.size w' rs ∧ Below w.heap.size w w' := by
 obtain ⟨ao, cap, hvl, _, _⟩ := h.1.shape
 have hcell : 0 < r.length → ∃ b1 o1 c1, vl = .slice (some ⟨b1, o1, none⟩) r.length c1 ∧ b1 < w.heap.size ∧ ∀ i c, r[i]? = some c → w.cell? ⟨b1, o1 + i * 3, none⟩ = some (.int .i64 c.e) ∧ w.cell? ⟨b1, o1 + i * 3 + 1, none⟩ = some (.int .i64 c.n) ∧ w.cell? ⟨b1, o1 + i * 3 + 2, none⟩ = some c.v := by
  intro hp
  obtain ⟨b1, o1, c1, hv, _, _, hB, hc⟩ := h.1.full hp
  exact ⟨b1, o1, c1, hv, hB, hc⟩
 subst hvl
 have HIN := hide h.2
 have HFIT := hide hf
 have HC := hide hcell
 generalize hn : r.length = n at *
 have HN := hide hn
 clear h hcell hf hn
 go_enter Tryz.func12, Tryz.ntmps12
 go_wp2
 go_loopw [3, 4] (fun ov iv wr => ∃ (k : Nat) (rs : List Cw), k ≤ n ∧ iv = .int .i64 k ∧ rs.length = k ∧ Hid (OwnR 50 w.heap.size wr ov rs ∧ cvs rs = cvs (r.take k) ∧ LentR w.heap.size wr rs) ∧ Below w.heap.size w wr) (fun _ iv _ => n - (intOf iv).toNat)
 case atStart => exact ⟨0, [], by omega, rfl, rfl, ⟨OwnR.nil _ _ _, rfl, fun c hc => by simp at hc⟩, Below.refl _ _⟩
 case round =>
  obtain ⟨k, rs, hk, rfl, hrl, HT, bel⟩ := hrel
  have sz := bel.size
  by_cases hlt : k < n
  ·obtain ⟨b1, o1, c1, hvx, hB, hcell⟩ := HC.out (by have := HN.out; omega)
   simp only [Value.slice.injEq, true_and] at hvx
   obtain ⟨rfl, rfl⟩ := hvx
   obtain ⟨c, hc⟩ : ∃ c, r[k]? = some c := ⟨r[k]'(by have := HN.out; omega), by rw [List.getElem?_eq_getElem]⟩
   obtain ⟨e0, e1, e2⟩ := hcell k c hc
   have d0 := (bel.cell (p := ⟨b1, o1 + k * 3, none⟩) hB).trans e0
   have d1 := (bel.cell (p := ⟨b1, o1 + k * 3 + 1, none⟩) hB).trans e1
   have d2 := (bel.cell (p := ⟨b1, o1 + k * 3 + 2, none⟩) hB).trans e2
   have hmem := List.mem_of_getElem? hc
   obtain ⟨i1, _, _⟩ := HIN.out c hmem
   have i2 := i1.below bel
   obtain ⟨hfc, hlc⟩ := HFIT.out c hmem
   have HCK := hide hc
   have hlt' : (k : Int) < n := by omega
   clear hc hmem i1 e0 e1 e2 hcell
   go_wp2_with fail
   refine (lentC_any c.e c.n _ c.l _ i2 hlc).mono ?_
   rintro E w2 ⟨v2, rfl, own2, bel2⟩
   unfold cmv
   have sz2 := bel2.size
   obtain ⟨ah, ch, hv2, _, _⟩ := own2.is.shape
   subst hv2
   obtain ⟨w3, hw3, sz3, bel3, own3⟩ := coms_step 50 w2 #[.int .i64 c.e, .int .i64 c.n, .slice ah c.l.length ch] 1 [⟨c.e, c.n, .slice ah c.l.length ch, c.l⟩] rfl rfl (by simp [maxLen])
   obtain ⟨hO, hE, hP⟩ := HT.out
   have bel23 : Below wr.heap.size wr w3 := bel2.trans (bel3.mono (by omega))
   have hO3 := hO.below bel23
   have hP3 := hP.below bel23
   have own23 := (own2.below bel3).rebase (base' := w.heap.size) (by omega)
   have hlk : (rs.length + [(⟨c.e, c.n, .slice ah c.l.length ch, c.l⟩ : Cw)].length) * 40 ≤ 140737488355328 := by rw [List.length_singleton]; omega
   have HE := hide hE
   have HP := hide hP3
   have bel03 : Below w.heap.size w w3 := bel.trans (bel23.mono (by omega))
   clear HT hO hP hP3 hE bel2 bel3 bel23 own2 bel d0 d1 d2 i2
   go_wp2_with (at_builtin; refine wpList_append_coms rfl (.tmp 12) (.tmp 18) 22 rfl 50 w.heap.size Tryz.underlying22 Tryz.info50 _ rs rfl hO3 _ _ rfl own3.row (by intro c hc; rw [List.mem_singleton.1 hc]; rfl) hlk (by omega) ?_)
   intro v4 w4 own4 bel4 kp4
   have HT2 : Hid (OwnR 50 w.heap.size w4 v4 (rs ++ [⟨c.e, c.n, .slice ah c.l.length ch, c.l⟩]) ∧ cvs (rs ++ [⟨c.e, c.n, .slice ah c.l.length ch, c.l⟩]) = cvs (r.take (k + 1)) ∧ LentR w.heap.size w4 (rs ++ [⟨c.e, c.n, .slice ah c.l.length ch, c.l⟩])) :=
    ⟨own4, cvs_snoc HE.out HCK.out rfl, (HP.out.keepT kp4).snoc (own23.keepT kp4 (by decide))⟩
   have bel04 := bel03.trans bel4
   clear own4 kp4 own23 own3 hO3 HE HP bel03 bel4 hlk
   go_wp2
   go_roundw
   case rel => exact ⟨k + 1, _, by omega, by go_num, by rw [List.length_append, hrl]; rfl, HT2, bel04⟩
   case measure => simp [intOf]; omega
  ·have hlt' : ¬ (k : Int) < n := by omega
   have HE : Hid (cvs rs = cvs r) := hide (by rw [HT.out.2.1, List.take_of_length_le (by have := HN.out; omega)])
   have HS := HT.out.1
   have HLR := hide HT.out.2.2
   have hS0 : Hid (OwnR 50 w.heap.size wr _ (rs ++ List.replicate 0 behC) ∧ LentR w.heap.size wr rs) := ⟨by simpa using HS, HT.out.2.2⟩
   clear HT HS HLR
   go_wp2
   go_loopw [3, 5] (fun ov iv wq => ∃ (j : Nat), j ≤ 3 ∧ iv = .int .i64 j ∧ Hid (OwnR 50 w.heap.size wq ov (rs ++ List.replicate j behC) ∧ LentR w.heap.size wq rs) ∧ Below w.heap.size w wq) (fun _ iv _ => 3 - (intOf iv).toNat)
   case atStart => exact ⟨0, by omega, rfl, hS0, bel⟩
   case round =>
    obtain ⟨j, hj, rfl, HJ, belJ⟩ := hrel
    have szJ := belJ.size
    by_cases hlj : j < 3
    ·have hlj' : (j : Int) < 3 := by omega
     obtain ⟨w3, hw3, sz3, bel3, own3⟩ := coms_step 50 wr #[.int .i64 (-7), .int .i64 0, .slice none 0 0] 1 [behC] rfl rfl (by simp [maxLen])
     have hO3 := HJ.out.1.below bel3
     have HP := hide (HJ.out.2.below bel3)
     have hlk : ((rs ++ List.replicate j behC).length + [behC].length) * 40 ≤ 140737488355328 := by rw [List.length_append, List.length_replicate, List.length_singleton]; omega
     have bel03 : Below w.heap.size w w3 := belJ.trans (bel3.mono (by omega))
     clear HJ belJ bel3 hS0
     go_wp2_with (at_builtin; refine wpList_append_coms rfl (.tmp 24) (.tmp 26) 22 rfl 50 w.heap.size Tryz.underlying22 Tryz.info50 _ _ rfl hO3 _ [behC] rfl own3.row (by intro c hc; rw [List.mem_singleton.1 hc]; rfl) hlk (by omega) ?_)
     intro v4 w4 own4 bel4 kp4
     have HT2 : Hid (OwnR 50 w.heap.size w4 v4 (rs ++ List.replicate (j + 1) behC) ∧ LentR w.heap.size w4 rs) := ⟨by rw [List.replicate_succ']; exact own4, HP.out.keepT kp4⟩
     have bel04 := bel03.trans bel4
     clear own4 kp4 own3 hO3 HP bel03 bel4 hlk
     go_wp2
     go_roundw
     case rel => exact ⟨j + 1, by omega, by go_num, HT2, bel04⟩
     case measure => simp [intOf]; omega
    ·have hlj' : ¬ (j : Int) < 3 := by omega
     have hj3 : j = 3 := by omega
     subst hj3
     clear hS0
     go_wp2
     go_ret
     exact ⟨_, rfl, rs, HJ.out.1, HE.out, HJ.out.2, belJ⟩

theorem row_at {w : World} {b o : Nat} {r : List Cw} (h : ∀ i c, r[i]? = some c → w.cell? ⟨b, o + i * 3, none⟩ = some (.int .i64 c.e) ∧ w.cell? ⟨b, o + i * 3 + 1, none⟩ = some (.int .i64 c.n) ∧ w.cell? ⟨b, o + i * 3 + 2, none⟩ = some c.v) {w' : World} {base : Nat} (hb : Below base w w') (hB : b < base) {k : Nat} {c : Cw} (hc : r[k]? = some c) :
  w'.cell? ⟨b, o + k * 3, none⟩ = some (.int .i64 c.e) ∧ w'.cell? ⟨b, o + k * 3 + 1, none⟩ = some (.int .i64 c.n) ∧ w'.cell? ⟨b, o + k * 3 + 2, none⟩ = some c.v := by
 obtain ⟨e0, e1, e2⟩ := h k c hc
 exact ⟨(hb.cell (p := ⟨b, o + k * 3, none⟩) hB).trans e0, (hb.cell (p := ⟨b, o + k * 3 + 1, none⟩) hB).trans e1, (hb.cell (p := ⟨b, o + k * 3 + 2, none⟩) hB).trans e2⟩

set_option maxRecDepth 100000 in
set_option maxHeartbeats 2000000 in
theorem keptCs_yes (vf vl : Value) (rs r : List Cw) (base : Nat) (w : World) (hw : RowC w vf (rs ++ [behC, behC, behC])) (he : cvs rs = cvs r) (hr : LentR base w rs) (h : IsC w vl r) (hf : FitC r) (hl : r.length ≤ 1000) :
  Calls Tryz.prog 15 #[vf, vl] w fun E w' => E = .returned (.bool true) ∧ Below w.heap.size w w' := by
 have hlen := cvs_len he
 obtain ⟨b2, o2, c2, hvf, hcf, hmf, hB2, hcell2⟩ := hw.full (by simp)
 have hfl : (rs ++ [behC, behC, behC]).length = r.length + 3 := by rw [List.length_append, hlen]; rfl
 rw [hfl] at hvf hcf
 subst hvf
 obtain ⟨ao, cap, hvl, _, _⟩ := h.1.shape
 have hcell : 0 < r.length → ∃ b1 o1 c1, vl = .slice (some ⟨b1, o1, none⟩) r.length c1 ∧ b1 < w.heap.size ∧ ∀ i c, r[i]? = some c → w.cell? ⟨b1, o1 + i * 3, none⟩ = some (.int .i64 c.e) ∧ w.cell? ⟨b1, o1 + i * 3 + 1, none⟩ = some (.int .i64 c.n) ∧ w.cell? ⟨b1, o1 + i * 3 + 2, none⟩ = some c.v := by
  intro hp
  obtain ⟨b1, o1, c1, hv, _, _, hB, hc⟩ := h.1.full hp
  exact ⟨b1, o1, c1, hv, hB, hc⟩
 subst hvl
 have HIN := hide h.2
 have HFIT := hide hf
 have HC := hide hcell
 have HC2 := hide hcell2
 have HE := hide he
 have HL := hide hr
 generalize hn : r.length = n at *
 have HN := hide hn
 have HRS := hide hlen
 have hne : (((n : Int) + 3) != ((n : Int) + 3)) = false := by simp
 clear h hcell hcell2 hf hn he hr hlen hfl hw
 go_enter Tryz.func15, Tryz.ntmps15
 go_wp2
 go_loopw [5] (fun iv wr => ∃ (k : Nat), k ≤ n ∧ iv = .int .i64 k ∧ Below w.heap.size w wr) (fun iv _ => n - (intOf iv).toNat)
 case atStart => exact ⟨0, by omega, rfl, Below.refl _ _⟩
 case round =>
  obtain ⟨k, hk, rfl, bel⟩ := hrel
  have sz := bel.size
  by_cases hlt : k < n
  ·obtain ⟨b1, o1, c1, hvx, hB, hcell⟩ := HC.out (by have := HN.out; omega)
   simp only [Value.slice.injEq, true_and] at hvx
   obtain ⟨rfl, rfl⟩ := hvx
   obtain ⟨c, hc⟩ : ∃ c, rs[k]? = some c := ⟨rs[k]'(by have := HN.out; have := HRS.out; omega), by rw [List.getElem?_eq_getElem]⟩
   obtain ⟨d, hd, q1, q2, q3⟩ := cvs_at HE.out hc
   have hc' : (rs ++ [behC, behC, behC])[k]? = some c := by rw [List.getElem?_append_left (by have := HRS.out; omega)]; exact hc
   obtain ⟨d0, d1, d2⟩ := row_at hcell bel hB hd
   obtain ⟨c0, c1', c2'⟩ := row_at HC2.out bel hB2 hc'
   have hmem := List.mem_of_getElem? hd
   obtain ⟨i1, _, _⟩ := HIN.out d hmem
   obtain ⟨_, hld⟩ := HFIT.out d hmem
   have i2 := i1.below bel
   have l2 := (HL.out c (List.mem_of_getElem? hc)).below bel
   rw [← q1] at d0
   rw [← q2] at d1
   rw [← q3] at i2 hld
   have hlt' : (k : Int) < n := by omega
   have hlt2 : (k : Int) < (n : Int) + 3 := by omega
   have hlt0 : (0 : Int) ≤ (k : Int) := by omega
   have hB2' : b2 < wr.heap.size := by omega
   have hB1' : b1 < wr.heap.size := by omega
   have HLD := hide hld
   clear hc hd q1 q2 q3 hc' hmem i1 hcell hld
   go_wp2_with fail
   go_region_held3 (fun w' => (w'.cell? ⟨b2, o2 + k * 3, none⟩ = some (.int .i64 c.e) ∧ w'.cell? ⟨b2, o2 + k * 3 + 1, none⟩ = some (.int .i64 c.n) ∧ w'.cell? ⟨b2, o2 + k * 3 + 2, none⟩ = some c.v) ∧ (w'.cell? ⟨b1, o1 + k * 3, none⟩ = some (.int .i64 c.e) ∧ w'.cell? ⟨b1, o1 + k * 3 + 1, none⟩ = some (.int .i64 c.n) ∧ w'.cell? ⟨b1, o1 + k * 3 + 2, none⟩ = some d.v)) (first | exact ⟨⟨c0, c1', c2'⟩, ⟨d0, d1, d2⟩⟩ | exact ⟨⟨a0, a1, a2⟩, ⟨x0, x1, x2⟩⟩ | go_keep)
    (first
    | (go_at_call 46; refine (keptC_yes c.e c.n _ _ c.l base _ (l2.below ((Below.refl _ _).drew)) (i2.drewN 1) HLD.out).mono ?_; rintro E w3 ⟨rfl, bel3'⟩; have bel3 : Below wr.heap.size wr w3 := ((Below.refl _ _).drew).trans bel3'; have a0 := (bel3.cell (p := ⟨b2, o2 + k * 3, none⟩) hB2').trans c0; have a1 := (bel3.cell (p := ⟨b2, o2 + k * 3 + 1, none⟩) hB2').trans c1'; have a2 := (bel3.cell (p := ⟨b2, o2 + k * 3 + 2, none⟩) hB2').trans c2'; have x0 := (bel3.cell (p := ⟨b1, o1 + k * 3, none⟩) hB1').trans d0; have x1 := (bel3.cell (p := ⟨b1, o1 + k * 3 + 1, none⟩) hB1').trans d1; have x2 := (bel3.cell (p := ⟨b1, o1 + k * 3 + 2, none⟩) hB1').trans d2; clear bel3'))
   have belR := bel.trans (bel3.mono (by omega))
   clear a0 a1 a2 x0 x1 x2 c0 c1' c2' d0 d1 d2 l2 i2 bel3 bel
   go_wp2
   go_roundw
   case rel => exact ⟨k + 1, by omega, by go_num, belR⟩
   case measure => simp [intOf]; omega
  ·have hlt' : ¬ (k : Int) < n := by omega
   go_wp2
   go_loopw [6] (fun iv wr => ∃ (j : Nat), j ≤ 3 ∧ iv = .int .i64 ((n : Int) + (j : Int)) ∧ Below w.heap.size w wr) (fun iv _ => n + 3 - (intOf iv).toNat)
   case atStart => exact ⟨0, by omega, by simp, bel⟩
   case round =>
    obtain ⟨j, hj, rfl, belJ⟩ := hrel
    have szJ := belJ.size
    by_cases hlj : j < 3
    ·have hc' : (rs ++ [behC, behC, behC])[n + j]? = some behC := by
      have := HRS.out
      rw [List.getElem?_append_right (by omega), this, Nat.add_sub_cancel_left]
      rcases (show j = 0 ∨ j = 1 ∨ j = 2 by omega) with rfl | rfl | rfl <;> rfl
     obtain ⟨c0, c1', c2'⟩ := row_at HC2.out belJ hB2 hc'
     have hj1 : (n : Int) + (j : Int) < (n : Int) + 3 := by omega
     have hj0 : (0 : Int) ≤ (n : Int) + (j : Int) := by omega
     have hjn : ((n : Int) + (j : Int)).toNat = n + j := by omega
     simp only [behC] at c0 c1' c2'
     clear hc'
     go_wp2_with fail
     refine (csameK_any (-7) 0 _ [] (-7) 0 _ [] _ (IsO.nil _) (IsO.nil _) (by simp) (by simp)).mono ?_
     rintro E w3 ⟨rfl, bel3⟩
     rw [sameC_self]
     have belR := belJ.trans (bel3.mono (by omega))
     clear c0 c1' c2' bel3
     go_wp2
     go_roundw
     case rel => exact ⟨j + 1, by omega, by go_num, belR⟩
     case measure => simp [intOf]; omega
    ·have hj3 : j = 3 := by omega
     subst hj3
     go_wp2
     go_ret
     exact ⟨rfl, belJ⟩

structure Out (F : Nat → Prop) (w w' : World) : Prop where
 os : w'.os = w.os
 tape : w'.tape = w.tape
 output : w'.output = w.output
 size : w.heap.size ≤ w'.heap.size
 block : ∀ g, g < w.heap.size → ¬ F g → w'.heap[g]? = w.heap[g]?

theorem Out.refl (F : Nat → Prop) (w : World) : Out F w w := ⟨rfl, rfl, rfl, Nat.le_refl _, fun _ _ _ => rfl⟩

theorem Out.trans {F G : Nat → Prop} {w w1 w2 : World} (h : Out F w w1) (k : Out G w1 w2) (hs : ∀ g, G g → F g ∨ w.heap.size ≤ g) : Out F w w2 :=
 ⟨k.os.trans h.os, k.tape.trans h.tape, k.output.trans h.output, Nat.le_trans h.size k.size, fun g hg hn => (k.block g (Nat.lt_of_lt_of_le hg h.size) fun hG => by
  rcases hs g hG with h1 | h1
  ·exact hn h1
  ·omega).trans (h.block g hg hn)⟩

theorem Out.mono {F G : Nat → Prop} {w w' : World} (h : Out F w w') (hs : ∀ g, F g → G g ∨ w.heap.size ≤ g) : Out G w w' :=
 ⟨h.os, h.tape, h.output, h.size, fun g hg hn => h.block g hg fun hF => by
  rcases hs g hF with h1 | h1
  ·exact hn h1
  ·omega⟩

theorem Out.of_below {F : Nat → Prop} {w w' : World} (h : Below w.heap.size w w') : Out F w w' := ⟨h.os, h.tape, h.output, h.size, fun g hg _ => h.block g hg⟩

theorem Out.of_base {F : Nat → Prop} {w w' : World} {base : Nat} (h : Below base w w') (hF : ∀ g, base ≤ g → g < w.heap.size → F g) : Out F w w' :=
 ⟨h.os, h.tape, h.output, h.size, fun g hg hn => h.block g (Nat.lt_of_not_le fun hb => hn (hF g hb hg))⟩

theorem Out.of_grown {F : Nat → Prop} {w w' : World} {row : Option Nat} (h : w.grownBy w' row) (hF : ∀ g, row = some g → F g) : Out F w w' :=
 ⟨h.os, h.tape, h.output, h.size, fun g hg hn => h.block g hg fun e => hn (hF g e.symm)⟩

theorem Out.below {F : Nat → Prop} {w w' : World} {base : Nat} (h : Out F w w') (hF : ∀ g, F g → base ≤ g) (hb : base ≤ w.heap.size) : Below base w w' :=
 ⟨h.os, h.tape, h.output, h.size, fun g hg => h.block g (Nat.lt_of_lt_of_le hg hb) fun hf => by have := hF g hf; omega⟩

theorem Out.drew {F : Nat → Prop} {w w' : World} (h : Out F w w') (n : Nat) : Out F w (w'.drewN n) := ⟨h.os, h.tape, h.output, h.size, h.block⟩

theorem Is.agree {k : IntKind} {w w' : World} {v : Value} {zs : List Int} (h : Is k w v zs) (hb : ∀ b, v.ownBlock = some b → w'.heap[b]? = w.heap[b]?) : Is k w' v zs := by
 refine ⟨h.1, ?_⟩
 rcases h.2 with h | ⟨ad, cap, hv, h1, h2, hc⟩
 ·exact .inl h
 ·refine .inr ⟨ad, cap, hv, h1, h2, fun i hi => ?_⟩
  rw [World.cell?_of_block (show w'.heap[(ad.add i).block]? = w.heap[(ad.add i).block]? from ?_)]
  ·exact hc i hi
  ·have e : (ad.add i).block = ad.block := by unfold Addr.add; split <;> rfl
   rw [e]
   exact hb ad.block (by rw [hv]; rfl)

theorem row_agree {w w' : World} {base e size n : Nat} {v : Value} {xs : List Value} (h : w.ownsRow base e size v n xs) (hb : ∀ b, v.ownBlock = some b → w'.heap[b]? = w.heap[b]?) : w'.ownsRow base e size v n xs := by
 refine ⟨h.1, ?_⟩
 rcases h.2 with h | ⟨g, cap, cur, hv, h1, hh, r⟩
 ·exact .inl h
 ·refine .inr ⟨g, cap, cur, hv, h1, ?_, r⟩
  rw [hb g (by rw [hv]; rfl)]
  exact hh

theorem Is.lt {k : IntKind} {w : World} {v : Value} {zs : List Int} (h : Is k w v zs) (hne : 0 < zs.length) : ∀ b, v.ownBlock = some b → b < w.heap.size := by
 intro b hb
 obtain ⟨g, off, cap, rfl, _, _, hB, _⟩ := h.full hne
 simp [Value.ownBlock] at hb
 omega

theorem cvs_length (r : List Cw) : (cvs r).length = r.length := by unfold cvs; rw [List.length_map]

def ApC (cs : List Cw) : Prop := ∀ (i j : Nat) (c d : Cw), i ≠ j → cs[i]? = some c → cs[j]? = some d → c.v.ownBlock = none ∨ c.v.ownBlock ≠ d.v.ownBlock

theorem OwnR.rebase {e base base' : Nat} {w : World} {v : Value} {l : List Cw} (h : OwnR e base w v l) (hb : base' ≤ base) : OwnR e base' w v l := by
 refine ⟨h.1, ?_⟩
 rcases h.2 with h | ⟨g, cap, cur, hv, h1, r⟩
 ·exact .inl h
 ·exact .inr ⟨g, cap, cur, hv, by omega, r⟩

theorem row_rebase {e base base' size n : Nat} {w : World} {v : Value} {xs : List Value} (h : w.ownsRow base e size v n xs) (hb : base' ≤ base) : w.ownsRow base' e size v n xs := by
 refine ⟨h.1, ?_⟩
 rcases h.2 with k | ⟨g, cap, cur, hv, h1, r⟩
 ·exact .inl k
 ·exact .inr ⟨g, cap, cur, hv, Nat.le_trans hb h1, r⟩

theorem apc_snoc {cs : List Cw} {c : Cw} {N : Nat} (h : ApC cs) (h1 : ∀ d ∈ cs, ∀ b, d.v.ownBlock = some b → b < N) (h2 : ∀ b, c.v.ownBlock = some b → N ≤ b) : ApC (cs ++ [c]) := by
 intro i j x y hij hx hy
 have hix := (List.getElem?_eq_some_iff.1 hx).1
 have hjx := (List.getElem?_eq_some_iff.1 hy).1
 rw [List.length_append, List.length_singleton] at hix hjx
 have key : ∀ u v : Value, (∀ b d, u.ownBlock = some b → v.ownBlock = some d → b ≠ d) → u.ownBlock = none ∨ u.ownBlock ≠ v.ownBlock := by
  intro u v h
  cases hu : u.ownBlock with
  | none => exact .inl rfl
  | some b => exact .inr fun e => h b b hu e.symm rfl
 by_cases hi : i < cs.length
 ·rw [List.getElem?_append_left hi] at hx
  by_cases hj : j < cs.length
  ·rw [List.getElem?_append_left hj] at hy
   exact h i j x y hij hx hy
  ·have : j = cs.length := by omega
   subst this
   simp at hy
   subst hy
   exact key _ _ fun b d hb hd => by have := h1 x (List.mem_of_getElem? hx) b hb; have := h2 d hd; omega
 ·have : i = cs.length := by omega
  subst this
  simp at hx
  subst hx
  rw [List.getElem?_append_left (by omega)] at hy
  exact key _ _ fun b d hb hd => by have := h2 b hb; have := h1 y (List.mem_of_getElem? hy) d hd; omega

section
variable {α : Type}

def gcells (f : α → List Value) : List α → List Value
 | [] => []
 | a :: r => f a ++ gcells f r

theorem gcells_len {f : α → List Value} {k : Nat} (hk : ∀ a, (f a).length = k) : ∀ (l : List α), (gcells f l).length = l.length * k
 | [] => by simp [gcells]
 | a :: r => by rw [gcells, List.length_append, hk, gcells_len hk r, List.length_cons, Nat.add_mul]; omega

theorem gcells_app (f : α → List Value) : ∀ (l m : List α), gcells f (l ++ m) = gcells f l ++ gcells f m
 | [], _ => rfl
 | a :: l, m => by simp only [List.cons_append, gcells, gcells_app f l m, List.append_assoc]

theorem gcells_at {f : α → List Value} {k : Nat} (hk : ∀ a, (f a).length = k) : ∀ (l : List α) (i : Nat) (a : α), l[i]? = some a → ∀ j u, (f a)[j]? = some u → (gcells f l)[i * k + j]? = some u
 | [], _, _, h, _, _, _ => by simp at h
 | b :: r, 0, a, h, j, u, hj => by
  simp at h
  subst h
  have := (List.getElem?_eq_some_iff.1 hj).1
  rw [gcells, Nat.zero_mul, Nat.zero_add, List.getElem?_append_left this]
  exact hj
 | b :: r, i + 1, a, h, j, u, hj => by
  have := gcells_at hk r i a (by simpa using h) j u hj
  rw [gcells, List.getElem?_append_right (by rw [hk, Nat.add_mul]; omega), hk, show (i + 1) * k + j - k = i * k + j by rw [Nat.add_mul]; omega]
  exact this

theorem gcells_take {f : α → List Value} {k : Nat} (hk : ∀ a, (f a).length = k) : ∀ (l : List α) (p : Nat), gcells f (l.take p) = (gcells f l).take (p * k)
 | [], p => by simp [gcells]
 | a :: l, 0 => by simp [gcells]
 | a :: l, p + 1 => by
  have h1 : (f a).take ((p + 1) * k) = f a := List.take_of_length_le (by rw [hk, Nat.add_mul]; omega)
  have h2 : (p + 1) * k - k = p * k := by rw [Nat.add_mul]; omega
  rw [List.take_succ_cons, gcells, gcells, gcells_take hk l p, List.take_append, hk, h1, h2]

theorem gcells_drop {f : α → List Value} {k : Nat} (hk : ∀ a, (f a).length = k) : ∀ (l : List α) (p : Nat), gcells f (l.drop p) = (gcells f l).drop (p * k)
 | [], p => by simp [gcells]
 | a :: l, 0 => by simp [gcells]
 | a :: l, p + 1 => by
  have h1 : (f a).drop ((p + 1) * k) = [] := List.drop_eq_nil_of_le (by rw [hk, Nat.add_mul]; omega)
  have h2 : (p + 1) * k - k = p * k := by rw [Nat.add_mul]; omega
  rw [List.drop_succ_cons, gcells_drop hk l p, gcells, List.drop_append, hk, h1, h2, List.nil_append]

def RowG (f : α → List Value) (w : World) (v : Value) (l : List α) : Prop :=
 (v = .slice none 0 0 ∧ l = []) ∨ ∃ ad cap, v = .slice (some ad) l.length cap ∧ l.length ≤ cap ∧ cap ≤ maxLen ∧ ∀ j u, (gcells f l)[j]? = some u → w.cell? (ad.add j) = some u

def OwnG (f : α → List Value) (k : Nat) (e : TypeId) (base : Nat) (w : World) (v : Value) (l : List α) : Prop := w.ownsRow base e k v l.length (gcells f l)

theorem RowG.nil (f : α → List Value) (w : World) : RowG f w (.slice none 0 0) [] := .inl ⟨rfl, rfl⟩
theorem OwnG.nil (f : α → List Value) (k : Nat) (e : TypeId) (base : Nat) (w : World) : OwnG f k e base w (.slice none 0 0) [] := World.ownsRow_nil _ _ _ _

theorem RowG.below {f : α → List Value} {w w' : World} {v : Value} {l : List α} (h : RowG f w v l) (hb : Below w.heap.size w w') : RowG f w' v l := by
 rcases h with h | ⟨ad, cap, hv, h1, h2, hc⟩
 ·exact .inl h
 ·refine .inr ⟨ad, cap, hv, h1, h2, fun j u hj => ?_⟩
  have := hc j u hj
  rw [hb.cell (World.block_lt_of_cell? _ _ this)]
  exact this

theorem RowG.shape {f : α → List Value} {w : World} {v : Value} {l : List α} (h : RowG f w v l) : ∃ ao cap, v = .slice ao l.length cap ∧ l.length ≤ cap ∧ cap ≤ maxLen := by
 rcases h with ⟨hv, e⟩ | ⟨ad, cap, hv, h1, h2, _⟩
 ·subst e; exact ⟨none, 0, hv, by simp, by simp⟩
 ·exact ⟨some ad, cap, hv, h1, h2⟩

theorem RowG.full {f : α → List Value} {k : Nat} (hk : ∀ a, (f a).length = k) (h0 : 0 < k) {w : World} {v : Value} {l : List α} (h : RowG f w v l) (hne : 0 < l.length) :
  ∃ b off cap, v = .slice (some ⟨b, off, none⟩) l.length cap ∧ l.length ≤ cap ∧ cap ≤ maxLen ∧ b < w.heap.size ∧ ∀ i a, l[i]? = some a → ∀ j u, (f a)[j]? = some u → w.cell? ⟨b, off + i * k + j, none⟩ = some u := by
 rcases h with ⟨_, h⟩ | ⟨⟨b, off, spot⟩, cap, hv, h1, h2, hc⟩
 ·subst h; simp at hne
 ·obtain ⟨a0, ha0⟩ : ∃ a, l[0]? = some a := ⟨l[0], by rw [List.getElem?_eq_getElem]⟩
  have hf0 : (f a0)[0]? = some ((f a0)[0]'(by rw [hk]; exact h0)) := List.getElem?_eq_getElem (by rw [hk]; exact h0)
  have g0 := hc _ _ (gcells_at hk l 0 a0 ha0 0 _ hf0)
  have hspot : spot = none := by simpa [Addr.add] using World.cell?_spot g0
  subst hspot
  rw [add_at] at g0
  refine ⟨b, off, cap, hv, h1, h2, World.block_lt_of_cell? _ _ g0, fun i a hia j u hj => ?_⟩
  have := hc _ _ (gcells_at hk l i a hia j u hj)
  rw [add_at] at this
  rw [Nat.add_assoc]
  exact this

theorem OwnG.row {f : α → List Value} {k e base : Nat} {w : World} {v : Value} {l : List α} (h : OwnG f k e base w v l) : RowG f w v l := by
 rcases h.2 with ⟨hv, hn⟩ | ⟨g, cap, cur, hv, h1, hh, hc, hm, hs, ht⟩
 ·exact .inl ⟨hv, List.eq_nil_of_length_eq_zero hn⟩
 ·refine .inr ⟨⟨g, 0, none⟩, cap, hv, hc, hm, fun j u hj => ?_⟩
  exact h.cells (by rw [hv]; rfl) j u hj

theorem OwnG.agree {f : α → List Value} {k e base : Nat} {w w' : World} {v : Value} {l : List α} (h : OwnG f k e base w v l) (hb : ∀ b, v.ownBlock = some b → w'.heap[b]? = w.heap[b]?) : OwnG f k e base w' v l := row_agree h hb

theorem OwnG.lt {f : α → List Value} {k e base : Nat} {w : World} {v : Value} {l : List α} (h : OwnG f k e base w v l) : ∀ b, v.ownBlock = some b → base ≤ b ∧ b < w.heap.size := World.ownsRow.lt h

theorem OwnG.type {f : α → List Value} {k e base : Nat} {w : World} {v : Value} {l : List α} (h : OwnG f k e base w v l) {g : Nat} (hg : v.ownBlock = some g) : ∃ cs, w.heap[g]? = some (.cells cs e (0, 0)) := by
 rcases h.2 with ⟨rfl, _⟩ | ⟨g', cap, cur, rfl, _, hh, _⟩
 ·simp [Value.ownBlock] at hg
 ·simp [Value.ownBlock] at hg
  subst hg
  exact ⟨_, hh⟩

theorem rows_step (f : α → List Value) (k : Nat) (hk : ∀ a, (f a).length = k) (e : TypeId) (w : World) (cs : Array Value) (n : Nat) (l : List α) (hn : l.length = n) (h : cs.toList = gcells f l) (hm : n ≤ maxLen) :
  ∃ W, w.alloc (.cells cs e) = W ∧ W.heap.size = w.heap.size + 1 ∧ Below w.heap.size w W ∧ OwnG f k e w.heap.size W (.slice (some ⟨w.heap.size, 0, none⟩) n n) l := by
 subst hn
 refine ⟨_, rfl, by simp, (Below.refl _ _).alloc (Nat.le_refl _) _, ?_⟩
 have ho := World.ownsRow_lit (base := w.heap.size) (e := e) (size := k) w cs l.length (Nat.le_refl _) hm (by have := congrArg List.length h; rw [gcells_len hk] at this; simpa using this)
 rw [h] at ho
 exact ho

variable {P : Program} {w : World} {ops : Array Oper} {rest : List Oper} {o : Oper} {a : Act} {Q : Exit → Act → World → Prop}

end

def Byt (F : Nat → Prop) (w : World) (v : Value) (zs : List Int) : Prop := Is .u8 w v zs ∧ ∀ b, v.ownBlock = some b → F b ∧ ∃ cs fr, w.heap[b]? = some (.cells cs 5 fr)

theorem Byt.nil (F : Nat → Prop) (w : World) : Byt F w (.slice none 0 0) [] := ⟨Is.nil _ _, fun b hb => by simp [Value.ownBlock] at hb⟩

theorem Byt.agree {F : Nat → Prop} {w w' : World} {v : Value} {zs : List Int} (h : Byt F w v zs) (ha : ∀ b, v.ownBlock = some b → w'.heap[b]? = w.heap[b]?) : Byt F w' v zs :=
 ⟨h.1.agree ha, fun b hb => ⟨(h.2 b hb).1, by obtain ⟨_, cs, fr, hc⟩ := h.2 b hb; exact ⟨cs, fr, (ha b hb).trans hc⟩⟩⟩

theorem Byt.mono {F G : Nat → Prop} {w : World} {v : Value} {zs : List Int} (h : Byt F w v zs) (hs : ∀ g, F g → G g) : Byt G w v zs := ⟨h.1, fun b hb => ⟨hs b (h.2 b hb).1, (h.2 b hb).2⟩⟩

theorem Byt.ne {F : Nat → Prop} {w : World} {v : Value} {zs : List Int} (h : Byt F w v zs) {p : Nat} {cs : Array Value} {t : TypeId} {fr : Nat × Nat} (hp : w.heap[p]? = some (.cells cs t fr)) (ht : t ≠ 5) : ∀ b, v.ownBlock = some b → b ≠ p := by
 intro b hb e
 obtain ⟨_, cs', fr', hc⟩ := h.2 b hb
 rw [e, hp] at hc
 simp at hc
 exact ht hc.2.1

end Go.Proofs.YtmmfakpphjjjfaaGreat
