/- Texts of one layer, one behind the other. -/
import Derived.Test.YtfnaeblbodfekaaG9
import Derived.Test.YtfnaeblbodfekaaGL
import Derived.Deep.RegionHeld3
/- The contracts of cmp.Or, of starts' Fork, grow, Of and Grown. -/
namespace Go.Proofs.Ytfnaeblbodfekaa
open Go.RowKit
set_option linter.unusedVariables false

/-- What Fork comes to: the error. -/
def frE (a : List Sm.S) (ae : Int) (b : List Sm.S) (be : Int) : Int := if Sm.chk a ae = 0 then Sm.chk b be else Sm.chk a ae

theorem frE_zero {a b : List Sm.S} {ae be : Int} (h : frE a ae b be = 0) : Sm.Ok a ae ∧ Sm.Ok b be := by
  unfold frE at h
  split at h
  · rename_i h1
    exact ⟨Sm.chk_zero.1 h1, Sm.chk_zero.1 h⟩
  · rename_i h1
    exact absurd h h1

/-- What Fork comes to. -/
def Fr (a : List Sm.S) (ae : Int) (b : List Sm.S) (be n : Int) : Prop := (frE a ae b be = 0 ∧ Sm.Fk a ae b be n) ∨ (frE a ae b be ≠ 0 ∧ n = 0)

theorem fr_one {a b : List Sm.S} {ae be n m : Int} (h : Fr a ae b be n) (k : Fr a ae b be m) : n = m := by
  rcases h with ⟨h1, h2⟩ | ⟨h1, h2⟩ <;> rcases k with ⟨k1, k2⟩ | ⟨k1, k2⟩
  · exact Sm.fk_one h2 k2
  · exact absurd h1 k1
  · exact absurd k1 h1
  · rw [h2, k2]

end Go.Proofs.Ytfnaeblbodfekaa

/- The contracts of starts' Of and Grown. -/
namespace Go.Proofs.Ytfnaeblbodfekaa
open Go.RowKit
set_option linter.unusedVariables false

theorem told_len : ∀ (l : List Cm.Cv) (ep : Int), (Sm.told ep l).length ≤ l.length
  | [], _ => by simp [Sm.told]
  | c :: r, ep => by
    have := told_len r c.e
    unfold Sm.told
    split
    · simp; omega
    · simp; omega

/-- What Of comes to. -/
def ofs (l : List Cm.Cv) : List Sm.S := if (Cm.fol 0 0 0 l).1 = 0 then Sm.told 0 l else []

theorem ofs_ok {l : List Cm.Cv} (h : (Cm.fol 0 0 0 l).1 = 0) : ofs l = Sm.told 0 l := if_pos h
theorem ofs_no {l : List Cm.Cv} (h : (Cm.fol 0 0 0 l).1 ≠ 0) : ofs l = [] := if_neg h

theorem cvs_next {r : List Cw} {k : Nat} {c : Cw} (h : r[k]? = some c) : cvs (r.take (k + 1)) = cvs (r.take k) ++ [c.c] := by
  unfold cvs
  rw [List.take_add_one, h]
  simp

end Go.Proofs.Ytfnaeblbodfekaa

/- The program's Hello, Next, Ack (layer 17). -/
namespace Go.Proofs.Ytfnaeblbodfekaa
open Go.RowKit
set_option linter.unusedVariables false

set_option maxRecDepth 20000 in
set_option maxHeartbeats 4000000 in
theorem pnext_no (e k : Int) (v : Value) (rs : List Cw) (w : World) (h : IsC w v rs) (hf : FitC rs) (hl : rs.length ≤ 1000000) (hno : Shp.nxtE e (cvs rs) k ≠ 0) :
    Calls Try.prog 25 #[.int .i64 e, v, .int .i64 k] w (DecR w (Shp.nxt e (cvs rs) k) (Shp.nxtE e (cvs rs) k)) := by
  obtain ⟨w1, hw1, sz1, bel1, hR⟩ := blk_step w #[.int .i64 0, .int .i64 0, .int .u8 0, .int .i64 0, .slice none 0 0, .int .i64 0, .int .i64 0, .slice none 0 0] 30
  have X := hide (plck_any e v rs w1 (h.below bel1) hf hl)
  have NO : Hid (∀ W, Below w1.heap.size w1 W → ∃ Z, (((((((W.setCell ⟨w.heap.size, 0, none⟩ (.int .i64 0)).setCell ⟨w.heap.size, 1, none⟩ (.int .i64 0)).setCell ⟨w.heap.size, 2, none⟩ (.int .u8 0)).setCell ⟨w.heap.size, 3, none⟩ (.int .i64 0)).setCell ⟨w.heap.size, 4, none⟩ (.slice none 0 0)).setCell ⟨w.heap.size, 5, none⟩ (.int .i64 0)).setCell ⟨w.heap.size, 6, none⟩ (.int .i64 0)).setCell ⟨w.heap.size, 7, none⟩ (.slice none 0 0) = Z ∧ Ei W w.heap.size (.int .i64 0) (.int .i64 0) (.int .u8 0) (.int .i64 0) (.slice none 0 0) (.int .i64 0) (.int .i64 0) (.slice none 0 0) ∧ (∀ j, W.frozen? ⟨w.heap.size, j, none⟩ = false) ∧ Ei Z w.heap.size (.int .i64 0) (.int .i64 0) (.int .u8 0) (.int .i64 0) (.slice none 0 0) (.int .i64 0) (.int .i64 0) (.slice none 0 0) ∧ Hid (mno.m = Mm.no ∧ OwnM w.heap.size Z mno ∧ FitM mno ∧ Below w.heap.size w Z)) := hide fun W hW => by
    have hRW := (hW.block w.heap.size (by omega)).trans hR
    obtain ⟨Z, hZ, gZ, hE, fr, hE2⟩ := put_no hRW (.int .i64 0) (.int .i64 0) (.int .u8 0) (.int .i64 0) (.slice none 0 0) (.int .i64 0) (.int .i64 0) (.slice none 0 0)
    have bW := bel1.trans (hW.mono (by omega))
    exact ⟨Z, hZ, hE, fr, hE2, dec_no (below_put bW gZ (Nat.le_refl _) (by have := hW.size; omega))⟩
  by_cases h0 : Shp.lck e (cvs rs) = 0
  · rw [h0] at X
    have hr : k < 0 ∨ ((cvs rs).length : Int) < k ∨ k = 1048576 := by
      by_cases hr : k < 0 ∨ ((cvs rs).length : Int) < k ∨ k = 1048576
      · exact hr
      · exact absurd (Shp.nxtE_ok h0 hr).1 hno
    rw [(Shp.nxtE_arg h0 hr).1, (Shp.nxtE_arg h0 hr).2]
    rw [cvs_n] at hr
    obtain ⟨ao, cap, hvl, _, _⟩ := h.1.shape
    subst hvl
    clear h hf hR bel1 h0 hl hno
    by_cases q1 : k < 0
    · clear hr
      go_enter Try.func25, Try.ntmps25
      go_wp2_with fail
      refine X.out.mono ?_
      rintro E w2 ⟨rfl, b2⟩
      obtain ⟨Z, hZ, ⟨a0, a1, a2, a3, a4, a5, a6, a7⟩, fr, ⟨z0, z1, z2, z3, z4, z5, z6, z7⟩, NOZ⟩ := NO.out w2 b2
      have f0 := fr 0; have f1 := fr 1; have f2 := fr 2; have f3 := fr 3; have f4 := fr 4; have f5 := fr 5; have f6 := fr 6; have f7 := fr 7
      clear X NO fr b2
      go_wp2
      refine bodyPost_ret (v := .tuple #[.agg #[.int .i64 0, .int .i64 0, .int .u8 0, .int .i64 0, .slice none 0 0, .int .i64 0, .int .i64 0, .slice none 0 0], .int .i64 2]) (by simp [results, Try.results25, go_sem, z0, z1, z2, z3, z4, z5, z6, z7]) rfl ?_
      exact ⟨mno, rfl, NOZ⟩
    by_cases q2 : (rs.length : Int) < k
    · clear hr
      go_enter Try.func25, Try.ntmps25
      go_wp2_with fail
      refine X.out.mono ?_
      rintro E w2 ⟨rfl, b2⟩
      obtain ⟨Z, hZ, ⟨a0, a1, a2, a3, a4, a5, a6, a7⟩, fr, ⟨z0, z1, z2, z3, z4, z5, z6, z7⟩, NOZ⟩ := NO.out w2 b2
      have f0 := fr 0; have f1 := fr 1; have f2 := fr 2; have f3 := fr 3; have f4 := fr 4; have f5 := fr 5; have f6 := fr 6; have f7 := fr 7
      clear X NO fr b2
      go_wp2
      refine bodyPost_ret (v := .tuple #[.agg #[.int .i64 0, .int .i64 0, .int .u8 0, .int .i64 0, .slice none 0 0, .int .i64 0, .int .i64 0, .slice none 0 0], .int .i64 2]) (by simp [results, Try.results25, go_sem, z0, z1, z2, z3, z4, z5, z6, z7]) rfl ?_
      exact ⟨mno, rfl, NOZ⟩
    have q3 : (k == 1048576) = true := by rw [beq_iff_eq]; omega
    clear hr
    go_enter Try.func25, Try.ntmps25
    go_wp2_with fail
    refine X.out.mono ?_
    rintro E w2 ⟨rfl, b2⟩
    obtain ⟨Z, hZ, ⟨a0, a1, a2, a3, a4, a5, a6, a7⟩, fr, ⟨z0, z1, z2, z3, z4, z5, z6, z7⟩, NOZ⟩ := NO.out w2 b2
    have f0 := fr 0; have f1 := fr 1; have f2 := fr 2; have f3 := fr 3; have f4 := fr 4; have f5 := fr 5; have f6 := fr 6; have f7 := fr 7
    clear X NO fr b2
    go_wp2
    refine bodyPost_ret (v := .tuple #[.agg #[.int .i64 0, .int .i64 0, .int .u8 0, .int .i64 0, .slice none 0 0, .int .i64 0, .int .i64 0, .slice none 0 0], .int .i64 2]) (by simp [results, Try.results25, go_sem, z0, z1, z2, z3, z4, z5, z6, z7]) rfl ?_
    exact ⟨mno, rfl, NOZ⟩
  · rw [(Shp.nxtE_no h0).1, (Shp.nxtE_no h0).2]
    obtain ⟨z, hz⟩ : ∃ z, Shp.lck e (cvs rs) = z := ⟨_, rfl⟩
    rw [hz] at X h0 ⊢
    have hzb : (z != 0) = true := by simpa using h0
    obtain ⟨ao, cap, hvl, _, _⟩ := h.1.shape
    subst hvl
    clear h hf hR bel1 hl hz hno
    go_enter Try.func25, Try.ntmps25
    go_wp2_with fail
    refine X.out.mono ?_
    rintro E w2 ⟨rfl, b2⟩
    obtain ⟨Z, hZ, ⟨a0, a1, a2, a3, a4, a5, a6, a7⟩, fr, ⟨z0, z1, z2, z3, z4, z5, z6, z7⟩, NOZ⟩ := NO.out w2 b2
    have f0 := fr 0; have f1 := fr 1; have f2 := fr 2; have f3 := fr 3; have f4 := fr 4; have f5 := fr 5; have f6 := fr 6; have f7 := fr 7
    clear X NO fr b2
    go_wp2
    refine bodyPost_ret (v := .tuple #[.agg #[.int .i64 0, .int .i64 0, .int .u8 0, .int .i64 0, .slice none 0 0, .int .i64 0, .int .i64 0, .slice none 0 0], .int .i64 z]) (by simp [results, Try.results25, go_sem, z0, z1, z2, z3, z4, z5, z6, z7]) rfl ?_
    exact ⟨mno, rfl, NOZ⟩

set_option maxRecDepth 20000 in
set_option maxHeartbeats 8000000 in
theorem pnext_ok (e : Int) (k : Nat) (v : Value) (rs : List Cw) (w : World) (h : IsC w v rs) (hf : FitC rs) (hl : rs.length ≤ 1000000) (he : In64 e) (h0 : Shp.lck e (cvs rs) = 0) (hk : k ≤ rs.length) (hk2 : k ≠ 1048576) :
    Calls Try.prog 25 #[.int .i64 e, v, .int .i64 k] w (DecR w ⟨2, e, 0, 0, [], (k : Int) + 1, Cm.lastE 0 ((cvs rs).take k), ((cvs rs).drop k).take 4⟩ 0) := by
  obtain ⟨w1, hw1, sz1, bel1, hR⟩ := blk_step w #[.int .i64 0, .int .i64 0, .int .u8 0, .int .i64 0, .slice none 0 0, .int .i64 0, .int .i64 0, .slice none 0 0] 30
  have X := hide (plck_any e v rs w1 (h.below bel1) hf hl)
  rw [h0] at X
  obtain ⟨_, _, hg, _⟩ := Shp.lck_zero h0
  obtain ⟨q, qi, hq1, hq2, hqi, hmin, htk⟩ : ∃ (q : Nat) (qi : Int), k ≤ q ∧ q ≤ rs.length ∧ qi = (q : Int) ∧ (if (rs.length : Int) < (k : Int) + 4 then (rs.length : Int) else (k : Int) + 4) = qi ∧ ((cvs rs).drop k).take 4 = cvs ((rs.drop k).take (q - k)) := by
    by_cases hm : (rs.length : Int) < (k : Int) + 4
    · refine ⟨rs.length, rs.length, hk, Nat.le_refl _, rfl, if_pos hm, ?_⟩
      rw [List.take_of_length_le (by rw [List.length_drop, cvs_n]; omega), List.take_of_length_le (by rw [List.length_drop]; omega)]
      unfold cvs
      rw [List.map_drop]
    · refine ⟨k + 4, (k : Int) + 4, by omega, by omega, by omega, if_neg hm, ?_⟩
      unfold cvs
      rw [List.map_take, List.map_drop, Nat.add_sub_cancel_left]
  obtain ⟨pv, hpv⟩ : ∃ pv, Cm.lastE 0 ((cvs rs).take k) = pv := ⟨_, rfl⟩
  have hpt : cvs (rs.take k) = (cvs rs).take k := by unfold cvs; rw [List.map_take]
  obtain ⟨ao, cap, hvl, hcp, hcm⟩ := h.1.shape
  obtain ⟨v1, hs1, row1⟩ := h.1.slice_h Try.elemC Try.sizeC k hk
  obtain ⟨v2, hs2, row2⟩ := h.1.slice_lh Try.elemC Try.sizeC k q hq1 hq2
  have hsub : ∀ c ∈ (rs.drop k).take (q - k), c ∈ rs := fun c hc => List.mem_of_mem_drop (List.mem_of_mem_take hc)
  have hcf : ∀ c ∈ (rs.drop k).take (q - k), CFit c.e c.n c.l := fun c hc => by
    obtain ⟨i, hi⟩ := List.getElem?_of_mem (hsub c hc)
    exact cfit_ok (Cm.good_at _ 0 0 i c.c hg (cvs_at1 hi)).1
  have LA : Hid (∀ W, Below w1.heap.size w1 W → Calls Try.prog 47 #[v1] W fun E w' => E = .returned (.int .i64 pv) ∧ w' = W) := hide fun W hW => by
    have := plast_any v1 (rs.take k) W ((row1.below bel1).below hW) (by rw [List.length_take]; omega)
    rw [hpt, hpv] at this
    exact this
  have PV64 : Hid (In64 pv) := hide (by
    have h1 := (Shp.good_le _ _ _ (Cm.good_take hg k)).1
    rw [hpv] at h1
    have h3 : pv ≤ 1048576 := by
      rcases Nat.eq_zero_or_pos k with hz | hz
      · subst hz; rw [← hpv]; show (0 : Int) ≤ 1048576; omega
      · obtain ⟨c, hc⟩ : ∃ c, rs[k - 1]? = some c := ⟨rs[k - 1]'(by omega), List.getElem?_eq_getElem _⟩
        have hq := Shp.prv_is (cvs_at1 hc)
        rw [show k - 1 + 1 = k by omega, hpv] at hq
        have := Cm.chk_zero (Cm.good_at _ 0 0 (k - 1) c.c hg (cvs_at1 hc)).1
        rw [hq]; exact this.2.1
    exact ⟨by omega, by omega⟩)
  have CO : Hid (∀ W, Below w1.heap.size w1 W → Calls Try.prog 48 #[v2] W fun E W5 => ∃ v5 cs, E = .returned v5 ∧ (∃ a n q, v5 = .slice a n q) ∧ ∃ Z, (((((((W5.setCell ⟨w.heap.size, 0, none⟩ (.int .i64 2)).setCell ⟨w.heap.size, 1, none⟩ (.int .i64 e)).setCell ⟨w.heap.size, 2, none⟩ (.int .u8 0)).setCell ⟨w.heap.size, 3, none⟩ (.int .i64 0)).setCell ⟨w.heap.size, 4, none⟩ (.slice none 0 0)).setCell ⟨w.heap.size, 5, none⟩ (.int .i64 ((k : Int) + 1))).setCell ⟨w.heap.size, 6, none⟩ (.int .i64 pv)).setCell ⟨w.heap.size, 7, none⟩ v5 = Z ∧ Ei W5 w.heap.size (.int .i64 0) (.int .i64 0) (.int .u8 0) (.int .i64 0) (.slice none 0 0) (.int .i64 0) (.int .i64 0) (.slice none 0 0) ∧ (∀ j, W5.frozen? ⟨w.heap.size, j, none⟩ = false) ∧ Ei Z w.heap.size (.int .i64 2) (.int .i64 e) (.int .u8 0) (.int .i64 0) (.slice none 0 0) (.int .i64 ((k : Int) + 1)) (.int .i64 pv) v5 ∧ Below w1.heap.size w1 W5 ∧ Hid ((sm2 e ((k : Int) + 1) pv v5 cs).m = ⟨2, e, 0, 0, [], (k : Int) + 1, pv, ((cvs rs).drop k).take 4⟩ ∧ OwnM w.heap.size Z (sm2 e ((k : Int) + 1) pv v5 cs) ∧ FitM (sm2 e ((k : Int) + 1) pv v5 cs) ∧ Below w.heap.size w Z)) := hide fun W hW => by
    have isW : IsC W v2 ((rs.drop k).take (q - k)) := ⟨(row2.below bel1).below hW, fun c hc => ((h.below bel1).below hW).2 c (hsub c hc)⟩
    refine (pcopies_any v2 _ W isW hcf (by rw [List.length_take, List.length_drop]; omega)).mono ?_
    rintro E W5 ⟨v5, cs, rfl, sh5, hcs, b5⟩
    obtain ⟨a5, q5, hv5, _, _⟩ := sh5.c.row.shape
    have b15 : Below w1.heap.size w1 W5 := hW.trans (b5.mono hW.size)
    have hR5 := (b15.block w.heap.size (by omega)).trans hR
    obtain ⟨Z, hZ, gZ, hE, fr, hE2⟩ := put_no hR5 (.int .i64 2) (.int .i64 e) (.int .u8 0) (.int .i64 0) (.slice none 0 0) (.int .i64 ((k : Int) + 1)) (.int .i64 pv) v5
    have bW := bel1.trans (b15.mono (by omega))
    have m5 := hW.size
    have oZ : Out (fun g => g = w.heap.size) W5 Z := Out.of_grown gZ fun g hg => by simp at hg; exact hg.symm
    have shZ := sh5.out oZ fun g hg => by omega
    have hcl : cs.length = ((rs.drop k).take (q - k)).length := by rw [← cvs_n cs, hcs, cvs_n]
    refine ⟨v5, cs, rfl, ⟨a5, _, q5, hv5⟩, Z, hZ, hE, fr, hE2, b15, hide ⟨?_, (own_sm shZ).rebase (by omega), fit_shp he ⟨by omega, by omega⟩ PV64.out sh5.f (by rw [hcl, List.length_take, List.length_drop]; omega), below_put bW gZ (Nat.le_refl _) (by have := b15.size; omega)⟩⟩
    show (⟨2, e, 0, 0, [], (k : Int) + 1, pv, cvs cs⟩ : Mm.Msg) = _
    rw [hcs, htk]
  have q1 : ¬ (k : Int) < 0 := by omega
  have q2 : ¬ (rs.length : Int) < k := by omega
  have q3 : ((k : Int) == 1048576) = false := by rw [beq_eq_false_iff_ne]; omega
  have q4 : IntKind.i64.wrap ((k : Int) + 1) = (k : Int) + 1 := wrap64s _ (by omega) (by omega)
  have q5 : IntKind.i64.wrap ((k : Int) + 4) = (k : Int) + 4 := wrap64s _ (by omega) (by omega)
  rw [← hqi] at hs2
  have SH1 : ∃ a n q, v1 = .slice a n q := by obtain ⟨a, q, h1, _, _⟩ := row1.shape; exact ⟨a, _, q, h1⟩
  have SH2 : ∃ a n q, v2 = .slice a n q := by obtain ⟨a, q, h1, _, _⟩ := row2.shape; exact ⟨a, _, q, h1⟩
  obtain ⟨a1, n1, c1, rfl⟩ := SH1
  obtain ⟨a2, n2, c2, rfl⟩ := SH2
  rw [hpv]
  rw [hvl] at X hs1 hs2
  subst hvl
  generalize ((cvs rs).drop k).take 4 = l4 at *
  clear h hf hR bel1 h0 hg hpv hpt hsub hcf row1 row2 hqi hq1 hq2 htk hk hk2 hcp hcm PV64
  go_enter Try.func25, Try.ntmps25
  go_wp2_with fail
  refine X.out.mono ?_
  rintro E w2 ⟨rfl, b2⟩
  have B2 := hide b2
  clear X b2
  go_wp2_with fail
  go_region_held3 (fun _ => True) (trivial)
    (first
    | (go_at_call 47; refine (LA.out _ (by first | exact B5.out | exact B2.out.drew)).mono ?_; rintro E w4 ⟨rfl, rfl⟩)
    | (go_at_call 48; refine (CO.out _ B2.out.drew).mono ?_; rintro E w5 ⟨v5, cs, rfl, ⟨x5, n5, k5, rfl⟩, Z, hZ, ⟨a0, a1, a2, a3, a4, a5, a6, a7⟩, fr, ⟨z0, z1, z2, z3, z4, z5, z6, z7⟩, b5, OKZ⟩; have B5 := hide b5; have f0 := fr 0; have f1 := fr 1; have f2 := fr 2; have f3 := fr 3; have f4 := fr 4; have f5 := fr 5; have f6 := fr 6; have f7 := fr 7; clear b5 fr))
  all_goals
    go_wp2
    refine bodyPost_ret (v := .tuple #[.agg #[.int .i64 2, .int .i64 e, .int .u8 0, .int .i64 0, .slice none 0 0, .int .i64 ((k : Int) + 1), .int .i64 pv, .slice x5 n5 k5], .int .i64 0]) (by simp [results, Try.results25, go_sem, z0, z1, z2, z3, z4, z5, z6, z7]) rfl ?_
    exact ⟨_, rfl, OKZ⟩

theorem pnext_any (e k : Int) (v : Value) (rs : List Cw) (w : World) (h : IsC w v rs) (hf : FitC rs) (hl : rs.length ≤ 1000000) (he : In64 e) (hk : In64 k) :
    Calls Try.prog 25 #[.int .i64 e, v, .int .i64 k] w (DecR w (Shp.nxt e (cvs rs) k) (Shp.nxtE e (cvs rs) k)) := by
  by_cases hno : Shp.nxtE e (cvs rs) k = 0
  · by_cases h0 : Shp.lck e (cvs rs) = 0
    · by_cases hr : k < 0 ∨ ((cvs rs).length : Int) < k ∨ k = 1048576
      · rw [(Shp.nxtE_arg h0 hr).1] at hno
        simp at hno
      · rw [(Shp.nxtE_ok h0 hr).1, (Shp.nxtE_ok h0 hr).2]
        rw [cvs_n] at hr
        obtain ⟨n, rfl⟩ : ∃ n : Nat, k = (n : Int) := ⟨k.toNat, by omega⟩
        rw [Int.toNat_natCast]
        exact pnext_ok e n v rs w h hf hl he h0 (by omega) (by omega)
    · rw [(Shp.nxtE_no h0).1] at hno
      exact absurd hno h0
  · exact pnext_no e k v rs w h hf hl hno

end Go.Proofs.Ytfnaeblbodfekaa
