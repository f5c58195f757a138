/- Texts of one layer, one behind the other. -/
import Derived.Test.YtkpnkknolobioaaGreatG25
import Derived.Test.YtkpnkknolobioaaGreatG11
import Derived.Test.YtkpnkknolobioaaGreatG15
import Derived.Test.YtkpnkknolobioaaGreatG8
import Derived.Deep.RegionHeld3
import Derived.Test.YtkpnkknolobioaaGreatG22
import Derived.Test.YtkpnkknolobioaaGreatG4
import Derived.Test.YtkpnkknolobioaaGreatG10
import Derived.ArgAppend
/- Pick, told by its number; a disk with a fuse, by mathematics. -/
namespace Go.Proofs.YtkpnkknolobioaaGreat
open Go.RowKit
set_option linter.unusedVariables false

/-- A disk that had a fuse of n. -/
def FI (n : Nat) (st : Dm.Ds) : Prop := st.has = true ∧ ((st.on = true ∧ st.left + st.count = n) ∨ (st.on = false ∧ st.count = n))

/-- What a raw step, or some, may come to. -/
def FP (n : Nat) (st : Dm.Ds) (r : Int × Dm.Ds) : Prop := FI n r.2 ∧ ((r.1 = 0 ∧ r.2.on = true) ∨ (r.1 = 2 ∧ r.2.on = true ∧ r.2.count = st.count) ∨ (r.1 = 6 ∧ r.2.on = false))

theorem FI.le {n : Nat} {st : Dm.Ds} (h : FI n st) : st.count ≤ n := by
  rcases h.2 with ⟨_, h⟩ | ⟨_, h⟩ <;> omega

theorem fi_dark {n : Nat} {st : Dm.Ds} (h : FI n st) (hon : st.on = true) (ho : Dm.off st = true) : FI n (Dm.dark st) := by
  obtain ⟨h1, ⟨h2, h3⟩ | ⟨h2, _⟩⟩ := h
  · simp [Dm.off] at ho
    exact ⟨h1, .inr ⟨rfl, by show st.count = n; omega⟩⟩
  · rw [hon] at h2; cases h2

theorem fi_burn {n : Nat} {st : Dm.Ds} (h : FI n st) (hon : st.on = true) (ho : Dm.off st = false) : (Dm.burn st).has = true ∧ (Dm.burn st).on = true ∧ (Dm.burn st).left + (Dm.burn st).count = n := by
  obtain ⟨h1, ⟨h2, h3⟩ | ⟨h2, _⟩⟩ := h
  · simp [Dm.off, h1] at ho
    refine ⟨h1, hon, ?_⟩
    show (if st.has then st.left - 1 else st.left) + (st.count + 1) = n
    rw [if_pos h1]
    omega
  · rw [hon] at h2; cases h2

theorem fp_off {n : Nat} {st : Dm.Ds} (h : FI n st) (hon : st.on = false) : FP n st (6, st) := ⟨h, .inr (.inr ⟨rfl, hon⟩)⟩
theorem fp_arg {n : Nat} {st : Dm.Ds} (h : FI n st) (hon : st.on = true) : FP n st (2, st) := ⟨h, .inr (.inl ⟨rfl, hon, rfl⟩)⟩

theorem fp_wrt (file n : Nat) : ∀ (m : Nat) (bs : List Int) (st : Dm.Ds), FI n st → st.on = true → FI n (Dm.wrt file m st bs).2 ∧ (((Dm.wrt file m st bs).1 = 0 ∧ (Dm.wrt file m st bs).2.on = true) ∨ ((Dm.wrt file m st bs).1 = 6 ∧ (Dm.wrt file m st bs).2.on = false))
  | 0, bs, st, h, hon => ⟨h, .inl ⟨rfl, hon⟩⟩
  | m + 1, bs, st, h, hon => by
    rw [Dm.wrt]
    by_cases hb : bs = []
    · rw [if_pos hb]; exact ⟨h, .inl ⟨rfl, hon⟩⟩
    · rw [if_neg hb]
      cases ho : Dm.off st
      · rw [if_neg (by simp)]
        obtain ⟨h1, h2, h3⟩ := fi_burn h hon ho
        exact fp_wrt file n m (bs.drop 64) _ ⟨h1, .inl ⟨h2, h3⟩⟩ h2
      · rw [if_pos rfl]
        exact ⟨fi_dark h hon ho, .inr ⟨rfl, rfl⟩⟩

theorem fp_write {n : Nat} {st : Dm.Ds} (h : FI n st) (file : Int) (bs : List Int) : FP n st (Dm.write st file bs) := by
  unfold Dm.write
  cases hon : st.on
  · rw [if_pos rfl]; exact fp_off h hon
  · rw [if_neg (by simp)]
    split
    · exact fp_arg h hon
    · obtain ⟨h1, h2⟩ := fp_wrt file.toNat n bs.length bs st h hon
      exact ⟨h1, h2.elim .inl fun h => .inr (.inr h)⟩

theorem fp_cut {n : Nat} {st : Dm.Ds} (h : FI n st) (file len : Int) : FP n st (Dm.cutD st file len) := by
  unfold Dm.cutD
  cases hon : st.on
  · rw [if_pos rfl]; exact fp_off h hon
  · rw [if_neg (by simp)]
    split
    · exact fp_arg h hon
    · split
      · exact fp_arg h hon
      · cases ho : Dm.off st
        · rw [if_neg (by simp)]
          obtain ⟨h1, h2, h3⟩ := fi_burn h hon ho
          exact ⟨⟨h1, .inl ⟨h2, h3⟩⟩, .inl ⟨rfl, h2⟩⟩
        · rw [if_pos rfl]
          exact ⟨fi_dark h hon ho, .inr (.inr ⟨rfl, rfl⟩)⟩

theorem fp_sync {n : Nat} {st : Dm.Ds} (h : FI n st) : FP n st (Dm.sync st) := by
  unfold Dm.sync
  cases hon : st.on
  · rw [if_pos rfl]; exact fp_off h hon
  · rw [if_neg (by simp)]
    cases ho : Dm.off st
    · rw [if_neg (by simp)]
      obtain ⟨h1, h2, h3⟩ := fi_burn h hon ho
      exact ⟨⟨h1, .inl ⟨h2, h3⟩⟩, .inl ⟨rfl, h2⟩⟩
    · rw [if_pos rfl]
      exact ⟨fi_dark h hon ho, .inr (.inr ⟨rfl, rfl⟩)⟩

/-- A disk that is on, without a fuse: a sync is done. -/
theorem sync_free {st : Dm.Ds} (h1 : st.on = true) (h2 : st.has = false) : (Dm.sync st).1 = 0 ∧ (Dm.sync st).2.on = true ∧ (Dm.sync st).2.has = false ∧ (Dm.sync st).2.wait.length = 0 := by
  have : Dm.off st = false := by simp [Dm.off, h2]
  simp [Dm.sync, h1, this, Dm.flush, Dm.burn, h2]

theorem cnt_small {n : Nat} (h : n ≤ 400) : cnt n ≤ 7 := by unfold cnt; omega

end Go.Proofs.YtkpnkknolobioaaGreat

/- A disk that is nil, or that nobody made: each call of it. -/
namespace Go.Proofs.YtkpnkknolobioaaGreat
open Go.RowKit Go.Shelf
set_option linter.unusedVariables false
attribute [local go_sem] Oper.semAt_some

/-- No disk, or one that nobody made. -/
def NoD (w : World) (v : Value) : Prop := v = .pointer none ∨ ∃ q, v = .pointer (some ⟨q, 0, none⟩) ∧ w.cell? ⟨q, 0, none⟩ = some (.bool false)

theorem NoD.below {w w' : World} {v : Value} (h : NoD w v) (hb : Below w.heap.size w w') : NoD w' v := by
  rcases h with h | ⟨q, h1, h2⟩
  · exact .inl h
  · exact .inr ⟨q, h1, (hb.cell (World.block_lt_of_cell? _ _ h2)).trans h2⟩

theorem madeN (v : Value) (w : World) (h : NoD w v) : Calls Tryz.prog 49 #[v] w fun E w' => E = .returned (.bool false) ∧ w = w' := by
  rcases h with rfl | ⟨q, rfl, hc⟩
  · go_enter Tryz.func49, Tryz.ntmps49
    go_wp2
    go_ret
    exact ⟨rfl, rfl⟩
  · go_enter Tryz.func49, Tryz.ntmps49
    go_wp2
    go_ret
    exact ⟨rfl, rfl⟩

theorem refN (v : Value) (w : World) (h : NoD w v) : Calls Tryz.prog 33 #[v] w fun E w' => E = .returned (.int .i64 1) ∧ w = w' := by
  have HN := hide (madeN v w h)
  clear h
  go_enter Tryz.func33, Tryz.ntmps33
  go_wp2_with fail
  refine HN.out.mono ?_
  rintro E w1 ⟨rfl, rfl⟩
  go_wp2
  go_ret
  exact ⟨rfl, rfl⟩

theorem pullN (v : Value) (w : World) (h : NoD w v) : Calls Tryz.prog 22 #[v] w fun E w' => E = .returned (.int .i64 1) ∧ w = w' := by
  have HN := hide (refN v w h)
  clear h
  go_enter Tryz.func22, Tryz.ntmps22
  go_wp2_with fail
  refine HN.out.mono ?_
  rintro E w1 ⟨rfl, rfl⟩
  go_wp2
  go_ret
  exact ⟨rfl, rfl⟩

theorem syncN (v : Value) (w : World) (h : NoD w v) : Calls Tryz.prog 10 #[v] w fun E w' => E = .returned (.int .i64 1) ∧ w = w' := by
  have HN := hide (refN v w h)
  clear h
  go_enter Tryz.func10, Tryz.ntmps10
  go_wp2_with fail
  refine HN.out.mono ?_
  rintro E w1 ⟨rfl, rfl⟩
  go_wp2
  go_ret
  exact ⟨rfl, rfl⟩

theorem fuseN (v : Value) (n : Int) (w : World) (h : NoD w v) : Calls Tryz.prog 12 #[v, .int .i64 n] w fun E w' => E = .returned (.int .i64 1) ∧ w = w' := by
  have HN := hide (refN v w h)
  clear h
  go_enter Tryz.func12, Tryz.ntmps12
  go_wp2_with fail
  refine HN.out.mono ?_
  rintro E w1 ⟨rfl, rfl⟩
  go_wp2
  go_ret
  exact ⟨rfl, rfl⟩

theorem cutN (v : Value) (f n : Int) (w : World) (h : NoD w v) : Calls Tryz.prog 43 #[v, .int .i64 f, .int .i64 n] w fun E w' => E = .returned (.int .i64 1) ∧ w = w' := by
  have HN := hide (refN v w h)
  clear h
  go_enter Tryz.func43, Tryz.ntmps43
  go_wp2_with fail
  refine HN.out.mono ?_
  rintro E w1 ⟨rfl, rfl⟩
  go_wp2
  go_ret
  exact ⟨rfl, rfl⟩

theorem startN (v : Value) (k t : Int) (w : World) (h : NoD w v) : Calls Tryz.prog 24 #[v, .int .i64 k, .int .i64 t] w fun E w' => E = .returned (.int .i64 1) ∧ w = w' := by
  have HN := hide (madeN v w h)
  clear h
  go_enter Tryz.func24, Tryz.ntmps24
  go_wp2_with fail
  refine HN.out.mono ?_
  rintro E w1 ⟨rfl, rfl⟩
  go_wp2
  go_ret
  exact ⟨rfl, rfl⟩

theorem readN (v : Value) (f : Int) (w : World) (h : NoD w v) : Calls Tryz.prog 42 #[v, .int .i64 f] w fun E w' => E = .returned (.tuple #[.slice none 0 0, .int .i64 1]) ∧ w = w' := by
  have HN := hide (refN v w h)
  clear h
  go_enter Tryz.func42, Tryz.ntmps42
  go_wp2_with fail
  refine HN.out.mono ?_
  rintro E w1 ⟨rfl, rfl⟩
  go_wp2
  refine bodyPost_ret (results_tmp2 rfl _ _ _) rfl ?_
  exact ⟨rfl, rfl⟩

theorem onN (v : Value) (w : World) (h : NoD w v) : Calls Tryz.prog 20 #[v] w fun E w' => E = .returned (.bool false) ∧ w = w' := by
  have HN := hide (madeN v w h)
  clear h
  go_enter Tryz.func20, Tryz.ntmps20
  go_wp2_with fail
  refine HN.out.mono ?_
  rintro E w1 ⟨rfl, rfl⟩
  go_wp2
  go_ret
  exact ⟨rfl, rfl⟩

theorem stepsN (v : Value) (w : World) (h : NoD w v) : Calls Tryz.prog 18 #[v] w fun E w' => E = .returned (.int .i64 0) ∧ w = w' := by
  have HN := hide (madeN v w h)
  clear h
  go_enter Tryz.func18, Tryz.ntmps18
  go_wp2_with fail
  refine HN.out.mono ?_
  rintro E w1 ⟨rfl, rfl⟩
  go_wp2
  go_ret
  exact ⟨rfl, rfl⟩

theorem durN (v : Value) (f : Int) (w : World) (h : NoD w v) : Calls Tryz.prog 27 #[v, .int .i64 f] w fun E w' => E = .returned (.slice none 0 0) ∧ w = w' := by
  have HN := hide (madeN v w h)
  clear h
  go_enter Tryz.func27, Tryz.ntmps27
  go_wp2_with fail
  refine HN.out.mono ?_
  rintro E w1 ⟨rfl, rfl⟩
  go_wp2
  go_ret
  exact ⟨rfl, rfl⟩

set_option maxRecDepth 100000 in
set_option maxHeartbeats 2000000 in
theorem writeN (v : Value) (file : Int) (vb : Value) (w : World) (h : NoD w v) :
    Calls Tryz.prog 8 #[v, .int .i64 file, vb] w fun E w' => E = .returned (.int .i64 1) ∧ Below w.heap.size w w' := by
  have hone : ∃ q, v = .pointer q := by
    rcases h with h | ⟨q, h, _⟩
    · exact ⟨_, h⟩
    · exact ⟨_, h⟩
  obtain ⟨q, hq⟩ := hone
  obtain ⟨w1, hw1, sz1, bel1, B1⟩ := blk_step w #[v] 28
  obtain ⟨w2, hw2, sz2, bel2, B2⟩ := blk_step w1 #[.int .i64 file] 3
  obtain ⟨w3, hw3, sz3, bel3, B3⟩ := blk_step w2 #[.int .i64 0] 32
  rw [sz1] at B2 bel2
  rw [show w2.heap.size = w.heap.size + 2 by omega] at B3 bel3
  have bel03 : Below w.heap.size w w3 := (bel1.trans (bel2.mono (by omega))).trans (bel3.mono (by omega))
  have HR := hide (refN v w3 (h.below bel03))
  replace sz2 : w2.heap.size = w.heap.size + 2 := by omega
  replace sz3 : w3.heap.size = w.heap.size + 3 := by omega
  have C0 : w3.cell? ⟨w.heap.size, 0, none⟩ = some v := by
    have e1 := (bel2.block w.heap.size (by omega)).trans B1
    exact blk_cell ((bel3.block w.heap.size (by omega)).trans e1) 0 rfl
  have C2 : w3.cell? ⟨w.heap.size + 2, 0, none⟩ = some (.int .i64 0) := blk_cell B3 0 rfl
  have f2 := blk_froz B3 0
  have HE : Hid (Below w.heap.size w (w3.setCell ⟨w.heap.size + 2, 0, none⟩ (.int .i64 1)) ∧ (w3.setCell ⟨w.heap.size + 2, 0, none⟩ (.int .i64 1)).cell? ⟨w.heap.size + 2, 0, none⟩ = some (.int .i64 1)) := hide
    ⟨bel03.grown (grown_setCell w3 ⟨w.heap.size + 2, 0, none⟩ _) (by omega) fun k hk => by simp at hk; omega, blk_cell (set_cells B3 0 (.int .i64 1)) 0 (by simp)⟩
  subst hq
  clear h B1 B2 B3
  refine (callsIn_wide (n := 6)).1 ?_
  refine callsIn_of_wp_marks Tryz.func8 rfl trivial ?_ rfl
  simp only [Tryz.ntmps8, List.size_toArray, List.length_cons, List.length_nil, Nat.reduceAdd, Nat.reduceSub, Array.replicate_succ, Array.replicate_zero, List.push_toArray, List.append_toArray, List.nil_append, List.cons_append]
  gi_wp2_with fail
  refine ⟨trivial, (callsIn_wide.2 HR.out).mono ?_⟩
  rintro E w' ⟨rfl, rfl⟩
  gi_wp2
  obtain ⟨b6, c6⟩ := HE.out
  refine ⟨.int .i64 1, ?_, rfl, b6⟩
  simp [results, Tryz.results8, go_sem, c6]

end Go.Proofs.YtkpnkknolobioaaGreat

/- The program's Write to no disk (layer 19). -/
namespace Go.Proofs.YtkpnkknolobioaaGreat
open Go.RowKit
set_option linter.unusedVariables false

theorem ponil_any (d : Value) (base e f : Int) (v : Value) (rs : List Cw) (w : World) (hd : NoD w d) (hc : IsC w v rs) (hf : FitC rs) (hl : rs.length ≤ 2000) :
    Calls Tryz.prog 15 #[d, .int .i64 base, .agg #[.int .i64 e, .int .i64 f, v]] w fun E w' => E = .returned (.int .i64 1) ∧ Below w.heap.size w w' := by
  obtain ⟨w1, hw1, sz1, bel1, hBx⟩ := blk_step w #[.int .i64 e, .int .i64 f, v] 25
  have RN := hide (readN d 3 w1 (hd.below bel1))
  have B1 := hide bel1
  obtain ⟨va, vk, hv, _, _⟩ := hc.1.shape
  subst hv
  clear hc hf hBx bel1
  rcases hd with rfl | ⟨q, rfl, _⟩
  · go_enter Tryz.func15, Tryz.ntmps15
    go_wp2_with fail
    refine RN.out.mono ?_
    rintro E w2 ⟨rfl, rfl⟩
    go_wp2
    go_ret
    exact ⟨rfl, B1.out⟩
  · go_enter Tryz.func15, Tryz.ntmps15
    go_wp2_with fail
    refine RN.out.mono ?_
    rintro E w2 ⟨rfl, rfl⟩
    go_wp2
    go_ret
    exact ⟨rfl, B1.out⟩

end Go.Proofs.YtkpnkknolobioaaGreat

/- SameSections; the statement's small, put and example (layer 19). -/
namespace Go.Proofs.YtkpnkknolobioaaGreat
open Go.RowKit
set_option linter.unusedVariables false

theorem sws_at {l : List Sw} {k : Nat} {x : Sw} (h : l[k]? = some x) : (sws l)[k]? = some x.s := by unfold sws; rw [List.getElem?_map, h]; rfl

set_option maxRecDepth 20000 in
set_option maxHeartbeats 4000000 in
theorem sameSe_yes (va vb : Value) (l m : List Sw) (w : World) (ha : IsSe w va l) (hb : IsSe w vb m) (fa : FitSe l) (fb : FitSe m) (hl : l.length ≤ 140737488355328) (he : sws l = sws m) :
    Calls Tryz.prog 32 #[va, vb] w fun E w' => E = .returned (.bool true) ∧ Below w.heap.size w w' := by
  have hlm : m.length = l.length := by rw [← sws_len m, ← he, sws_len]
  obtain ⟨aa, ca, hva, _, _⟩ := ha.shape
  obtain ⟨ab, cb, hvb, _, _⟩ := hb.shape
  rw [hlm] at hvb
  have ROW : Hid (∀ (k : Nat), k < l.length → ∃ b1 o1 b2 o2, aa = some ⟨b1, o1, none⟩ ∧ ab = some ⟨b2, o2, none⟩ ∧ ∃ e f v1 v2, (∀ W, Below w.heap.size w W → (W.cell? ⟨b1, o1 + k * 3, none⟩ = some (.int .i64 e) ∧ W.cell? ⟨b1, o1 + k * 3 + 1, none⟩ = some (.int .i64 f) ∧ W.cell? ⟨b1, o1 + k * 3 + 2, none⟩ = some v1) ∧ (W.cell? ⟨b2, o2 + k * 3, none⟩ = some (.int .i64 e) ∧ W.cell? ⟨b2, o2 + k * 3 + 1, none⟩ = some (.int .i64 f) ∧ W.cell? ⟨b2, o2 + k * 3 + 2, none⟩ = some v2)) ∧
      (∃ a n q, v1 = .slice a n q) ∧ (∃ a n q, v2 = .slice a n q) ∧ ∀ W, Below w.heap.size w W → Calls Tryz.prog 61 #[v1, v2] W fun E w' => E = .returned (.bool true) ∧ Below W.heap.size W w') := hide fun k hk => by
    obtain ⟨b1, o1, c1, h1, _, _, hb1, cell1⟩ := ha.full (by omega)
    obtain ⟨b2, o2, c2, h2, _, _, hb2, cell2⟩ := hb.full (by omega)
    rw [hva] at h1
    rw [hvb, hlm] at h2
    simp only [Value.slice.injEq, true_and] at h1 h2
    obtain ⟨x, hx⟩ : ∃ x, l[k]? = some x := ⟨l[k], List.getElem?_eq_getElem hk⟩
    obtain ⟨y, hy⟩ : ∃ y, m[k]? = some y := ⟨m[k]'(by omega), List.getElem?_eq_getElem _⟩
    have hs : x.s = y.s := by
      have q1 := sws_at hx
      have q2 := sws_at hy
      rw [he, q2] at q1
      exact (Option.some.inj q1).symm
    obtain ⟨d0, d1, d2⟩ := cell1 k x hx
    obtain ⟨e0, e1, e2⟩ := cell2 k y hy
    simp only [Sw.s, Orp.Se.mk.injEq] at hs
    obtain ⟨s1, s2, s3⟩ := hs
    rw [← s1] at e0
    rw [← s2] at e1
    have mx := List.mem_of_getElem? hx
    have my := List.mem_of_getElem? hy
    have ix := (ha.2 x mx).1
    have iy := (hb.2 y my).1
    refine ⟨b1, o1, b2, o2, h1.1, h2.1, x.e, x.f, x.v, y.v, fun W hW => ⟨⟨(hW.cell (p := ⟨b1, o1 + k * 3, none⟩) hb1).trans d0, (hW.cell (p := ⟨b1, o1 + k * 3 + 1, none⟩) hb1).trans d1, (hW.cell (p := ⟨b1, o1 + k * 3 + 2, none⟩) hb1).trans d2⟩, (hW.cell (p := ⟨b2, o2 + k * 3, none⟩) hb2).trans e0, (hW.cell (p := ⟨b2, o2 + k * 3 + 1, none⟩) hb2).trans e1, (hW.cell (p := ⟨b2, o2 + k * 3 + 2, none⟩) hb2).trans e2⟩, ?_, ?_, fun W hW => ?_⟩
    · obtain ⟨a, q, h, _, _⟩ := ix.1.shape; exact ⟨a, _, q, h⟩
    · obtain ⟨a, q, h, _, _⟩ := iy.1.shape; exact ⟨a, _, q, h⟩
    · have := sameCs_any x.v y.v x.rs y.rs W (ix.below hW) (iy.below hW) (fa x mx).1 (fb y my).1 (by have := (fa x mx).2; omega) (by have := (fb y my).2; omega)
      rw [s3, sameV_self] at this
      exact this
  subst hva hvb
  generalize l.length = n at *
  clear ha hb fa fb he hlm
  go_enter Tryz.func32, Tryz.ntmps32
  go_wp2
  go_loopw [5] (fun iv wr => ∃ k : Nat, k ≤ n ∧ iv = .int .i64 k ∧ Below w.heap.size w wr) (fun iv _ => n - (intOf iv).toNat)
  case atStart => exact ⟨0, by omega, rfl, Below.refl _ _⟩
  case round =>
    obtain ⟨k, hk, rfl, bel⟩ := hrel
    by_cases hlt : k < n
    · obtain ⟨b1, o1, b2, o2, rfl, rfl, e, f, v1, v2, CE, ⟨p1, p2, p3, rfl⟩, ⟨r1, r2, r3, rfl⟩, SC⟩ := ROW.out k hlt
      have hlt' : (k : Int) < n := by omega
      have hk0 : (0 : Int) ≤ (k : Int) := by omega
      have HCE := hide CE
      have HSC := hide SC
      obtain ⟨⟨d0, d1, d2⟩, ⟨e0, e1, e2⟩⟩ := CE wr bel
      have b20 := bel.drew
      have BEL := hide bel
      clear CE SC
      go_wp2_with fail
      go_region_held3 (fun W => (W.cell? ⟨b1, o1 + k * 3, none⟩ = some (.int .i64 e) ∧ W.cell? ⟨b1, o1 + k * 3 + 1, none⟩ = some (.int .i64 f) ∧ W.cell? ⟨b1, o1 + k * 3 + 2, none⟩ = some (.slice p1 p2 p3)) ∧ (W.cell? ⟨b2, o2 + k * 3, none⟩ = some (.int .i64 e) ∧ W.cell? ⟨b2, o2 + k * 3 + 1, none⟩ = some (.int .i64 f) ∧ W.cell? ⟨b2, o2 + k * 3 + 2, none⟩ = some (.slice r1 r2 r3))) (first | exact ⟨⟨d0, d1, d2⟩, ⟨e0, e1, e2⟩⟩ | exact HCE.out _ b5 | go_keep)
        (first | (go_at_call 61; refine (HSC.out _ b20).mono ?_; rintro E w5 ⟨rfl, bel5⟩; have b5 : Below w.heap.size w w5 := b20.trans (bel5.mono b20.size)))
      all_goals
        clear HSC
        go_wp2
        go_roundw
        case rel => exact ⟨k + 1, by omega, by go_num, b5⟩
        case measure => simp [intOf]; omega
    · have hlt' : ¬ (k : Int) < n := by omega
      go_wp2
      go_ret
      exact ⟨rfl, bel⟩

/-- Is a section gone through? -/
def smO (rs : List Cw) : Bool := decide (∀ c ∈ rs, c.l.length ≤ 40) && decide (rs.length ≤ 40)

theorem smO_yes {rs : List Cw} (h : smO rs = true) : (∀ c ∈ rs, c.l.length ≤ 40) ∧ rs.length ≤ 40 := by
  unfold smO at h
  rw [Bool.and_eq_true, decide_eq_true_eq, decide_eq_true_eq] at h
  exact h

set_option maxRecDepth 20000 in
set_option maxHeartbeats 2000000 in
theorem osmall_any (e f : Int) (v : Value) (rs : List Cw) (w : World) (h : IsC w v rs) (hl : rs.length ≤ 140737488355328) (hf : FitC rs) :
    Calls Tryz.prog 5 #[cmv e f v] w fun E w' => E = .returned (.bool (smO rs)) ∧ Below w.heap.size w w' := by
  unfold cmv
  obtain ⟨w1, hw1, sz1, bel1, hB⟩ := blk_step w #[.int .i64 e, .int .i64 f, v] 25
  have c2 : w1.cell? ⟨w.heap.size, 2, none⟩ = some v := blk_cell hB 2 rfl
  obtain ⟨ao, cap, hvl, _, _⟩ := h.1.shape
  have COM : Hid (∀ k, k < rs.length → ∃ b o, ao = some ⟨b, o, none⟩ ∧ ∃ c a q, rs[k]? = some c ∧ w1.cell? ⟨b, o + k * 3 + 2, none⟩ = some (.slice a c.l.length q) ∧ c.l.length ≤ 140737488355328) := hide fun k hk => by
    obtain ⟨b, o, cq, h1, _, _, hb, cell⟩ := h.1.full (by omega)
    rw [hvl] at h1
    simp only [Value.slice.injEq, true_and] at h1
    obtain ⟨c, hc⟩ : ∃ c, rs[k]? = some c := ⟨rs[k], List.getElem?_eq_getElem hk⟩
    obtain ⟨a, q, hv, _, _⟩ := (h.2 c (List.mem_of_getElem? hc)).1.shape
    have := (cell k c hc).2.2
    rw [hv] at this
    exact ⟨b, o, h1.1, c, a, q, hc, (bel1.cell (p := ⟨b, o + k * 3 + 2, none⟩) hb).trans this, by have := (hf c (List.mem_of_getElem? hc)).2; omega⟩
  have B1 := hide bel1
  rw [hvl] at hw1 c2
  subst hvl
  clear h hB bel1 hf
  go_enter Tryz.func5, Tryz.ntmps5
  go_wp2
  go_loopw [3] (fun iv wr => ∃ k : Nat, k ≤ rs.length ∧ iv = .int .i64 k ∧ Hid (∀ c ∈ rs.take k, c.l.length ≤ 40) ∧ wr = w1) (fun iv _ => rs.length - (intOf iv).toNat)
  case atStart => exact ⟨0, by omega, rfl, hide (fun c hc => by simp at hc), rfl⟩
  case round =>
    obtain ⟨k, hk, rfl, HK, rfl⟩ := hrel
    by_cases hlt : k < rs.length
    · obtain ⟨b, o, rfl, c, a, q, hc, d2, hcl⟩ := COM.out k hlt
      have hlt' : (k : Int) < rs.length := by omega
      have hk0 : (0 : Int) ≤ (k : Int) := by omega
      by_cases h40 : c.l.length ≤ 40
      · have NX : Hid (∀ d ∈ rs.take (k + 1), d.l.length ≤ 40) := hide (by
          obtain ⟨h1, h2⟩ := List.getElem?_eq_some_iff.1 hc
          intro d hd
          rw [List.take_succ_eq_append_getElem h1, h2] at hd
          rcases List.mem_append.1 hd with hd | hd
          · exact HK.out d hd
          · rw [List.mem_singleton.1 hd]; exact h40)
        have q1 : ¬ (40 : Int) < (c.l.length : Int) := by omega
        clear hc
        go_wp2
        go_roundw
        case rel => exact ⟨k + 1, by omega, by go_num, NX, by first | trivial | rfl⟩
        case measure => simp [intOf]; omega
      · have NO : Hid (smO rs = false) := hide (by
          unfold smO
          rw [Bool.and_eq_false_iff, decide_eq_false_iff_not]
          exact .inl fun h => h40 (h c (List.mem_of_getElem? hc)))
        have q1 : (40 : Int) < (c.l.length : Int) := by omega
        clear hc
        go_wp2
        go_ret
        exact ⟨by rw [NO.out]; rfl, B1.out⟩
    · have hlt' : ¬ (k : Int) < rs.length := by omega
      have ANS : Hid (smO rs = decide ((rs.length : Int) ≤ 40)) := hide (by
        have h1 := HK.out
        rw [List.take_of_length_le (by omega)] at h1
        unfold smO
        rw [decide_eq_true h1, Bool.true_and]
        by_cases h : rs.length ≤ 40
        · rw [decide_eq_true h, decide_eq_true (by omega)]
        · rw [decide_eq_false h, decide_eq_false (by omega)])
      go_wp2
      go_ret
      exact ⟨by rw [ANS.out]; simp, B1.out⟩

end Go.Proofs.YtkpnkknolobioaaGreat

/- The statement's put, example and lives (layer 19). -/
namespace Go.Proofs.YtkpnkknolobioaaGreat
open Go.RowKit
set_option linter.unusedVariables false

def exO : Bm.Ov := ⟨true, ⟨#[97]⟩, ⟨#[49]⟩⟩
/-- The chapter's section, and its bytes. -/
def exSe : Orp.Se := ⟨2, 1, [⟨1, 2, [exO]⟩]⟩
def exBy : List Int := [3, 2, 1, 1, 9, 1, 2, 1, 1, 0, 1, 97, 1, 49]

theorem exO_good : Bm.chkL [exO] = 0 := by decide
theorem exC_good {e n : Int} (h : 1 ≤ e ∧ e ≤ 1048576 ∧ 1 ≤ n ∧ n ≤ 1048576) : Cm.chk e n [exO] = 0 := by rw [Cm.chk_in h, exO_good]
theorem exSe_ok : Orp.chk exSe = 0 := by
  refine Orp.chk_ok (by simp [exSe]) ?_ (by simp [exSe, Cm.lastE])
  rw [Cm.fol_good]
  exact ⟨exC_good (by decide), by decide, by decide, trivial⟩
theorem exSe_by : Orp.sec exSe = exBy := by
  simp [Orp.sec, Orp.hdr, exSe, Fm.frm, Wl.lgb, Fm.cat, Wl.rec, Cm.encC, exO, exBy, Bm.encB, Bm.encL, Bm.encO, Bm.pre4, Bm.com, Bm.Ov.kl, Bm.Ov.vl, Bm.Ov.bit, Vm.enc_lo, Om.ints, Om.cnt]
theorem exSe_out : Orp.out exSe = exBy := by rw [Orp.out_ok exSe_ok, exSe_by]

/-- No section begins with three numbers that name no commit of theirs that follows. -/
theorem ex_none : ∀ t, Orp.chk t = 0 → ¬ Orp.sec t <+: [3, 3, 1, 1] := fun t ht hp => by
  have h1 := hp.length_le
  unfold Orp.sec at h1 hp
  rw [Bm.pre_app] at hp
  have h2 := Fm.frm_pre hp.1
  have h3 : Fm.frm [3, 1, 1] <+: [3, 3, 1, 1] := by simp [Fm.frm, Vm.enc_lo]
  have e := Fm.frm_one hp.1 h3
  obtain ⟨k1, k2, k3, k4, k5, k6, _⟩ := Orp.chk_zero ht
  have h4 : 1 ≤ (Wl.lgb t.cs).length := Nat.le_trans k5 (Wl.lgb_len t.cs)
  rw [List.length_append, e] at h1
  simp [Fm.frm, Vm.enc_lo] at h1
  omega

theorem ex_scan : Orp.Sn 0 (exBy ++ [3, 3, 1, 1]) [exSe] := by
  refine ⟨⟨exSe_ok, by decide, trivial⟩, by rw [Orp.secs_one, exSe_by]; exact List.prefix_append _ _, fun t ht hp => ?_⟩
  rw [Orp.secs_one, exSe_by, List.drop_left] at hp
  exact ex_none t ht.1 hp
theorem ex_scan1 : Orp.Sn 0 exBy [exSe] := by
  have := Orp.sn_self (a := 0) (l := [exSe]) ⟨exSe_ok, by decide, trivial⟩
  rwa [Orp.secs_one, exSe_by] at this

theorem put19_any (e n : Int) (w : World) :
    Calls Tryz.prog 54 #[.int .i64 e, .int .i64 n] w fun E w' => ∃ a k, E = .returned (.agg #[.int .i64 e, .int .i64 n, .slice a 1 k]) ∧ OwnO 93 w.heap.size w' (.slice a 1 k) [exO] ∧ Below w.heap.size w w' := by
  obtain ⟨w1, hw1, sz1, bel1, hR⟩ := blk_step w #[.int .i64 0, .int .i64 0, .slice none 0 0] 59
  obtain ⟨w2, hw2, sz2, bel2, own2⟩ := ops_step 93 w1 #[.bool true, .string ⟨#[97]⟩, .string ⟨#[49]⟩] 1 [exO] rfl rfl (by simp [maxLen])
  have hR2 := (bel2.block w.heap.size (by omega)).trans hR
  have bel02 : Below w.heap.size w w2 := bel1.trans (bel2.mono (by omega))
  rw [sz1] at own2
  obtain ⟨V', hV', bV', gV', ⟨a0, a1, a2⟩, ⟨f0, f1, f2⟩, ⟨z0, z1, z2⟩⟩ := res_step hR2 (.int .i64 e) (.int .i64 n) (.slice (some ⟨w.heap.size + 1, 0, none⟩) 1 1)
  have belV' := below_put bel02 gV' (Nat.le_refl _) (by omega)
  have ownV' := (own2.keptg gV' (by omega)).rebase (base' := w.heap.size) (by omega)
  clear hR hR2 bel1 bel2 own2 bV' gV' bel02
  go_enter Tryz.func54, Tryz.ntmps54
  go_wp2
  refine bodyPost_ret (v := .agg #[.int .i64 e, .int .i64 n, .slice (some ⟨w.heap.size + 1, 0, none⟩) 1 1]) (by simp [results, Tryz.results54, go_sem, z0, z1, z2]) rfl ?_
  exact ⟨_, _, rfl, ownV', belV'⟩

/-- A list of one commit of one put, made here. -/
theorem one_com (e n : Int) (he : In64 e) (hn : In64 n) {W w2 : World} {a : Option Addr} {k : Nat} (hw : Below W.heap.size W w2) (ho : OwnO 93 W.heap.size w2 (.slice a 1 k) [exO]) :
    ∃ V, w2.alloc (.cells #[.int .i64 e, .int .i64 n, .slice a 1 k] 59) = V ∧ V.heap.size = w2.heap.size + 1 ∧ Below W.heap.size W V ∧ ShS W.heap.size V (.slice (some ⟨w2.heap.size, 0, none⟩) 1 1) [⟨e, n, .slice a 1 k, [exO]⟩] := by
  obtain ⟨V, hV, szV, belV, ownV⟩ := coms_step 59 w2 #[.int .i64 e, .int .i64 n, .slice a 1 k] 1 [⟨e, n, .slice a 1 k, [exO]⟩] rfl rfl (by simp [maxLen])
  have m := hw.size
  refine ⟨V, hV, szV, hw.trans (belV.mono m), row_rebase ownV m, fun c hc => ?_, fun c hc => ?_, fun i j c d hij hc hd => ?_, fun c hc => ?_⟩
  · rw [List.mem_singleton.1 hc]; exact ho.below belV
  · rw [List.mem_singleton.1 hc]; exact ⟨he, hn⟩
  · have h1 := (List.getElem?_eq_some_iff.1 hc).1
    have h2 := (List.getElem?_eq_some_iff.1 hd).1
    simp at h1 h2
    omega
  · rw [List.mem_singleton.1 hc]
    refine ⟨fun o ho => ?_, by simp⟩
    rw [List.mem_singleton.1 ho]
    exact ⟨by decide, by decide⟩

end Go.Proofs.YtkpnkknolobioaaGreat

/- The statement's example and lives (layer 19). -/
namespace Go.Proofs.YtkpnkknolobioaaGreat
open Go.RowKit
set_option linter.unusedVariables false

/-- The chapter's section in memory, and its bytes. -/
structure Exm (b : Nat) (w : World) (v vo vb : Value) : Prop where
  sh : ShS b w v [⟨1, 2, vo, [exO]⟩]
  by' : Own .u8 5 b w vb exBy

theorem Exm.below {b : Nat} {w w' : World} {v vo vb : Value} (h : Exm b w v vo vb) (hb : Below w.heap.size w w') : Exm b w' v vo vb := ⟨h.sh.below hb, h.by'.below hb⟩

set_option maxRecDepth 20000 in
set_option maxHeartbeats 2000000 in
theorem example19_any (w : World) :
    Calls Tryz.prog 29 #[] w fun E w' => ∃ g q vo, E = .returned (.tuple #[.agg #[.int .i64 2, .int .i64 1, .slice (some ⟨g, 0, none⟩) 1 1], .slice (some ⟨q, 0, none⟩) 14 14]) ∧ Hid (Exm w.heap.size w' (.slice (some ⟨g, 0, none⟩) 1 1) vo (.slice (some ⟨q, 0, none⟩) 14 14)) ∧ Below w.heap.size w w' := by
  obtain ⟨w1, hw1, sz1, bel1, hR⟩ := blk_step w #[.int .i64 0, .int .i64 0, .slice none 0 0] 25
  have P := hide (put19_any 1 2 w1)
  have HR := hide hR
  have B1 := hide bel1
  clear hR bel1
  go_enter Tryz.func29, Tryz.ntmps29
  go_wp2_with fail
  refine P.out.mono ?_
  rintro E w2 ⟨a, k, rfl, own2, bel2⟩
  obtain ⟨w3, hw3, sz3, bel3, sh3⟩ := one_com 1 2 (by simp [In64]) (by simp [In64]) bel2 own2
  obtain ⟨w4, hw4, sz4, bel4, own4⟩ := own_step .u8 5 w3 #[.int .u8 3, .int .u8 2, .int .u8 1, .int .u8 1, .int .u8 9, .int .u8 1, .int .u8 2, .int .u8 1, .int .u8 1, .int .u8 0, .int .u8 1, .int .u8 97, .int .u8 1, .int .u8 49] 14 exBy rfl rfl (by simp [maxLen]) (by decide)
  have bel14 : Below w1.heap.size w1 w4 := bel3.trans (bel4.mono bel3.size)
  have hR4 := (bel14.block w.heap.size (by omega)).trans HR.out
  obtain ⟨V, hV, bV, gV, ⟨a0, a1, a2⟩, ⟨f0, f1, f2⟩, ⟨z0, z1, z2⟩⟩ := res_step hR4 (.int .i64 2) (.int .i64 1) (.slice (some ⟨w2.heap.size, 0, none⟩) 1 1)
  have m2 := bel2.size
  have oV : Out (fun g => g = w.heap.size) w4 V := Out.of_grown gV fun g hg => by simp at hg; exact hg.symm
  have bel04 := B1.out.trans (bel14.mono (by omega))
  have EX : Hid (Exm w.heap.size V (.slice (some ⟨w2.heap.size, 0, none⟩) 1 1) (.slice a 1 k) (.slice (some ⟨w3.heap.size, 0, none⟩) 14 14)) := hide ⟨((sh3.below bel4).out oV (fun g hg => by omega)).rebase (by omega), (own4.agree (w' := V) fun b hb => gV.block b (by have := own4.block b hb; omega) (by have := own4.block b hb; simp; omega)).rebase (by omega)⟩
  have BV := hide (below_put bel04 gV (Nat.le_refl _) bel04.size)
  have hw4' := hw4
  clear P own2 sh3 own4 bel2 bel3 bel4 bel14 hR4 bV gV oV bel04 sz3 sz4
  go_wp2
  refine bodyPost_ret (v := .tuple #[.agg #[.int .i64 2, .int .i64 1, .slice (some ⟨w2.heap.size, 0, none⟩) 1 1], .slice (some ⟨w3.heap.size, 0, none⟩) 14 14]) (by simp [results, Tryz.results29, go_sem, z0, z1, z2]) rfl ?_
  exact ⟨_, _, _, rfl, EX, BV.out⟩

/-- An append to bytes that are full: new memory. -/
theorem append_full {w : World} {ao : Option Addr} {n : Nat} {zs ys : List Int} {vx : Value} (hz : Is .u8 w (.slice ao n n) zs) (hy : Is .u8 w vx ys) (h0 : 0 < zs.length) (h1 : 0 < ys.length) (hl : zs.length + ys.length ≤ 140737488355328) (ty : TypeId) :
    ∃ v' w', (Builtin.append_ #[22, 22] ty #[.slice ao n n, vx]).run Tryz.prog w = .ok v' w' ∧ (Own .u8 5 w.heap.size w' v' (zs ++ ys) ∧ Below w.heap.size w w') := by
  obtain ⟨i, hi, hz0, hsize, hb⟩ := info_parts Tryz.info5
  rcases hz.2 with ⟨_, e⟩ | ⟨ad, cap, hv, h2, h3, hc⟩
  · rw [e] at h0; simp at h0
  rcases hy.2 with ⟨_, e⟩ | ⟨bd, kap, hvx, k2, k3, kc⟩
  · rw [e] at h1; simp at h1
  simp only [Value.slice.injEq] at hv
  obtain ⟨rfl, rfl, rfl⟩ := hv
  subst hvx
  have cl : ∀ (q : Addr) (xs : List Int), (∀ i, i < xs.length → w.cell? (q.add i) = some (.int .u8 (xs.getD i 0))) → ∀ j u, (xs.map (Value.int .u8))[j]? = some u → w.cell? (q.add j) = some u := fun q xs hq j u hj => by
    rw [List.getElem?_map, Option.map_eq_some_iff] at hj
    obtain ⟨z, hz, rfl⟩ := hj
    obtain ⟨hjl, e⟩ := List.getElem?_eq_some_iff.1 hz
    rw [hq j hjl, List.getD_eq_getElem?_getD, List.getElem?_eq_getElem hjl, e]
    rfl
  obtain ⟨v', w', hr, r1, r2⟩ := run_append_arg_grows (P := Tryz.prog) w 22 ty 5 i (.int .u8 0) 1 1 Tryz.underlying22 hi hz0 hsize hb rfl (by decide) ad zs.length zs.length (zs.map (Value.int .u8)) (by simp) (cl ad zs hc) bd ys.length kap (ys.map (Value.int .u8)) (by simp) (cl bd ys kc) (by omega) (by unfold maxLen; omega) (by omega)
  refine ⟨v', w', hr, ⟨fun z hz' => ?_, ?_⟩, (Below.refl _ _).grown r2 (Nat.le_refl _) fun k hk => by simp at hk⟩
  · rcases List.mem_append.1 hz' with h | h
    · exact hz.1 z h
    · exact hy.1 z h
  · rw [List.length_append, List.map_append]
    exact r1

end Go.Proofs.YtkpnkknolobioaaGreat

/- The statement's lives (layer 19). -/
namespace Go.Proofs.YtkpnkknolobioaaGreat
open Go.RowKit
set_option linter.unusedVariables false

theorem exm_cvs (vo : Value) : (⟨2, 1, cvs [⟨1, 2, vo, [exO]⟩]⟩ : Orp.Se) = exSe := rfl

/-- The chapter's section in a list of one. -/
theorem exm_list {b : Nat} {w : World} {v vo vb : Value} (h : Exm b w v vo vb) (hb : b ≤ w.heap.size) : ∃ V, w.alloc (.cells #[.int .i64 2, .int .i64 1, v] 25) = V ∧ Below w.heap.size w V ∧ IsSe V (.slice (some ⟨w.heap.size, 0, none⟩) 1 1) [⟨2, 1, v, [⟨1, 2, vo, [exO]⟩]⟩] ∧ FitSe [⟨2, 1, v, [⟨1, 2, vo, [exO]⟩]⟩] := by
  obtain ⟨V, hV, szV, belV, ownV⟩ := coms_step 25 w #[.int .i64 2, .int .i64 1, v] 1 [⟨2, 1, v, []⟩] rfl rfl (by simp [maxLen])
  refine ⟨V, hV, belV, ⟨ownV.row, fun x hx => ?_⟩, fun x hx => ?_⟩
  · rw [List.mem_singleton.1 hx]
    exact ⟨(h.sh.below belV).isC, by simp [In64], by simp [In64]⟩
  · rw [List.mem_singleton.1 hx]
    exact ⟨h.sh.f, by simp⟩

set_option maxRecDepth 20000 in
set_option maxHeartbeats 4000000 in
theorem lives19_any (w : World) : Calls Tryz.prog 4 #[] w fun E w' => E = .returned (.bool true) ∧ Below w.heap.size w w' := by
  go_enter Tryz.func4, Tryz.ntmps4
  go_wp2_with fail
  refine (example19_any w).mono ?_
  rintro E w1 ⟨g, q, vo, rfl, X1, bel1⟩
  obtain ⟨w2, hw2, hw2', sz2, bel2, bb, c0, c1, c2⟩ := new_step w1 25 (.int .i64 0) (.int .i64 0) (.slice none 0 0) (.int .i64 2) (.int .i64 1) (.slice (some ⟨g, 0, none⟩) 1 1)
  have X2 := hide (X1.out.below bel2)
  have B2 := hide (bel1.trans (bel2.mono bel1.size))
  have HBB := hide bb
  have EN := hide (poenc_any 2 1 _ _ w2 X2.out.sh.isC X2.out.sh.f (by simp))
  rw [exm_cvs, exSe_ok, exSe_out] at EN
  unfold cmv at EN
  clear X1 bel1 bel2 bb
  go_wp2_with fail
  refine EN.out.mono ?_
  rintro E w3 ⟨vx, rfl, ownx, bel3⟩
  have X3 := hide (X2.out.below bel3)
  have B3 := hide (B2.out.trans (bel3.mono B2.out.size))
  have HB3 := hide ((bel3.block _ (blk_lt HBB.out)).trans HBB.out)
  have s3 := bel3.size
  obtain ⟨w4, hw4, sz4, bel4, own4⟩ := own_step .u8 5 w3 #[.int .u8 3, .int .u8 3, .int .u8 1, .int .u8 1] 4 [3, 3, 1, 1] rfl rfl (by simp [maxLen]) (by decide)
  have X4 := hide (X3.out.below bel4)
  have OX4 := hide (ownx.below bel4)
  have B4 := hide (B3.out.trans (bel4.mono B3.out.size))
  have HB4 := hide ((bel4.block _ (blk_lt HB3.out)).trans HB3.out)
  have APP := hide (fun ty => append_full (ty := ty) X4.out.by'.is own4.is (by decide) (by decide) (by decide))
  clear EN X2 X3 B2 B3 HBB HB3 ownx bel3 bel4 own4 c0 c1 c2 sz4
  go_wp2_with (at_builtin; refine wpList_append_at rfl (.tmp 17) (.tmp 18) 22 rfl (.slice (some ⟨q, 0, none⟩) 14 14) (.slice (some ⟨w3.heap.size, 0, none⟩) 4 4) rfl rfl APP.out ?_)
  rintro v5 w5 own5 bel5
  have X5 := hide (X4.out.below bel5)
  have OX5 := hide (OX4.out.below bel5)
  have B5 := hide (B4.out.trans (bel5.mono B4.out.size))
  have HB5 := hide ((bel5.block _ (blk_lt HB4.out)).trans HB4.out)
  have SC := hide (poscan_any v5 _ w5 own5.is (by decide))
  clear APP X4 OX4 B4 HB4 own5 bel5
  go_wp2_with fail
  refine SC.out.mono ?_
  rintro E w6 ⟨v6, l, n6, rfl, H6⟩
  have hl : sws l = [exSe] := Orp.sn_one H6.out.2.2.2.1 ex_scan
  have hn6 : n6 = 14 := by
    rw [H6.out.2.2.1, hl, Orp.secs_one, exSe_by]
    rfl
  have bel6 := H6.out.2.2.2.2
  have X6 := hide (X5.out.below bel6)
  have OX6 := hide (OX5.out.below bel6)
  have B6 := hide (B5.out.trans (bel6.mono B5.out.size))
  have hB6 := (bel6.block _ (blk_lt HB5.out)).trans HB5.out
  have HB6 := hide hB6
  obtain ⟨oa, ok, hv6, _, _⟩ := H6.out.1.is.shape
  have OW6 := hide H6.out.1
  have FT6 := hide H6.out.2.1
  have hll : l.length = 1 := by rw [← sws_len l, hl]; rfl
  rw [hll] at hv6
  obtain ⟨vs, hsl, isl⟩ := X6.out.by'.is.slice_h Tryz.elemB Tryz.sizeE 14 (by decide)
  have SB := hide (same_yes vx vs exBy (exBy.take 14) w6 OX6.out.is isl (by decide) (by decide))
  have HL := hide hl
  have hsl' : ∀ wx, (Instr.slice 22 (.slice (some ⟨q, 0, none⟩) 14 14) none (some (.int .i64 14)) none).run Tryz.prog wx = .ok vs wx := hsl
  rw [hv6] at OW6
  subst hv6 hn6
  clear SC H6 X5 OX5 B5 HB5 isl hl bel6 hsl
  have c0 := blk_cell hB6 0 rfl
  have c1 := blk_cell hB6 1 rfl
  have c2 := blk_cell hB6 2 rfl
  go_wp2_with fail
  refine SB.out.mono ?_
  rintro E w7 ⟨rfl, bel7⟩
  have X7 := hide (X6.out.below bel7)
  have B7 := hide (B6.out.trans (bel7.mono B6.out.size))
  have hB7 := (bel7.block _ (blk_lt HB6.out)).trans HB6.out
  have d0 : w7.cell? ⟨w1.heap.size, 0, none⟩ = some (.int .i64 2) := blk_cell hB7 0 rfl
  have d1 : w7.cell? ⟨w1.heap.size, 1, none⟩ = some (.int .i64 1) := blk_cell hB7 1 rfl
  have d2 : w7.cell? ⟨w1.heap.size, 2, none⟩ = some (.slice (some ⟨g, 0, none⟩) 1 1) := blk_cell hB7 2 rfl
  obtain ⟨V, hV, belV, isV, fitV⟩ := exm_list X7.out B7.out.size
  have SS := hide (sameSe_yes (.slice oa 1 ok) _ l _ V ((OW6.out.is.below bel7).below belV) isV FT6.out fitV (by omega) (by rw [HL.out]; rfl))
  have BV := hide (B7.out.trans (belV.mono B7.out.size))
  clear SB X6 OX6 B6 HB6 hB6 hB7 X7 isV fitV OW6 FT6 bel7 belV c0 c1 c2 HL B7
  go_wp2_with fail
  refine SS.out.mono ?_
  rintro E w8 ⟨rfl, bel8⟩
  have B8 := hide (BV.out.trans (bel8.mono BV.out.size))
  clear SS BV bel8
  go_wp2
  go_ret
  exact ⟨rfl, B8.out⟩

end Go.Proofs.YtkpnkknolobioaaGreat
