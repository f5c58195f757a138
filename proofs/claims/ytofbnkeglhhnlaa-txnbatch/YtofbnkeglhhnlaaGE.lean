/- Texts of one layer, one behind the other. -/
import Derived.Test.YtofbnkeglhhnlaaGC
import Derived.Test.YtofbnkeglhhnlaaGA
import Derived.Test.YtofbnkeglhhnlaaGD
import Derived.Test.YtofbnkeglhhnlaaGB
/- The program's txn: Get. -/
namespace Go.Proofs.Ytofbnkeglhhnlaa
open Go.RowKit Go.Shelf
open Bm (Ov)
set_option linter.unusedVariables false
attribute [local go_sem] Oper.semAt_some

theorem Try.mixedO : Try.prog.follows .mixedOrders = true := by kernel_rfl

/-- The last k ops don't have the key. -/
theorem lst_none {l : List Ov} (key : ByteArray) : ∀ k, k ≤ l.length → (∀ y ∈ dw l.length k, ¬ (pto l y).k = key) → Tx.lst key l = Tx.lst key (l.take (l.length - k))
  | 0, _, _ => by rw [Nat.sub_zero, List.take_length]
  | k + 1, hk, h => by
    rw [dw_next _ k (by omega)] at h
    have h1 := lst_none key k (by omega) fun y hy => h y (List.mem_append_left _ hy)
    have hi : l.length - 1 - k < l.length := by omega
    have h3 : ¬ (pto l ⟨l.length - 1 - k, hi⟩).k = key := h ⟨l.length - 1 - k, hi⟩ (by simp)
    have h2 := Tx.lst_take key l (l.length - 1 - k) (pto l ⟨l.length - 1 - k, hi⟩) (by rw [List.getElem?_eq_getElem hi]; rfl)
    rw [if_neg h3, show l.length - 1 - k + 1 = l.length - k by omega] at h2
    rw [h1, h2, show l.length - 1 - k = l.length - (k + 1) by omega]

theorem lst_some {l : List Ov} (key : ByteArray) {k : Nat} {pre : List (Nx l.length)} {x : Nx l.length} (hk : k ≤ l.length) (hp : dw l.length k = pre ++ [x]) (h : ∀ y ∈ pre, ¬ (pto l y).k = key) (ho : (pto l x).k = key) : Tx.lst key l = some (pto l x) := by
  rcases k with _ | k
  · simp [dw] at hp
  · rw [dw_next _ k (by omega)] at hp
    obtain ⟨e1, e2⟩ := List.append_inj' hp rfl
    subst e1
    have hi : l.length - 1 - k < l.length := by omega
    have e3 : x = ⟨l.length - 1 - k, hi⟩ := by simpa using e2.symm
    subst e3
    have h2 := Tx.lst_take key l (l.length - 1 - k) (pto l ⟨l.length - 1 - k, hi⟩) (by rw [List.getElem?_eq_getElem hi]; rfl)
    rw [if_pos ho, show l.length - 1 - k + 1 = l.length - k by omega] at h2
    rw [lst_none key k (by omega) h, h2]

/-- Three blocks of one cell are written. -/
theorem put_three {W : World} {R1 R2 R3 : Nat} {t1 t2 : TypeId} {x1 x2 x3 : Value} (h1 : W.heap[R1]? = some (.cells #[x1] t1 (0, 0))) (h2 : W.heap[R2]? = some (.cells #[x2] t2 (0, 0))) (h3 : W.heap[R3]? = some (.cells #[x3] t2 (0, 0))) (n12 : R1 ≠ R2) (n13 : R1 ≠ R3) (n23 : R2 ≠ R3) (a b c : Value) :
    ∃ V, ((W.setCell ⟨R1, 0, none⟩ a).setCell ⟨R2, 0, none⟩ b).setCell ⟨R3, 0, none⟩ c = V ∧ V.cell? ⟨R1, 0, none⟩ = some a ∧ V.cell? ⟨R2, 0, none⟩ = some b ∧ V.cell? ⟨R3, 0, none⟩ = some c ∧ V.heap.size = W.heap.size ∧ (∀ g, g ≠ R1 → g ≠ R2 → g ≠ R3 → V.heap[g]? = W.heap[g]?) ∧ Out (fun g => g = R1 ∨ g = R2 ∨ g = R3) W V ∧
      (V.heap[R1]? = some (.cells #[a] t1 (0, 0)) ∧ V.heap[R2]? = some (.cells #[b] t2 (0, 0)) ∧ V.heap[R3]? = some (.cells #[c] t2 (0, 0))) := by
  have q1 := set_cells h1 0 a
  have q2 : (W.setCell ⟨R1, 0, none⟩ a).heap[R2]? = _ := (Below.heap_setCell W ⟨R1, 0, none⟩ a R2 n12.symm).trans h2
  have q3 : (W.setCell ⟨R1, 0, none⟩ a).heap[R3]? = _ := (Below.heap_setCell W ⟨R1, 0, none⟩ a R3 n13.symm).trans h3
  have r2 := set_cells q2 0 b
  have r1 := (Below.heap_setCell (W.setCell ⟨R1, 0, none⟩ a) ⟨R2, 0, none⟩ b R1 n12).trans q1
  have r3 := (Below.heap_setCell (W.setCell ⟨R1, 0, none⟩ a) ⟨R2, 0, none⟩ b R3 n23.symm).trans q3
  have s3 := set_cells r3 0 c
  have s1 := (Below.heap_setCell ((W.setCell ⟨R1, 0, none⟩ a).setCell ⟨R2, 0, none⟩ b) ⟨R3, 0, none⟩ c R1 n13).trans r1
  have s2 := (Below.heap_setCell ((W.setCell ⟨R1, 0, none⟩ a).setCell ⟨R2, 0, none⟩ b) ⟨R3, 0, none⟩ c R2 n23).trans r2
  have o1 : Out (fun g => g = R1 ∨ g = R2 ∨ g = R3) W (W.setCell ⟨R1, 0, none⟩ a) := Out.of_grown (grown_setCell W ⟨R1, 0, none⟩ a) fun g hg => .inl (by simp at hg; exact hg.symm)
  have o2 : Out (fun g => g = R1 ∨ g = R2 ∨ g = R3) W ((W.setCell ⟨R1, 0, none⟩ a).setCell ⟨R2, 0, none⟩ b) := o1.trans (Out.of_grown (F := fun g => g = R1 ∨ g = R2 ∨ g = R3) (grown_setCell _ ⟨R2, 0, none⟩ b) fun g hg => .inr (.inl (by simp at hg; exact hg.symm))) fun g hg => .inl hg
  have o3 : Out (fun g => g = R1 ∨ g = R2 ∨ g = R3) W (((W.setCell ⟨R1, 0, none⟩ a).setCell ⟨R2, 0, none⟩ b).setCell ⟨R3, 0, none⟩ c) := o2.trans (Out.of_grown (F := fun g => g = R1 ∨ g = R2 ∨ g = R3) (grown_setCell _ ⟨R3, 0, none⟩ c) fun g hg => .inr (.inr (by simp at hg; exact hg.symm))) fun g hg => .inl hg
  refine ⟨_, rfl, blk_cell s1 0 rfl, blk_cell s2 0 rfl, blk_cell s3 0 rfl, by simp, fun g n1 n2 n3 => ?_, o3, by exact s1, by exact s2, by exact s3⟩
  exact (Below.heap_setCell _ _ _ g n3).trans ((Below.heap_setCell _ _ _ g n2).trans (Below.heap_setCell _ _ _ g n1))

/-- Get of a txn that refuses. -/
theorem zget_no (w : World) (v : Value) (k : ByteArray) (z : Int) (hz : (z != 0) = true) (hv : ∃ a, v = .pointer a) (hr : ∀ W, Below w.heap.size w W → Calls Try.prog 26 #[v] W fun E w' => E = .returned (.int .i64 z) ∧ W = w') :
    Calls Try.prog 13 #[v, .string k] w fun E w' => E = .returned (.tuple #[.string ⟨#[]⟩, .bool false, .bool false]) ∧ Below w.heap.size w w' := by
  obtain ⟨w1, hw1, sz1, bel1, B1⟩ := blk_step w #[.string k] 9
  obtain ⟨w2, hw2, sz2, bel2, B2⟩ := blk_step w1 #[.string ⟨#[]⟩] 9
  obtain ⟨w3, hw3, sz3, bel3, B3⟩ := blk_step w2 #[.bool false] 4
  obtain ⟨w4, hw4, sz4, bel4, B4⟩ := blk_step w3 #[.bool false] 4
  rw [sz1] at B2 bel2
  rw [show w2.heap.size = w.heap.size + 2 by omega] at B3 bel3
  rw [show w3.heap.size = w.heap.size + 3 by omega] at B4 bel4
  have bel04 : Below w.heap.size w w4 := ((bel1.trans (bel2.mono (by omega))).trans (bel3.mono (by omega))).trans (bel4.mono (by omega))
  have HM := hide (hr w4 bel04)
  have D1 : w4.heap[w.heap.size + 1]? = some (.cells #[.string ⟨#[]⟩] 9 (0, 0)) := (bel4.block _ (by omega)).trans ((bel3.block _ (by omega)).trans B2)
  have D2 : w4.heap[w.heap.size + 2]? = some (.cells #[.bool false] 4 (0, 0)) := (bel4.block _ (by omega)).trans B3
  have r1 := blk_cell D1 0 rfl; have r2 := blk_cell D2 0 rfl; have r3 := blk_cell B4 0 rfl
  have f1 := blk_froz D1 0; have f2 := blk_froz D2 0; have f3 := blk_froz B4 0
  simp only [List.getElem_toArray, List.getElem_cons_zero] at r1 r2 r3
  have s1 : w4.setCell ⟨w.heap.size + 1, 0, none⟩ (.string ⟨#[]⟩) = w4 := set_same D1 (j := 0) rfl
  have s2 : w4.setCell ⟨w.heap.size + 2, 0, none⟩ (.bool false) = w4 := set_same D2 (j := 0) rfl
  have s3 : w4.setCell ⟨w.heap.size + 3, 0, none⟩ (.bool false) = w4 := set_same B4 (j := 0) rfl
  obtain ⟨a, rfl⟩ := hv
  clear hr D1 D2 B1 B2 B3 B4 bel1 bel2 bel3 bel4
  go_enter Try.func13, Try.ntmps13
  go_wp2_with fail
  refine HM.out.mono ?_
  rintro E w5 ⟨rfl, rfl⟩
  go_wp2
  refine bodyPost_ret (v := .tuple #[.string ⟨#[]⟩, .bool false, .bool false]) (by simp [results, Try.results13, go_sem, r1, r2, r3]) rfl ?_
  exact ⟨rfl, bel04⟩

set_option maxRecDepth 100000 in
set_option maxHeartbeats 8000000 in
theorem zget_on (p : Nat) (w : World) (s : Tx.St) (v : Value) (key : ByteArray) (hv : PzV p w s v) (hs : s.ov = false) :
    Calls Try.prog 13 #[.pointer (some ⟨p, 0, none⟩), .string key] w fun E w' => E = .returned (.tuple #[.string (Tx.gtV s key), .bool (Tx.gtM s key), .bool (Tx.gtT s key)]) ∧ Below w.heap.size w w' := by
  obtain ⟨w1, hw1, sz1, bel1, B1⟩ := blk_step w #[.string key] 9
  obtain ⟨w2, hw2, sz2, bel2, B2⟩ := blk_step w1 #[.string ⟨#[]⟩] 9
  obtain ⟨w3, hw3, sz3, bel3, B3⟩ := blk_step w2 #[.bool false] 4
  obtain ⟨w4, hw4, sz4, bel4, B4⟩ := blk_step w3 #[.bool false] 4
  obtain ⟨W0, hw5, sz5, bel5, B5⟩ := blk_step w4 #[v] 31
  rw [sz1] at B2 bel2
  rw [show w2.heap.size = w.heap.size + 2 by omega] at B3 bel3
  rw [show w3.heap.size = w.heap.size + 3 by omega] at B4 bel4
  rw [show w4.heap.size = w.heap.size + 4 by omega] at B5 bel5
  have bel04 : Below w.heap.size w w4 := ((bel1.trans (bel2.mono (by omega))).trans (bel3.mono (by omega))).trans (bel4.mono (by omega))
  have bel0 : Below w.heap.size w W0 := bel04.trans (bel5.mono (by omega))
  have hv4 : PzV p w4 s v := hv.below bel04
  have HM := hide (zask_any p _ w4 s ⟨v, hv4, rfl⟩)
  rw [Tx.ask_on hs] at HM
  have c2 : w4.cell? ⟨p, 1, none⟩ = some v := blk_cell hv4.blk 1 rfl
  have hrowv := hv.row
  rw [Tx.cur_on hs] at hrowv
  have HCH : Hid (Calls Try.prog 27 #[v] w4 fun e w' => e = .returned (.func (.func 39) #[] #[.pointer (some ⟨w.heap.size + 4, 0, none⟩)]) ∧ W0 = w') := hide (by
    obtain ⟨a1, k1, h1, _⟩ := hrowv.is.shape
    refine (zback_any v ⟨a1, _, k1, h1⟩ w4).mono ?_
    rintro e w' ⟨rfl, rfl⟩
    rw [show w4.heap.size = w.heap.size + 4 by omega]
    exact ⟨rfl, by rw [hw5]⟩)
  obtain ⟨la, ln, lk, hlv⟩ : ∃ a n k, v = .slice a n k := by
    obtain ⟨a1, k1, h1, _⟩ := hrowv.is.shape
    exact ⟨a1, _, k1, h1⟩
  have hmx := Try.mixedO
  obtain ⟨rs, hrs⟩ : ∃ rs, s.l = rs := ⟨_, rfl⟩
  have e1 : Tx.gtV s key = Tx.vOf (Tx.lst key rs) := by unfold Tx.gtV; rw [if_neg (by rw [hs]; decide), hrs]
  have e2 : Tx.gtM s key = (Tx.lst key rs).isSome := by unfold Tx.gtM; rw [if_neg (by rw [hs]; decide), hrs]
  have e3 : Tx.gtT s key = Tx.tOf (Tx.lst key rs) := by unfold Tx.gtT; rw [if_neg (by rw [hs]; decide), hrs]
  rw [e1, e2, e3]
  rw [hrs] at hrowv
  have hsl : rs.length ≤ 1048576 := by have := hv.ok.1; rw [hrs] at this; omega
  have D0 : W0.heap[w.heap.size]? = some (.cells #[.string key] 9 (0, 0)) := (bel5.block _ (by omega)).trans ((bel4.block _ (by omega)).trans ((bel3.block _ (by omega)).trans ((bel2.block _ (by omega)).trans B1)))
  have D1 : W0.heap[w.heap.size + 1]? = some (.cells #[.string ⟨#[]⟩] 9 (0, 0)) := (bel5.block _ (by omega)).trans ((bel4.block _ (by omega)).trans ((bel3.block _ (by omega)).trans B2))
  have D2 : W0.heap[w.heap.size + 2]? = some (.cells #[.bool false] 4 (0, 0)) := (bel5.block _ (by omega)).trans ((bel4.block _ (by omega)).trans B3)
  have D3 : W0.heap[w.heap.size + 3]? = some (.cells #[.bool false] 4 (0, 0)) := (bel5.block _ (by omega)).trans B4
  have hrow : IsO W0 v rs := hrowv.is.below bel0
  have hvb : ∀ g, v.ownBlock = some g → g < w.heap.size := fun g hg => (hrowv.block g hg).2
  have SEQ := hide (zback_seq 5 (by omega) (w.heap.size + 4) rs v W0 (blk_cell B5 0 rfl) (fun g hg => by
    rcases hg with e | e
    · omega
    · have := hvb g e; omega) hrow hsl)
  have HVB := hide hvb
  replace sz2 : w2.heap.size = w.heap.size + 2 := by omega
  replace sz3 : w3.heap.size = w.heap.size + 3 := by omega
  replace sz4 : w4.heap.size = w.heap.size + 4 := by omega
  replace sz5 : W0.heap.size = w.heap.size + 5 := by omega
  have DD := hide (And.intro D0 (And.intro D1 (And.intro D2 D3)))
  have HBEL := hide bel0
  subst hlv
  clear hw5 hv hv4 B1 B2 B3 B4 B5 bel1 bel2 bel3 bel4 bel5 bel04 D0 D1 D2 D3 hrow hrowv hvb bel0 e1 e2 e3 hrs
  refine (callsIn_wide (n := 6)).1 ?_
  refine callsIn_of_wp_marks Try.func13 rfl trivial ?_ rfl
  simp only [Try.ntmps13, List.size_toArray, List.length_cons, List.length_nil, Nat.reduceAdd, Nat.reduceSub, Array.replicate_succ, Array.replicate_zero, List.push_toArray, List.append_toArray, List.nil_append, List.cons_append]
  gi_wp2_with fail
  refine ⟨trivial, (callsIn_wide.2 HM.out).mono ?_⟩
  rintro E w' ⟨rfl, rfl⟩
  gi_wp2_with fail
  refine ⟨trivial, (callsIn_wide.2 HCH.out).mono ?_⟩
  rintro E w' ⟨rfl, rfl⟩
  clear hw1 hw2 hw3 hw4 c2 HM HCH
  gi_wp2_with fail
  apply wpIn_rangeFunc_ownH rfl (by omega) (gf := 39) (lb := #[.pointer (some ⟨w.heap.size + 4, 0, none⟩)]) rfl trivial (enters_of Try.func39 (by kernel_rfl) rfl) (encs := fun x : Nx rs.length => #[.int .i64 x.1, ovo (pto rs x)]) (Kp := Kn (SeqBO (w.heap.size + 4) (.slice la ln lk))) SEQ.out Kn.trans (kn_b (S := SeqBO (w.heap.size + 4) (.slice la ln lk)) (fun g hg => by
      rcases hg with e | e
      · omega
      · have := HVB.out g e; omega)) (Below.refl _ _) (fun _ => rfl)
    (fun pre W => Below W0.heap.size W0 W ∧ ∀ y ∈ pre, ¬ (pto rs y).k = key)
    (fun c pre W => c = .ret ∧ (∃ (pre' : List (Nx rs.length)) (x : Nx rs.length), pre = pre' ++ [x] ∧ (∀ y ∈ pre', ¬ (pto rs y).k = key) ∧ (pto rs x).k = key ∧ (W.heap[w.heap.size + 1]? = some (.cells #[.string (pto rs x).v] 9 (0, 0)) ∧ W.heap[w.heap.size + 2]? = some (.cells #[.bool true] 4 (0, 0)) ∧ W.heap[w.heap.size + 3]? = some (.cells #[.bool (pto rs x).p] 4 (0, 0)))) ∧ Below w.heap.size w W)
    (fun s X Y row hs hg hr => ⟨hs.1.grown hg hs.1.size fun k e => (hr k e).1, hs.2⟩)
    (fun c s X Y row hs hg hr => by
      obtain ⟨h1, ⟨pre', x, h2, h3, h4, h5, h6, h7⟩, h8⟩ := hs
      have st : ∀ g, g < w.heap.size + 5 → g < X.heap.size → Y.heap[g]? = X.heap[g]? := fun g hg1 hg2 => hg.block g hg2 fun e => by have := (hr g e.symm).1; omega
      exact ⟨h1, ⟨pre', x, h2, h3, h4, (st _ (by omega) (blk_lt h5)).trans h5, (st _ (by omega) (blk_lt h6)).trans h6, (st _ (by omega) (blk_lt h7)).trans h7⟩, h8.grown hg h8.size fun k e => by have := (hr k e).1; omega⟩)
    ⟨Below.refl _ _, fun y hy => by simp at hy⟩
    (fun x a' W => ∃ q, a' = { tmps := #[.pointer (some ⟨p, 0, none⟩), .string key, undef, .pointer (some ⟨w.heap.size, 0, none⟩), .pointer (some ⟨w.heap.size + 1, 0, none⟩), .pointer (some ⟨w.heap.size + 2, 0, none⟩), .pointer (some ⟨w.heap.size + 3, 0, none⟩), undef, .pointer (some ⟨q, 0, none⟩), .pointer (some ⟨p, 0, none⟩), .int .i64 0, .bool false, .pointer (some ⟨p, 0, none⟩), .pointer (some ⟨p, 0, none⟩), .pointer (some ⟨p, 1, none⟩), .slice la ln lk, .func (.func 39) #[] #[.pointer (some ⟨w.heap.size + 4, 0, none⟩)], .int .i64 x.1, ovo (pto rs x), undef, undef, undef, undef, undef, undef, undef, undef], defers := [] } ∧ W.heap[q]? = some (.cells #[.bool (pto rs x).p, .string (pto rs x).k, .string (pto rs x).v] 36 (0, 0)) ∧ w.heap.size + 5 ≤ q)
    (fun x a' s X Y row hs hg hr => by
      obtain ⟨q, h1, h2, h3⟩ := hs
      refine ⟨q, h1, (hg.block q (blk_lt h2) fun e => ?_).trans h2, h3⟩
      obtain ⟨_, o, h3, h4⟩ := hr q e.symm
      rw [h2] at h3
      cases h3
      simp [Obj.isCells] at h4)
  case hassign =>
    rintro l0 pre x W K ⟨hI, hN⟩ hK
    obtain ⟨c, hc⟩ : ∃ c, pto rs x = c := ⟨_, rfl⟩
    rw [hc] at hK ⊢
    unfold ovo at hK ⊢
    have hz := hI.size
    obtain ⟨V, hV, hV2, szV, bV, BV, x0, x1, x2⟩ := new_step W 36 (.bool false) (.string ⟨#[]⟩) (.string ⟨#[]⟩) (.bool c.p) (.string c.k) (.string c.v)
    have HKK := hide (hK _ V ((KeepsOthers.from ⟨bV.size, fun k o hk _ => (bV.block k (blk_lt hk)).trans hk⟩ _)) (fun g hg => bV.block g (by
      rcases hg with e | e
      · omega
      · have := HVB.out g e; omega)) ⟨hI.trans (bV.mono hz), hN⟩ ⟨W.heap.size, rfl, BV, by omega⟩)
    clear hK hI bV BV
    gi_wp2
    exact HKK.out
  case hbody =>
    rintro l0 pre x a' W hl0 _ ⟨hI, hN⟩ ⟨q, rfl, hq, hq5⟩ hlt0
    have hz := hI.size
    obtain ⟨o, hc⟩ : ∃ c, pto rs x = c := ⟨_, rfl⟩
    rw [hc] at hq ⊢
    have hlt : ∀ g, g < w.heap.size + 5 → W.heap[g]? = W0.heap[g]? := fun g hg => hI.block g (by omega)
    have e0 := (hlt _ (by omega)).trans DD.out.1
    have e1 := (hlt _ (by omega)).trans DD.out.2.1
    have e2 := (hlt _ (by omega)).trans DD.out.2.2.1
    have e3 := (hlt _ (by omega)).trans DD.out.2.2.2
    have x0 : W.cell? ⟨w.heap.size, 0, none⟩ = some (.string key) := blk_cell e0 0 rfl
    have q0 : W.cell? ⟨q, 0, none⟩ = some (.bool o.p) := blk_cell hq 0 rfl
    have q1 : W.cell? ⟨q, 1, none⟩ = some (.string o.k) := blk_cell hq 1 rfl
    have q2 : W.cell? ⟨q, 2, none⟩ = some (.string o.v) := blk_cell hq 2 rfl
    have HC := hide hc
    have HI := hide hI
    have HN := hide hN
    have hq' := blk_lt hq
    by_cases hk : o.k = key
    · have hkb : (o.k.toList == key.toList) = true := by rw [Tx.eqk]; simp [hk]
      have r1 := blk_cell e1 0 rfl; have r2 := blk_cell e2 0 rfl; have r3 := blk_cell e3 0 rfl
      have f1 := blk_froz e1 0; have f2 := blk_froz e2 0; have f3 := blk_froz e3 0
      simp only [List.getElem_toArray, List.getElem_cons_zero] at r1 r2 r3
      obtain ⟨V, hV, v1, v2, v3, vz, vo, vO, vB⟩ := put_three e1 e2 e3 (by omega) (by omega) (by omega) (.string o.v) (.bool true) (.bool o.p)
      have FIN : Hid (∀ V', V'.heap = V.heap → KeepsFrom W0.heap.size W V' ∧ ∃ (pre' : List (Nx rs.length)) (x' : Nx rs.length), pre ++ [x] = pre' ++ [x'] ∧ (∀ y ∈ pre', ¬ (pto rs y).k = key) ∧ (pto rs x').k = key ∧ (V'.heap[w.heap.size + 1]? = some (.cells #[.string (pto rs x').v] 9 (0, 0)) ∧ V'.heap[w.heap.size + 2]? = some (.cells #[.bool true] 4 (0, 0)) ∧ V'.heap[w.heap.size + 3]? = some (.cells #[.bool (pto rs x').p] 4 (0, 0)))) := hide fun V' hV' => by
        refine ⟨⟨by rw [hV', vz]; exact Nat.le_refl _, fun k ob hk1 hk2 hk3 => ?_⟩, pre, x, rfl, HN.out, by rw [HC.out]; exact hk, by rw [hV', HC.out]; exact vB⟩
        rw [hV', vo k (by omega) (by omega) (by omega)]
        exact hk2
      have BV : Hid (Below w.heap.size w V) := hide (by
        have hh := HBEL.out.trans (HI.out.mono (by omega))
        exact hh.trans (vO.below (fun g hg => by omega) hh.size))
      have stc : ∀ (X : World) (g j : Nat), X.heap[g]? = W.heap[g]? → X.cell? ⟨g, j, none⟩ = W.cell? ⟨g, j, none⟩ := fun X g j h => cell_of_blk h j
      have n1 : ∀ g, g ≠ w.heap.size + 1 → (W.setCell ⟨w.heap.size + 1, 0, none⟩ (.string o.v)).heap[g]? = W.heap[g]? := fun g hg => Below.heap_setCell W ⟨w.heap.size + 1, 0, none⟩ _ g hg
      have n2 : ∀ g, g ≠ w.heap.size + 1 → g ≠ w.heap.size + 2 → ((W.setCell ⟨w.heap.size + 1, 0, none⟩ (.string o.v)).setCell ⟨w.heap.size + 2, 0, none⟩ (.bool true)).heap[g]? = W.heap[g]? := fun g hg hg2 => (Below.heap_setCell _ ⟨w.heap.size + 2, 0, none⟩ _ g hg2).trans (n1 g hg)
      have H1 := hide (show (W.setCell ⟨w.heap.size + 1, 0, none⟩ (.string o.v)).cell? ⟨q, 0, none⟩ = some (.bool o.p) ∧ (W.setCell ⟨w.heap.size + 1, 0, none⟩ (.string o.v)).cell? ⟨q, 2, none⟩ = some (.string o.v) from ⟨(stc _ _ _ (n1 q (by omega))).trans q0, (stc _ _ _ (n1 q (by omega))).trans q2⟩)
      have H2 := hide (show ((W.setCell ⟨w.heap.size + 1, 0, none⟩ (.string o.v)).setCell ⟨w.heap.size + 2, 0, none⟩ (.bool true)).cell? ⟨q, 0, none⟩ = some (.bool o.p) ∧ ((W.setCell ⟨w.heap.size + 1, 0, none⟩ (.string o.v)).setCell ⟨w.heap.size + 2, 0, none⟩ (.bool true)).cell? ⟨q, 2, none⟩ = some (.string o.v) from ⟨(stc _ _ _ (n2 q (by omega) (by omega))).trans q0, (stc _ _ _ (n2 q (by omega) (by omega))).trans q2⟩)
      have H3 := hide (show V.cell? ⟨q, 0, none⟩ = some (.bool o.p) ∧ V.cell? ⟨q, 2, none⟩ = some (.string o.v) from ⟨(stc _ _ _ (vo q (by omega) (by omega) (by omega))).trans q0, (stc _ _ _ (vo q (by omega) (by omega) (by omega))).trans q2⟩)
      clear stc n1 n2 hI hN hlt hc hq e0 e1 e2 e3 vB vO vo vz hk
      gi_wp2
      refine regionIn_way (ops := (regOf 6 Try.f13)) (S := (fun w' => w'.cell? ⟨q, 0, none⟩ = some (.bool o.p) ∧ w'.cell? ⟨q, 2, none⟩ = some (.string o.v))) (by kernel_rfl) (by kernel_rfl) (by kernel_rfl) (fun ⟨_, _, h⟩ => h) (fun _ _ _ _ _ h => h) wzd16_ord (by kernel_rfl) wzd16_way ⟨q0, q2⟩ ?_
      unfold wzd16_ord
      refine seq_take (v := ?_) rfl rfl (by rfl) ?_ ?_
      rotate_left 1
      · intro w hS
        (try dsimp only at hS)
        go_simp
        all_goals with_reducible rfl
      simp only [Act.put, List.setIfInBounds_toArray, List.set_cons_zero, List.set_cons_succ]
      refine seq_take (v := ?_) rfl rfl (by rfl) ?_ ?_
      rotate_left 1
      · intro w hS
        (try dsimp only at hS)
        go_simp
        all_goals with_reducible rfl
      simp only [Act.put, List.setIfInBounds_toArray, List.set_cons_zero, List.set_cons_succ]
      refine seq_take (v := ?_) rfl rfl (by rfl) ?_ ?_
      rotate_left 1
      · intro w hS
        (try dsimp only at hS)
        go_simp
        all_goals with_reducible rfl
      simp only [Act.put, List.setIfInBounds_toArray, List.set_cons_zero, List.set_cons_succ]
      refine seq_take (v := ?_) rfl rfl (by rfl) ?_ ?_
      rotate_left 1
      · intro w hS
        (try dsimp only at hS)
        go_simp
        all_goals with_reducible rfl
      simp only [Act.put, List.setIfInBounds_toArray, List.set_cons_zero, List.set_cons_succ]
      refine seq_meet rfl (by rfl) (fun K hK => ?_)
      go_simp
      refine hK.out _ _ H1.out ?_
      clear hK K
      try simp only [Act.put, List.setIfInBounds_toArray, List.set_cons_zero, List.set_cons_succ]
      refine seq_meet rfl (by rfl) (fun K hK => ?_)
      go_simp
      refine hK.out _ _ H2.out ?_
      clear hK K
      try simp only [Act.put, List.setIfInBounds_toArray, List.set_cons_zero, List.set_cons_succ]
      refine seq_meet rfl (by rfl) (fun K hK => ?_)
      go_simp
      refine hK.out _ _ H3.out ?_
      clear hK K
      try simp only [Act.put, List.setIfInBounds_toArray, List.set_cons_zero, List.set_cons_succ]
      unfold seqW
      gi_wp2
      exact ⟨(FIN.out V.drew rfl).1, rfl, (FIN.out V.drew rfl).2, BV.out.drew⟩
    · have hkb : (o.k.toList == key.toList) = false := by rw [Tx.eqk]; simp [hk]
      have NN : Hid (∀ y ∈ pre ++ [x], ¬ (pto rs y).k = key) := hide fun y hy => by
        rcases List.mem_append.1 hy with hy | hy
        · exact HN.out y hy
        · rw [List.mem_singleton.1 hy, HC.out]
          exact hk
      clear hI hN hlt hc hq e0 e1 e2 e3 hk q0 q2
      gi_wp2
      exact ⟨(show KeepsOthers W W from ⟨Nat.le_refl _, fun _ _ h _ => h⟩).from _, fun _ _ => rfl, HI.out, NN.out⟩
  case hdone =>
    rintro D xs W hD rfl ⟨hI, hN⟩ hK
    have hz := hI.size
    have hlt : ∀ g, g < w.heap.size + 5 → W.heap[g]? = W0.heap[g]? := fun g hg => hI.block g (by omega)
    have e1 := (hlt _ (by omega)).trans DD.out.2.1
    have e2 := (hlt _ (by omega)).trans DD.out.2.2.1
    have e3 := (hlt _ (by omega)).trans DD.out.2.2.2
    have hnone : Tx.lst key rs = none := by
      rw [lst_none key rs.length (Nat.le_refl _) hN, Nat.sub_self, List.take_zero]
      rfl
    have HAA := hide hnone
    have r1 := blk_cell e1 0 rfl; have r2 := blk_cell e2 0 rfl; have r3 := blk_cell e3 0 rfl
    have f1 := blk_froz e1 0; have f2 := blk_froz e2 0; have f3 := blk_froz e3 0
    simp only [List.getElem_toArray, List.getElem_cons_zero] at r1 r2 r3
    have s1 : W.setCell ⟨w.heap.size + 1, 0, none⟩ (.string ⟨#[]⟩) = W := set_same e1 (j := 0) rfl
    have s2 : W.setCell ⟨w.heap.size + 2, 0, none⟩ (.bool false) = W := set_same e2 (j := 0) rfl
    have s3 : W.setCell ⟨w.heap.size + 3, 0, none⟩ (.bool false) = W := set_same e3 (j := 0) rfl
    have HKD := hide hK
    have hD' : w.heap.size ≤ D := by omega
    have BW := hide (HBEL.out.trans (hI.mono (by omega)))
    clear hI hN hlt hK hnone
    gi_wp2
    refine ⟨by simp, .inl ⟨_, _, rfl, run_takeDeferred HKD.out, ?_⟩⟩
    have k1 := cell_kept r1 (grownBy_putObj' _ D (.deferred none)) (fun r e => by cases e; exact ⟨_, HKD.out, rfl⟩)
    have k2 := cell_kept r2 (grownBy_putObj' _ D (.deferred none)) (fun r e => by cases e; exact ⟨_, HKD.out, rfl⟩)
    have k3 := cell_kept r3 (grownBy_putObj' _ D (.deferred none)) (fun r e => by cases e; exact ⟨_, HKD.out, rfl⟩)
    refine ⟨.tuple #[.string ⟨#[]⟩, .bool false, .bool false], ?_, by rw [HAA.out]; rfl, BW.out.grown (grownBy_putObj' _ D (.deferred none)) BW.out.size fun k e => by cases e; exact hD'⟩
    simp [results, Try.results13, go_sem, k1, k2, k3]
  case hstop =>
    rintro D c pre W hD ⟨k0, hk1, hk2⟩ ⟨rfl, ⟨pre', x, hp, hN, hO, e1, e2, e3⟩, hB⟩ hK
    have hsome : Tx.lst key rs = some (pto rs x) := lst_some key hk1 (by rw [← hk2]; exact hp) hN hO
    have HAA := hide hsome
    have r1 := blk_cell e1 0 rfl; have r2 := blk_cell e2 0 rfl; have r3 := blk_cell e3 0 rfl
    simp only [List.getElem_toArray, List.getElem_cons_zero] at r1 r2 r3
    have HKD := hide hK
    have hD' : w.heap.size ≤ D := by omega
    have BW := hide hB
    clear hB hK hsome e1 e2 e3 hp hN hO hk2
    gi_wp2
    refine ⟨by simp, .inl ⟨_, _, rfl, run_takeDeferred HKD.out, ?_⟩⟩
    have k1 := cell_kept r1 (grownBy_putObj' _ D (.deferred none)) (fun r e => by cases e; exact ⟨_, HKD.out, rfl⟩)
    have k2 := cell_kept r2 (grownBy_putObj' _ D (.deferred none)) (fun r e => by cases e; exact ⟨_, HKD.out, rfl⟩)
    have k3 := cell_kept r3 (grownBy_putObj' _ D (.deferred none)) (fun r e => by cases e; exact ⟨_, HKD.out, rfl⟩)
    refine ⟨.tuple #[.string (pto rs x).v, .bool true, .bool (pto rs x).p], ?_, by rw [HAA.out]; rfl, BW.out.grown (grownBy_putObj' _ D (.deferred none)) BW.out.size fun k e => by cases e; exact hD'⟩
    simp [results, Try.results13, go_sem, k1, k2, k3]

set_option maxHeartbeats 400000 in
theorem zget_any (p : Nat) (F : Nat → Prop) (w : World) (s : Tx.St) (k : ByteArray) (h : Pz p F w s) : Calls Try.prog 13 #[.pointer (some ⟨p, 0, none⟩), .string k] w fun E w' => E = .returned (.tuple #[.string (Tx.gtV s k), .bool (Tx.gtM s k), .bool (Tx.gtT s k)]) ∧ Below w.heap.size w w' := by
  cases hs : s.ov with
  | false =>
    obtain ⟨v, hv, _⟩ := h
    exact zget_on p w s v k hv hs
  | true =>
    rw [show Tx.gtV s k = ⟨#[]⟩ by unfold Tx.gtV; rw [if_pos hs], show Tx.gtM s k = false by unfold Tx.gtM; rw [if_pos hs], show Tx.gtT s k = false by unfold Tx.gtT; rw [if_pos hs]]
    refine zget_no w _ k 6 (by decide) ⟨_, rfl⟩ fun W hW => ?_
    have := zask_any p F W s (h.below hW)
    rw [Tx.ask_ov hs] at this
    exact this

end Go.Proofs.Ytofbnkeglhhnlaa

/- The program's txn, whole. -/
namespace Go.Proofs.Ytofbnkeglhhnlaa
open Go.RowKit
set_option linter.unusedVariables false

/-- What Done leaves, as any call. -/
theorem PzS.of_done {p : Nat} {F : Nat → Prop} {w w' : World} {s : Tx.St} (h : ∃ F', Pz p F' w' s ∧ Out F w w' ∧ ∀ g, F' g → F g) : PzS p F w w' s := by
  obtain ⟨F', h1, h2, h3⟩ := h
  exact ⟨F', h1, h2, fun g hg => .inl (h3 g hg)⟩

end Go.Proofs.Ytofbnkeglhhnlaa
