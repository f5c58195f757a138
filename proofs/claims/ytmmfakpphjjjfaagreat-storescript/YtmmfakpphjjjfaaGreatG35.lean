/- Texts of one layer, one behind the other. -/
import Derived.Test.YtmmfakpphjjjfaaGreatG34
import Derived.Test.YtmmfakpphjjjfaaGreatG17
import Derived.Test.YtmmfakpphjjjfaaGreatG6
import Derived.Test.YtmmfakpphjjjfaaGreatG9
/- Get of runs. -/
namespace Go.Proofs.YtmmfakpphjjjfaaGreat
open Go.RowKit Go.Shelf
open Bm (Ov)
set_option linter.unusedVariables false
attribute [local go_sem] Oper.semAt_some

theorem Tryz.mixedH : Tryz.prog.follows .mixedOrders = true := by kernel_rfl

theorem gets_some {t : List Ov} {k : ByteArray} {o : Ov} (h : Tm.get t k = some o) : gv t k = o.v ∧ Tm.met t k = true ∧ gp t k = o.p := by
 unfold gv gp
 rw [Tm.met_get, h]
 exact ⟨rfl, rfl, rfl⟩

theorem gets_none {t : List Ov} {k : ByteArray} (h : Tm.get t k = none) : gv t k = ⟨#[]⟩ ∧ Tm.met t k = false ∧ gp t k = false := by
 unfold gv gp
 rw [Tm.met_get, h]
 exact ⟨rfl, rfl, rfl⟩

theorem row_run {rs : List Cw} {l : List Cm.Cv} (he : cvs rs = l) {i : Nat} (hi : i < rs.length) : l[i]? = some (ptc rs ⟨i, hi⟩).c := by
 rw [← he, cvs, List.getElem?_map, List.getElem?_eq_getElem hi]
 rfl

theorem tab_none {rs : List Cw} {l : List Cm.Cv} (he : cvs rs = l) (hg : Rl.Good 0 l) (key : ByteArray) : ∀ k, k ≤ rs.length → (∀ y ∈ dn rs.length k, Tm.get (ptc rs y).l key = none) → Tm.get (Rl.tab l) key = Tm.get (Rl.tab (l.take (rs.length - k))) key
 | 0, _, _ => by
  have hl : rs.length = l.length := by rw [← he, cvs, List.length_map]
  rw [Nat.sub_zero, hl, List.take_length]
 | k + 1, hk, h => by
  rw [dn_next _ k (by omega)] at h
  have h1 := tab_none he hg key k (by omega) fun y hy => h y (List.mem_append_left _ hy)
  have hi : rs.length - 1 - k < rs.length := by omega
  have hc := row_run he hi
  have hu := (Rl.good_up hg _ (List.mem_of_getElem? hc)).1
  have h2 := Rl.tab_next key hu hc
  rw [show rs.length - 1 - k + 1 = rs.length - k by omega] at h2
  have h3 : Tm.get (ptc rs ⟨rs.length - 1 - k, hi⟩).c.l key = none := h ⟨rs.length - 1 - k, hi⟩ (by simp)
  rw [h1, h2, h3]
  show Tm.get (Rl.tab (l.take (rs.length - 1 - k))) key = _
  rw [show rs.length - 1 - k = rs.length - (k + 1) by omega]

theorem tab_some {rs : List Cw} {l : List Cm.Cv} (he : cvs rs = l) (hg : Rl.Good 0 l) (key : ByteArray) {k : Nat} {pre : List (Nx rs.length)} {x : Nx rs.length} {o : Ov} (hk : k ≤ rs.length) (hp : dn rs.length k = pre ++ [x]) (h : ∀ y ∈ pre, Tm.get (ptc rs y).l key = none) (ho : Tm.get (ptc rs x).l key = some o) : Tm.get (Rl.tab l) key = some o := by
 rcases k with _ | k
 ·simp [dn] at hp
 ·rw [dn_next _ k (by omega)] at hp
  obtain ⟨e1, e2⟩ := List.append_inj' hp rfl
  subst e1
  have hi : rs.length - 1 - k < rs.length := by omega
  have e3 : x = ⟨rs.length - 1 - k, hi⟩ := by simpa using e2.symm
  rw [e3] at ho
  have hc := row_run he hi
  have hu := (Rl.good_up hg _ (List.mem_of_getElem? hc)).1
  have h2 := Rl.tab_next key hu hc
  rw [show rs.length - 1 - k + 1 = rs.length - k by omega] at h2
  have h3 : Tm.get (ptc rs ⟨rs.length - 1 - k, hi⟩).c.l key = some o := ho
  rw [tab_none he hg key k (by omega) h, h2, h3]

theorem tab_nil (key : ByteArray) : Tm.get (Rl.tab []) key = none := rfl

theorem put_three {W : World} {R1 R2 R3 : Nat} {t1 t2 : TypeId} {x1 x2 x3 : Value} (h1 : W.heap[R1]? = some (.cells #[x1] t1 (0, 0))) (h2 : W.heap[R2]? = some (.cells #[x2] t2 (0, 0))) (h3 : W.heap[R3]? = some (.cells #[x3] t2 (0, 0))) (n12 : R1 ≠ R2) (n13 : R1 ≠ R3) (n23 : R2 ≠ R3) (a b c : Value) :
  ∃ V, ((W.setCell ⟨R1, 0, none⟩ a).setCell ⟨R2, 0, none⟩ b).setCell ⟨R3, 0, none⟩ c = V ∧ V.cell? ⟨R1, 0, none⟩ = some a ∧ V.cell? ⟨R2, 0, none⟩ = some b ∧ V.cell? ⟨R3, 0, none⟩ = some c ∧ V.heap.size = W.heap.size ∧ (∀ g, g ≠ R1 → g ≠ R2 → g ≠ R3 → V.heap[g]? = W.heap[g]?) ∧ Out (fun g => g = R1 ∨ g = R2 ∨ g = R3) W V ∧
   (V.heap[R1]? = some (.cells #[a] t1 (0, 0)) ∧ V.heap[R2]? = some (.cells #[b] t2 (0, 0)) ∧ V.heap[R3]? = some (.cells #[c] t2 (0, 0))) := by
 have q1 := set_cells h1 0 a
 have q2 : (W.setCell ⟨R1, 0, none⟩ a).heap[R2]? = _ := (Below.heap_setCell W ⟨R1, 0, none⟩ a R2 n12.symm).trans h2
 have q3 : (W.setCell ⟨R1, 0, none⟩ a).heap[R3]? = _ := (Below.heap_setCell W ⟨R1, 0, none⟩ a R3 n13.symm).trans h3
 have r2 := set_cells q2 0 b
 have r1 := (Below.heap_setCell (W.setCell ⟨R1, 0, none⟩ a) ⟨R2, 0, none⟩ b R1 n12).trans q1
 have r3 := (Below.heap_setCell (W.setCell ⟨R1, 0, none⟩ a) ⟨R2, 0, none⟩ b R3 n23.symm).trans q3
 have s3 := set_cells r3 0 c
 have s1 := (Below.heap_setCell ((W.setCell ⟨R1, 0, none⟩ a).setCell ⟨R2, 0, none⟩ b) ⟨R3, 0, none⟩ c R1 n13).trans r1
 have s2 := (Below.heap_setCell ((W.setCell ⟨R1, 0, none⟩ a).setCell ⟨R2, 0, none⟩ b) ⟨R3, 0, none⟩ c R2 n23).trans r2
 have o1 : Out (fun g => g = R1 ∨ g = R2 ∨ g = R3) W (W.setCell ⟨R1, 0, none⟩ a) := Out.of_grown (grown_setCell W ⟨R1, 0, none⟩ a) fun g hg => .inl (by simp at hg; exact hg.symm)
 have o2 : Out (fun g => g = R1 ∨ g = R2 ∨ g = R3) W ((W.setCell ⟨R1, 0, none⟩ a).setCell ⟨R2, 0, none⟩ b) := o1.trans (Out.of_grown (F := fun g => g = R1 ∨ g = R2 ∨ g = R3) (grown_setCell _ ⟨R2, 0, none⟩ b) fun g hg => .inr (.inl (by simp at hg; exact hg.symm))) fun g hg => .inl hg
 have o3 : Out (fun g => g = R1 ∨ g = R2 ∨ g = R3) W (((W.setCell ⟨R1, 0, none⟩ a).setCell ⟨R2, 0, none⟩ b).setCell ⟨R3, 0, none⟩ c) := o2.trans (Out.of_grown (F := fun g => g = R1 ∨ g = R2 ∨ g = R3) (grown_setCell _ ⟨R3, 0, none⟩ c) fun g hg => .inr (.inr (by simp at hg; exact hg.symm))) fun g hg => .inl hg
 refine ⟨_, rfl, blk_cell s1 0 rfl, blk_cell s2 0 rfl, blk_cell s3 0 rfl, by simp, fun g n1 n2 n3 => ?_, o3, by exact s1, by exact s2, by exact s3⟩
 exact (Below.heap_setCell _ _ _ g n3).trans ((Below.heap_setCell _ _ _ g n2).trans (Below.heap_setCell _ _ _ g n1))

set_option maxRecDepth 100000 in
set_option maxHeartbeats 8000000 in
theorem hget_v (p q : Nat) (w : World) (l : List Cm.Cv) (bk : Bool) (v : Value) (rs : List Cw) (key : ByteArray) (hv : RkV p q w l bk v rs) :
  Calls Tryz.prog 106 #[.pointer (some ⟨p, 0, none⟩), .string key] w fun E w' => E = .returned (.tuple #[.string (gv (Rl.tab l) key), .bool (Tm.met (Rl.tab l) key), .bool (gp (Rl.tab l) key)]) ∧ Below w.heap.size w w' := by
 obtain ⟨w1, hw1, sz1, bel1, B1⟩ := blk_step w #[.string key] 9
 obtain ⟨w2, hw2, sz2, bel2, B2⟩ := blk_step w1 #[.string ⟨#[]⟩] 9
 obtain ⟨w3, hw3, sz3, bel3, B3⟩ := blk_step w2 #[.bool false] 4
 obtain ⟨w4, hw4, sz4, bel4, B4⟩ := blk_step w3 #[.bool false] 4
 obtain ⟨W0, hw5, sz5, bel5, B5⟩ := blk_step w4 #[v] 76
 rw [sz1] at B2 bel2
 rw [show w2.heap.size = w.heap.size + 2 by omega] at B3 bel3
 rw [show w3.heap.size = w.heap.size + 3 by omega] at B4 bel4
 rw [show w4.heap.size = w.heap.size + 4 by omega] at B5 bel5
 have bel04 : Below w.heap.size w w4 := ((bel1.trans (bel2.mono (by omega))).trans (bel3.mono (by omega))).trans (bel4.mono (by omega))
 have bel0 : Below w.heap.size w W0 := bel04.trans (bel5.mono (by omega))
 have hv4 : RkV p q w4 l bk v rs := ⟨(bel04.block p (blk_lt hv.blk)).trans hv.blk, hv.log.below bel04⟩
 have HM := hide (hmade_any p q w4 _ _ hv4.blk)
 have c2 := blk_cell hv4.blk 2 rfl
 simp only [List.getElem_toArray, List.getElem_cons_zero, List.getElem_cons_succ] at c2
 have HCH : Hid (Calls Tryz.prog 144 #[v] w4 fun e w' => e = .returned (.func (.func 164) #[] #[.pointer (some ⟨w.heap.size + 4, 0, none⟩)]) ∧ W0 = w') := hide (by
  obtain ⟨a1, k1, h1, _⟩ := hv4.log.row.row.shape
  refine (back_any v ⟨a1, _, k1, h1⟩ w4).mono ?_
  rintro e w' ⟨rfl, rfl⟩
  rw [show w4.heap.size = w.heap.size + 4 by omega]
  exact ⟨rfl, by rw [hw5]⟩)
 obtain ⟨la, ln, lk, hlv⟩ : ∃ a n k, v = .slice a n k := by
  obtain ⟨a1, k1, h1, _⟩ := hv.log.row.row.shape
  exact ⟨a1, _, k1, h1⟩
 have hmx := Tryz.mixedH
 have hsl : rs.length ≤ 1048576 := hv.log.len_le
 have D0 : W0.heap[w.heap.size]? = some (.cells #[.string key] 9 (0, 0)) := (bel5.block _ (by omega)).trans ((bel4.block _ (by omega)).trans ((bel3.block _ (by omega)).trans ((bel2.block _ (by omega)).trans B1)))
 have D1 : W0.heap[w.heap.size + 1]? = some (.cells #[.string ⟨#[]⟩] 9 (0, 0)) := (bel5.block _ (by omega)).trans ((bel4.block _ (by omega)).trans ((bel3.block _ (by omega)).trans B2))
 have D2 : W0.heap[w.heap.size + 2]? = some (.cells #[.bool false] 4 (0, 0)) := (bel5.block _ (by omega)).trans ((bel4.block _ (by omega)).trans B3)
 have D3 : W0.heap[w.heap.size + 3]? = some (.cells #[.bool false] 4 (0, 0)) := (bel5.block _ (by omega)).trans B4
 have hrow : RowC W0 v rs := hv.log.row.row.below bel0
 have hvb : ∀ g, v.ownBlock = some g → g < w.heap.size := fun g hg => (World.ownsRow.lt hv.log.row g hg).2
 have SEQ := hide (back_seq 5 (by omega) (w.heap.size + 4) rs v W0 (blk_cell B5 0 rfl) (fun g hg => by
  rcases hg with e | e
  ·omega
  ·have := hvb g e; omega) hrow hsl)
 have HQ : Hid (∀ x : Nx rs.length, ∀ W, Below W0.heap.size W0 W → IsO W (ptc rs x).v (ptc rs x).l) := hide fun x W hb => ((hv.log.cop _ (List.getElem_mem x.2)).is.below bel0).below hb
 have HUP : Hid (∀ x : Nx rs.length, Tm.Up (ptc rs x).l ∧ (ptc rs x).l.length ≤ 1024) := hide fun x => by
  have hc := Rl.good_up hv.log.good _ (List.mem_of_getElem? (row_run hv.log.is x.2))
  exact ⟨hc.1, hc.2.2⟩
 have HBK : Hid (∀ x : Nx rs.length, ∀ b, (ptc rs x).v.ownBlock = some b → b < w.heap.size) := hide fun x b hb => ((hv.log.cop _ (List.getElem_mem x.2)).block b hb).2
 have HIS := hide hv.log.is
 have HGD := hide hv.log.good
 have HVB := hide hvb
 replace sz2 : w2.heap.size = w.heap.size + 2 := by omega
 replace sz3 : w3.heap.size = w.heap.size + 3 := by omega
 replace sz4 : w4.heap.size = w.heap.size + 4 := by omega
 replace sz5 : W0.heap.size = w.heap.size + 5 := by omega
 have DD := hide (And.intro D0 (And.intro D1 (And.intro D2 D3)))
 have HBEL := hide bel0
 subst hlv
 clear hw5 hv hv4 B1 B2 B3 B4 B5 bel1 bel2 bel3 bel4 bel5 bel04 D0 D1 D2 D3 hrow hvb bel0
 refine (callsIn_wide (n := 6)).1 ?_
 refine callsIn_of_wp_marks Tryz.func106 rfl trivial ?_ rfl
 simp only [Tryz.ntmps106, List.size_toArray, List.length_cons, List.length_nil, Nat.reduceAdd, Nat.reduceSub, Array.replicate_succ, Array.replicate_zero, List.push_toArray, List.append_toArray, List.nil_append, List.cons_append]
 gi_wp2_with fail
 refine ⟨trivial, (callsIn_wide.2 HM.out).mono ?_⟩
 rintro E w' ⟨rfl, rfl⟩
 gi_wp2_with fail
 refine ⟨trivial, (callsIn_wide.2 HCH.out).mono ?_⟩
 rintro E w' ⟨rfl, rfl⟩
 clear hw1 hw2 hw3 hw4 c2 HM HCH
 gi_wp2_with fail
 apply wpIn_rangeFunc_ownH rfl (by omega) (gf := 164) (lb := #[.pointer (some ⟨w.heap.size + 4, 0, none⟩)]) rfl trivial (enters_of Tryz.func164 (by kernel_rfl) rfl) (encs := fun x : Nx rs.length => #[.int .i64 x.1, cvv (ptc rs x)]) (Kp := Kn (SeqBB (w.heap.size + 4) (.slice la ln lk))) SEQ.out Kn.trans (kn_b (S := SeqBB (w.heap.size + 4) (.slice la ln lk)) (fun g hg => by
   rcases hg with e | e
   ·omega
   ·have := HVB.out g e; omega)) (Below.refl _ _) (fun _ => rfl)
  (fun pre W => Below W0.heap.size W0 W ∧ ∀ y ∈ pre, Tm.get (ptc rs y).l key = none)
  (fun c pre W => c = .ret ∧ (∃ (pre' : List (Nx rs.length)) (x : Nx rs.length) (o : Ov), pre = pre' ++ [x] ∧ (∀ y ∈ pre', Tm.get (ptc rs y).l key = none) ∧ Tm.get (ptc rs x).l key = some o ∧ (W.heap[w.heap.size + 1]? = some (.cells #[.string o.v] 9 (0, 0)) ∧ W.heap[w.heap.size + 2]? = some (.cells #[.bool true] 4 (0, 0)) ∧ W.heap[w.heap.size + 3]? = some (.cells #[.bool o.p] 4 (0, 0)))) ∧ Below w.heap.size w W)
  (fun s X Y row hs hg hr => ⟨hs.1.grown hg hs.1.size fun k e => (hr k e).1, hs.2⟩)
  (fun c s X Y row hs hg hr => by
   obtain ⟨h1, ⟨pre', x, o, h2, h3, h4, h5, h6, h7⟩, h8⟩ := hs
   have st : ∀ g, g < w.heap.size + 5 → g < X.heap.size → Y.heap[g]? = X.heap[g]? := fun g hg1 hg2 => hg.block g hg2 fun e => by have := (hr g e.symm).1; omega
   exact ⟨h1, ⟨pre', x, o, h2, h3, h4, (st _ (by omega) (blk_lt h5)).trans h5, (st _ (by omega) (blk_lt h6)).trans h6, (st _ (by omega) (blk_lt h7)).trans h7⟩, h8.grown hg h8.size fun k e => by have := (hr k e).1; omega⟩)
  ⟨Below.refl _ _, fun y hy => by simp at hy⟩
  (fun x a' W => ∃ q, a' = { tmps := #[.pointer (some ⟨p, 0, none⟩), .string key, undef, .pointer (some ⟨w.heap.size, 0, none⟩), .pointer (some ⟨w.heap.size + 1, 0, none⟩), .pointer (some ⟨w.heap.size + 2, 0, none⟩), .pointer (some ⟨w.heap.size + 3, 0, none⟩), undef, .pointer (some ⟨q, 0, none⟩), undef, undef, .pointer (some ⟨p, 0, none⟩), .bool true, .bool false, .pointer (some ⟨p, 0, none⟩), .pointer (some ⟨p, 0, none⟩), .pointer (some ⟨p, 2, none⟩), .slice la ln lk, .func (.func 164) #[] #[.pointer (some ⟨w.heap.size + 4, 0, none⟩)], .int .i64 x.1, cvv (ptc rs x), undef, undef, undef, undef, undef, undef, undef, undef, undef, undef, undef, undef, undef, undef, undef, undef, undef, undef, undef, undef], defers := [] } ∧ W.heap[q]? = some (.cells #[.int .i64 (ptc rs x).e, .int .i64 (ptc rs x).n, (ptc rs x).v] 112 (0, 0)) ∧ w.heap.size + 5 ≤ q)
  (fun x a' s X Y row hs hg hr => by
   obtain ⟨q, h1, h2, h3⟩ := hs
   refine ⟨q, h1, (hg.block q (blk_lt h2) fun e => ?_).trans h2, h3⟩
   obtain ⟨_, o, h3, h4⟩ := hr q e.symm
   rw [h2] at h3
   cases h3
   simp [Obj.isCells] at h4)
 case hassign =>
  rintro l0 pre x W K ⟨hI, hN⟩ hK
  obtain ⟨c, hc⟩ : ∃ c, ptc rs x = c := ⟨_, rfl⟩
  rw [hc] at hK ⊢
  unfold cvv at hK ⊢
  have hcv : ∃ a n k, c.v = .slice a n k := by
   have := HQ.out x W hI
   rw [hc] at this
   obtain ⟨a1, k1, h1, _⟩ := this.shape
   exact ⟨a1, _, k1, h1⟩
  obtain ⟨ca, cn, ck, hcv⟩ := hcv
  have hz := hI.size
  obtain ⟨V, hV, hV2, szV, bV, BV, x0, x1, x2⟩ := new_step W 112 (.int .i64 0) (.int .i64 0) (.slice none 0 0) (.int .i64 c.e) (.int .i64 c.n) c.v
  have HKK := hide (hK _ V ((KeepsOthers.from ⟨bV.size, fun k o hk _ => (bV.block k (blk_lt hk)).trans hk⟩ _)) (fun g hg => bV.block g (by
   rcases hg with e | e
   ·omega
   ·have := HVB.out g e; omega)) ⟨hI.trans (bV.mono hz), hN⟩ ⟨W.heap.size, rfl, BV, by omega⟩)
  rw [hcv] at hV hV2 x2 HKK ⊢
  clear hK hI bV BV
  gi_wp2
  exact HKK.out
 case hbody =>
  rintro l0 pre x a' W hl0 _ ⟨hI, hN⟩ ⟨q, rfl, hq, hq5⟩ hlt0
  have hz := hI.size
  have hio := HQ.out x W hI
  obtain ⟨hup, hlen⟩ := HUP.out x
  obtain ⟨c, hc⟩ : ∃ c, ptc rs x = c := ⟨_, rfl⟩
  rw [hc] at hq hio hup hlen ⊢
  have hlt : ∀ g, g < w.heap.size + 5 → W.heap[g]? = W0.heap[g]? := fun g hg => hI.block g (by omega)
  have e0 := (hlt _ (by omega)).trans DD.out.1
  have e1 := (hlt _ (by omega)).trans DD.out.2.1
  have e2 := (hlt _ (by omega)).trans DD.out.2.2.1
  have e3 := (hlt _ (by omega)).trans DD.out.2.2.2
  have x0 : W.cell? ⟨w.heap.size, 0, none⟩ = some (.string key) := blk_cell e0 0 rfl
  have q2 : W.cell? ⟨q, 2, none⟩ = some c.v := blk_cell hq 2 rfl
  have HBS := hide (bsearch_any c.v c.l key W hio hup hlen)
  have HIO := hide hio
  have HC := hide hc
  have HEE := hide (And.intro e1 (And.intro e2 (And.intro e3 hq)))
  have HI := hide hI
  have HN := hide hN
  have hq' := blk_lt hq
  clear hio hup e0 e1 e2 e3 hI hN hlt hq hc
  gi_wp2_with fail
  refine ⟨trivial, (CallsIn.inRound l0 (callsIn_wide.2 HBS.out)).mono ?_⟩
  rintro E w5 ⟨i, f, rfl, bel5, FR⟩
  have sz5' := bel5.size
  have b05 := hide (HI.out.trans (bel5.mono hz))
  have KO := hide (show KeepsOthers W w5 from ⟨bel5.size, fun k o hk _ => (bel5.block k (blk_lt hk)).trans hk⟩)
  cases f with
  | false =>
   have NN : Hid (∀ y ∈ pre ++ [x], Tm.get (ptc rs y).l key = none) := hide fun y hy => by
    rcases List.mem_append.1 hy with hy | hy
    ·exact HN.out y hy
    ·rw [List.mem_singleton.1 hy, HC.out]
     rcases FR.out with ⟨h, _⟩ | ⟨_, h⟩
     ·cases h
     ·exact h
   have HKN := hide (show Kn (SeqBB (w.heap.size + 4) (.slice la ln lk)) W w5 from fun g hg => bel5.block g (by
    rcases hg with e | e
    ·omega
    ·have := HVB.out g e; omega))
   clear bel5
   gi_wp2
   exact ⟨KO.out.from _, HKN.out, b05.out, NN.out⟩
  | true =>
   obtain ⟨o, ho, hget⟩ : ∃ o, c.l[i]? = some o ∧ Tm.get c.l key = some o := by
    rcases FR.out with ⟨_, h⟩ | ⟨h, _⟩
    ·exact h
    ·cases h
   have hil := (List.getElem?_eq_some_iff.1 ho).1
   obtain ⟨b1, o1, cq, hvx, _, _, hB, hcell⟩ := HIO.out.full (by omega)
   obtain ⟨d0, _, d2⟩ := hcell i o ho
   have g0 := (bel5.cell (p := ⟨b1, o1 + i * 3, none⟩) hB).trans d0
   have g2 := (bel5.cell (p := ⟨b1, o1 + i * 3 + 2, none⟩) hB).trans d2
   have e1 := (bel5.block _ (by omega)).trans HEE.out.1
   have e2 := (bel5.block _ (by omega)).trans HEE.out.2.1
   have e3 := (bel5.block _ (by omega)).trans HEE.out.2.2.1
   have eq := (bel5.block _ hq').trans HEE.out.2.2.2
   have q2' : w5.cell? ⟨q, 2, none⟩ = some c.v := blk_cell eq 2 rfl
   have r1 := blk_cell e1 0 rfl; have r2 := blk_cell e2 0 rfl; have r3 := blk_cell e3 0 rfl
   have f1 := blk_froz e1 0; have f2 := blk_froz e2 0; have f3 := blk_froz e3 0
   simp only [List.getElem_toArray, List.getElem_cons_zero] at r1 r2 r3
   obtain ⟨V, hV, v1, v2, v3, vz, vo, vO, vB⟩ := put_three e1 e2 e3 (by omega) (by omega) (by omega) (.string o.v) (.bool true) (.bool o.p)
   have hii : (i : Int) < c.l.length := by omega
   have hi0 : (0 : Int) ≤ (i : Int) := by omega
   have FIN : Hid (∀ V', V'.heap = V.heap → KeepsFrom W0.heap.size W V' ∧ ∃ (pre' : List (Nx rs.length)) (x' : Nx rs.length) (o' : Ov), pre ++ [x] = pre' ++ [x'] ∧ (∀ y ∈ pre', Tm.get (ptc rs y).l key = none) ∧ Tm.get (ptc rs x').l key = some o' ∧ (V'.heap[w.heap.size + 1]? = some (.cells #[.string o'.v] 9 (0, 0)) ∧ V'.heap[w.heap.size + 2]? = some (.cells #[.bool true] 4 (0, 0)) ∧ V'.heap[w.heap.size + 3]? = some (.cells #[.bool o'.p] 4 (0, 0)))) := hide fun V' hV' => by
    refine ⟨⟨by rw [hV', vz]; exact bel5.size, fun k ob hk1 hk2 hk3 => ?_⟩, pre, x, o, rfl, HN.out, by rw [HC.out]; exact hget, by rw [hV']; exact vB⟩
    rw [hV', vo k (by omega) (by omega) (by omega)]
    exact (bel5.block k (blk_lt hk2)).trans hk2
   have BV : Hid (Below w.heap.size w V) := hide (by
    have hh := HBEL.out.trans (b05.out.mono (by omega))
    exact hh.trans (vO.below (fun g hg => by omega) hh.size))
   clear bel5 d0 d2 hcell e1 e2 e3 eq HEE ho hget FR
   rw [hvx] at q2'
   have HVX := hide hvx
   have hbb : b1 < w.heap.size := HBK.out x b1 (by rw [HC.out, hvx]; rfl)
   have stc : ∀ (X : World) (g j : Nat), X.heap[g]? = w5.heap[g]? → X.cell? ⟨g, j, none⟩ = w5.cell? ⟨g, j, none⟩ := fun X g j h => cell_of_blk h j
   have n1 : ∀ g, g ≠ w.heap.size + 1 → (w5.setCell ⟨w.heap.size + 1, 0, none⟩ (.string o.v)).heap[g]? = w5.heap[g]? := fun g hg => Below.heap_setCell w5 ⟨w.heap.size + 1, 0, none⟩ _ g hg
   have n2 : ∀ g, g ≠ w.heap.size + 1 → g ≠ w.heap.size + 2 → ((w5.setCell ⟨w.heap.size + 1, 0, none⟩ (.string o.v)).setCell ⟨w.heap.size + 2, 0, none⟩ (.bool true)).heap[g]? = w5.heap[g]? := fun g hg hg2 => (Below.heap_setCell _ ⟨w.heap.size + 2, 0, none⟩ _ g hg2).trans (n1 g hg)
   have H1 := hide (show (w5.setCell ⟨w.heap.size + 1, 0, none⟩ (.string o.v)).cell? ⟨q, 2, none⟩ = some (.slice (some ⟨b1, o1, none⟩) c.l.length cq) ∧ (w5.setCell ⟨w.heap.size + 1, 0, none⟩ (.string o.v)).cell? ⟨b1, o1 + i * 3, none⟩ = some (.bool o.p) ∧ (w5.setCell ⟨w.heap.size + 1, 0, none⟩ (.string o.v)).cell? ⟨b1, o1 + i * 3 + 2, none⟩ = some (.string o.v) from
    ⟨(stc _ _ _ (n1 q (by omega))).trans q2', (stc _ _ _ (n1 b1 (by omega))).trans g0, (stc _ _ _ (n1 b1 (by omega))).trans g2⟩)
   have H2 := hide (show ((w5.setCell ⟨w.heap.size + 1, 0, none⟩ (.string o.v)).setCell ⟨w.heap.size + 2, 0, none⟩ (.bool true)).cell? ⟨q, 2, none⟩ = some (.slice (some ⟨b1, o1, none⟩) c.l.length cq) ∧ ((w5.setCell ⟨w.heap.size + 1, 0, none⟩ (.string o.v)).setCell ⟨w.heap.size + 2, 0, none⟩ (.bool true)).cell? ⟨b1, o1 + i * 3, none⟩ = some (.bool o.p) ∧ ((w5.setCell ⟨w.heap.size + 1, 0, none⟩ (.string o.v)).setCell ⟨w.heap.size + 2, 0, none⟩ (.bool true)).cell? ⟨b1, o1 + i * 3 + 2, none⟩ = some (.string o.v) from
    ⟨(stc _ _ _ (n2 q (by omega) (by omega))).trans q2', (stc _ _ _ (n2 b1 (by omega) (by omega))).trans g0, (stc _ _ _ (n2 b1 (by omega) (by omega))).trans g2⟩)
   have H3 := hide (show V.cell? ⟨q, 2, none⟩ = some (.slice (some ⟨b1, o1, none⟩) c.l.length cq) ∧ V.cell? ⟨b1, o1 + i * 3, none⟩ = some (.bool o.p) ∧ V.cell? ⟨b1, o1 + i * 3 + 2, none⟩ = some (.string o.v) from
    ⟨(stc _ _ _ (vo q (by omega) (by omega) (by omega))).trans q2', (stc _ _ _ (vo b1 (by omega) (by omega) (by omega))).trans g0, (stc _ _ _ (vo b1 (by omega) (by omega) (by omega))).trans g2⟩)
   clear stc n1 n2
   gi_wp2
   refine regionIn_way (ops := (regOf 7 Tryz.f106)) (S := (fun w' => w'.cell? ⟨q, 2, none⟩ = some (.slice (some ⟨b1, o1, none⟩) c.l.length cq) ∧ w'.cell? ⟨b1, o1 + i * 3, none⟩ = some (.bool o.p) ∧ w'.cell? ⟨b1, o1 + i * 3 + 2, none⟩ = some (.string o.v))) (by kernel_rfl) (by kernel_rfl) (by kernel_rfl) (fun ⟨_, _, h⟩ => h) (fun _ _ _ _ _ h => h) wyb_ord (by kernel_rfl) wyb_way ⟨q2', g0, g2⟩ ?_
   unfold wyb_ord
   refine seq_take (v := ?_) rfl rfl (by rfl) ?_ ?_
   rotate_left 1
   ·intro w hS
    (try dsimp only at hS)
    go_simp
    all_goals with_reducible rfl
   simp only [Act.put, List.setIfInBounds_toArray, List.set_cons_zero, List.set_cons_succ]
   refine seq_take (v := ?_) rfl rfl (by rfl) ?_ ?_
   rotate_left 1
   ·intro w hS
    (try dsimp only at hS)
    go_simp
    all_goals with_reducible rfl
   simp only [Act.put, List.setIfInBounds_toArray, List.set_cons_zero, List.set_cons_succ]
   refine seq_take (v := ?_) rfl rfl (by rfl) ?_ ?_
   rotate_left 1
   ·intro w hS
    (try dsimp only at hS)
    go_simp
    all_goals with_reducible rfl
   simp only [Act.put, List.setIfInBounds_toArray, List.set_cons_zero, List.set_cons_succ]
   refine seq_take (v := ?_) rfl rfl (by rfl) ?_ ?_
   rotate_left 1
   ·intro w hS
    (try dsimp only at hS)
    go_simp
    all_goals with_reducible rfl
   simp only [Act.put, List.setIfInBounds_toArray, List.set_cons_zero, List.set_cons_succ]
   refine seq_take (v := ?_) rfl rfl (by rfl) ?_ ?_
   rotate_left 1
   ·intro w hS
    (try dsimp only at hS)
    go_simp
    all_goals with_reducible rfl
   simp only [Act.put, List.setIfInBounds_toArray, List.set_cons_zero, List.set_cons_succ]
   refine seq_take (v := ?_) rfl rfl (by rfl) ?_ ?_
   rotate_left 1
   ·intro w hS
    (try dsimp only at hS)
    go_simp
    all_goals with_reducible rfl
   simp only [Act.put, List.setIfInBounds_toArray, List.set_cons_zero, List.set_cons_succ]
   refine seq_take (v := ?_) rfl rfl (by rfl) ?_ ?_
   rotate_left 1
   ·intro w hS
    (try dsimp only at hS)
    go_simp
    all_goals with_reducible rfl
   simp only [Act.put, List.setIfInBounds_toArray, List.set_cons_zero, List.set_cons_succ]
   refine seq_take (v := ?_) rfl rfl (by rfl) ?_ ?_
   rotate_left 1
   ·intro w hS
    (try dsimp only at hS)
    go_simp
    all_goals with_reducible rfl
   simp only [Act.put, List.setIfInBounds_toArray, List.set_cons_zero, List.set_cons_succ]
   refine seq_take (v := ?_) rfl rfl (by rfl) ?_ ?_
   rotate_left 1
   ·intro w hS
    (try dsimp only at hS)
    go_simp
    all_goals with_reducible rfl
   simp only [Act.put, List.setIfInBounds_toArray, List.set_cons_zero, List.set_cons_succ]
   refine seq_take (v := ?_) rfl rfl (by rfl) ?_ ?_
   rotate_left 1
   ·intro w hS
    (try dsimp only at hS)
    go_simp
    all_goals with_reducible rfl
   simp only [Act.put, List.setIfInBounds_toArray, List.set_cons_zero, List.set_cons_succ]
   refine seq_take (v := ?_) rfl rfl (by rfl) ?_ ?_
   rotate_left 1
   ·intro w hS
    (try dsimp only at hS)
    go_simp
    all_goals with_reducible rfl
   simp only [Act.put, List.setIfInBounds_toArray, List.set_cons_zero, List.set_cons_succ]
   refine seq_take (v := ?_) rfl rfl (by rfl) ?_ ?_
   rotate_left 1
   ·intro w hS
    (try dsimp only at hS)
    go_simp
    all_goals with_reducible rfl
   simp only [Act.put, List.setIfInBounds_toArray, List.set_cons_zero, List.set_cons_succ]
   refine seq_meet rfl (by rfl) (fun K hK => ?_)
   go_simp
   refine hK.out _ _ H1.out ?_
   clear hK K
   try simp only [Act.put, List.setIfInBounds_toArray, List.set_cons_zero, List.set_cons_succ]
   refine seq_meet rfl (by rfl) (fun K hK => ?_)
   go_simp
   refine hK.out _ _ H2.out ?_
   clear hK K
   try simp only [Act.put, List.setIfInBounds_toArray, List.set_cons_zero, List.set_cons_succ]
   refine seq_meet rfl (by rfl) (fun K hK => ?_)
   go_simp
   refine hK.out _ _ H3.out ?_
   clear hK K
   try simp only [Act.put, List.setIfInBounds_toArray, List.set_cons_zero, List.set_cons_succ]
   unfold seqW
   gi_wp2
   exact ⟨(FIN.out V.drew rfl).1, rfl, (FIN.out V.drew rfl).2, BV.out.drew⟩
 case hdone =>
  rintro D xs W hD rfl ⟨hI, hN⟩ hK
  have hz := hI.size
  have hlt : ∀ g, g < w.heap.size + 5 → W.heap[g]? = W0.heap[g]? := fun g hg => hI.block g (by omega)
  have e1 := (hlt _ (by omega)).trans DD.out.2.1
  have e2 := (hlt _ (by omega)).trans DD.out.2.2.1
  have e3 := (hlt _ (by omega)).trans DD.out.2.2.2
  have hnone : Tm.get (Rl.tab l) key = none := by
   rw [tab_none HIS.out HGD.out key rs.length (Nat.le_refl _) hN, Nat.sub_self, List.take_zero]
   exact tab_nil key
  obtain ⟨a1, a2, a3⟩ := gets_none hnone
  have HAA := hide (And.intro a1 (And.intro a2 a3))
  have r1 := blk_cell e1 0 rfl; have r2 := blk_cell e2 0 rfl; have r3 := blk_cell e3 0 rfl
  have f1 := blk_froz e1 0; have f2 := blk_froz e2 0; have f3 := blk_froz e3 0
  simp only [List.getElem_toArray, List.getElem_cons_zero] at r1 r2 r3
  have s1 : W.setCell ⟨w.heap.size + 1, 0, none⟩ (.string ⟨#[]⟩) = W := set_same e1 (j := 0) rfl
  have s2 : W.setCell ⟨w.heap.size + 2, 0, none⟩ (.bool false) = W := set_same e2 (j := 0) rfl
  have s3 : W.setCell ⟨w.heap.size + 3, 0, none⟩ (.bool false) = W := set_same e3 (j := 0) rfl
  have HKD := hide hK
  have hD' : w.heap.size ≤ D := by omega
  have BW := hide (HBEL.out.trans (hI.mono (by omega)))
  clear hI hN hlt hK hnone a1 a2 a3
  gi_wp2
  refine ⟨by simp, .inl ⟨_, _, rfl, run_takeDeferred HKD.out, ?_⟩⟩
  have k1 := cell_kept r1 (grownBy_putObj' _ D (.deferred none)) (fun r e => by cases e; exact ⟨_, HKD.out, rfl⟩)
  have k2 := cell_kept r2 (grownBy_putObj' _ D (.deferred none)) (fun r e => by cases e; exact ⟨_, HKD.out, rfl⟩)
  have k3 := cell_kept r3 (grownBy_putObj' _ D (.deferred none)) (fun r e => by cases e; exact ⟨_, HKD.out, rfl⟩)
  refine ⟨.tuple #[.string ⟨#[]⟩, .bool false, .bool false], ?_, by rw [HAA.out.1, HAA.out.2.1, HAA.out.2.2], BW.out.grown (grownBy_putObj' _ D (.deferred none)) BW.out.size fun k e => by cases e; exact hD'⟩
  simp [results, Tryz.results106, go_sem, k1, k2, k3]
 case hstop =>
  rintro D c pre W hD ⟨k0, hk1, hk2⟩ ⟨rfl, ⟨pre', x, o, hp, hN, hO, e1, e2, e3⟩, hB⟩ hK
  have hsome : Tm.get (Rl.tab l) key = some o := tab_some HIS.out HGD.out key hk1 (by rw [← hk2]; exact hp) hN hO
  obtain ⟨a1, a2, a3⟩ := gets_some hsome
  have HAA := hide (And.intro a1 (And.intro a2 a3))
  have r1 := blk_cell e1 0 rfl; have r2 := blk_cell e2 0 rfl; have r3 := blk_cell e3 0 rfl
  simp only [List.getElem_toArray, List.getElem_cons_zero] at r1 r2 r3
  have HKD := hide hK
  have hD' : w.heap.size ≤ D := by omega
  have BW := hide hB
  clear hB hK hsome a1 a2 a3 e1 e2 e3 hp hN hO hk2
  gi_wp2
  refine ⟨by simp, .inl ⟨_, _, rfl, run_takeDeferred HKD.out, ?_⟩⟩
  have k1 := cell_kept r1 (grownBy_putObj' _ D (.deferred none)) (fun r e => by cases e; exact ⟨_, HKD.out, rfl⟩)
  have k2 := cell_kept r2 (grownBy_putObj' _ D (.deferred none)) (fun r e => by cases e; exact ⟨_, HKD.out, rfl⟩)
  have k3 := cell_kept r3 (grownBy_putObj' _ D (.deferred none)) (fun r e => by cases e; exact ⟨_, HKD.out, rfl⟩)
  refine ⟨.tuple #[.string o.v, .bool true, .bool o.p], ?_, by rw [HAA.out.1, HAA.out.2.1, HAA.out.2.2], BW.out.grown (grownBy_putObj' _ D (.deferred none)) BW.out.size fun k e => by cases e; exact hD'⟩
  simp [results, Tryz.results106, go_sem, k1, k2, k3]

end Go.Proofs.YtmmfakpphjjjfaaGreat

/- A row of commits or runs of one's own: an element is stored. No program. -/
namespace Go.Proofs.YtmmfakpphjjjfaaGreat
open Go.RowKit
set_option linter.unusedVariables false

theorem ccells_set (l : List Cw) (i : Nat) (c : Cw) (hi : i < l.length) : (((ccells l).set (i * 3) (.int .i64 c.e)).set (i * 3 + 1) (.int .i64 c.n)).set (i * 3 + 2) c.v = ccells (l.set i c) := by
 induction l generalizing i with
 | nil => simp at hi
 | cons d l ih =>
  cases i with
  | zero => simp [ccells, ccell]
  | succ i =>
   have := ih i (by simpa using hi)
   rw [show (i + 1) * 3 = i * 3 + 3 by omega]
   simp only [ccells, ccell, List.set_cons_succ, List.cons_append, List.nil_append]
   rw [← this]

theorem own_putC {e base g n cap : Nat} {w : World} {l : List Cw} (h : OwnR e base w (.slice (some ⟨g, 0, none⟩) n cap) l) (hn : l.length = n) (i : Nat) (hi : i < n) (c : Cw) :
  ∃ W, ((w.setCell ⟨g, i * 3, none⟩ (.int .i64 c.e)).setCell ⟨g, i * 3 + 1, none⟩ (.int .i64 c.n)).setCell ⟨g, i * 3 + 2, none⟩ c.v = W ∧ OwnR e base W (.slice (some ⟨g, 0, none⟩) n cap) (l.set i c) ∧ w.grownBy W (some g) := by
 subst hn
 unfold OwnR at h
 have s1 := h.stored (i * 3) (.int .i64 c.e)
 have s2 := s1.1.stored (i * 3 + 1) (.int .i64 c.n)
 have s3 := s2.1.stored (i * 3 + 2) c.v
 refine ⟨_, rfl, ?_, grown_trans s1.2 (grown_trans s2.2 s3.2)⟩
 unfold OwnR
 rw [List.length_set, ← ccells_set l i c hi]
 exact s3.1

theorem own_atC {e base g n cap : Nat} {w : World} {l : List Cw} (h : OwnR e base w (.slice (some ⟨g, 0, none⟩) n cap) l) (hn : l.length = n) (i : Nat) (c : Cw) (hc : l[i]? = some c) :
  (w.cell? ⟨g, i * 3, none⟩ = some (.int .i64 c.e) ∧ w.cell? ⟨g, i * 3 + 1, none⟩ = some (.int .i64 c.n) ∧ w.cell? ⟨g, i * 3 + 2, none⟩ = some c.v) ∧ (w.frozen? ⟨g, i * 3, none⟩ = false ∧ w.frozen? ⟨g, i * 3 + 1, none⟩ = false ∧ w.frozen? ⟨g, i * 3 + 2, none⟩ = false) := by
 subst hn
 unfold OwnR at h
 obtain ⟨hi, rfl⟩ := List.getElem?_eq_some_iff.1 hc
 obtain ⟨a0, a1, a2⟩ := ccells_at l i hi
 exact ⟨⟨by rw [h.cellAt (i * 3) (by omega)]; exact a0, by rw [h.cellAt (i * 3 + 1) (by omega)]; exact a1, by rw [h.cellAt (i * 3 + 2) (by omega)]; exact a2⟩, h.frozenAt _, h.frozenAt _, h.frozenAt _⟩

end Go.Proofs.YtmmfakpphjjjfaaGreat
