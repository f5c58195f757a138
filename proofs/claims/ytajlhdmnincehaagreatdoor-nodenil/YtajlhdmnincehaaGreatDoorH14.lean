/- Texts of one layer, one behind the other. -/
import Derived.Test.YtajlhdmnincehaaGreatDoorH12
import Derived.Test.YtajlhdmnincehaaGreatDoorH10
import Derived.Test.YtajlhdmnincehaaGreatDoorH13
import Derived.Test.YtajlhdmnincehaaGreatDoorH11
import Derived.Test.YtajlhdmnincehaaGreatDoorH8
import Derived.Deep.RegionHeld3
import Derived.Test.YtajlhdmnincehaaGreatDoorH9
import Derived.Test.YtajlhdmnincehaaGreatDoorH1
import Derived.Test.YtajlhdmnincehaaGreatDoorH6
import Derived.Deep.RegionLaw
/- Get of runs. -/
namespace Go.Proofs.YtajlhdmnincehaaGreatDoor
open Go.RowKit Go.Shelf
open Bm (Ov)
set_option linter.unusedVariables false
attribute [local go_sem] Oper.semAt_some

theorem Tryz.mixedH : Tryz.prog.follows .mixedOrders = true := by kernel_rfl

theorem gets_some {t : List Ov} {k : ByteArray} {o : Ov} (h : Tm.get t k = some o) : gv t k = o.v ∧ Tm.met t k = true ∧ gp t k = o.p := by
  unfold gv gp
  rw [Tm.met_get, h]
  exact ⟨rfl, rfl, rfl⟩

theorem gets_none {t : List Ov} {k : ByteArray} (h : Tm.get t k = none) : gv t k = ⟨#[]⟩ ∧ Tm.met t k = false ∧ gp t k = false := by
  unfold gv gp
  rw [Tm.met_get, h]
  exact ⟨rfl, rfl, rfl⟩

theorem row_run {rs : List Cw} {l : List Cm.Cv} (he : cvs rs = l) {i : Nat} (hi : i < rs.length) : l[i]? = some (ptc rs ⟨i, hi⟩).c := by
  rw [← he, cvs, List.getElem?_map, List.getElem?_eq_getElem hi]
  rfl

/-- The last k runs don't have the key. -/
theorem tab_none {rs : List Cw} {l : List Cm.Cv} (he : cvs rs = l) (hg : Rl.Good 0 l) (key : ByteArray) : ∀ k, k ≤ rs.length → (∀ y ∈ dn rs.length k, Tm.get (ptc rs y).l key = none) → Tm.get (Rl.tab l) key = Tm.get (Rl.tab (l.take (rs.length - k))) key
  | 0, _, _ => by
    have hl : rs.length = l.length := by rw [← he, cvs, List.length_map]
    rw [Nat.sub_zero, hl, List.take_length]
  | k + 1, hk, h => by
    rw [dn_next _ k (by omega)] at h
    have h1 := tab_none he hg key k (by omega) fun y hy => h y (List.mem_append_left _ hy)
    have hi : rs.length - 1 - k < rs.length := by omega
    have hc := row_run he hi
    have hu := (Rl.good_up hg _ (List.mem_of_getElem? hc)).1
    have h2 := Rl.tab_next key hu hc
    rw [show rs.length - 1 - k + 1 = rs.length - k by omega] at h2
    have h3 : Tm.get (ptc rs ⟨rs.length - 1 - k, hi⟩).c.l key = none := h ⟨rs.length - 1 - k, hi⟩ (by simp)
    rw [h1, h2, h3]
    show Tm.get (Rl.tab (l.take (rs.length - 1 - k))) key = _
    rw [show rs.length - 1 - k = rs.length - (k + 1) by omega]

theorem tab_some {rs : List Cw} {l : List Cm.Cv} (he : cvs rs = l) (hg : Rl.Good 0 l) (key : ByteArray) {k : Nat} {pre : List (Nx rs.length)} {x : Nx rs.length} {o : Ov} (hk : k ≤ rs.length) (hp : dn rs.length k = pre ++ [x]) (h : ∀ y ∈ pre, Tm.get (ptc rs y).l key = none) (ho : Tm.get (ptc rs x).l key = some o) : Tm.get (Rl.tab l) key = some o := by
  rcases k with _ | k
  · simp [dn] at hp
  · rw [dn_next _ k (by omega)] at hp
    obtain ⟨e1, e2⟩ := List.append_inj' hp rfl
    subst e1
    have hi : rs.length - 1 - k < rs.length := by omega
    have e3 : x = ⟨rs.length - 1 - k, hi⟩ := by simpa using e2.symm
    rw [e3] at ho
    have hc := row_run he hi
    have hu := (Rl.good_up hg _ (List.mem_of_getElem? hc)).1
    have h2 := Rl.tab_next key hu hc
    rw [show rs.length - 1 - k + 1 = rs.length - k by omega] at h2
    have h3 : Tm.get (ptc rs ⟨rs.length - 1 - k, hi⟩).c.l key = some o := ho
    rw [tab_none he hg key k (by omega) h, h2, h3]

theorem tab_nil (key : ByteArray) : Tm.get (Rl.tab []) key = none := rfl

/-- Three blocks of one cell are written. -/
theorem put_three {W : World} {R1 R2 R3 : Nat} {t1 t2 : TypeId} {x1 x2 x3 : Value} (h1 : W.heap[R1]? = some (.cells #[x1] t1 (0, 0))) (h2 : W.heap[R2]? = some (.cells #[x2] t2 (0, 0))) (h3 : W.heap[R3]? = some (.cells #[x3] t2 (0, 0))) (n12 : R1 ≠ R2) (n13 : R1 ≠ R3) (n23 : R2 ≠ R3) (a b c : Value) :
    ∃ V, ((W.setCell ⟨R1, 0, none⟩ a).setCell ⟨R2, 0, none⟩ b).setCell ⟨R3, 0, none⟩ c = V ∧ V.cell? ⟨R1, 0, none⟩ = some a ∧ V.cell? ⟨R2, 0, none⟩ = some b ∧ V.cell? ⟨R3, 0, none⟩ = some c ∧ V.heap.size = W.heap.size ∧ (∀ g, g ≠ R1 → g ≠ R2 → g ≠ R3 → V.heap[g]? = W.heap[g]?) ∧ Out (fun g => g = R1 ∨ g = R2 ∨ g = R3) W V ∧
      (V.heap[R1]? = some (.cells #[a] t1 (0, 0)) ∧ V.heap[R2]? = some (.cells #[b] t2 (0, 0)) ∧ V.heap[R3]? = some (.cells #[c] t2 (0, 0))) := by
  have q1 := set_cells h1 0 a
  have q2 : (W.setCell ⟨R1, 0, none⟩ a).heap[R2]? = _ := (Below.heap_setCell W ⟨R1, 0, none⟩ a R2 n12.symm).trans h2
  have q3 : (W.setCell ⟨R1, 0, none⟩ a).heap[R3]? = _ := (Below.heap_setCell W ⟨R1, 0, none⟩ a R3 n13.symm).trans h3
  have r2 := set_cells q2 0 b
  have r1 := (Below.heap_setCell (W.setCell ⟨R1, 0, none⟩ a) ⟨R2, 0, none⟩ b R1 n12).trans q1
  have r3 := (Below.heap_setCell (W.setCell ⟨R1, 0, none⟩ a) ⟨R2, 0, none⟩ b R3 n23.symm).trans q3
  have s3 := set_cells r3 0 c
  have s1 := (Below.heap_setCell ((W.setCell ⟨R1, 0, none⟩ a).setCell ⟨R2, 0, none⟩ b) ⟨R3, 0, none⟩ c R1 n13).trans r1
  have s2 := (Below.heap_setCell ((W.setCell ⟨R1, 0, none⟩ a).setCell ⟨R2, 0, none⟩ b) ⟨R3, 0, none⟩ c R2 n23).trans r2
  have o1 : Out (fun g => g = R1 ∨ g = R2 ∨ g = R3) W (W.setCell ⟨R1, 0, none⟩ a) := Out.of_grown (grown_setCell W ⟨R1, 0, none⟩ a) fun g hg => .inl (by simp at hg; exact hg.symm)
  have o2 : Out (fun g => g = R1 ∨ g = R2 ∨ g = R3) W ((W.setCell ⟨R1, 0, none⟩ a).setCell ⟨R2, 0, none⟩ b) := o1.trans (Out.of_grown (F := fun g => g = R1 ∨ g = R2 ∨ g = R3) (grown_setCell _ ⟨R2, 0, none⟩ b) fun g hg => .inr (.inl (by simp at hg; exact hg.symm))) fun g hg => .inl hg
  have o3 : Out (fun g => g = R1 ∨ g = R2 ∨ g = R3) W (((W.setCell ⟨R1, 0, none⟩ a).setCell ⟨R2, 0, none⟩ b).setCell ⟨R3, 0, none⟩ c) := o2.trans (Out.of_grown (F := fun g => g = R1 ∨ g = R2 ∨ g = R3) (grown_setCell _ ⟨R3, 0, none⟩ c) fun g hg => .inr (.inr (by simp at hg; exact hg.symm))) fun g hg => .inl hg
  refine ⟨_, rfl, blk_cell s1 0 rfl, blk_cell s2 0 rfl, blk_cell s3 0 rfl, by simp, fun g n1 n2 n3 => ?_, o3, by exact s1, by exact s2, by exact s3⟩
  exact (Below.heap_setCell _ _ _ g n3).trans ((Below.heap_setCell _ _ _ g n2).trans (Below.heap_setCell _ _ _ g n1))

set_option maxRecDepth 100000 in
set_option maxHeartbeats 8000000 in
theorem hget_v (p q : Nat) (w : World) (l : List Cm.Cv) (bk : Bool) (v : Value) (rs : List Cw) (key : ByteArray) (hv : RkV p q w l bk v rs) :
    Calls Tryz.prog 163 #[.pointer (some ⟨p, 0, none⟩), .string key] w fun E w' => E = .returned (.tuple #[.string (gv (Rl.tab l) key), .bool (Tm.met (Rl.tab l) key), .bool (gp (Rl.tab l) key)]) ∧ Below w.heap.size w w' := by
  obtain ⟨w1, hw1, sz1, bel1, B1⟩ := blk_step w #[.string key] 9
  obtain ⟨w2, hw2, sz2, bel2, B2⟩ := blk_step w1 #[.string ⟨#[]⟩] 9
  obtain ⟨w3, hw3, sz3, bel3, B3⟩ := blk_step w2 #[.bool false] 4
  obtain ⟨w4, hw4, sz4, bel4, B4⟩ := blk_step w3 #[.bool false] 4
  obtain ⟨W0, hw5, sz5, bel5, B5⟩ := blk_step w4 #[v] 55
  rw [sz1] at B2 bel2
  rw [show w2.heap.size = w.heap.size + 2 by omega] at B3 bel3
  rw [show w3.heap.size = w.heap.size + 3 by omega] at B4 bel4
  rw [show w4.heap.size = w.heap.size + 4 by omega] at B5 bel5
  have bel04 : Below w.heap.size w w4 := ((bel1.trans (bel2.mono (by omega))).trans (bel3.mono (by omega))).trans (bel4.mono (by omega))
  have bel0 : Below w.heap.size w W0 := bel04.trans (bel5.mono (by omega))
  have hv4 : RkV p q w4 l bk v rs := ⟨(bel04.block p (blk_lt hv.blk)).trans hv.blk, hv.log.below bel04⟩
  have HM := hide (hmade_any p q w4 _ _ hv4.blk)
  have c2 := blk_cell hv4.blk 2 rfl
  simp only [List.getElem_toArray, List.getElem_cons_zero, List.getElem_cons_succ] at c2
  have HCH : Hid (Calls Tryz.prog 227 #[v] w4 fun e w' => e = .returned (.func (.func 272) #[] #[.pointer (some ⟨w.heap.size + 4, 0, none⟩)]) ∧ W0 = w') := hide (by
    obtain ⟨a1, k1, h1, _⟩ := hv4.log.row.row.shape
    refine (back_any v ⟨a1, _, k1, h1⟩ w4).mono ?_
    rintro e w' ⟨rfl, rfl⟩
    rw [show w4.heap.size = w.heap.size + 4 by omega]
    exact ⟨rfl, by rw [hw5]⟩)
  obtain ⟨la, ln, lk, hlv⟩ : ∃ a n k, v = .slice a n k := by
    obtain ⟨a1, k1, h1, _⟩ := hv.log.row.row.shape
    exact ⟨a1, _, k1, h1⟩
  have hmx := Tryz.mixedH
  have hsl : rs.length ≤ 1048576 := hv.log.len_le
  have D0 : W0.heap[w.heap.size]? = some (.cells #[.string key] 9 (0, 0)) := (bel5.block _ (by omega)).trans ((bel4.block _ (by omega)).trans ((bel3.block _ (by omega)).trans ((bel2.block _ (by omega)).trans B1)))
  have D1 : W0.heap[w.heap.size + 1]? = some (.cells #[.string ⟨#[]⟩] 9 (0, 0)) := (bel5.block _ (by omega)).trans ((bel4.block _ (by omega)).trans ((bel3.block _ (by omega)).trans B2))
  have D2 : W0.heap[w.heap.size + 2]? = some (.cells #[.bool false] 4 (0, 0)) := (bel5.block _ (by omega)).trans ((bel4.block _ (by omega)).trans B3)
  have D3 : W0.heap[w.heap.size + 3]? = some (.cells #[.bool false] 4 (0, 0)) := (bel5.block _ (by omega)).trans B4
  have hrow : RowC W0 v rs := hv.log.row.row.below bel0
  have hvb : ∀ g, v.ownBlock = some g → g < w.heap.size := fun g hg => (World.ownsRow.lt hv.log.row g hg).2
  have SEQ := hide (back_seq 5 (by omega) (w.heap.size + 4) rs v W0 (blk_cell B5 0 rfl) (fun g hg => by
    rcases hg with e | e
    · omega
    · have := hvb g e; omega) hrow hsl)
  have HQ : Hid (∀ x : Nx rs.length, ∀ W, Below W0.heap.size W0 W → IsO W (ptc rs x).v (ptc rs x).l) := hide fun x W hb => ((hv.log.cop _ (List.getElem_mem x.2)).is.below bel0).below hb
  have HUP : Hid (∀ x : Nx rs.length, Tm.Up (ptc rs x).l ∧ (ptc rs x).l.length ≤ 1024) := hide fun x => by
    have hc := Rl.good_up hv.log.good _ (List.mem_of_getElem? (row_run hv.log.is x.2))
    exact ⟨hc.1, hc.2.2⟩
  have HBK : Hid (∀ x : Nx rs.length, ∀ b, (ptc rs x).v.ownBlock = some b → b < w.heap.size) := hide fun x b hb => ((hv.log.cop _ (List.getElem_mem x.2)).block b hb).2
  have HIS := hide hv.log.is
  have HGD := hide hv.log.good
  have HVB := hide hvb
  replace sz2 : w2.heap.size = w.heap.size + 2 := by omega
  replace sz3 : w3.heap.size = w.heap.size + 3 := by omega
  replace sz4 : w4.heap.size = w.heap.size + 4 := by omega
  replace sz5 : W0.heap.size = w.heap.size + 5 := by omega
  have DD := hide (And.intro D0 (And.intro D1 (And.intro D2 D3)))
  have HBEL := hide bel0
  subst hlv
  clear hw5 hv hv4 B1 B2 B3 B4 B5 bel1 bel2 bel3 bel4 bel5 bel04 D0 D1 D2 D3 hrow hvb bel0
  refine (callsIn_wide (n := 6)).1 ?_
  refine callsIn_of_wp_marks Tryz.func163 rfl trivial ?_ rfl
  simp only [Tryz.ntmps163, List.size_toArray, List.length_cons, List.length_nil, Nat.reduceAdd, Nat.reduceSub, Array.replicate_succ, Array.replicate_zero, List.push_toArray, List.append_toArray, List.nil_append, List.cons_append]
  gi_wp2_with fail
  refine ⟨trivial, (callsIn_wide.2 HM.out).mono ?_⟩
  rintro E w' ⟨rfl, rfl⟩
  gi_wp2_with fail
  refine ⟨trivial, (callsIn_wide.2 HCH.out).mono ?_⟩
  rintro E w' ⟨rfl, rfl⟩
  clear hw1 hw2 hw3 hw4 c2 HM HCH
  gi_wp2_with fail
  apply wpIn_rangeFunc_ownH rfl (by omega) (gf := 272) (lb := #[.pointer (some ⟨w.heap.size + 4, 0, none⟩)]) rfl trivial (enters_of Tryz.func272 (by kernel_rfl) rfl) (encs := fun x : Nx rs.length => #[.int .i64 x.1, cvv (ptc rs x)]) (Kp := Kn (SeqBB (w.heap.size + 4) (.slice la ln lk))) SEQ.out Kn.trans (kn_b (S := SeqBB (w.heap.size + 4) (.slice la ln lk)) (fun g hg => by
      rcases hg with e | e
      · omega
      · have := HVB.out g e; omega)) (Below.refl _ _) (fun _ => rfl)
    (fun pre W => Below W0.heap.size W0 W ∧ ∀ y ∈ pre, Tm.get (ptc rs y).l key = none)
    (fun c pre W => c = .ret ∧ (∃ (pre' : List (Nx rs.length)) (x : Nx rs.length) (o : Ov), pre = pre' ++ [x] ∧ (∀ y ∈ pre', Tm.get (ptc rs y).l key = none) ∧ Tm.get (ptc rs x).l key = some o ∧ (W.heap[w.heap.size + 1]? = some (.cells #[.string o.v] 9 (0, 0)) ∧ W.heap[w.heap.size + 2]? = some (.cells #[.bool true] 4 (0, 0)) ∧ W.heap[w.heap.size + 3]? = some (.cells #[.bool o.p] 4 (0, 0)))) ∧ Below w.heap.size w W)
    (fun s X Y row hs hg hr => ⟨hs.1.grown hg hs.1.size fun k e => (hr k e).1, hs.2⟩)
    (fun c s X Y row hs hg hr => by
      obtain ⟨h1, ⟨pre', x, o, h2, h3, h4, h5, h6, h7⟩, h8⟩ := hs
      have st : ∀ g, g < w.heap.size + 5 → g < X.heap.size → Y.heap[g]? = X.heap[g]? := fun g hg1 hg2 => hg.block g hg2 fun e => by have := (hr g e.symm).1; omega
      exact ⟨h1, ⟨pre', x, o, h2, h3, h4, (st _ (by omega) (blk_lt h5)).trans h5, (st _ (by omega) (blk_lt h6)).trans h6, (st _ (by omega) (blk_lt h7)).trans h7⟩, h8.grown hg h8.size fun k e => by have := (hr k e).1; omega⟩)
    ⟨Below.refl _ _, fun y hy => by simp at hy⟩
    (fun x a' W => ∃ q, a' = { tmps := #[.pointer (some ⟨p, 0, none⟩), .string key, undef, .pointer (some ⟨w.heap.size, 0, none⟩), .pointer (some ⟨w.heap.size + 1, 0, none⟩), .pointer (some ⟨w.heap.size + 2, 0, none⟩), .pointer (some ⟨w.heap.size + 3, 0, none⟩), undef, .pointer (some ⟨q, 0, none⟩), undef, undef, .pointer (some ⟨p, 0, none⟩), .bool true, .bool false, .pointer (some ⟨p, 0, none⟩), .pointer (some ⟨p, 0, none⟩), .pointer (some ⟨p, 2, none⟩), .slice la ln lk, .func (.func 272) #[] #[.pointer (some ⟨w.heap.size + 4, 0, none⟩)], .int .i64 x.1, cvv (ptc rs x), undef, undef, undef, undef, undef, undef, undef, undef, undef, undef, undef, undef, undef, undef, undef, undef, undef, undef, undef, undef], defers := [] } ∧ W.heap[q]? = some (.cells #[.int .i64 (ptc rs x).e, .int .i64 (ptc rs x).n, (ptc rs x).v] 187 (0, 0)) ∧ w.heap.size + 5 ≤ q)
    (fun x a' s X Y row hs hg hr => by
      obtain ⟨q, h1, h2, h3⟩ := hs
      refine ⟨q, h1, (hg.block q (blk_lt h2) fun e => ?_).trans h2, h3⟩
      obtain ⟨_, o, h3, h4⟩ := hr q e.symm
      rw [h2] at h3
      cases h3
      simp [Obj.isCells] at h4)
  case hassign =>
    rintro l0 pre x W K ⟨hI, hN⟩ hK
    obtain ⟨c, hc⟩ : ∃ c, ptc rs x = c := ⟨_, rfl⟩
    rw [hc] at hK ⊢
    unfold cvv at hK ⊢
    have hcv : ∃ a n k, c.v = .slice a n k := by
      have := HQ.out x W hI
      rw [hc] at this
      obtain ⟨a1, k1, h1, _⟩ := this.shape
      exact ⟨a1, _, k1, h1⟩
    obtain ⟨ca, cn, ck, hcv⟩ := hcv
    have hz := hI.size
    obtain ⟨V, hV, hV2, szV, bV, BV, x0, x1, x2⟩ := new_step W 187 (.int .i64 0) (.int .i64 0) (.slice none 0 0) (.int .i64 c.e) (.int .i64 c.n) c.v
    have HKK := hide (hK _ V ((KeepsOthers.from ⟨bV.size, fun k o hk _ => (bV.block k (blk_lt hk)).trans hk⟩ _)) (fun g hg => bV.block g (by
      rcases hg with e | e
      · omega
      · have := HVB.out g e; omega)) ⟨hI.trans (bV.mono hz), hN⟩ ⟨W.heap.size, rfl, BV, by omega⟩)
    rw [hcv] at hV hV2 x2 HKK ⊢
    clear hK hI bV BV
    gi_wp2
    exact HKK.out
  case hbody =>
    rintro l0 pre x a' W hl0 _ ⟨hI, hN⟩ ⟨q, rfl, hq, hq5⟩ hlt0
    have hz := hI.size
    have hio := HQ.out x W hI
    obtain ⟨hup, hlen⟩ := HUP.out x
    obtain ⟨c, hc⟩ : ∃ c, ptc rs x = c := ⟨_, rfl⟩
    rw [hc] at hq hio hup hlen ⊢
    have hlt : ∀ g, g < w.heap.size + 5 → W.heap[g]? = W0.heap[g]? := fun g hg => hI.block g (by omega)
    have e0 := (hlt _ (by omega)).trans DD.out.1
    have e1 := (hlt _ (by omega)).trans DD.out.2.1
    have e2 := (hlt _ (by omega)).trans DD.out.2.2.1
    have e3 := (hlt _ (by omega)).trans DD.out.2.2.2
    have x0 : W.cell? ⟨w.heap.size, 0, none⟩ = some (.string key) := blk_cell e0 0 rfl
    have q2 : W.cell? ⟨q, 2, none⟩ = some c.v := blk_cell hq 2 rfl
    have HBS := hide (bsearch_any c.v c.l key W hio hup hlen)
    have HIO := hide hio
    have HC := hide hc
    have HEE := hide (And.intro e1 (And.intro e2 (And.intro e3 hq)))
    have HI := hide hI
    have HN := hide hN
    have hq' := blk_lt hq
    clear hio hup e0 e1 e2 e3 hI hN hlt hq hc
    gi_wp2_with fail
    refine ⟨trivial, (CallsIn.inRound l0 (callsIn_wide.2 HBS.out)).mono ?_⟩
    rintro E w5 ⟨i, f, rfl, bel5, FR⟩
    have sz5' := bel5.size
    have b05 := hide (HI.out.trans (bel5.mono hz))
    have KO := hide (show KeepsOthers W w5 from ⟨bel5.size, fun k o hk _ => (bel5.block k (blk_lt hk)).trans hk⟩)
    cases f with
    | false =>
      have NN : Hid (∀ y ∈ pre ++ [x], Tm.get (ptc rs y).l key = none) := hide fun y hy => by
        rcases List.mem_append.1 hy with hy | hy
        · exact HN.out y hy
        · rw [List.mem_singleton.1 hy, HC.out]
          rcases FR.out with ⟨h, _⟩ | ⟨_, h⟩
          · cases h
          · exact h
      have HKN := hide (show Kn (SeqBB (w.heap.size + 4) (.slice la ln lk)) W w5 from fun g hg => bel5.block g (by
        rcases hg with e | e
        · omega
        · have := HVB.out g e; omega))
      clear bel5
      gi_wp2
      exact ⟨KO.out.from _, HKN.out, b05.out, NN.out⟩
    | true =>
      obtain ⟨o, ho, hget⟩ : ∃ o, c.l[i]? = some o ∧ Tm.get c.l key = some o := by
        rcases FR.out with ⟨_, h⟩ | ⟨h, _⟩
        · exact h
        · cases h
      have hil := (List.getElem?_eq_some_iff.1 ho).1
      obtain ⟨b1, o1, cq, hvx, _, _, hB, hcell⟩ := HIO.out.full (by omega)
      obtain ⟨d0, _, d2⟩ := hcell i o ho
      have g0 := (bel5.cell (p := ⟨b1, o1 + i * 3, none⟩) hB).trans d0
      have g2 := (bel5.cell (p := ⟨b1, o1 + i * 3 + 2, none⟩) hB).trans d2
      have e1 := (bel5.block _ (by omega)).trans HEE.out.1
      have e2 := (bel5.block _ (by omega)).trans HEE.out.2.1
      have e3 := (bel5.block _ (by omega)).trans HEE.out.2.2.1
      have eq := (bel5.block _ hq').trans HEE.out.2.2.2
      have q2' : w5.cell? ⟨q, 2, none⟩ = some c.v := blk_cell eq 2 rfl
      have r1 := blk_cell e1 0 rfl; have r2 := blk_cell e2 0 rfl; have r3 := blk_cell e3 0 rfl
      have f1 := blk_froz e1 0; have f2 := blk_froz e2 0; have f3 := blk_froz e3 0
      simp only [List.getElem_toArray, List.getElem_cons_zero] at r1 r2 r3
      obtain ⟨V, hV, v1, v2, v3, vz, vo, vO, vB⟩ := put_three e1 e2 e3 (by omega) (by omega) (by omega) (.string o.v) (.bool true) (.bool o.p)
      have hii : (i : Int) < c.l.length := by omega
      have hi0 : (0 : Int) ≤ (i : Int) := by omega
      have FIN : Hid (∀ V', V'.heap = V.heap → KeepsFrom W0.heap.size W V' ∧ ∃ (pre' : List (Nx rs.length)) (x' : Nx rs.length) (o' : Ov), pre ++ [x] = pre' ++ [x'] ∧ (∀ y ∈ pre', Tm.get (ptc rs y).l key = none) ∧ Tm.get (ptc rs x').l key = some o' ∧ (V'.heap[w.heap.size + 1]? = some (.cells #[.string o'.v] 9 (0, 0)) ∧ V'.heap[w.heap.size + 2]? = some (.cells #[.bool true] 4 (0, 0)) ∧ V'.heap[w.heap.size + 3]? = some (.cells #[.bool o'.p] 4 (0, 0)))) := hide fun V' hV' => by
        refine ⟨⟨by rw [hV', vz]; exact bel5.size, fun k ob hk1 hk2 hk3 => ?_⟩, pre, x, o, rfl, HN.out, by rw [HC.out]; exact hget, by rw [hV']; exact vB⟩
        rw [hV', vo k (by omega) (by omega) (by omega)]
        exact (bel5.block k (blk_lt hk2)).trans hk2
      have BV : Hid (Below w.heap.size w V) := hide (by
        have hh := HBEL.out.trans (b05.out.mono (by omega))
        exact hh.trans (vO.below (fun g hg => by omega) hh.size))
      clear bel5 d0 d2 hcell e1 e2 e3 eq HEE ho hget FR
      rw [hvx] at q2'
      have HVX := hide hvx
      have hbb : b1 < w.heap.size := HBK.out x b1 (by rw [HC.out, hvx]; rfl)
      have stc : ∀ (X : World) (g j : Nat), X.heap[g]? = w5.heap[g]? → X.cell? ⟨g, j, none⟩ = w5.cell? ⟨g, j, none⟩ := fun X g j h => cell_of_blk h j
      have n1 : ∀ g, g ≠ w.heap.size + 1 → (w5.setCell ⟨w.heap.size + 1, 0, none⟩ (.string o.v)).heap[g]? = w5.heap[g]? := fun g hg => Below.heap_setCell w5 ⟨w.heap.size + 1, 0, none⟩ _ g hg
      have n2 : ∀ g, g ≠ w.heap.size + 1 → g ≠ w.heap.size + 2 → ((w5.setCell ⟨w.heap.size + 1, 0, none⟩ (.string o.v)).setCell ⟨w.heap.size + 2, 0, none⟩ (.bool true)).heap[g]? = w5.heap[g]? := fun g hg hg2 => (Below.heap_setCell _ ⟨w.heap.size + 2, 0, none⟩ _ g hg2).trans (n1 g hg)
      have H1 := hide (show (w5.setCell ⟨w.heap.size + 1, 0, none⟩ (.string o.v)).cell? ⟨q, 2, none⟩ = some (.slice (some ⟨b1, o1, none⟩) c.l.length cq) ∧ (w5.setCell ⟨w.heap.size + 1, 0, none⟩ (.string o.v)).cell? ⟨b1, o1 + i * 3, none⟩ = some (.bool o.p) ∧ (w5.setCell ⟨w.heap.size + 1, 0, none⟩ (.string o.v)).cell? ⟨b1, o1 + i * 3 + 2, none⟩ = some (.string o.v) from
        ⟨(stc _ _ _ (n1 q (by omega))).trans q2', (stc _ _ _ (n1 b1 (by omega))).trans g0, (stc _ _ _ (n1 b1 (by omega))).trans g2⟩)
      have H2 := hide (show ((w5.setCell ⟨w.heap.size + 1, 0, none⟩ (.string o.v)).setCell ⟨w.heap.size + 2, 0, none⟩ (.bool true)).cell? ⟨q, 2, none⟩ = some (.slice (some ⟨b1, o1, none⟩) c.l.length cq) ∧ ((w5.setCell ⟨w.heap.size + 1, 0, none⟩ (.string o.v)).setCell ⟨w.heap.size + 2, 0, none⟩ (.bool true)).cell? ⟨b1, o1 + i * 3, none⟩ = some (.bool o.p) ∧ ((w5.setCell ⟨w.heap.size + 1, 0, none⟩ (.string o.v)).setCell ⟨w.heap.size + 2, 0, none⟩ (.bool true)).cell? ⟨b1, o1 + i * 3 + 2, none⟩ = some (.string o.v) from
        ⟨(stc _ _ _ (n2 q (by omega) (by omega))).trans q2', (stc _ _ _ (n2 b1 (by omega) (by omega))).trans g0, (stc _ _ _ (n2 b1 (by omega) (by omega))).trans g2⟩)
      have H3 := hide (show V.cell? ⟨q, 2, none⟩ = some (.slice (some ⟨b1, o1, none⟩) c.l.length cq) ∧ V.cell? ⟨b1, o1 + i * 3, none⟩ = some (.bool o.p) ∧ V.cell? ⟨b1, o1 + i * 3 + 2, none⟩ = some (.string o.v) from
        ⟨(stc _ _ _ (vo q (by omega) (by omega) (by omega))).trans q2', (stc _ _ _ (vo b1 (by omega) (by omega) (by omega))).trans g0, (stc _ _ _ (vo b1 (by omega) (by omega) (by omega))).trans g2⟩)
      clear stc n1 n2
      gi_wp2
      refine regionIn_way (ops := (regOf 7 Tryz.f163)) (S := (fun w' => w'.cell? ⟨q, 2, none⟩ = some (.slice (some ⟨b1, o1, none⟩) c.l.length cq) ∧ w'.cell? ⟨b1, o1 + i * 3, none⟩ = some (.bool o.p) ∧ w'.cell? ⟨b1, o1 + i * 3 + 2, none⟩ = some (.string o.v))) (by kernel_rfl) (by kernel_rfl) (by kernel_rfl) (fun ⟨_, _, h⟩ => h) (fun _ _ _ _ _ h => h) wyb_ord (by kernel_rfl) wyb_way ⟨q2', g0, g2⟩ ?_
      unfold wyb_ord
      refine seq_take (v := ?_) rfl rfl (by rfl) ?_ ?_
      rotate_left 1
      · intro w hS
        (try dsimp only at hS)
        go_simp
        all_goals with_reducible rfl
      simp only [Act.put, List.setIfInBounds_toArray, List.set_cons_zero, List.set_cons_succ]
      refine seq_take (v := ?_) rfl rfl (by rfl) ?_ ?_
      rotate_left 1
      · intro w hS
        (try dsimp only at hS)
        go_simp
        all_goals with_reducible rfl
      simp only [Act.put, List.setIfInBounds_toArray, List.set_cons_zero, List.set_cons_succ]
      refine seq_take (v := ?_) rfl rfl (by rfl) ?_ ?_
      rotate_left 1
      · intro w hS
        (try dsimp only at hS)
        go_simp
        all_goals with_reducible rfl
      simp only [Act.put, List.setIfInBounds_toArray, List.set_cons_zero, List.set_cons_succ]
      refine seq_take (v := ?_) rfl rfl (by rfl) ?_ ?_
      rotate_left 1
      · intro w hS
        (try dsimp only at hS)
        go_simp
        all_goals with_reducible rfl
      simp only [Act.put, List.setIfInBounds_toArray, List.set_cons_zero, List.set_cons_succ]
      refine seq_take (v := ?_) rfl rfl (by rfl) ?_ ?_
      rotate_left 1
      · intro w hS
        (try dsimp only at hS)
        go_simp
        all_goals with_reducible rfl
      simp only [Act.put, List.setIfInBounds_toArray, List.set_cons_zero, List.set_cons_succ]
      refine seq_take (v := ?_) rfl rfl (by rfl) ?_ ?_
      rotate_left 1
      · intro w hS
        (try dsimp only at hS)
        go_simp
        all_goals with_reducible rfl
      simp only [Act.put, List.setIfInBounds_toArray, List.set_cons_zero, List.set_cons_succ]
      refine seq_take (v := ?_) rfl rfl (by rfl) ?_ ?_
      rotate_left 1
      · intro w hS
        (try dsimp only at hS)
        go_simp
        all_goals with_reducible rfl
      simp only [Act.put, List.setIfInBounds_toArray, List.set_cons_zero, List.set_cons_succ]
      refine seq_take (v := ?_) rfl rfl (by rfl) ?_ ?_
      rotate_left 1
      · intro w hS
        (try dsimp only at hS)
        go_simp
        all_goals with_reducible rfl
      simp only [Act.put, List.setIfInBounds_toArray, List.set_cons_zero, List.set_cons_succ]
      refine seq_take (v := ?_) rfl rfl (by rfl) ?_ ?_
      rotate_left 1
      · intro w hS
        (try dsimp only at hS)
        go_simp
        all_goals with_reducible rfl
      simp only [Act.put, List.setIfInBounds_toArray, List.set_cons_zero, List.set_cons_succ]
      refine seq_take (v := ?_) rfl rfl (by rfl) ?_ ?_
      rotate_left 1
      · intro w hS
        (try dsimp only at hS)
        go_simp
        all_goals with_reducible rfl
      simp only [Act.put, List.setIfInBounds_toArray, List.set_cons_zero, List.set_cons_succ]
      refine seq_take (v := ?_) rfl rfl (by rfl) ?_ ?_
      rotate_left 1
      · intro w hS
        (try dsimp only at hS)
        go_simp
        all_goals with_reducible rfl
      simp only [Act.put, List.setIfInBounds_toArray, List.set_cons_zero, List.set_cons_succ]
      refine seq_take (v := ?_) rfl rfl (by rfl) ?_ ?_
      rotate_left 1
      · intro w hS
        (try dsimp only at hS)
        go_simp
        all_goals with_reducible rfl
      simp only [Act.put, List.setIfInBounds_toArray, List.set_cons_zero, List.set_cons_succ]
      refine seq_meet rfl (by rfl) (fun K hK => ?_)
      go_simp
      refine hK.out _ _ H1.out ?_
      clear hK K
      try simp only [Act.put, List.setIfInBounds_toArray, List.set_cons_zero, List.set_cons_succ]
      refine seq_meet rfl (by rfl) (fun K hK => ?_)
      go_simp
      refine hK.out _ _ H2.out ?_
      clear hK K
      try simp only [Act.put, List.setIfInBounds_toArray, List.set_cons_zero, List.set_cons_succ]
      refine seq_meet rfl (by rfl) (fun K hK => ?_)
      go_simp
      refine hK.out _ _ H3.out ?_
      clear hK K
      try simp only [Act.put, List.setIfInBounds_toArray, List.set_cons_zero, List.set_cons_succ]
      unfold seqW
      gi_wp2
      exact ⟨(FIN.out V.drew rfl).1, rfl, (FIN.out V.drew rfl).2, BV.out.drew⟩
  case hdone =>
    rintro D xs W hD rfl ⟨hI, hN⟩ hK
    have hz := hI.size
    have hlt : ∀ g, g < w.heap.size + 5 → W.heap[g]? = W0.heap[g]? := fun g hg => hI.block g (by omega)
    have e1 := (hlt _ (by omega)).trans DD.out.2.1
    have e2 := (hlt _ (by omega)).trans DD.out.2.2.1
    have e3 := (hlt _ (by omega)).trans DD.out.2.2.2
    have hnone : Tm.get (Rl.tab l) key = none := by
      rw [tab_none HIS.out HGD.out key rs.length (Nat.le_refl _) hN, Nat.sub_self, List.take_zero]
      exact tab_nil key
    obtain ⟨a1, a2, a3⟩ := gets_none hnone
    have HAA := hide (And.intro a1 (And.intro a2 a3))
    have r1 := blk_cell e1 0 rfl; have r2 := blk_cell e2 0 rfl; have r3 := blk_cell e3 0 rfl
    have f1 := blk_froz e1 0; have f2 := blk_froz e2 0; have f3 := blk_froz e3 0
    simp only [List.getElem_toArray, List.getElem_cons_zero] at r1 r2 r3
    have s1 : W.setCell ⟨w.heap.size + 1, 0, none⟩ (.string ⟨#[]⟩) = W := set_same e1 (j := 0) rfl
    have s2 : W.setCell ⟨w.heap.size + 2, 0, none⟩ (.bool false) = W := set_same e2 (j := 0) rfl
    have s3 : W.setCell ⟨w.heap.size + 3, 0, none⟩ (.bool false) = W := set_same e3 (j := 0) rfl
    have HKD := hide hK
    have hD' : w.heap.size ≤ D := by omega
    have BW := hide (HBEL.out.trans (hI.mono (by omega)))
    clear hI hN hlt hK hnone a1 a2 a3
    gi_wp2
    refine ⟨by simp, .inl ⟨_, _, rfl, run_takeDeferred HKD.out, ?_⟩⟩
    have k1 := cell_kept r1 (grownBy_putObj' _ D (.deferred none)) (fun r e => by cases e; exact ⟨_, HKD.out, rfl⟩)
    have k2 := cell_kept r2 (grownBy_putObj' _ D (.deferred none)) (fun r e => by cases e; exact ⟨_, HKD.out, rfl⟩)
    have k3 := cell_kept r3 (grownBy_putObj' _ D (.deferred none)) (fun r e => by cases e; exact ⟨_, HKD.out, rfl⟩)
    refine ⟨.tuple #[.string ⟨#[]⟩, .bool false, .bool false], ?_, by rw [HAA.out.1, HAA.out.2.1, HAA.out.2.2], BW.out.grown (grownBy_putObj' _ D (.deferred none)) BW.out.size fun k e => by cases e; exact hD'⟩
    simp [results, Tryz.results163, go_sem, k1, k2, k3]
  case hstop =>
    rintro D c pre W hD ⟨k0, hk1, hk2⟩ ⟨rfl, ⟨pre', x, o, hp, hN, hO, e1, e2, e3⟩, hB⟩ hK
    have hsome : Tm.get (Rl.tab l) key = some o := tab_some HIS.out HGD.out key hk1 (by rw [← hk2]; exact hp) hN hO
    obtain ⟨a1, a2, a3⟩ := gets_some hsome
    have HAA := hide (And.intro a1 (And.intro a2 a3))
    have r1 := blk_cell e1 0 rfl; have r2 := blk_cell e2 0 rfl; have r3 := blk_cell e3 0 rfl
    simp only [List.getElem_toArray, List.getElem_cons_zero] at r1 r2 r3
    have HKD := hide hK
    have hD' : w.heap.size ≤ D := by omega
    have BW := hide hB
    clear hB hK hsome a1 a2 a3 e1 e2 e3 hp hN hO hk2
    gi_wp2
    refine ⟨by simp, .inl ⟨_, _, rfl, run_takeDeferred HKD.out, ?_⟩⟩
    have k1 := cell_kept r1 (grownBy_putObj' _ D (.deferred none)) (fun r e => by cases e; exact ⟨_, HKD.out, rfl⟩)
    have k2 := cell_kept r2 (grownBy_putObj' _ D (.deferred none)) (fun r e => by cases e; exact ⟨_, HKD.out, rfl⟩)
    have k3 := cell_kept r3 (grownBy_putObj' _ D (.deferred none)) (fun r e => by cases e; exact ⟨_, HKD.out, rfl⟩)
    refine ⟨.tuple #[.string o.v, .bool true, .bool o.p], ?_, by rw [HAA.out.1, HAA.out.2.1, HAA.out.2.2], BW.out.grown (grownBy_putObj' _ D (.deferred none)) BW.out.size fun k e => by cases e; exact hD'⟩
    simp [results, Tryz.results163, go_sem, k1, k2, k3]

end Go.Proofs.YtajlhdmnincehaaGreatDoor

/- The chapter's example of runs, and that the program lives. -/
namespace Go.Proofs.YtajlhdmnincehaaGreatDoor
open Go.RowKit
open Bm (Ov)
set_option linter.unusedVariables false








theorem hget_any (p q : Nat) (F : Nat → Prop) (w : World) (s : Rl.Rs) (key : ByteArray) (h : RW p q F w s) :
    Calls Tryz.prog 163 #[.pointer (some ⟨p, 0, none⟩), .string key] w fun E w' => E = .returned (.tuple #[.string (gv (Rl.tab s.l) key), .bool (Tm.met (Rl.tab s.l) key), .bool (gp (Rl.tab s.l) key)]) ∧ Below w.heap.size w w' := by
  obtain ⟨F1, G1, h1, ⟨v, rs, hv, _⟩, _⟩ := h
  exact hget_v p q w s.l s.bk v rs key hv




end Go.Proofs.YtajlhdmnincehaaGreatDoor

/- Of a store: its end, its last epoch, whether it is one, what it tells of a key. -/
namespace Go.Proofs.YtajlhdmnincehaaGreatDoor
open Go.RowKit
open Bm (Ov)
set_option linter.unusedVariables false

theorem new_cell (w : World) (t : TypeId) (x a : Value) : ∃ V, (w.alloc (.cells #[x] t)).setCell ⟨w.heap.size, 0, none⟩ a = V ∧ w.alloc (.cells #[a] t) = V ∧ V.heap.size = w.heap.size + 1 ∧ Below w.heap.size w V ∧ V.heap[w.heap.size]? = some (.cells #[a] t (0, 0)) ∧ V.cell? ⟨w.heap.size, 0, none⟩ = some a := by
  obtain ⟨V, hV, sz, bel, hB⟩ := blk_step w #[a] t
  refine ⟨V, ?_, hV, sz, bel, hB, blk_cell hB 0 rfl⟩
  rw [← hV]
  simp [go_sem]

theorem last_epoch {l : List Cm.Cv} {k : Nat} {c : Cm.Cv} (hk : l[k]? = some c) (hl : l.length = k + 1) (e : Int) : Cm.lastE e l = c.e := by
  rcases List.eq_nil_or_concat l with rfl | ⟨r, d, rfl⟩
  · simp at hk
  · rw [List.concat_eq_append] at hk hl ⊢
    rw [List.length_append, List.length_singleton] at hl
    obtain rfl : r.length = k := by omega
    rw [(Cm.last_snoc r d e 0).1]
    simp at hk
    rw [hk]

theorem send_any (ps p q : Nat) (F : Nat → Prop) (w : World) (s : Sto.Ss) (h : SW ps p q F w s) :
    Calls Tryz.prog 209 #[.pointer (some ⟨ps, 0, none⟩)] w fun E w' => E = .returned (.int .i64 (Sto.fin s)) ∧ ∃ m, w' = w.drewN m := by
  obtain ⟨F1, G1, h1, ⟨pm, bm, v, rs, hs, _⟩, _, ok, _⟩ := h
  have HE : Hid (∀ m, Calls Tryz.prog 137 #[.pointer (some ⟨p, 0, none⟩)] (w.drewN m) fun E w' => E = .returned (.int .i64 (Cm.lastN 0 s.r.l)) ∧ ∃ q, w' = (w.drewN m).drewN q) := hide fun m =>
    (hrend_any p q F1 (w.drewN m) s.r (h1.below (below_drewN (Below.refl _ _) m))).mono fun E w' h => ⟨h.1, 0, by rw [← h.2]; rfl⟩
  have c0 := blk_cell hs.blk 0 rfl
  have c1 := blk_cell hs.blk 1 rfl
  simp only [List.getElem_toArray, List.getElem_cons_zero, List.getElem_cons_succ] at c0 c1
  obtain ⟨ao, cap, hv, _, _⟩ := hs.rest.row.row.shape
  obtain ⟨b1, b2, b3, b4⟩ := ok.bound
  have hl := hs.rest.len
  unfold Sto.fin
  rw [hl] at hv
  have hw : IntKind.i64.wrap (Cm.lastN 0 s.r.l + (s.l.length : Int)) = Cm.lastN 0 s.r.l + (s.l.length : Int) := wrap_i64_small _ (by omega) (by omega)
  generalize Cm.lastN 0 s.r.l = z at *
  generalize s.l.length = n at *
  subst hv
  clear hs h1 ok hl
  go_enter Tryz.func209, Tryz.ntmps209
  go_wp2_with fail
  go_quiet ((go_at_call 137; refine Calls.quiet_of (HE.out _)))
  go_wp2
  go_ret
  exact ⟨rfl, _, rfl⟩

theorem sepo_any (ps p q : Nat) (F : Nat → Prop) (w : World) (s : Sto.Ss) (h : SW ps p q F w s) :
    Calls Tryz.prog 223 #[.pointer (some ⟨ps, 0, none⟩)] w fun E w' => E = .returned (.int .i64 (Cm.lastE 1 s.l)) ∧ ∃ m, w' = w.drewN m := by
  obtain ⟨F1, G1, h1, ⟨pm, bm, v, rs, hs, _⟩, _, ok, _⟩ := h
  have c1 := blk_cell hs.blk 1 rfl
  simp only [List.getElem_toArray, List.getElem_cons_zero, List.getElem_cons_succ] at c1
  have hfew := hs.rest.few
  rw [← hs.rest.len] at hfew
  rw [← hs.rest.is]
  have h := hs.rest.row.row
  by_cases h0 : rs.length = 0
  · have hr : rs = [] := List.eq_nil_of_length_eq_zero h0
    subst hr
    obtain ⟨ao, cap, rfl, _, _⟩ := h.shape
    clear h hs h1 ok
    go_enter Tryz.func223, Tryz.ntmps223
    go_wp2
    go_ret
    exact ⟨rfl, 0, rfl⟩
  · obtain ⟨k, hk⟩ : ∃ k, rs.length = k + 1 := ⟨rs.length - 1, by omega⟩
    obtain ⟨g, off, cap, rfl, _, _, _, hcell⟩ := h.full (by omega)
    obtain ⟨c, hck⟩ : ∃ c, rs[k]? = some c := ⟨rs[k]'(by omega), by rw [List.getElem?_eq_getElem]⟩
    obtain ⟨d0, _, _⟩ := hcell k c hck
    have hL : Cm.lastE 1 (cvs rs) = c.e := last_epoch (k := k) (c := c.c) (by unfold cvs; rw [List.getElem?_map, hck]; rfl) (by unfold cvs; rw [List.length_map]; exact hk) 1
    rw [hL]
    rw [hk] at c1
    have hne : (((k + 1 : Nat) : Int) == 0) = false := by simp; omega
    have hw : IntKind.i64.wrap (((k + 1 : Nat) : Int) - 1) = (k : Int) := by rw [wrap_i64_small _ (by omega) (by omega)]; omega
    have hk1 : (k : Int) < ((k + 1 : Nat) : Int) := by omega
    have hk0 : (0 : Int) ≤ (k : Int) := by omega
    have hw2 : IntKind.i64.wrap (k : Int) = (k : Int) := wrap_i64_small _ (by omega) (by omega)
    have hk2 : (k : Int) < (k : Int) + 1 := by omega
    generalize c.e = z at *
    clear h hs h1 ok hcell hck hL hk hfew h0
    go_enter Tryz.func223, Tryz.ntmps223
    go_wp2
    go_region
    go_wp2
    go_ret
    exact ⟨rfl, 1, rfl⟩

/-- Nothing is behind the runs' end already. -/
theorem catch_any (ps p q : Nat) (F : Nat → Prop) (w : World) (s : Sto.Ss) (h : SW ps p q F w s) :
    Calls Tryz.prog 160 #[.pointer (some ⟨ps, 0, none⟩)] w fun E w' => (∃ u, E = .returned u) ∧ Below w.heap.size w w' := by
  obtain ⟨F1, G1, h1, ⟨pm, bm, v, rs, hs, _⟩, _, ok, _⟩ := h
  have HE := hide (hrend_any p q F1 w s.r h1)
  have c0 := blk_cell hs.blk 0 rfl
  have hfew := hs.rest.few
  have hrow := hs.rest.row.row
  obtain ⟨V, hV1, hV, szV, bV, BV, cV⟩ := new_cell w 3 (.int .i64 0) (.int .i64 (Cm.lastN 0 s.r.l))
  have d1 := blk_cell (hs.below bV).blk 1 rfl
  simp only [List.getElem_toArray, List.getElem_cons_zero, List.getElem_cons_succ] at c0 d1
  have hgd := ok.rest
  rw [← hs.rest.is] at hgd
  generalize Cm.lastN 0 s.r.l = z at *
  by_cases h0 : rs.length = 0
  · have hr : rs = [] := List.eq_nil_of_length_eq_zero h0
    subst hr
    obtain ⟨ao, cap, rfl, _, _⟩ := hrow.shape
    have B := hide bV
    clear hrow hs h1 ok hgd bV BV h0
    go_enter Tryz.func160, Tryz.ntmps160
    go_wp2_with fail
    refine HE.out.mono ?_
    rintro E w1 ⟨rfl, rfl⟩
    go_wp2_with fail
    go_quiet (fail)
    go_wp2
    refine bodyPost_ret (results_none rfl _ _ _) rfl ?_
    exact ⟨⟨_, rfl⟩, below_drewN B.out _⟩
  · obtain ⟨c, hck⟩ : ∃ c, rs[0]? = some c := ⟨rs[0]'(by omega), by rw [List.getElem?_eq_getElem]⟩
    obtain ⟨g, off, cap, rfl, _, _, hg, hcell⟩ := hrow.full (by omega)
    obtain ⟨_, e1, _⟩ := hcell 0 c hck
    have hn : z < c.n := by
      obtain ⟨_, h2, _, _⟩ := Cm.good_at _ _ _ 0 c.c hgd (by unfold cvs; rw [List.getElem?_map, hck]; rfl)
      have : c.c.n = c.n := rfl
      omega
    have e1' : V.cell? ⟨g, off + 1, none⟩ = some (.int .i64 c.n) := (bV.cell (p := ⟨g, off + 1, none⟩) hg).trans (by simpa using e1)
    have hlen : ((rs.length : Int) == 0) = false := beq_eq_false_iff_ne.2 (by omega)
    have hl0 : (0 : Int) < rs.length := by omega
    generalize rs.length = n at *
    generalize c.n = x at *
    have B := hide bV
    clear hrow hs h1 ok hgd bV BV h0 hcell hck e1
    go_enter Tryz.func160, Tryz.ntmps160
    go_wp2_with fail
    refine HE.out.mono ?_
    rintro E w1 ⟨rfl, rfl⟩
    go_wp2_with fail
    go_quiet (fail)
    go_wp2
    refine bodyPost_ret (results_none rfl _ _ _) rfl ?_
    exact ⟨⟨_, rfl⟩, below_drewN B.out _⟩

theorem sready_any (ps p q : Nat) (F : Nat → Prop) (w : World) (s : Sto.Ss) (h : SW ps p q F w s) :
    Calls Tryz.prog 108 #[.pointer (some ⟨ps, 0, none⟩)] w fun E w' => E = .returned (.bool true) ∧ Below w.heap.size w w' := by
  have HC := hide (catch_any ps p q F w s h)
  obtain ⟨F1, G1, h1, ⟨pm, bm, v, rs, hs, _⟩, _, ok, _⟩ := h
  have c0 := blk_cell hs.blk 0 rfl
  simp only [List.getElem_toArray, List.getElem_cons_zero] at c0
  clear hs h1 ok
  go_enter Tryz.func108, Tryz.ntmps108
  go_wp2_with fail
  refine HC.out.mono ?_
  rintro E w1 ⟨⟨u, rfl⟩, b1⟩
  go_wp2
  go_ret
  exact ⟨rfl, b1⟩

/-- What a store tells of a key. -/
theorem fold_v (s : Sto.Ss) (k : ByteArray) : gv (Sto.fold s) k = (if Tm.met (Rl.tab s.l) k = true then gv (Rl.tab s.l) k else gv (Rl.tab s.r.l) k) ∧ gp (Sto.fold s) k = (if Tm.met (Rl.tab s.l) k = true then gp (Rl.tab s.l) k else gp (Rl.tab s.r.l) k) := by
  unfold gv gp
  rw [Sto.fold_get, Tm.met_get]
  cases Tm.get (Rl.tab s.l) k with
  | none => simp
  | some o => simp

theorem slook_any (ps p q B : Nat) (F : Nat → Prop) (w : World) (s : Sto.Ss) (k : ByteArray) (h : SW ps p q F w s) (hk : k.size ≤ 140737488355328) (hB : w.heap[B]? = some (.cells #[.pointer (some ⟨ps, 0, none⟩)] 103 (0, 0))) :
    Calls Tryz.prog 161 #[.string k, .pointer (some ⟨B, 0, none⟩)] w fun E w' => E = .returned (.tuple #[.string (gv (Sto.fold s) k), .bool (gp (Sto.fold s) k)]) ∧ Below w.heap.size w w' := by
  have hx := h
  obtain ⟨F1, G1, h1, ⟨pm, bm, v, rs, hs, _⟩, _, ok, _⟩ := hx
  have c0 := blk_cell hs.blk 0 rfl
  have c2 := blk_cell hs.blk 2 rfl
  have cB := blk_cell hB 0 rfl
  simp only [List.getElem_toArray, List.getElem_cons_zero, List.getElem_cons_succ] at c0 c2 cB
  have HT := hide (tget_any pm bm w _ k hs.tb hk)
  obtain ⟨e1, e2⟩ := fold_v s k
  rw [e1, e2]
  have HR : Hid (∀ W, Below w.heap.size w W → Calls Tryz.prog 163 #[.pointer (some ⟨p, 0, none⟩), .string k] W fun E w' => E = .returned (.tuple #[.string (gv (Rl.tab s.r.l) k), .bool (Tm.met (Rl.tab s.r.l) k), .bool (gp (Rl.tab s.r.l) k)]) ∧ Below W.heap.size W w') := hide fun W hb => hget_any p q F1 W s.r k (h1.below hb)
  have hps := blk_lt hs.blk
  have hBB := blk_lt hB
  generalize Tm.met (Rl.tab s.l) k = mt at *
  generalize gv (Rl.tab s.l) k = va at *
  generalize gp (Rl.tab s.l) k = pa at *
  generalize gv (Rl.tab s.r.l) k = vb at *
  generalize gp (Rl.tab s.r.l) k = pb at *
  generalize Tm.met (Rl.tab s.r.l) k = mb at *
  clear hs h1 ok h hB e1 e2
  cases mt with
  | true =>
    simp only [if_true]
    go_enter Tryz.func161, Tryz.ntmps161
    go_wp2_with fail
    refine HT.out.mono ?_
    rintro E w1 ⟨rfl, b1⟩
    go_wp2
    go_ret2
    exact ⟨rfl, b1⟩
  | false =>
    simp only [Bool.false_eq_true, if_false]
    go_enter Tryz.func161, Tryz.ntmps161
    go_wp2_with fail
    refine HT.out.mono ?_
    rintro E w1 ⟨rfl, b1⟩
    have x0 := (b1.cell (p := ⟨ps, 0, none⟩) hps).trans c0
    have xB := (b1.cell (p := ⟨B, 0, none⟩) hBB).trans cB
    have HR1 := hide (HR.out w1 b1)
    go_wp2_with fail
    refine HR1.out.mono ?_
    rintro E w2 ⟨rfl, b2⟩
    go_wp2
    go_ret2
    exact ⟨rfl, b1.trans (b2.mono b1.size)⟩

theorem sget_any (ps p q : Nat) (F : Nat → Prop) (w : World) (s : Sto.Ss) (k : ByteArray) (h : SW ps p q F w s) (hk : k.size ≤ 140737488355328) :
    Calls Tryz.prog 56 #[.pointer (some ⟨ps, 0, none⟩), .string k] w fun E w' => E = .returned (.tuple #[.string (gv (Sto.fold s) k), .bool (gp (Sto.fold s) k)]) ∧ Below w.heap.size w w' := by
  have HC := hide (sready_any ps p q F w s h)
  have HS := hide h
  clear h
  go_enter Tryz.func56, Tryz.ntmps56
  go_wp2_with fail
  refine HC.out.mono ?_
  rintro E w1 ⟨rfl, b1⟩
  obtain ⟨V, hV, szV, bV, BV⟩ := blk_step w1 #[.pointer (some ⟨ps, 0, none⟩)] 103
  have HL := hide (slook_any ps p q w1.heap.size F V s k ((HS.out.below b1).below bV) hk BV)
  have HK : Hid (Calls Tryz.prog 109 #[.pointer (some ⟨ps, 0, none⟩)] w1 fun E w' => E = .returned (.func (.func 161) #[] #[.pointer (some ⟨w1.heap.size, 0, none⟩)]) ∧ V = w') := hide (by
    clear HL HS HC BV bV
    go_enter Tryz.func109, Tryz.ntmps109
    go_wp2
    go_ret
    exact ⟨rfl, rfl⟩)
  have B1 := hide (b1.trans (bV.mono b1.size))
  clear BV bV hV HC b1
  go_wp2_with fail
  refine HK.out.mono ?_
  rintro E w2 ⟨rfl, rfl⟩
  go_wp2_with fail
  refine HL.out.mono ?_
  rintro E w3 ⟨rfl, b3⟩
  go_wp2
  go_ret2
  exact ⟨rfl, B1.out.trans (b3.mono B1.out.size)⟩

end Go.Proofs.YtajlhdmnincehaaGreatDoor

/- Of a store: the table of commits; the commits that runs have are left out of the rest (slices.DeleteFunc). -/
namespace Go.Proofs.YtajlhdmnincehaaGreatDoor
open Go.RowKit
open Bm (Ov)
set_option linter.unusedVariables false

theorem cvs_next {rs : List Cw} {k : Nat} {c : Cw} (h : rs[k]? = some c) : cvs (rs.take (k + 1)) = cvs (rs.take k) ++ [c.c] := by
  obtain ⟨h1, h2⟩ := List.getElem?_eq_some_iff.1 h
  rw [List.take_succ_eq_append_getElem h1, h2]
  simp [cvs]

theorem tab_aft {l : List Cm.Cv} {c : Cm.Cv} (h : Cm.chk c.e c.n c.l = 0) : Tm.aft (Rl.tab l) c.l = Rl.tab (l ++ [c]) ∧ Bm.first c.l = 0 := by
  have h1 : Bm.first c.l = 0 := Bm.first_all (Bm.chkL_zero (Cm.chk_zero h).2.2.2.2).2.2
  unfold Tm.aft
  rw [if_pos h1, Rl.tab_snoc]
  exact ⟨rfl, h1⟩









end Go.Proofs.YtajlhdmnincehaaGreatDoor

/- Of a store: a commit is put behind the rest; the rest catches up with the runs. -/
namespace Go.Proofs.YtajlhdmnincehaaGreatDoor
open Go.RowKit
open Bm (Ov)
set_option linter.unusedVariables false

theorem Tryz.enters83 : ∀ args w, (callFunc 83 args).run Tryz.prog w = .ok (.enter 83 args) w := enters_of Tryz.func83 (by kernel_rfl) rfl

/-- The object with a longer rest, its table as it was. -/
structure StP (ps p pm bm : Nat) (w : World) (l : List Cm.Cv) (v : Value) (rs : List Cw) (t : List Ov) : Prop where
  blk : w.heap[ps]? = some (.cells #[.pointer (some ⟨p, 0, none⟩), v, .pointer (some ⟨pm, 0, none⟩)] 206 (0, 0))
  rest : Rt 0 w l v rs
  tb : Tb pm bm w t

theorem Tb.bne {pm bm : Nat} {w : World} {t : List Ov} (h : Tb pm bm w t) {g : Nat} {cs : Array Value} {ty : TypeId} {fr : Nat × Nat} (hg : w.heap[g]? = some (.cells cs ty fr)) : g ≠ bm := fun e => by
  obtain ⟨es, clock, hb, _⟩ := h.own
  rw [e, hb] at hg
  cases hg

theorem Tb.pne {pm bm : Nat} {w : World} {t : List Ov} (h : Tb pm bm w t) {g : Nat} {cs : Array Value} {ty : TypeId} {fr : Nat × Nat} (hg : w.heap[g]? = some (.cells cs ty fr)) (ht : ty ≠ 267) : g ≠ pm := fun e => by
  have := h.blk
  rw [← e, hg] at this
  simp only [Option.some.injEq, Obj.cells.injEq] at this
  exact ht this.2.1

/-- A table's blocks are none of the rest's. -/
theorem tb_rt {pm bm base : Nat} {w : World} {t : List Ov} {l : List Cm.Cv} {v : Value} {rs : List Cw} (h : Tb pm bm w t) (k : Rt base w l v rs) : ¬ QB v rs pm ∧ ¬ QB v rs bm := by
  refine ⟨fun e => ?_, fun e => ?_⟩
  · exact k.ne h.blk (by decide) (by decide) e
  · obtain ⟨cs, ty, hg, _⟩ := k.ty bm e
    exact h.bne hg rfl

/-- A commit more, put into the object. -/
theorem sk_push {ps p pm bm : Nat} {w wc : World} {l : List Cm.Cv} {v : Value} {rs : List Cw} {c : Cw} (hv : StV ps p pm bm w l v rs) (hb : Below w.heap.size w wc) (hc : OwnO 88 w.heap.size wc c.v c.l) (hg : Cm.chk c.e c.n c.l = 0) (hn : l.length + 1 ≤ 1048576) (ty : TypeId) :
    ∃ V, wc.alloc (.cells #[.int .i64 c.e, .int .i64 c.n, c.v] 93) = V ∧ V.cell? ⟨ps, 1, none⟩ = some v ∧ ∃ v2 w2, (Builtin.append_ #[25, 25] ty #[v, .slice (some ⟨wc.heap.size, 0, none⟩) 1 1]).run Tryz.prog V = .ok v2 w2 ∧ w2.cell? ⟨ps, 1, none⟩ = some v ∧ w2.frozen? ⟨ps, 1, none⟩ = false ∧ (∃ a n k, v2 = .slice a n k) ∧
      StP ps p pm bm (w2.setCell ⟨ps, 1, none⟩ v2) (l ++ [c.c]) v2 (rs ++ [c]) (Rl.tab l) ∧ Out (fun g => g = ps ∨ v.ownBlock = some g) w (w2.setCell ⟨ps, 1, none⟩ v2) ∧ ∀ g, QB v2 (rs ++ [c]) g → QB v rs g ∨ w.heap.size ≤ g := by
  have hsz := hb.size
  obtain ⟨V, hV, szV, belV, ownV⟩ := coms_step 93 wc #[.int .i64 c.e, .int .i64 c.n, c.v] 1 [c] rfl rfl (by simp [maxLen])
  have bwV := hb.trans (belV.mono hsz)
  have qV := hv.rest.below bwV
  have BV := (bwV.block ps (blk_lt hv.blk)).trans hv.blk
  have hone : ∀ d ∈ [c], d.v.oneCell' = true := fun d hd => by rw [List.mem_singleton.1 hd]; exact hc.is.one
  obtain ⟨v2, w2, hr, own2, gr2, at2⟩ := run_append_coms_at (P := Tryz.prog) (w := V) 25 ty 93 0 Tryz.underlying25 Tryz.info93 v rs qV.row _ [c] ownV.row hone (by have := hv.rest.few; have := hv.rest.len; simp; omega) (Nat.zero_le _)
  have kp : KeepT 93 V w2 := KeepT.of_row qV.row gr2
  have q2 := qV.grow own2 kp ((hc.below belV).rebase (Nat.zero_le _)) hg hn
  have hpn : ¬ v.ownBlock = some ps := fun e => qV.ne BV (by decide) (by decide) (.inl e)
  have B2 := (gr2.block ps (blk_lt BV) (fun e => hpn e.symm)).trans BV
  obtain ⟨X, hX, bX, gX, fX⟩ := put_at3 B2 1 v2
  have qX : Rt 0 X (l ++ [c.c]) v2 (rs ++ [c]) := q2.agree fun g hg => gX.block g (q2.lt g hg) fun e => by
    simp at e
    exact q2.ne B2 (by decide) (by decide) (e ▸ hg)
  have oX : Out (fun g => g = ps ∨ v.ownBlock = some g) w X := ((Out.of_below (F := fun g => g = ps ∨ v.ownBlock = some g) bwV).trans (Out.of_grown (F := fun g => g = ps ∨ v.ownBlock = some g) gr2 fun g hg => .inr hg) fun g hg => .inl hg).trans (Out.of_grown (F := fun g => g = ps ∨ v.ownBlock = some g) gX fun g hg => .inl (by simpa using hg.symm)) fun g hg => .inl hg
  have tX : Tb pm bm X (Rl.tab l) := by
    obtain ⟨t1, t2⟩ := tb_rt hv.tb hv.rest
    refine hv.tb.agree (oX.block pm hv.tb.plt ?_) (oX.block bm hv.tb.blt ?_)
    · rintro (e | e)
      · exact hv.tb.pne hv.blk (by decide) e.symm
      · exact t1 (.inl e)
    · rintro (e | e)
      · exact hv.tb.bne hv.blk e.symm
      · exact t2 (.inl e)
  refine ⟨V, hV, blk_cell BV 1 rfl, v2, w2, hr, blk_cell B2 1 rfl, fX, ?_, ?_⟩
  · obtain ⟨a1, k1, h1, _⟩ := own2.row.shape
    exact ⟨a1, _, k1, h1⟩
  · rw [hX]
    refine ⟨⟨bX, qX, tX⟩, oX, ?_⟩
    rintro g (e | ⟨d, hd, e⟩)
    · rcases at2 with h | h
      · exact .inl (.inl (h ▸ e))
      · rw [h] at e
        simp at e
        exact .inr (by omega)
    · rcases List.mem_append.1 hd with hd | hd
      · exact .inl (.inr ⟨d, hd, e⟩)
      · rw [List.mem_singleton.1 hd] at e
        exact .inr (hc.block g e).1

/-- What a call leaves of a store's own blocks, its runs untouched. -/
def SkS (ps p : Nat) (G : Nat → Prop) (w w' : World) (l' : List Cm.Cv) : Prop := ∃ G', Sk ps p G' w' l' ∧ Out G w w' ∧ ∀ g, G' g → G g ∨ w.heap.size ≤ g

theorem SkS.pre {ps p : Nat} {G : Nat → Prop} {w w1 w2 : World} {l : List Cm.Cv} (hb : Below w.heap.size w w1) (h : SkS ps p G w1 w2 l) : SkS ps p G w w2 l := by
  obtain ⟨G', h1, h2, h3⟩ := h
  refine ⟨G', h1, (Out.of_below (F := G) hb).trans h2 fun g hg => .inl hg, fun g hg => ?_⟩
  rcases h3 g hg with e | e
  · exact .inl e
  · exact .inr (Nat.le_trans hb.size e)

/-- With its runs. -/
theorem SkS.sts {ps p q : Nat} {F1 G : Nat → Prop} {w w' : World} {r : Rl.Rs} {l' : List Cm.Cv} (h1 : RW p q F1 w r) (hd : ∀ g, G g → ¬ F1 g) (h : SkS ps p G w w' l') (ok : Sto.Ok ⟨r, l'⟩) : StS ps p q (fun g => F1 g ∨ G g) w w' ⟨r, l'⟩ := by
  obtain ⟨G', k1, k2, k3⟩ := h
  refine ⟨_, ⟨F1, G', h1.out k2 fun g hg e => hd g e hg, k1, fun g hg hf => ?_, ok, rfl⟩, k2.mono fun g hg => .inl (.inr hg), ?_⟩
  · rcases k3 g hg with e | e
    · exact hd g e hf
    · have := h1.lt g hf
      omega
  · rintro g (e | e)
    · exact .inl (.inl e)
    · exact (k3 g e).imp (fun e => .inr e) id

/-- The table takes the commit, too. -/
theorem StP.done {ps p pm bm : Nat} {w0 w w' : World} {l : List Cm.Cv} {v v2 : Value} {rs : List Cw} {c : Cw} (h : StP ps p pm bm w (l ++ [c.c]) v2 (rs ++ [c]) (Rl.tab l)) (ho : Out (fun g => g = ps ∨ v.ownBlock = some g) w0 w) (hq : ∀ g, QB v2 (rs ++ [c]) g → QB v rs g ∨ w0.heap.size ≤ g)
    (ht : Tb pm bm w' (Rl.tab (l ++ [c.c]))) (o2 : Out (fun g => g = bm) w w') : SkS ps p (SB ps pm bm v rs) w0 w' (l ++ [c.c]) := by
  obtain ⟨t1, t2⟩ := tb_rt h.tb h.rest
  have hbk : w'.heap[ps]? = some (.cells #[.pointer (some ⟨p, 0, none⟩), v2, .pointer (some ⟨pm, 0, none⟩)] 206 (0, 0)) := (o2.block ps (blk_lt h.blk) (h.tb.bne h.blk)).trans h.blk
  have hre : Rt 0 w' (l ++ [c.c]) v2 (rs ++ [c]) := h.rest.out o2 fun g hg e => t2 (e ▸ hg)
  have oA : Out (SB ps pm bm v rs) w0 w' := (ho.mono (G := SB ps pm bm v rs) fun g hg => .inl (hg.elim (fun e => .inl e) fun e => .inr (.inr (.inr (.inl e))))).trans o2 fun g hg => .inl (.inr (.inr (.inl hg)))
  refine ⟨_, ⟨pm, bm, v2, rs ++ [c], ⟨hbk, hre, ht⟩, rfl⟩, oA, ?_⟩
  rintro g (e | e | e | e)
  · exact .inl (.inl e)
  · exact .inl (.inr (.inl e))
  · exact .inl (.inr (.inr (.inl e)))
  · exact (hq g e).imp (fun e => .inr (.inr (.inr e))) id

set_option maxRecDepth 20000 in
set_option maxHeartbeats 4000000 in
theorem sadd_fine (ps p pm bm : Nat) (w : World) (l : List Cm.Cv) (v : Value) (rs : List Cw) (c : Cw) (hs : StV ps p pm bm w l v rs) (hi : IsO w c.v c.l) (hchk : Cm.chk c.e c.n c.l = 0) (hcF : 0 < c.l.length → ∀ b, c.v.ownBlock = some b → ¬ SB ps pm bm v rs b) (hn : l.length ≤ 100000) (htl : (Rl.tab l).length ≤ l.length * 8) :
    Calls Tryz.prog 208 #[.pointer (some ⟨ps, 0, none⟩), cmv c.e c.n c.v] w fun E w' => (∃ u, E = .returned u) ∧ SkS ps p (SB ps pm bm v rs) w w' (l ++ [c.c]) := by
  obtain ⟨f1, f2, f3, f4, f5⟩ := fit_com hchk
  obtain ⟨w1, hw1, sz1, bel1, hB⟩ := blk_step w #[.int .i64 c.e, .int .i64 c.n, c.v] 93
  have hs1 := hs.below bel1
  have i1 := hi.below bel1
  have c0 : w1.cell? ⟨w.heap.size, 0, none⟩ = some (.int .i64 c.e) := blk_cell hB 0 rfl
  have c1 : w1.cell? ⟨w.heap.size, 1, none⟩ = some (.int .i64 c.n) := blk_cell hB 1 rfl
  have c2 : w1.cell? ⟨w.heap.size, 2, none⟩ = some c.v := blk_cell hB 2 rfl
  have hp1 : ps < w1.heap.size := blk_lt hs1.blk
  have y1 : w1.cell? ⟨ps, 1, none⟩ = some v := blk_cell hs1.blk 1 rfl
  obtain ⟨ao, cap, hcv, _, _⟩ := hi.shape
  obtain ⟨la, ln, lk, hlv⟩ : ∃ a n k, v = .slice a n k := by
    obtain ⟨a1, k1, h1, _⟩ := hs.rest.row.row.shape
    exact ⟨a1, _, k1, h1⟩
  have hpsw : ps < w.heap.size := blk_lt hs.blk
  have X1 : Hid (Calls Tryz.prog 83 #[.agg #[.int .i64 c.e, .int .i64 c.n, c.v]] w1.drew fun E w6 => ∃ v', E = .returned v' ∧ ∃ (vo : Value) (V : World), v' = .agg #[.int .i64 c.e, .int .i64 c.n, vo] ∧ (∃ a n k, vo = .slice a n k) ∧ w6.cell? ⟨ps, 1, none⟩ = some v ∧ (w6.cell? ⟨w.heap.size, 0, none⟩ = some (.int .i64 c.e) ∧ w6.cell? ⟨w.heap.size, 1, none⟩ = some (.int .i64 c.n) ∧ w6.cell? ⟨w.heap.size, 2, none⟩ = some c.v) ∧ w6.alloc (.cells #[.int .i64 c.e, .int .i64 c.n, vo] 93) = V ∧ (V.cell? ⟨ps, 1, none⟩ = some v ∧ (V.cell? ⟨w.heap.size, 0, none⟩ = some (.int .i64 c.e) ∧ V.cell? ⟨w.heap.size, 1, none⟩ = some (.int .i64 c.n) ∧ V.cell? ⟨w.heap.size, 2, none⟩ = some c.v)) ∧
      Hid (∀ ty, ∃ v2 w2, (Builtin.append_ #[25, 25] ty #[v, .slice (some ⟨w6.heap.size, 0, none⟩) 1 1]).run Tryz.prog V = .ok v2 w2 ∧ ((StP ps p pm bm (w2.setCell ⟨ps, 1, none⟩ v2) (l ++ [c.c]) v2 (rs ++ [⟨c.e, c.n, vo, c.l⟩]) (Rl.tab l) ∧ Out (fun g => g = ps ∨ v.ownBlock = some g) w1 (w2.setCell ⟨ps, 1, none⟩ v2) ∧ ∀ g, QB v2 (rs ++ [⟨c.e, c.n, vo, c.l⟩]) g → QB v rs g ∨ w1.heap.size ≤ g) ∧ w2.cell? ⟨ps, 1, none⟩ = some v ∧ w2.frozen? ⟨ps, 1, none⟩ = false ∧ ∃ a n k, v2 = .slice a n k))) := hide (by
    have := ccopy_any c.e c.n c.v c.l w1.drew (i1.drewN 1) f2
    unfold cmv at this
    refine this.mono ?_
    rintro E w6 ⟨vo, rfl, own6, bel6⟩
    have b16 : Below w1.heap.size w1 w6 := (Below.refl w1.heap.size w1).drew.trans bel6
    obtain ⟨V, hV, V2, _⟩ := sk_push (c := ⟨c.e, c.n, vo, c.l⟩) hs1 b16 own6 hchk (by omega) 25
    have belV : Below w6.heap.size w6 V := by rw [← hV]; exact (Below.refl _ _).alloc (Nat.le_refl _) _
    have b1V := b16.trans (belV.mono b16.size)
    obtain ⟨a1, k1, h1, _⟩ := own6.is.shape
    refine ⟨_, rfl, vo, V, rfl, ⟨a1, _, k1, h1⟩, (b16.cell (p := ⟨ps, 1, none⟩) hp1).trans y1, ⟨(b16.cell (p := ⟨w.heap.size, 0, none⟩) (show w.heap.size < w1.heap.size by omega)).trans c0, (b16.cell (p := ⟨w.heap.size, 1, none⟩) (show w.heap.size < w1.heap.size by omega)).trans c1, (b16.cell (p := ⟨w.heap.size, 2, none⟩) (show w.heap.size < w1.heap.size by omega)).trans c2⟩, hV, ⟨V2, (b1V.cell (p := ⟨w.heap.size, 0, none⟩) (show w.heap.size < w1.heap.size by omega)).trans c0, (b1V.cell (p := ⟨w.heap.size, 1, none⟩) (show w.heap.size < w1.heap.size by omega)).trans c1, (b1V.cell (p := ⟨w.heap.size, 2, none⟩) (show w.heap.size < w1.heap.size by omega)).trans c2⟩, hide fun ty => ?_⟩
    obtain ⟨V', hV', V2', v2', w2', hr', q1', q2', q3', J⟩ := sk_push (c := ⟨c.e, c.n, vo, c.l⟩) hs1 b16 own6 hchk (by omega) ty
    have eV : V' = V := hV'.symm.trans hV
    subst eV
    exact ⟨v2', w2', hr', J, q1', q2', q3'⟩)
  have hlt := hs.lt
  have HH := hide (And.intro hs1 (And.intro i1 (And.intro hB (And.intro bel1 hlt))))
  have HF := hide (And.intro f1 (And.intro hn f5))
  have HCF := hide hcF
  unfold cmv
  have HCV := hide hcv
  rw [hcv] at hw1 c2 X1 ⊢
  rw [hlv] at y1 X1
  have HLV := hide hlv
  have hta : Tm.aft (Rl.tab l) c.l = Rl.tab (l ++ [c.c]) ∧ Bm.first c.l = 0 := tab_aft (l := l) (c := c.c) hchk
  have HTA := hide hta
  have HTL := hide htl
  have HSZ := hide sz1
  clear htl hs hi f1 f2 f3 f4 f5 hs1 i1 bel1 hB hcF hcv hlv hchk sz1 hlt hta hn hp1 hpsw
  go_enter Tryz.func208, Tryz.ntmps208
  go_wp2_with fail
  go_region_law (first
    | (have ow := XX; refine step_append_at rfl (.tmp 8) (.tmp 11) 25 rfl (.slice la ln lk) (.slice (some ⟨w6.heap.size, 0, none⟩) 1 1) (by first | (simp [Act.eval]; done) | (simp [Act.eval, Act.put]; done)) (by first | (simp [Act.eval]; done) | (simp [Act.eval, Act.put]; done)) XX.out ?_; rintro v8 w8 ⟨J, d8, g8, a8, n8, k8, rfl⟩; have J := hide J)
    | (refine call_at rfl 83 #[.tmp 9] #[93] rfl Tryz.enters83 #[.agg #[.int .i64 c.e, .int .i64 c.n, .slice ao c.l.length cap]] (by first | (simp [Act.eval]; done) | (simp [Act.eval, Act.put]; done)) X1.out ?_; rintro v6 w6 ⟨vo, V, rfl, ⟨oa, on, ok, rfl⟩, z2, ⟨b0, b1, b2⟩, hV, ⟨z3, b3, b4, b5⟩, XX⟩))
  all_goals
    obtain ⟨X, hX⟩ : ∃ X, w8.setCell ⟨ps, 1, none⟩ (.slice a8 n8 k8) = X := ⟨_, rfl⟩
    obtain ⟨hs1, i1, hB, bel1, hlt⟩ := HH.out
    have JJ := J.out
    rw [hX] at JJ
    rw [← HLV.out] at JJ
    obtain ⟨sp, ox, hq⟩ := JJ
    have x2 : X.cell? ⟨ps, 2, none⟩ = some (.pointer (some ⟨pm, 0, none⟩)) := blk_cell sp.blk 2 rfl
    have hwne : ¬ (w.heap.size = ps ∨ v.ownBlock = some w.heap.size) := by
      rintro (e | e)
      · have := hlt ps (.inl rfl); omega
      · have := hlt w.heap.size (.inr (.inr (.inr (.inl e)))); omega
    have hBX := (ox.block w.heap.size (by have := HSZ.out; omega) hwne).trans hB
    have xc : X.cell? ⟨w.heap.size, 2, none⟩ = some (.slice ao c.l.length cap) := by rw [← HCV.out]; exact blk_cell hBX 2 rfl
    have iX : IsO X c.v c.l := i1.out ox fun hp b hb hf => HCF.out hp b hb (by
      rcases hf with e | e
      · exact .inl e
      · exact .inr (.inr (.inr (.inl e))))
    have HA := hide (tapply_any pm bm X.drew _ c.v c.l (sp.tb.agree rfl rfl) (iX.drewN 1) HF.out.1 (by have h1 := HTL.out; have h2 := HF.out.2.1; have h3 := HF.out.2.2; omega))
    rw [HTA.out.1, HTA.out.2, HCV.out] at HA
    have SP := hide (And.intro sp (And.intro ox hq))
    have hpx : ps < X.heap.size := blk_lt sp.blk
    have hwx : w.heap.size < X.heap.size := blk_lt hBX
    have hpbm : ps ≠ bm := sp.tb.bne sp.blk
    have hwbm : w.heap.size ≠ bm := sp.tb.bne hBX
    clear sp ox hq hBX iX J hs1 i1 hB bel1 hlt hwne
    go_wp2_with fail
    go_region_held3 (fun w' => w'.cell? ⟨ps, 2, none⟩ = some (.pointer (some ⟨pm, 0, none⟩)) ∧ w'.cell? ⟨w.heap.size, 2, none⟩ = some (.slice ao c.l.length cap)) (first | exact ⟨x2, xc⟩ | exact ⟨u2, uc⟩ | go_keep)
      (first
      | (go_at_call 263; refine HA.out.mono ?_; rintro E wz ⟨rfl, TZ, OZ'⟩; have OZ : Out (fun g => g = bm) X wz := ((Out.refl _ X).drew 1).trans OZ' fun g hg => .inl hg; have u2 := (cell_of_blk' (OZ.block ps hpx hpbm) 2).trans x2; have uc := (cell_of_blk' (OZ.block w.heap.size hwx hwbm) 2).trans xc; have TZ := hide TZ; have OZH := hide OZ; clear OZ OZ'))
    obtain ⟨hs1, i1, hB, bel1, hlt⟩ := HH.out
    have FIN := hide (SkS.pre bel1 (StP.done SP.out.1 SP.out.2.1 SP.out.2.2 TZ.out OZH.out))
    clear hs1 i1 hB bel1 hlt
    go_wp2
    go_end0
    exact ⟨⟨_, rfl⟩, FIN.out⟩

theorem sadd_any (ps p q : Nat) (F : Nat → Prop) (w : World) (s : Sto.Ss) (c : Cw) (h : SW ps p q F w s) (hi : IsO w c.v c.l) (ok : Sto.Ok ⟨s.r, s.l ++ [c.c]⟩) (hcF : 0 < c.l.length → ∀ b, c.v.ownBlock = some b → ¬ F b) (hn : s.l.length ≤ 100000) :
    Calls Tryz.prog 208 #[.pointer (some ⟨ps, 0, none⟩), cmv c.e c.n c.v] w fun E w' => (∃ u, E = .returned u) ∧ StS ps p q F w w' ⟨s.r, s.l ++ [c.c]⟩ := by
  obtain ⟨F1, G1, h1, ⟨pm, bm, v, rs, hs, rfl⟩, hd, ok0, rfl⟩ := h
  refine (sadd_fine ps p pm bm w s.l v rs c hs hi (Sto.good_all ok.rest c.c (by simp)).1 (fun hp b hb hf => hcF hp b hb (.inr hf)) hn (Sto.tab_len ok0.rest)).mono ?_
  rintro E w' ⟨hu, hk⟩
  exact ⟨hu, hk.sts h1 hd ok⟩

end Go.Proofs.YtajlhdmnincehaaGreatDoor
