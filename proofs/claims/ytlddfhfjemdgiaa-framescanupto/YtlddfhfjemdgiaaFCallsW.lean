/- FrameCalls: the walk. -/
import Derived.Test.YtlddfhfjemdgiaaFf
import Derived.Test.YtlddfhfjemdgiaaFe
import Derived.Deep.CutRange
namespace Go.Proofs.Ytlddfhfjemdgiaa
open Go.RowKit
set_option linter.unusedVariables false

/-- A row of lists of the call's own, for ApartBytes. -/
theorem OwnB.lists {base : Nat} {w : World} {v : Value} {r : List Bw} (h : OwnB base w v r) (h0 : 0 < r.length) (hl : ∀ a ∈ r, a.l.length ≤ 150000000000000) :
    ∃ bl cl, v = .slice (some ⟨bl, 0, none⟩) r.length cl ∧ r.length ≤ cl ∧ Lists r.length bl base w (fun i => (r.map Bw.v).getD i (.slice none 0 0)) (fun i => (r.map Bw.l).getD i []) := by
  have at' : ∀ i, i < r.length → ∃ a, r[i]? = some a ∧ (r.map Bw.v).getD i (.slice none 0 0) = a.v ∧ (r.map Bw.l).getD i [] = a.l ∧ a ∈ r := fun i hi => by
    have h1 : r[i]? = some r[i] := List.getElem?_eq_getElem hi
    exact ⟨r[i], h1, by simp [List.getD, h1], by simp [List.getD, h1], List.getElem_mem hi⟩
  rcases h.row.2 with ⟨_, hn⟩ | ⟨g, cap, cur, hv, _, hh, hc, _⟩
  · omega
  · have hg : v.ownBlock = some g := by rw [hv]; rfl
    refine ⟨g, cap, hv, hc, fun i hi => ?_, fun i hi => ?_, fun i j hi hj hne => ?_, fun i hi e => ?_, fun i hi => ?_⟩
    · obtain ⟨a, h1, h2, _⟩ := at' i hi
      have := h.row.cells hg (i * 1 + 0) _ (gcells_at (k := 1) bwc_len r i _ h1 0 _ rfl)
      rw [add_at] at this
      rw [h2]
      simpa using this
    · obtain ⟨a, h1, h2, h3, h4⟩ := at' i hi
      rw [h2, h3]
      exact h.own a h4
    · obtain ⟨a, h1, h2, _, _⟩ := at' i hi
      obtain ⟨b, h1', h2', _, _⟩ := at' j hj
      rw [h2, h2']
      have hpw := List.pairwise_iff_getElem.1 h.apart
      obtain ⟨a1, a2⟩ := List.getElem?_eq_some_iff.1 h1
      obtain ⟨c1, c2⟩ := List.getElem?_eq_some_iff.1 h1'
      cases hu : a.v.ownBlock with
      | none => exact .inl rfl
      | some q =>
        refine .inr fun e => ?_
        rcases Nat.lt_or_gt_of_ne hne with hh | hh
        · have := hpw i j a1 c1 hh q (by rw [a2]; exact hu)
          rw [c2] at this
          exact this e.symm
        · have := hpw j i c1 a1 hh q (by rw [c2]; exact e.symm)
          rw [a2] at this
          exact this hu
    · obtain ⟨a, h1, h2, _, h4⟩ := at' i hi
      rw [h2] at e
      rcases bw_ne (h.own a h4) h.row with h5 | h5
      · rw [h5] at e; cases e
      · exact h5 (e.trans hg.symm)
    · obtain ⟨a, h1, _, h3, h4⟩ := at' i hi
      rw [h3]
      exact hl a h4

theorem apartB_yes (base : Nat) (w : World) (v : Value) (r : List Bw) (h : OwnB base w v r) (h0 : 0 < r.length) (hm : r.length ≤ 1000000000) (hbase : base ≤ w.heap.size) (hl : ∀ a ∈ r, a.l.length ≤ 150000000000000) :
    Calls Try.prog 17 #[v] w fun e w' => e = .returned (.bool true) ∧ Below base w w' := by
  obtain ⟨bl, cl, hv, hc, hL⟩ := h.lists h0 hl
  rw [hv]
  exact apart_yes _ bl cl base _ _ w hm hc hbase hL h0

theorem apd_len (bs r : List Int) : (apd bs r).length ≤ bs.length + 131075 := by
  unfold apd
  split
  · have := Fm.sz3 (n := r.length) (by assumption)
    rw [List.length_append, Fm.frm_len]
    omega
  · simp

set_option maxRecDepth 100000 in
set_option maxHeartbeats 8000000 in
theorem frameCalls_walk (vb : Value) (bs : List Int) (vr : Value) (r : List Int) (w : World) (hb : Is .u8 w vb bs) (hlb : bs.length * 1 ≤ 140737488351232) (hr : Is .u8 w vr r) (hlr : r.length * 1 ≤ 140737488351232) :
    Calls Try.prog 4 #[vb, vr] w fun E w' => E = .returned (.bool true) ∧ Below w.heap.size w w' := by
  rw [Nat.mul_one] at hlb hlr
  have C1 := hide (lent_any vb bs w hb hlb)
  have HB := hide hb
  have HR := hide hr
  obtain ⟨bo, bc, hvb, _, _⟩ := hb.shape
  obtain ⟨ro, rc, hvr, _, _⟩ := hr.shape
  clear hb hr
  subst hvb hvr
  go_enter Try.func4, Try.ntmps4
  go_wp2_with fail
  refine C1.out.mono ?_
  rintro E w1 ⟨vf, rfl, own1, bel1⟩
  have C2 := hide (lent_any _ r w1 (HR.out.below bel1) hlr)
  have OF := hide own1
  have B1 := hide bel1
  have S1 := bel1.size
  clear C1 own1 bel1
  go_wp2_with fail
  refine C2.out.mono ?_
  rintro E w2 ⟨vo, rfl, own2, bel2⟩
  have OF1 := OF.out
  replace OF := hide (OF1.below bel2)
  have FB : Hid (∀ g, vf.ownBlock = some g → g < w1.heap.size) := hide fun g hg => (OF1.block g hg).2
  have OO := hide own2
  have OB : Hid (∀ g, vo.ownBlock = some g → w1.heap.size ≤ g ∧ g < w2.heap.size) := hide own2.block
  have B2 := hide (B1.out.trans (bel2.mono S1))
  have S2 := bel2.size
  clear C2 own2 bel2 B1 OF1
  obtain ⟨vs1, hsl1, is1⟩ := OF.out.is.slice_h Try.elemP Try.sizeP bs.length (by simp)
  obtain ⟨vs2, hsl2, is2⟩ := OO.out.is.slice_h Try.elemP Try.sizeP r.length (by simp)
  rw [List.take_left] at is1 is2
  have C3 := hide (fapp_any vs1 vs2 bs r (w2.drewN 1) (is1.drewN 1) (is2.drewN 1) hlb hlr)
  have IS1 := hide is1
  clear is1 is2
  go_wp2_with fail
  go_cut [7, 8] from 21 to 32 (fun v7 v8 wx => v8 = .int .i64 (ape r) ∧ Own .u8 5 w2.heap.size wx v7 (apd bs r) ∧ Below w2.heap.size w2 wx)
  case first =>
    go_region_with (go_at_call 10; refine C3.out.mono ?_; rintro E w3 ⟨va, rfl, own3, bel3⟩; have own3' : Own .u8 5 w2.heap.size w3 va (apd bs r) := own3; have bel3' : Below w2.heap.size w2 w3 := ((Below.refl _ _).drew).trans bel3)
    all_goals
      go_wp2_with fail
      go_meet
      exact ⟨rfl, own3', bel3'⟩
  case rest =>
    obtain ⟨he, own3, bel3⟩ := hcut
    obtain ⟨w3, hw3⟩ : ∃ x, x = wc := ⟨_, rfl⟩
    obtain ⟨va, hva⟩ : ∃ x, x = u7 := ⟨_, rfl⟩
    rw [← hw3] at own3 bel3 ⊢
    rw [← hva] at own3 ⊢
    rw [he]
    have S3 := bel3.size
    have OA := hide own3
    replace OF := hide (OF.out.below bel3)
    replace OO := hide (OO.out.below bel3)
    replace IS1 := hide (IS1.out.below bel3)
    have B3 := hide (B2.out.trans (bel3.mono (Nat.le_trans S1 S2)))
    have AB : Hid (∀ g, va.ownBlock = some g → w2.heap.size ≤ g ∧ g < w3.heap.size) := hide own3.block
    have C4 := hide (fappR_any _ _ bs r w3 (HB.out.below B3.out) (HR.out.below B3.out) hlb hlr)
    obtain ⟨ec, hec⟩ : ∃ x, x = ape r := ⟨_, rfl⟩
    rw [← hec] at C4 ⊢
    clear he hec own3 bel3 B2 hw3 hva
    go_wp2_with fail
    refine C4.out.mono ?_
    rintro E w4 ⟨vc, rfl, own4, bel4⟩
    have OC := hide own4
    replace OA := hide (OA.out.below bel4)
    replace OF := hide (OF.out.below bel4)
    replace OO := hide (OO.out.below bel4)
    replace IS1 := hide (IS1.out.below bel4)
    have S4 := bel4.size
    have B4 := hide (B3.out.trans (bel4.mono (by omega)))
    have C5 := hide (fread_any vs1 bs w4 IS1.out (by omega))
    clear C4 own4 bel4 B3
    go_wp2_with fail
    refine C5.out.mono ?_
    rintro E w5 ⟨v5, z, n, e, rfl, own5, bel5, R⟩
    have OR := hide own5
    have RB : Hid (∀ g, v5.ownBlock = some g → w4.heap.size ≤ g) := hide fun g hg => (own5.block g hg).1
    replace OA := hide (OA.out.below bel5)
    replace OC := hide (OC.out.below bel5)
    replace OF := hide (OF.out.below bel5)
    replace OO := hide (OO.out.below bel5)
    have S5 := bel5.size
    have B5 := hide (B4.out.trans (bel5.mono (by omega)))
    have C6 := hide (freadR_any _ bs w5 (HB.out.below B5.out) (by omega))
    clear C5 own5 bel5 B4 IS1 hsl1 hsl2
    go_wp2_with fail
    refine C6.out.mono ?_
    rintro E w6 ⟨v6, z', n', e', rfl, own6, bel6, R'⟩
    obtain ⟨rfl, rfl, rfl⟩ := Fm.rd_one R.out R'.out
    have hz : z.length ≤ 131072 := by
      rcases R.out with h | h
      · exact h.2.1
      · rw [h.2.1]; simp
    have OS := hide own6
    replace OA := hide (OA.out.below bel6)
    replace OC := hide (OC.out.below bel6)
    replace OF := hide (OF.out.below bel6)
    replace OO := hide (OO.out.below bel6)
    replace OR := hide (OR.out.below bel6)
    have S6 := bel6.size
    have B6 := hide (B5.out.trans (bel6.mono (by omega)))
    clear C6 own6 bel6 B5 R R'
    go_wp2_with fail
    refine (lives_any w6).mono ?_
    rintro E w7 ⟨rfl, bel7⟩
    replace OA := hide (OA.out.below bel7)
    replace OC := hide (OC.out.below bel7)
    replace OF := hide (OF.out.below bel7)
    replace OO := hide (OO.out.below bel7)
    replace OR := hide (OR.out.below bel7)
    replace OS := hide (OS.out.below bel7)
    have S7 := bel7.size
    have B7 := hide (B6.out.trans (bel7.mono (by omega)))
    have hal := apd_len bs r
    have C7 := hide (same_yes va vc (apd bs r) _ w7 OA.out.is OC.out.is (by omega) rfl)
    clear bel7 B6
    go_wp2_with fail
    refine C7.out.mono ?_
    rintro E w8 ⟨rfl, bel8⟩
    replace OA := hide (OA.out.below bel8)
    replace OF := hide (OF.out.below bel8)
    replace OO := hide (OO.out.below bel8)
    replace OR := hide (OR.out.below bel8)
    replace OS := hide (OS.out.below bel8)
    have S8 := bel8.size
    have B8 := hide (B7.out.trans (bel8.mono (by omega)))
    have C8 := hide (same_yes v5 v6 z _ w8 OR.out.is OS.out.is (by omega) rfl)
    clear C7 OC bel8 B7
    go_wp2_with fail
    refine C8.out.mono ?_
    rintro E w9 ⟨rfl, bel9⟩
    replace OA := hide (OA.out.below bel9)
    replace OF := hide (OF.out.below bel9)
    replace OO := hide (OO.out.below bel9)
    replace OR := hide (OR.out.below bel9)
    have S9 := bel9.size
    have B9 := hide (B8.out.trans (bel9.mono (by omega)))
    have C9 := hide (kept_yes vf _ bs _ w9 OF.out.is (HB.out.below B9.out) hlb rfl)
    clear C8 OS bel9 B8
    go_wp2_with fail
    refine C9.out.mono ?_
    rintro E w10 ⟨rfl, bel10⟩
    replace OA := hide (OA.out.below bel10)
    replace OF := hide (OF.out.below bel10)
    replace OO := hide (OO.out.below bel10)
    replace OR := hide (OR.out.below bel10)
    have S10 := bel10.size
    have B10 := hide (B9.out.trans (bel10.mono (by omega)))
    have C10 := hide (kept_yes vo _ r _ w10 OO.out.is (HR.out.below B10.out) hlr rfl)
    clear C9 bel10 B9
    go_wp2_with fail
    refine C10.out.mono ?_
    rintro E w11 ⟨rfl, bel11⟩
    replace OA := hide (OA.out.below bel11)
    replace OF := hide (OF.out.below bel11)
    replace OO := hide (OO.out.below bel11)
    replace OR := hide (OR.out.below bel11)
    have S11 := bel11.size
    have B11 := hide (B10.out.trans (bel11.mono (by omega)))
    clear C10 bel11 B10
    obtain ⟨ao, ac, hva, _, _⟩ := OA.out.is.shape
    obtain ⟨fo, fc, hvf, _, _⟩ := OF.out.is.shape
    obtain ⟨oo, oc, hvo, _, _⟩ := OO.out.is.shape
    obtain ⟨qo, qc, hvq, _, _⟩ := OR.out.is.shape
    have lf3 : (bs ++ [201, 202, 203]).length = bs.length + 3 := by simp
    have lo3 : (r ++ [201, 202, 203]).length = r.length + 3 := by simp
    rw [lf3] at hvf
    rw [lo3] at hvo
    clear lf3 lo3
    have X : Hid (∃ W, w11.alloc (.cells #[va, v5, vf, vo] 22) = W ∧ Below w11.heap.size w11 W ∧ OwnB w.heap.size W (.slice (some ⟨w11.heap.size, 0, none⟩) 4 4) [⟨va, apd bs r⟩, ⟨v5, z⟩, ⟨vf, bs ++ [201, 202, 203]⟩, ⟨vo, r ++ [201, 202, 203]⟩]) := hide (by
      obtain ⟨W, hW, szW, belW, rowW⟩ := rows_step bwc 1 bwc_len 22 w11 #[va, v5, vf, vo] 4 [⟨va, apd bs r⟩, ⟨v5, z⟩, ⟨vf, bs ++ [201, 202, 203]⟩, ⟨vo, r ++ [201, 202, 203]⟩] rfl rfl (by unfold maxLen; omega)
      have f1 := FB.out
      have f2 := OB.out
      have f3 := AB.out
      have f4 := RB.out
      refine ⟨W, hW, belW, ⟨?_, ?_, ?_⟩⟩
      · refine ⟨rowW.1, ?_⟩
        rcases rowW.2 with h | ⟨g, cap, cur, h1, h2, h3⟩
        · exact .inl h
        · exact .inr ⟨g, cap, cur, h1, by omega, h3⟩
      · intro a ha
        simp at ha
        rcases ha with rfl | rfl | rfl | rfl
        · exact (OA.out.below belW).rebase (by omega)
        · exact (OR.out.below belW).rebase (by omega)
        · exact OF.out.below belW
        · exact (OO.out.below belW).rebase (by omega)
      · simp only [List.pairwise_cons, List.mem_cons, List.not_mem_nil, or_false, forall_eq_or_imp, forall_eq, List.Pairwise.nil, and_true, false_imp_iff, implies_true]
        refine ⟨⟨?_, ?_, ?_⟩, ⟨?_, ?_⟩, ?_⟩
        · intro g h1 h2; have := f3 g h1; have := f4 g h2; omega
        · intro g h1 h2; have := f3 g h1; have := f1 g h2; omega
        · intro g h1 h2; have := f3 g h1; have := f2 g h2; omega
        · intro g h1 h2; have := f4 g h1; have := f1 g h2; omega
        · intro g h1 h2; have := f4 g h1; have := f2 g h2; omega
        · intro g h1 h2; have := f1 g h1; have := f2 g h2; omega)
    obtain ⟨W, hW, belW, obW⟩ := X.out
    have C12 := hide (apartB_yes w.heap.size W _ _ obW (by simp) (by simp) (by have := belW.size; omega) (by
      intro a ha
      simp at ha
      rcases ha with rfl | rfl | rfl | rfl
      · show (apd bs r).length ≤ _; omega
      · show z.length ≤ _; omega
      · show (bs ++ [201, 202, 203]).length ≤ _; simp; omega
      · show (r ++ [201, 202, 203]).length ≤ _; simp; omega))
    have BW := hide (B11.out.trans (belW.mono (by omega)))
    rw [hva, hvf, hvo, hvq] at hW
    clear X obW belW OA OF OO OR B11
    subst hva hvf hvo hvq
    go_wp2_with fail
    refine C12.out.mono ?_
    rintro E w13 ⟨rfl, bel13⟩
    clear C12
    go_wp2
    go_ret
    exact ⟨rfl, BW.out.trans bel13⟩

end Go.Proofs.Ytlddfhfjemdgiaa
